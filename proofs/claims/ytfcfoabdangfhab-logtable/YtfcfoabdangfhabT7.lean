/- List of a table, by its contract. -/
import Derived.Test.YtfcfoabdangfhabT6
namespace Go.Proofs.Ytfcfoabdangfhab
open Go.RowKit
set_option maxRecDepth 20000
attribute [local go_sem ↓] Go.wp_at_zero Go.wp_at_succ


/-- A list of pairs that a call made: it lies in memory of its own. -/
def LstEnd (L : List Ver × Int) (w : World) (e : Ending) (w' : World) : Prop :=
  ∃ a cap, e = .returned (.tuple #[.slice a L.1.length cap, .int .i64 L.2]) ∧ w'.ownsRow w.heap.size 40 3 (.slice a L.1.length cap) L.1.length (vcells L.1) ∧ Kp [] w w'
theorem lstEnd_mk {L : List Ver × Int} {w w' : World} (acc : List Ver) (code : Int) (a : Option Addr) (cap : Nat) (h : L = (acc, code)) (ho : w'.ownsRow w.heap.size 40 3 (.slice a acc.length cap) acc.length (vcells acc)) (hk : Kp [] w w') :
    LstEnd L w (.returned (.tuple #[.slice a acc.length cap, .int .i64 code])) w' := by
  subst h; exact ⟨a, cap, rfl, ho, hk⟩


theorem lgo_more {f : Nat → List Ver} {n k m : Nat} {y : Int} {acc : List Ver} {R : List Ver × Int} (h : lgo f n y k (m + 1) acc = R) (h0 : (tr f n k y).a = 0) (ht : (tr f n k y).t = true) : lgo f n y (k + 1) m (acc ++ [⟨k, (tr f n k y).t, (tr f n k y).s⟩]) = R := by
  rw [← h]; simp only [lgo]; rw [if_pos h0, if_pos ht]
theorem lgo_skip {f : Nat → List Ver} {n k m : Nat} {y : Int} {acc : List Ver} {R : List Ver × Int} (h : lgo f n y k (m + 1) acc = R) (h0 : (tr f n k y).a = 0) (ht : ¬ (tr f n k y).t = true) : lgo f n y (k + 1) m acc = R := by
  rw [← h]; simp only [lgo]; rw [if_pos h0, if_neg ht]
theorem lgo_stop {f : Nat → List Ver} {n k m : Nat} {y : Int} {acc : List Ver} {R : List Ver × Int} (h : lgo f n y k (m + 1) acc = R) (h0 : ¬ (tr f n k y).a = 0) : R = ([], (tr f n k y).a) := by
  rw [← h]; simp only [lgo]; rw [if_neg h0]
theorem lgo_end {f : Nat → List Ver} {n k m : Nat} {y : Int} {acc : List Ver} {R : List Ver × Int} (h : lgo f n y k m acc = R) (h0 : m = 0) : R = (acc, 0) := by
  subst h0; rw [← h]; rfl

/-- What stands at the head of a round of List. -/
structure LsI (R : List Ver × Int) (w : World) (f : Nat → List Ver) (n : Nat) (y : Int) (t k : Nat) (acc : List Ver) (a : Option Addr) (cap : Nat) (wr : World) : Prop where
  goes : lgo f n y k (t + 1 - k) acc = R
  own : wr.ownsRow w.heap.size 40 3 (.slice a acc.length cap) acc.length (vcells acc)
  kp : Kp [] w wr
  len : acc.length ≤ k

theorem LsI.skip {R : List Ver × Int} {w : World} {f : Nat → List Ver} {n : Nat} {y : Int} {t k : Nat} {acc : List Ver} {a : Option Addr} {cap : Nat} {wr w1 : World} (h : LsI R w f n y t k acc a cap wr) (hk : k ≤ t) (hw : Kp [] wr w1)
    (h0 : (tr f n k y).a = 0) (ht : ¬ (tr f n k y).t = true) : LsI R w f n y t (k + 1) acc a cap w1 :=
  ⟨by have := h.goes; rw [show t + 1 - k = (t + 1 - (k + 1)) + 1 by omega] at this; exact lgo_skip this h0 ht, own_kp0 h.own hw, h.kp.trans0 hw, by have := h.len; omega⟩
theorem LsI.more {R : List Ver × Int} {w : World} {f : Nat → List Ver} {n : Nat} {y : Int} {t k : Nat} {acc : List Ver} {a : Option Addr} {cap : Nat} {wr W w2 : World} (h : LsI R w f n y t k acc a cap wr) (hk : k ≤ t) (hw : Kp [] wr W)
    (h0 : (tr f n k y).a = 0) (ht : (tr f n k y).t = true) {g2 cap2 : Nat} (hown : w2.ownsRow w.heap.size 40 3 (.slice (some ⟨g2, 0, none⟩) (acc.length + 1) cap2) (acc.length + 1) (vcells acc ++ [.int .i64 k, .bool true, .string (tr f n k y).s]))
    (hgrow : W.grownBy w2 (Value.slice a acc.length cap).ownBlock) : LsI R w f n y t (k + 1) (acc ++ [⟨k, (tr f n k y).t, (tr f n k y).s⟩]) (some ⟨g2, 0, none⟩) cap2 w2 := by
  refine ⟨by have := h.goes; rw [show t + 1 - k = (t + 1 - (k + 1)) + 1 by omega] at this; exact lgo_more this h0 ht, ?_, (h.kp.trans0 hw).grown hgrow (fun g hg => .inr (own_ge h.own hg)), by have := h.len; simp; omega⟩
  have hv : vcells acc ++ [.int .i64 k, .bool true, .string (tr f n k y).s] = vcells (acc ++ [⟨k, (tr f n k y).t, (tr f n k y).s⟩]) := by rw [vcells_append, ht]; rfl
  rw [hv] at hown
  simpa using hown

end Go.Proofs.Ytfcfoabdangfhab
