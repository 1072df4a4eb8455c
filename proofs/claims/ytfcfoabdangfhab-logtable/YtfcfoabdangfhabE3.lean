/- tables: a table and a sheet, by steps, tell the same, step by step. -/
import Derived.Test.YtfcfoabdangfhabE2
namespace Go.Proofs.Ytfcfoabdangfhab
open Go.RowKit
set_option maxRecDepth 20000
attribute [local go_sem ↓] Go.wp_at_zero Go.wp_at_succ

theorem Sht.base {B C : Nat} {w : World} {sb : Nat} {G : List Nat} {f : Nat → List Ver} {n : Nat} (h : Sht B w sb G f n) (hC : C ≤ B) : Sht C w sb G f n := by
  obtain ⟨g, o, cap, h⟩ := h
  exact ⟨g, o, cap, h.box, h.sla, h.cap, h.ne, h.sG, h.gG, fun x hx => ⟨Nat.le_trans hC (h.lo x hx).1, (h.lo x hx).2⟩, h.inv, Nat.le_trans hC h.hB⟩

/-- A table and a sheet beside it that share no memory, both made since w0, all that was there as it was. -/
def Bth (w0 wr : World) (tb sb : Nat) (f g : Nat → List Ver) (n m : Nat) : Prop :=
  ∃ F G, Tbl w0.heap.size wr tb F f n ∧ Sht w0.heap.size wr sb G g m ∧ (∀ x, x ∈ F → x ∉ G) ∧ Kp [] w0 wr

theorem Bth.kp {w0 wr : World} {tb sb : Nat} {f g : Nat → List Ver} {n m : Nat} (h : Bth w0 wr tb sb f g n m) : Kp [] w0 wr := by
  obtain ⟨_, _, _, _, _, h⟩ := h
  exact h
theorem Bth.kp0 {w0 wr wr' : World} {tb sb : Nat} {f g : Nat → List Ver} {n m : Nat} (h : Bth w0 wr tb sb f g n m) (hk : Kp [] wr wr') : Bth w0 wr' tb sb f g n m := by
  obtain ⟨F, G, h1, h2, h3, h4⟩ := h
  exact ⟨F, G, h1.kp0 hk, h2.kp0 hk, h3, h4.trans0 hk⟩

theorem bth_start {w0 w1 w2 : World} {F G : List Nat} {tb sb : Nat} {f g : Nat → List Ver} {n m : Nat} (h1 : Tbl w0.heap.size w1 tb F f n) (k1 : Kp [] w0 w1) (h2 : Sht w1.heap.size w2 sb G g m) (k2 : Kp [] w1 w2) : Bth w0 w2 tb sb f g n m := by
  refine ⟨F, G, h1.kp0 k2, h2.base k1.size, fun x hx hg => ?_, k1.trans0 k2⟩
  have := (h1.lo x hx).2
  have := (h2.lo x hg).1
  omega

theorem bth_table {w0 wr w' : World} {tb sb : Nat} {F G F' : List Nat} {f' g : Nat → List Ver} {n' m : Nat} (hF : ∀ x, x ∈ F → w0.heap.size ≤ x) (h2 : Sht w0.heap.size wr sb G g m) (h3 : ∀ x, x ∈ F → x ∉ G) (h4 : Kp [] w0 wr)
    (k1 : Tbl w0.heap.size w' tb F' f' n') (k2 : Kp F wr w') (k3 : ∀ x, x ∈ F' → x ∈ F ∨ wr.heap.size ≤ x) : Bth w0 w' tb sb f' g n' m := by
  refine ⟨F', G, k1, h2.kp k2 (fun x hx hf => h3 x hf hx), fun x hx hg => ?_, h4.trans k2 (fun x hx => .inr (hF x hx))⟩
  rcases k3 x hx with e | e
  · exact h3 x e hg
  · have := (h2.lo x hg).2; omega
theorem bth_sheet {w0 wr w' : World} {tb sb : Nat} {F G G' : List Nat} {f g' : Nat → List Ver} {n m' : Nat} (hG : ∀ x, x ∈ G → w0.heap.size ≤ x) (h1 : Tbl w0.heap.size wr tb F f n) (h3 : ∀ x, x ∈ F → x ∉ G) (h4 : Kp [] w0 wr)
    (k1 : Sht w0.heap.size w' sb G' g' m') (k2 : Kp G wr w') (k3 : ∀ x, x ∈ G' → x ∈ G ∨ wr.heap.size ≤ x) : Bth w0 w' tb sb f g' n m' := by
  refine ⟨F, G', h1.kp k2 h3, k1, fun x hx hg => ?_, h4.trans k2 (fun x hx => .inr (hG x hx))⟩
  rcases k3 x hg with e | e
  · exact h3 x hx e
  · have := (h1.lo x hx).2; omega

theorem Prs.far {w0 : World} {a : Option Addr} {ps : List Ver} {F : List Nat} (h : Prs w0 a ps) (hF : ∀ x, x ∈ F → w0.heap.size ≤ x) : 0 < ps.length → ∀ g o, a = some ⟨g, o, none⟩ → g ∉ F := by
  intro hp g o e hg
  obtain ⟨g', o', e', hs⟩ := h.mem hp
  rw [e] at e'
  simp only [Option.some.injEq, Addr.mk.injEq, and_true] at e'
  have := hs.lt hp
  have := hF g hg
  omega

theorem bth_write {w0 wr : World} {tb sb : Nat} {f g : Nat → List Ver} {n m : Nat} (a : Option Addr) (c : Nat) (ps : List Ver) (h : Bth w0 wr tb sb f g n m) (hp : Prs w0 a ps) (hm : ps.length ≤ 1000) :
    Calls Try.prog 47 #[.pointer (some ⟨tb, 0, none⟩), .slice a ps.length c] wr fun e w' => e = .returned (.tuple #[.int .i64 (wnum n ps), .int .i64 (wcode n ps)]) ∧ Hid (Bth w0 w' tb sb (wst f n ps) g (wn n ps) m) := by
  obtain ⟨F, G, h1, h2, h3, h4⟩ := h
  have hF : ∀ x, x ∈ F → w0.heap.size ≤ x := fun x hx => (h1.lo x hx).1
  refine (twrite45 a c ps wr h1 (hp.kp0 h4) (hp.far hF) hm).mono ?_
  rintro e w' ⟨rfl, F', k1, k2, k3⟩
  exact ⟨rfl, bth_table hF h2 h3 h4 k1 k2 k3⟩
theorem bth_swrite {w0 wr : World} {tb sb : Nat} {f g : Nat → List Ver} {n m : Nat} (a : Option Addr) (c : Nat) (ps : List Ver) (h : Bth w0 wr tb sb f g n m) (hp : Prs w0 a ps) (hm : ps.length ≤ 1000) :
    Calls Try.prog 34 #[.pointer (some ⟨sb, 0, none⟩), .slice a ps.length c] wr fun e w' => e = .returned (.tuple #[.int .i64 (wnum m ps), .int .i64 (wcode m ps)]) ∧ Hid (Bth w0 w' tb sb f (wst g m ps) n (wn m ps)) := by
  obtain ⟨F, G, h1, h2, h3, h4⟩ := h
  have hG : ∀ x, x ∈ G → w0.heap.size ≤ x := fun x hx => (h2.lo x hx).1
  refine (swrite56 a c ps wr h2 (hp.kp0 h4) (hp.far hG) hm).mono ?_
  rintro e w' ⟨rfl, G', k1, k2, k3⟩
  exact ⟨rfl, bth_sheet hG h1 h3 h4 k1 k2 k3⟩
def TbEnd (w : World) (e : Ending) (w' : World) : Prop := ∃ tb sb f n, e = .returned (.tuple #[.pointer (some ⟨tb, 0, none⟩), .pointer (some ⟨sb, 0, none⟩), .bool true]) ∧ Hid (Bth w w' tb sb f f n n)

end Go.Proofs.Ytfcfoabdangfhab
