/- Encode, by its contract. -/
import Derived.Test.YtfcfoabdangfhabQ2
import Derived.Test.YtfcfoabdangfhabT3
namespace Go.Proofs.Ytfcfoabdangfhab
open Go.RowKit
set_option maxRecDepth 20000
attribute [local go_sem ↓] Go.wp_at_zero Go.wp_at_succ

theorem pf_str {a : Int} {ps : List Ver} (h : pf a ps = 0) : ∀ k, k < ps.length → (vb ps k).size ≤ 12 := by
  induction ps generalizing a with
  | nil => intro k hk; simp at hk
  | cons p r ih =>
    obtain ⟨_, _, _, h4, h5⟩ := pf_cons h
    intro k hk
    cases k with
    | zero => simpa [vb] using (chk_zero h4).1
    | succ k => have := ih h5 k (by simpa using hk); simpa [vb] using this

theorem take_succ_ver {ps : List Ver} {k : Nat} (h : k < ps.length) : ps.take (k + 1) = ps.take k ++ [⟨va ps k, vt ps k, vb ps k⟩] := by
  have e : (⟨va ps k, vt ps k, vb ps k⟩ : Ver) = ps[k] := by simp [va, vt, vb, List.getD_eq_getElem?_getD, List.getElem?_eq_getElem h]
  rw [e, List.take_succ_eq_append_getElem h]
theorem pbs_take_succ {ps : List Ver} {k : Nat} (h : k < ps.length) : pbs (ps.take (k + 1)) = pbs (ps.take k) ++ pb ⟨va ps k, vt ps k, vb ps k⟩ := by
  rw [take_succ_ver h, pbs_append]
  simp [pbs]
theorem pbs_take_le (ps : List Ver) (k : Nat) : (pbs (ps.take k)).length ≤ (pbs ps).length := by
  have := congrArg (fun l => (pbs l).length) (List.take_append_drop k ps)
  simp only [pbs_append, List.length_append] at this
  omega

theorem Row.head {w0 w : World} {g cap : Nat} {u : UInt8} {bs : List UInt8} (h : Row w0 w g cap (u :: bs)) : w.cell? ⟨g, 0, none⟩ = some (.int .u8 u.toNat) ∧ w.frozen? ⟨g, 0, none⟩ = false := by
  refine ⟨by simpa [ub] using h.slu 0 (by simp), ?_⟩
  rcases h.own.2 with ⟨e, _⟩ | ⟨g2, c2, cur, e, q1, q2, q3, q4, q5, q6⟩
  · simp at e
  · simp only [Value.slice.injEq, Option.some.injEq, Addr.mk.injEq, and_true, true_and] at e
    obtain ⟨rfl, rfl⟩ := e
    exact frozen_of_block _ q2
theorem Row.set0 {w0 w : World} {g cap : Nat} {u : UInt8} {bs : List UInt8} (h : Row w0 w g cap (u :: bs)) (v : UInt8) (x : Int) (hx : x = (v.toNat : Int)) : Row w0 (w.setCell ⟨g, 0, none⟩ (.int .u8 x)) g cap (v :: bs) := by
  subst hx
  have hlt := h.lt
  refine ⟨⟨by simp [bcells_length], ?_⟩, h.kp.setCell (.inr hlt.1) _⟩
  rcases h.own.2 with ⟨e, _⟩ | ⟨g2, c2, cur, e, q1, q2, q3, q4, q5, q6⟩
  · simp at e
  · simp only [Value.slice.injEq, Option.some.injEq, Addr.mk.injEq, and_true, true_and] at e
    obtain ⟨rfl, rfl⟩ := e
    refine .inr ⟨g, cap, _, by simp, q1, heap_setCell_at 0 _ q2, by simpa using q3, q4, by simpa using q5, ?_⟩
    simp only [Nat.mul_one, List.length_cons] at q6 ⊢
    rw [Array.toList_setIfInBounds, List.take_set, q6]
    simp [bcells]

/-- At the head of a round: the bytes of the first k pairs, behind others. -/
structure EnI (w : World) (hd : List UInt8) (ps : List Ver) (k g cap n : Nat) (wr : World) : Prop where
  len : n = (hd ++ pbs (ps.take k)).length
  row : Row w wr g cap (hd ++ pbs (ps.take k))
theorem EnI.next {w wr : World} {hd : List UInt8} {ps : List Ver} {k g cap n : Nat} (hk : k < ps.length) (hn : n = (hd ++ pbs (ps.take k) ++ pb ⟨va ps k, vt ps k, vb ps k⟩).length) (hr : Row w wr g cap (hd ++ pbs (ps.take k) ++ pb ⟨va ps k, vt ps k, vb ps k⟩)) : EnI w hd ps (k + 1) g cap n wr := by
  rw [List.append_assoc, ← pbs_take_succ hk] at hn hr
  exact ⟨hn, hr⟩
theorem EnI.last {w wr : World} {hd : List UInt8} {ps : List Ver} {g cap n : Nat} (h : EnI w hd ps ps.length g cap n wr) : n = (hd ++ pbs ps).length ∧ Row w wr g cap (hd ++ pbs ps) := by
  obtain ⟨h1, h2⟩ := h
  rw [List.take_length] at h1 h2
  exact ⟨h1, h2⟩
theorem enI_start (w W : World) (hk : Kp [] w W) (ps : List Ver) (hd : List UInt8) (cs : Array Value) (hc : cs.toList = bcells hd) (hm : hd.length ≤ 1000) (g c : Nat) (hg : g = W.heap.size) (h2 : c = hd.length) : EnI w hd ps 0 g c c (W.alloc (.cells cs 5)) := by
  subst hg
  subst h2
  have := row_lit w W hk hd cs hc hm
  exact ⟨by simp [pbs], by simpa [pbs] using this⟩

def EncEnd (ps : List Ver) (w : World) (e : Ending) (w' : World) : Prop := ∃ g cap n, e = .returned (.tuple #[.slice (some ⟨g, 0, none⟩) n cap, .int .i64 0]) ∧ n = (enc ps).length ∧ Row w w' g cap (enc ps)
theorem encEnd_mk {ps : List Ver} {w W : World} {g cap n : Nat} {x : Int} (hx : x = (n : Int) % 256) (hr : n = ([0, b8 ps.length] ++ pbs ps).length ∧ Row w W g cap ([0, b8 ps.length] ++ pbs ps)) :
    EncEnd ps w (.returned (.tuple #[.slice (some ⟨g, 0, none⟩) n cap, .int .i64 0])) (W.setCell ⟨g, 0, none⟩ (.int .u8 x)) := by
  obtain ⟨h1, h2⟩ := hr
  refine ⟨g, cap, n, rfl, by rw [h1]; simp [enc], h2.set0 (b8 ((pbs ps).length + 2 : Nat)) x ?_⟩
  rw [hx, ← mod_b8, h1]
  simp; omega

set_option maxHeartbeats 1000000 in
theorem encode_ok (a : Option Addr) (c : Nat) (ps : List Ver) (w : World) (h : Prs w a ps) (hp : pf (-1) ps = 0) :
    Calls Try.prog 13 #[.slice a ps.length c] w fun e w' => EncEnd ps w e w' := by
  have h8 := pf_len8 hp
  have h112 := pbs_len112 hp
  have HP := hide h
  have HS := hide (pf_str hp)
  have HPF := hide hp
  clear h hp
  go_enter Try.func13, Try.ntmps13
  go_wp2_with fail
  refine (tcheck36 a c ps w (unhide HP) (by omega)).mono ?_
  rintro e w1 ⟨rfl, hk1⟩
  have HK1 := hide hk1
  clear hk1
  rw [unhide HPF]
  go_wp2_with fail
  go_loopw [5, 19] (fun b i wr => ∃ k g cap n : Nat, k ≤ ps.length ∧ b = .slice (some ⟨g, 0, none⟩) n cap ∧ i = .int .i64 k ∧ Hid (EnI w [0, b8 ps.length] ps k g cap n wr)) (fun _ i _ => ps.length - (intOf i).toNat)
  case atStart => exact ⟨0, w1.heap.size, 2, 2, by omega, rfl, rfl, enI_start w w1 (unhide HK1) ps [0, b8 ps.length] _ (by simp [bcells, ← mod_b8]; omega) (by simp) _ _ rfl rfl⟩
  case round =>
    obtain ⟨k, g, cap, n, hk, rfl, rfl, HE⟩ := hrel
    by_cases hlt : k < ps.length
    · obtain ⟨ga, o, rfl, hs⟩ := (unhide HP).mem (by omega)
      have hs2 := hs.kp (unhide HE).row.kp (by simp)
      have q0 := hs2.at0 k hlt
      have q1 := hs2.at1 k hlt
      have q2 := hs2.at2 k hlt
      have i0 : (0 : Int) ≤ (k : Int) := by omega
      have i1 : (k : Int) < (ps.length : Int) := by omega
      clear hs hs2
      go_wp2_with fail
      refine (appendPair17 (va ps k) (vt ps k) (vb ps k) ((unhide HE).row.kp0 ((Kp.refl [] _).alloc _)) (unhide HE).len (by have := pbs_take_le ps k; simp; omega) (by have := unhide HS k hlt; omega)).mono ?_
      rintro e w2 ⟨g2, c2, n2, rfl, hn2, hr2⟩
      have HE2 := hide (EnI.next hlt hn2 hr2)
      clear hn2 hr2
      go_wp2_with fail
      exact ⟨⟨k + 1, g2, c2, n2, by omega, rfl, by go_num, HE2⟩, by simp [intOf]; omega⟩
    · have e : k = ps.length := by omega
      subst e
      have hl := (unhide HE).last
      obtain ⟨y0, y1⟩ := Row.head hl.2
      have HLL := hide hl
      have hn0 : 0 < n := by rw [hl.1]; simp
      clear hl
      go_wp2_with fail
      go_ret2
      exact encEnd_mk rfl (unhide HLL)

theorem encode_bad (a : Option Addr) (c : Nat) (ps : List Ver) (w : World) (h : Prs w a ps) (hm : ps.length ≤ 1000) (hp : pf (-1) ps ≠ 0) :
    Calls Try.prog 13 #[.slice a ps.length c] w fun e w' => e = .returned (.tuple #[.slice none 0 0, .int .i64 (pf (-1) ps)]) ∧ Kp [] w w' := by
  have hc := tcheck36 a c ps w h (by omega)
  generalize pf (-1) ps = q at *
  have HC := hide hc
  clear h hc
  go_enter Try.func13, Try.ntmps13
  go_wp2_with fail
  refine (unhide HC).mono ?_
  rintro e w1 ⟨rfl, hk1⟩
  have HK1 := hide hk1
  clear hk1
  go_wp2_with fail
  go_ret2
  exact ⟨rfl, unhide HK1⟩
end Go.Proofs.Ytfcfoabdangfhab
