/- Clear of a chain, by its contract. -/
import Derived.Test.YtainekjcdmabbaaC3
namespace Go.Proofs.Ytainekjcdmabbaa
open Go.RowKit
set_option maxRecDepth 20000
attribute [local go_sem ↓] Go.wp_at_zero Go.wp_at_succ

theorem chn_set {B b g cap : Nat} {vs us : List Ver} {w w1 : World} (h : Chn B w b g cap vs) (hk : Kp [] w w1) (hB : B ≤ w.heap.size) {g' cap' : Nat} (hp : 0 < us.length)
    (hown : w1.ownsRow w.heap.size 41 3 (.slice (some ⟨g', 0, none⟩) us.length cap') us.length (vcells us)) :
    Chn B (w1.setCell ⟨b, 0, none⟩ (.slice (some ⟨g', 0, none⟩) us.length cap')) b g' cap' us ∧ Kp [b] w (w1.setCell ⟨b, 0, none⟩ (.slice (some ⟨g', 0, none⟩) us.length cap')) := by
  have hx := h.kp hk (by simp) (by simp)
  have hg' := (hown.lt g' rfl).1
  have hb := h.blt
  have hne : b ≠ g' := by omega
  refine ⟨⟨?_, heap_setCell_box hx.box, hne, h.hb, hp⟩, (hk.mono (T := [b]) (by simp)).setCell (.inl (by simp)) _⟩
  refine ⟨hown.1, ?_⟩
  rcases hown.2 with ⟨e, _⟩ | ⟨g2, c2, cur, e, q1, q2, q3, q4, q5, q6⟩
  · simp at e
  · refine .inr ⟨g2, c2, cur, e, by omega, ?_, q3, q4, q5, q6⟩
    simp only [Value.slice.injEq, Option.some.injEq, Addr.mk.injEq, and_true, true_and] at e
    obtain ⟨rfl, rfl⟩ := e
    rw [Below.heap_setCell _ _ _ _ (by simpa using hne.symm)]; exact q2

set_option maxHeartbeats 400000 in
theorem clear22 {B b g cap : Nat} {vs : List Ver} (y : Int) (w : World) (h : Chn B w b g cap vs) (hr : Rise vs) (hm : vs.length ≤ 900) (hB : B ≤ w.heap.size) :
    Calls Try.prog 31 #[.pointer (some ⟨b, 0, none⟩), .int .i64 y] w fun e w' => ∃ c : Nat, IsCnt vs y c ∧ e = .returned (.int .i64 ((c - 1 : Nat) : Int)) ∧ ∃ g' cap', Chn B w' b g' cap' (vs.drop (c - 1)) ∧ (g' = g ∨ w.heap.size ≤ g') ∧ Kp [b] w w' := by
  have HC := hide h
  have HR := hide hr
  clear h hr
  go_enter Try.func31, Try.ntmps31
  go_wp2_with fail
  refine (count28 y _ (unhide HC) (unhide HR) (by omega)).mono ?_
  rintro e w1 ⟨c, hcn, rfl, hk⟩
  have hcl := hcn.le
  have h1 := (unhide HC).kp hk (by simp) (by simp)
  have HN := hide hcn
  have HK := hide hk
  have q0 := h1.cell
  have q1 := h1.frozen
  have HC1 := hide h1
  have hcp : vs.length ≤ cap := by
    rcases h1.own.2 with ⟨e, _⟩ | ⟨g2, c2, cur, e, q1, q2, q3, q4, q5, q6⟩
    · simp at e
    · simp only [Value.slice.injEq, Option.some.injEq, Addr.mk.injEq, and_true, true_and] at e
      obtain ⟨rfl, rfl⟩ := e
      exact q3
  clear hcn hk h1
  by_cases hc : c ≤ 1
  · have e0 : c - 1 = 0 := by omega
    go_wp2
    go_ret
    refine ⟨c, unhide HN, ret_int (by omega), g, cap, ?_, .inl rfl, (unhide HK).mono (by simp)⟩
    rw [e0, List.drop_zero]; exact unhide HC1
  · obtain ⟨d, rfl⟩ : ∃ d, c = d + 2 := ⟨c - 2, by omega⟩
    go_wp2_with fail
    have hus : (vs.drop (d + 1)).length = vs.length - (d + 1) := by simp
    rw [← hus]
    have hsl := (unhide HC1).sla.drop (d + 1)
    rw [Nat.zero_add] at hsl
    refine (clone29 g ((d + 1) * 3) (cap - (d + 1)) _ hsl (by omega) (by omega)).mono ?_
    rintro e w2 ⟨g', cap', rfl, hg', hown, hk2⟩
    obtain ⟨z1, z2⟩ := chn_set (unhide HC1) hk2 (Nat.le_trans hB (unhide HK).size) (by omega) hown
    have h2 := (unhide HC1).kp hk2 (by simp) (by simp)
    have q2 := h2.cell
    have q3 := h2.frozen
    have hsz := (unhide HK).size
    have Z1 := hide z1
    have Z2 := hide z2
    have HUS := hide hus
    clear z1 z2 hown hk2 h2 hus hsl
    generalize hu : vs.drop (d + 1) = us at *
    have HU := hide hu
    clear hu
    go_wp2
    go_ret
    refine ⟨d + 2, unhide HN, ret_int (by omega), g', cap', ?_, .inr (by omega), ?_⟩
    · show Chn B _ b g' cap' (vs.drop (d + 1))
      rw [unhide HU]; exact unhide Z1
    · exact ((unhide HK).mono (by simp)).trans (unhide Z2) (by simp)
end Go.Proofs.Ytainekjcdmabbaa
