/- Clear of a chain, by its contract. -/
import Derived.Test.YtfcfoabdangfhabC3
namespace Go.Proofs.Ytfcfoabdangfhab
open Go.RowKit
set_option maxRecDepth 20000
attribute [local go_sem ↓] Go.wp_at_zero Go.wp_at_succ

theorem chn_set {B b g cap : Nat} {vs us : List Ver} {w w1 : World} (h : Chn B w b g cap vs) (hk : Kp [] w w1) (hB : B ≤ w.heap.size) {g' cap' : Nat} (hp : 0 < us.length)
    (hown : w1.ownsRow w.heap.size 96 3 (.slice (some ⟨g', 0, none⟩) us.length cap') us.length (vcells us)) :
    Chn B (w1.setCell ⟨b, 0, none⟩ (.slice (some ⟨g', 0, none⟩) us.length cap')) b g' cap' us ∧ Kp [b] w (w1.setCell ⟨b, 0, none⟩ (.slice (some ⟨g', 0, none⟩) us.length cap')) := by
  have hx := h.kp hk (by simp) (by simp)
  have hg' := (hown.lt g' rfl).1
  have hb := h.blt
  have hne : b ≠ g' := by omega
  refine ⟨⟨?_, heap_setCell_box hx.box, hne, h.hb, hp⟩, (hk.mono (T := [b]) (by simp)).setCell (.inl (by simp)) _⟩
  refine ⟨hown.1, ?_⟩
  rcases hown.2 with ⟨e, _⟩ | ⟨g2, c2, cur, e, q1, q2, q3, q4, q5, q6⟩
  · simp at e
  · refine .inr ⟨g2, c2, cur, e, by omega, ?_, q3, q4, q5, q6⟩
    simp only [Value.slice.injEq, Option.some.injEq, Addr.mk.injEq, and_true, true_and] at e
    obtain ⟨rfl, rfl⟩ := e
    rw [Below.heap_setCell _ _ _ _ (by simpa using hne.symm)]; exact q2

end Go.Proofs.Ytfcfoabdangfhab
