/- Clear of the line and SameVersions, by their contracts. -/
import Derived.Test.YtfcfoabdangfhabL2
namespace Go.Proofs.Ytfcfoabdangfhab
open Go.RowKit
set_option maxRecDepth 20000
attribute [local go_sem ↓] Go.wp_at_zero Go.wp_at_succ

def LClr (B r g : Nat) (vs : List Ver) (y : Int) (w : World) (e : Ending) (w' : World) : Prop :=
  ∃ c : Nat, IsCnt vs y c ∧ e = .returned (.int .i64 ((c - 1 : Nat) : Int)) ∧ ∃ o' cap', Lin B w' r g o' cap' (vs.drop (c - 1)) ∧ Kp [r] w w'

theorem lin_step {B r g o cap d : Nat} {vs : List Ver} {w : World} (h : Lin B w r g (o + d * 3) (cap - d) (vs.drop d)) (h2 : d + 1 < vs.length) :
    Lin B (w.setCell ⟨r, 0, none⟩ (.slice (some ⟨g, o + d * 3 + 3, none⟩) (vs.length - d - 1) (cap - d - 1))) r g (o + (d + 1) * 3) (cap - (d + 1)) (vs.drop (d + 1)) := by
  have e1 : o + (d + 1) * 3 = o + d * 3 + 3 := by omega
  have e2 : (vs.drop (d + 1)).length = vs.length - d - 1 := by simp; omega
  have e3 : cap - (d + 1) = cap - d - 1 := by omega
  have hc := h.cap
  simp only [List.length_drop] at hc
  rw [e1, e3]
  refine ⟨by rw [e2]; exact heap_setCell_box h.box, ?_, h.ne, h.hr, h.hg, by omega, by omega⟩
  have hs := h.sla.drop 1
  rw [List.drop_drop, Nat.one_mul] at hs
  intro j u hu
  rw [World.cell?_setCell_other _ _ _ _ (by intro e; have := congrArg Addr.block e; exact h.ne this)]
  exact hs j u hu

theorem cnt_clear {vs : List Ver} {y : Int} {d : Nat} (hr : Rise vs) (hd : d < vs.length) (hlo : 0 < d → va vs d ≤ y) (hhi : d + 1 < vs.length → y < va vs (d + 1)) : ∃ c, IsCnt vs y c ∧ c - 1 = d := by
  by_cases h0 : d = 0 ∧ y < va vs 0
  · refine ⟨0, ⟨Nat.zero_le _, fun k hk => by omega, fun k _ hk => ?_⟩, by omega⟩
    have := hr.le (Nat.zero_le k) hk; omega
  · have hy : va vs d ≤ y := by
      by_cases e : d = 0
      · subst e; omega
      · exact hlo (by omega)
    refine ⟨d + 1, ⟨by omega, fun k hk => ?_, fun k h1 h2 => ?_⟩, by omega⟩
    · have := hr.le (show k ≤ d by omega) hd; omega
    · have := hr.le h1 h2; have := hhi (by omega); omega

theorem lclr_mk {B r g o cap d : Nat} {vs : List Ver} {y : Int} {w w' : World} (hr : Rise vs) (hd : d < vs.length) (hlo : 0 < d → va vs d ≤ y) (hhi : d + 1 < vs.length → y < va vs (d + 1))
    (h : Lin B w' r g (o + d * 3) (cap - d) (vs.drop d)) (hk : Kp [r] w w') : LClr B r g vs y w (.returned (.int .i64 (d : Int))) w' := by
  obtain ⟨c, hc, e⟩ := cnt_clear hr hd hlo hhi
  exact ⟨c, hc, by rw [e], o + d * 3, cap - d, by rw [e]; exact h, hk⟩

end Go.Proofs.Ytfcfoabdangfhab
