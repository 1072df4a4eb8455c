/- Clear of a line that lies at a place of a greater box, by its contract. -/
import Derived.Test.YtfcfoabdangfhabL4
namespace Go.Proofs.Ytfcfoabdangfhab
open Go.RowKit
set_option maxRecDepth 20000
attribute [local go_sem ↓] Go.wp_at_zero Go.wp_at_succ

def LClrX (B r g : Nat) (cs : Array Value) (ty : TypeId) (i : Nat) (vs : List Ver) (y : Int) (w : World) (e : Ending) (w' : World) : Prop :=
  ∃ c : Nat, IsCnt vs y c ∧ e = .returned (.int .i64 ((c - 1 : Nat) : Int)) ∧ ∃ o' cap', LinX B w' r (cs.setIfInBounds i (.slice (some ⟨g, o', none⟩) (vs.drop (c - 1)).length cap')) ty i g o' cap' (vs.drop (c - 1)) ∧ Kp [r] w w'

def ClX (B r g : Nat) (cs : Array Value) (ty : TypeId) (i : Nat) (vs : List Ver) (o cap d : Nat) (w : World) : Prop :=
  LinX B w r (cs.setIfInBounds i (.slice (some ⟨g, o + d * 3, none⟩) (vs.drop d).length (cap - d))) ty i g (o + d * 3) (cap - d) (vs.drop d)

theorem linx_step {B r i g o cap d : Nat} {cs : Array Value} {ty : TypeId} {vs : List Ver} {w : World} (h : ClX B r g cs ty i vs o cap d w) (h2 : d + 1 < vs.length) :
    ClX B r g cs ty i vs o cap (d + 1) (w.setCell ⟨r, i, none⟩ (.slice (some ⟨g, o + d * 3 + 3, none⟩) (vs.length - d - 1) (cap - d - 1))) := by
  have e1 : o + (d + 1) * 3 = o + d * 3 + 3 := by omega
  have e2 : (vs.drop (d + 1)).length = vs.length - d - 1 := by simp; omega
  have e3 : cap - (d + 1) = cap - d - 1 := by omega
  have hc := h.cap
  simp only [List.length_drop] at hc
  unfold ClX
  rw [e1, e3, e2]
  refine ⟨?_, ?_, ?_, h.ne, h.hr, h.hg, by omega, by omega⟩
  · rw [heap_set_at i _ h.box, Array.setIfInBounds_setIfInBounds]
  · rw [e2]
    have := set_at (.slice (some ⟨g, o + d * 3 + 3, none⟩) (vs.length - d - 1) (cap - d - 1)) h.here
    rwa [Array.setIfInBounds_setIfInBounds] at this
  · have hs := h.sla.drop 1
    rw [List.drop_drop, Nat.one_mul] at hs
    intro j u hu
    rw [World.cell?_setCell_other _ _ _ _ (by intro e; have := congrArg Addr.block e; exact h.ne this)]
    exact hs j u hu

theorem lclrx_mk {B r i g o cap d : Nat} {cs : Array Value} {ty : TypeId} {vs : List Ver} {y : Int} {w w' : World} (hr : Rise vs) (hd : d < vs.length) (hlo : 0 < d → va vs d ≤ y) (hhi : d + 1 < vs.length → y < va vs (d + 1))
    (h : ClX B r g cs ty i vs o cap d w') (hk : Kp [r] w w') : LClrX B r g cs ty i vs y w (.returned (.int .i64 (d : Int))) w' := by
  obtain ⟨c, hc, e⟩ := cnt_clear hr hd hlo hhi
  exact ⟨c, hc, by rw [e], o + d * 3, cap - d, by rw [e]; exact h, hk⟩

end Go.Proofs.Ytfcfoabdangfhab
