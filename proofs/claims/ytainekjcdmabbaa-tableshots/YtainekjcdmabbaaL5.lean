/- Clear of a line that lies at a place of a greater box, by its contract. -/
import Derived.Test.YtainekjcdmabbaaL4
namespace Go.Proofs.Ytainekjcdmabbaa
open Go.RowKit
set_option maxRecDepth 20000
attribute [local go_sem ↓] Go.wp_at_zero Go.wp_at_succ

def LClrX (B r g : Nat) (cs : Array Value) (ty : TypeId) (i : Nat) (vs : List Ver) (y : Int) (w : World) (e : Ending) (w' : World) : Prop :=
  ∃ c : Nat, IsCnt vs y c ∧ e = .returned (.int .i64 ((c - 1 : Nat) : Int)) ∧ ∃ o' cap', LinX B w' r (cs.setIfInBounds i (.slice (some ⟨g, o', none⟩) (vs.drop (c - 1)).length cap')) ty i g o' cap' (vs.drop (c - 1)) ∧ Kp [r] w w'

def ClX (B r g : Nat) (cs : Array Value) (ty : TypeId) (i : Nat) (vs : List Ver) (o cap d : Nat) (w : World) : Prop :=
  LinX B w r (cs.setIfInBounds i (.slice (some ⟨g, o + d * 3, none⟩) (vs.drop d).length (cap - d))) ty i g (o + d * 3) (cap - d) (vs.drop d)

theorem linx_step {B r i g o cap d : Nat} {cs : Array Value} {ty : TypeId} {vs : List Ver} {w : World} (h : ClX B r g cs ty i vs o cap d w) (h2 : d + 1 < vs.length) :
    ClX B r g cs ty i vs o cap (d + 1) (w.setCell ⟨r, i, none⟩ (.slice (some ⟨g, o + d * 3 + 3, none⟩) (vs.length - d - 1) (cap - d - 1))) := by
  have e1 : o + (d + 1) * 3 = o + d * 3 + 3 := by omega
  have e2 : (vs.drop (d + 1)).length = vs.length - d - 1 := by simp; omega
  have e3 : cap - (d + 1) = cap - d - 1 := by omega
  have hc := h.cap
  simp only [List.length_drop] at hc
  unfold ClX
  rw [e1, e3, e2]
  refine ⟨?_, ?_, ?_, h.ne, h.hr, h.hg, by omega, by omega⟩
  · rw [heap_set_at i _ h.box, Array.setIfInBounds_setIfInBounds]
  · rw [e2]
    have := set_at (.slice (some ⟨g, o + d * 3 + 3, none⟩) (vs.length - d - 1) (cap - d - 1)) h.here
    rwa [Array.setIfInBounds_setIfInBounds] at this
  · have hs := h.sla.drop 1
    rw [List.drop_drop, Nat.one_mul] at hs
    intro j u hu
    rw [World.cell?_setCell_other _ _ _ _ (by intro e; have := congrArg Addr.block e; exact h.ne this)]
    exact hs j u hu

theorem lclrx_mk {B r i g o cap d : Nat} {cs : Array Value} {ty : TypeId} {vs : List Ver} {y : Int} {w w' : World} (hr : Rise vs) (hd : d < vs.length) (hlo : 0 < d → va vs d ≤ y) (hhi : d + 1 < vs.length → y < va vs (d + 1))
    (h : ClX B r g cs ty i vs o cap d w') (hk : Kp [r] w w') : LClrX B r g cs ty i vs y w (.returned (.int .i64 (d : Int))) w' := by
  obtain ⟨c, hc, e⟩ := cnt_clear hr hd hlo hhi
  exact ⟨c, hc, by rw [e], o + d * 3, cap - d, by rw [e]; exact h, hk⟩

set_option maxHeartbeats 400000 in
theorem lclearx27 {B r i g o cap : Nat} {cs : Array Value} {ty : TypeId} {vs : List Ver} (y : Int) (w : World) (h : LinX B w r cs ty i g o cap vs) (hr : Rise vs) (hm : vs.length ≤ 900) :
    Calls Try.prog 77 #[.pointer (some ⟨r, i, none⟩), .int .i64 y] w fun e w' => LClrX B r g cs ty i vs y w e w' := by
  have hp := h.pos
  have H0 : Hid (ClX B r g cs ty i vs o cap 0 w) := by
    show ClX B r g cs ty i vs o cap 0 w
    unfold ClX
    simp only [Nat.zero_mul, Nat.add_zero, Nat.sub_zero, List.drop_zero]
    rw [set_same h.here]; exact h
  have HR := hide hr
  clear h hr
  go_enter Try.func77, Try.ntmps77
  go_wp2_with fail
  go_loopw [5] (fun j wr => ∃ d : Nat, d < vs.length ∧ j = .int .i64 d ∧ Hid (0 < d → va vs d ≤ y) ∧ Hid (ClX B r g cs ty i vs o cap d wr) ∧ Hid (Kp [r] w wr)) (fun j _ => vs.length - (intOf j).toNat)
  case atStart => exact ⟨0, hp, rfl, fun h => by omega, H0, Kp.refl _ _⟩
  case round =>
    obtain ⟨d, hd, rfl, HD, HL, HK⟩ := hrel
    have q0 := (unhide HL).cell
    have q1 := (unhide HL).frozen
    rw [List.length_drop] at q0
    have hcp := (unhide HL).cap
    rw [List.length_drop] at hcp
    by_cases hlt : d + 1 < vs.length
    · have q2 := (unhide HL).sla.at0 1 (by rw [List.length_drop]; omega)
      have e2 : va (vs.drop d) 1 = va vs (d + 1) := by simp [va]
      rw [e2, Nat.one_mul] at q2
      have e3 : cap - d ≠ 1 := by omega
      have e4 : (1 : Int) < ((vs.length - d : Nat) : Int) := by omega
      have e5 : (1 : Int) ≤ ((cap - d : Nat) : Int) := by omega
      by_cases hy : va vs (d + 1) ≤ y
      · go_wp2_with fail
        exact ⟨⟨d + 1, hlt, by go_num, fun _ => hy, linx_step (unhide HL) hlt, (unhide HK).setCell (.inl (by simp)) _⟩, by simp [intOf]; omega⟩
      · go_wp2_with fail
        go_ret
        exact lclrx_mk (unhide HR) hd (unhide HD) (fun _ => by omega) (unhide HL) (unhide HK)
    · have e4 : ¬ (1 : Int) < ((vs.length - d : Nat) : Int) := by omega
      go_wp2_with fail
      go_ret
      exact lclrx_mk (unhide HR) hd (unhide HD) (fun h => absurd h hlt) (unhide HL) (unhide HK)
end Go.Proofs.Ytainekjcdmabbaa
