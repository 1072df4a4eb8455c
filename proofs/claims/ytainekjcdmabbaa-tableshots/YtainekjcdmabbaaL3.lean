/- Clear of the line and SameVersions, by their contracts. -/
import Derived.Test.YtainekjcdmabbaaL2
namespace Go.Proofs.Ytainekjcdmabbaa
open Go.RowKit
set_option maxRecDepth 20000
attribute [local go_sem ↓] Go.wp_at_zero Go.wp_at_succ

def LClr (B r g : Nat) (vs : List Ver) (y : Int) (w : World) (e : Ending) (w' : World) : Prop :=
  ∃ c : Nat, IsCnt vs y c ∧ e = .returned (.int .i64 ((c - 1 : Nat) : Int)) ∧ ∃ o' cap', Lin B w' r g o' cap' (vs.drop (c - 1)) ∧ Kp [r] w w'

theorem lin_step {B r g o cap d : Nat} {vs : List Ver} {w : World} (h : Lin B w r g (o + d * 3) (cap - d) (vs.drop d)) (h2 : d + 1 < vs.length) :
    Lin B (w.setCell ⟨r, 0, none⟩ (.slice (some ⟨g, o + d * 3 + 3, none⟩) (vs.length - d - 1) (cap - d - 1))) r g (o + (d + 1) * 3) (cap - (d + 1)) (vs.drop (d + 1)) := by
  have e1 : o + (d + 1) * 3 = o + d * 3 + 3 := by omega
  have e2 : (vs.drop (d + 1)).length = vs.length - d - 1 := by simp; omega
  have e3 : cap - (d + 1) = cap - d - 1 := by omega
  have hc := h.cap
  simp only [List.length_drop] at hc
  rw [e1, e3]
  refine ⟨by rw [e2]; exact heap_setCell_box h.box, ?_, h.ne, h.hr, h.hg, by omega, by omega⟩
  have hs := h.sla.drop 1
  rw [List.drop_drop, Nat.one_mul] at hs
  intro j u hu
  rw [World.cell?_setCell_other _ _ _ _ (by intro e; have := congrArg Addr.block e; exact h.ne this)]
  exact hs j u hu

theorem cnt_clear {vs : List Ver} {y : Int} {d : Nat} (hr : Rise vs) (hd : d < vs.length) (hlo : 0 < d → va vs d ≤ y) (hhi : d + 1 < vs.length → y < va vs (d + 1)) : ∃ c, IsCnt vs y c ∧ c - 1 = d := by
  by_cases h0 : d = 0 ∧ y < va vs 0
  · refine ⟨0, ⟨Nat.zero_le _, fun k hk => by omega, fun k _ hk => ?_⟩, by omega⟩
    have := hr.le (Nat.zero_le k) hk; omega
  · have hy : va vs d ≤ y := by
      by_cases e : d = 0
      · subst e; omega
      · exact hlo (by omega)
    refine ⟨d + 1, ⟨by omega, fun k hk => ?_, fun k h1 h2 => ?_⟩, by omega⟩
    · have := hr.le (show k ≤ d by omega) hd; omega
    · have := hr.le h1 h2; have := hhi (by omega); omega

theorem lclr_mk {B r g o cap d : Nat} {vs : List Ver} {y : Int} {w w' : World} (hr : Rise vs) (hd : d < vs.length) (hlo : 0 < d → va vs d ≤ y) (hhi : d + 1 < vs.length → y < va vs (d + 1))
    (h : Lin B w' r g (o + d * 3) (cap - d) (vs.drop d)) (hk : Kp [r] w w') : LClr B r g vs y w (.returned (.int .i64 (d : Int))) w' := by
  obtain ⟨c, hc, e⟩ := cnt_clear hr hd hlo hhi
  exact ⟨c, hc, by rw [e], o + d * 3, cap - d, by rw [e]; exact h, hk⟩

set_option maxHeartbeats 400000 in
theorem lclear27 {B r g o cap : Nat} {vs : List Ver} (y : Int) (w : World) (h : Lin B w r g o cap vs) (hr : Rise vs) (hm : vs.length ≤ 900) :
    Calls Try.prog 77 #[.pointer (some ⟨r, 0, none⟩), .int .i64 y] w fun e w' => LClr B r g vs y w e w' := by
  have hp := h.pos
  have HC := hide h
  have HR := hide hr
  clear h hr
  go_enter Try.func77, Try.ntmps77
  go_wp2_with fail
  go_loopw [5] (fun i wr => ∃ d : Nat, d < vs.length ∧ i = .int .i64 d ∧ Hid (0 < d → va vs d ≤ y) ∧ Hid (Lin B wr r g (o + d * 3) (cap - d) (vs.drop d)) ∧ Hid (Kp [r] w wr)) (fun i _ => vs.length - (intOf i).toNat)
  case atStart => exact ⟨0, hp, rfl, fun h => by omega, hide (by simpa using unhide HC), Kp.refl _ _⟩
  case round =>
    obtain ⟨d, hd, rfl, HD, HL, HK⟩ := hrel
    have q0 := (unhide HL).cell
    have q1 := (unhide HL).frozen
    rw [List.length_drop] at q0
    have hcp := (unhide HL).cap
    rw [List.length_drop] at hcp
    by_cases hlt : d + 1 < vs.length
    · have q2 := (unhide HL).sla.at0 1 (by rw [List.length_drop]; omega)
      have e2 : va (vs.drop d) 1 = va vs (d + 1) := by simp [va]
      rw [e2, Nat.one_mul] at q2
      have e3 : cap - d ≠ 1 := by omega
      have e4 : (1 : Int) < ((vs.length - d : Nat) : Int) := by omega
      have e5 : (1 : Int) ≤ ((cap - d : Nat) : Int) := by omega
      by_cases hy : va vs (d + 1) ≤ y
      · go_wp2_with fail
        exact ⟨⟨d + 1, hlt, by go_num, fun _ => hy, lin_step (unhide HL) hlt, (unhide HK).setCell (.inl (by simp)) _⟩, by simp [intOf]; omega⟩
      · go_wp2_with fail
        go_ret
        exact lclr_mk (unhide HR) hd (unhide HD) (fun _ => by omega) (unhide HL) (unhide HK)
    · have e4 : ¬ (1 : Int) < ((vs.length - d : Nat) : Int) := by omega
      go_wp2_with fail
      go_ret
      exact lclr_mk (unhide HR) hd (unhide HD) (fun h => absurd h hlt) (unhide HL) (unhide HK)

set_option maxHeartbeats 400000 in
theorem same19 {vs : List Ver} (g o cap g' o' cap' : Nat) (w : World) (h : SlA w g o vs) (h' : SlA w g' o' vs) (hm : vs.length ≤ 1000) :
    Calls Try.prog 28 #[.slice (some ⟨g, o, none⟩) vs.length cap, .slice (some ⟨g', o', none⟩) vs.length cap'] w fun e w' => e = .returned (.bool true) ∧ ∃ m, w' = w.drewN m := by
  have HS := hide h
  have HS' := hide h'
  clear h h'
  go_enter Try.func28, Try.ntmps28
  go_wp2_with fail
  go_loopw [5] (fun i wr => ∃ d m : Nat, d ≤ vs.length ∧ i = .int .i64 d ∧ wr = w.drewN m) (fun i _ => vs.length - (intOf i).toNat)
  case atStart => exact ⟨0, 0, Nat.zero_le _, rfl, rfl⟩
  case round =>
    obtain ⟨d, m, hd, rfl, rfl⟩ := hrel
    by_cases hlt : d < vs.length
    · have q0 := (unhide HS).at0 d hlt
      have q1 := (unhide HS).at1 d hlt
      have q2 : w.cell? ⟨g, o + d * 3 + 1 + 1, none⟩ = some (.string (vb vs d)) := (unhide HS).at2 d hlt
      have p0 := (unhide HS').at0 d hlt
      have p1 := (unhide HS').at1 d hlt
      have p2 : w.cell? ⟨g', o' + d * 3 + 1 + 1, none⟩ = some (.string (vb vs d)) := (unhide HS').at2 d hlt
      have i0 : (0 : Int) ≤ (d : Int) := by omega
      have i1 : (d : Int) < (vs.length : Int) := by omega
      go_wp2_with fail
      go_quiet (fail)
      go_wp2
      exact ⟨⟨d + 1, m + nq, by omega, by go_num, rfl⟩, by simp [intOf]; omega⟩
    · go_wp2
      go_ret
      exact ⟨rfl, _, rfl⟩
end Go.Proofs.Ytainekjcdmabbaa
