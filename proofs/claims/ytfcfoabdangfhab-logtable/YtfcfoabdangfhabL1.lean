/- The document's own line of versions: New, Last, First and Read, by their contracts. -/
import Derived.Test.YtfcfoabdangfhabC4
namespace Go.Proofs.Ytfcfoabdangfhab
open Go.RowKit
set_option maxRecDepth 20000
attribute [local go_sem ↓] Go.wp_at_zero Go.wp_at_succ

set_option maxHeartbeats 400000 in
theorem llast16 {vs : List Ver} (g o cap : Nat) (w : World) (h : SlA w g o vs) (hp : 0 < vs.length) (hm : vs.length ≤ 1000) :
    Calls Try.prog 59 #[.slice (some ⟨g, o, none⟩) vs.length cap] w fun e w' => e = .returned (.int .i64 (va vs (vs.length - 1))) ∧ w' = w := by
  have h2 := h.at0 (vs.length - 1) (by omega)
  obtain ⟨d, hd⟩ : ∃ d, vs.length = d + 1 := ⟨vs.length - 1, by omega⟩
  rw [hd] at h2 ⊢
  rw [show d + 1 - 1 = d by omega] at h2 ⊢
  have hd2 : (d : Int) + 1 ≤ 1000 := by omega
  clear hp hm h hd
  generalize va vs d = x at *
  go_enter Try.func59, Try.ntmps59
  go_wp2
  go_ret
  exact ⟨rfl, rfl⟩

set_option maxHeartbeats 400000 in
theorem lnew25 (w : World) :
    Calls Try.prog 51 #[] w fun e w' => e = .returned (.slice (some ⟨w.heap.size, 0, none⟩) 1 1) ∧ SlA w' w.heap.size 0 [dv] ∧ Kp [] w w' := by
  go_enter Try.func51, Try.ntmps51
  go_wp2
  go_ret
  refine ⟨rfl, ?_, (Kp.refl [] w).alloc _⟩
  intro j u hu
  rw [Nat.zero_add, World.cell?_alloc_new]
  have e : (#[Value.int IntKind.i64 0, Value.bool false, Value.string ByteArray.empty] : Array Value)[j]? = [Value.int IntKind.i64 0, Value.bool false, Value.string ByteArray.empty][j]? := by simp
  exact e.trans hu

theorem hi_step {vs : List Ver} {y : Int} {d : Nat} (h : ∀ j, d + 1 ≤ j → j < vs.length → y < va vs j) (hd : y < va vs d) : ∀ j, d ≤ j → j < vs.length → y < va vs j := by
  intro j h1 h2
  rcases Nat.lt_or_ge d j with e | e
  · exact h j e h2
  · have : j = d := by omega
    rw [this]; exact hd

def RdEnd (vs : List Ver) (y : Int) (w : World) (e : Ending) (w' : World) : Prop := ∃ t s code, e = .returned (.tuple #[.agg #[.bool t, .string s], .int .i64 code]) ∧ Rd vs y t s code ∧ Kp [] w w'
theorem rdEnd_mk {vs : List Ver} {y : Int} {w w' : World} (t : Bool) (s : ByteArray) (c : Int) (h : Rd vs y t s c) (hk : Kp [] w w') : RdEnd vs y w (.returned (.tuple #[.agg #[.bool t, .string s], .int .i64 c])) w' := ⟨t, s, c, rfl, h, hk⟩

set_option maxHeartbeats 400000 in
theorem lread10 {vs : List Ver} (g o cap : Nat) (y : Int) (w : World) (h : SlA w g o vs) (hr : Rise vs) (hp : 0 < vs.length) (hm : vs.length ≤ 1000) :
    Calls Try.prog 50 #[.slice (some ⟨g, o, none⟩) vs.length cap, .int .i64 y] w fun e w' => RdEnd vs y w e w' := by
  have hg := h.lt hp
  have HS := hide h
  have HR := hide hr
  clear h hr
  by_cases h0 : y < 0
  · go_enter Try.func50, Try.ntmps50
    go_wp2_with fail
    exact bodyPost_ret (v := .tuple #[.agg #[.bool false, .string ByteArray.empty], .int .i64 1]) (by simp [results, Try.results50, go_sem]; rfl) rfl (rdEnd_mk _ _ _ (.inl ⟨h0, rfl, rfl, rfl⟩) ((Kp.refl [] w).alloc _))
  go_enter Try.func50, Try.ntmps50
  go_wp2_with fail
  go_loop [6] (fun i => ∃ k : Nat, k ≤ vs.length ∧ i = .int .i64 ((k : Int) - 1) ∧ Hid (∀ j, k ≤ j → j < vs.length → y < va vs j)) (fun i => (intOf i + 1).toNat)
  case atStart => exact ⟨vs.length, Nat.le_refl _, rfl, fun j h1 h2 => by omega⟩
  case round =>
    obtain ⟨k, hk, rfl, HH⟩ := hrel
    by_cases hlt : k = 0
    · subst hlt
      go_wp2
      exact bodyPost_ret (v := .tuple #[.agg #[.bool false, .string ByteArray.empty], .int .i64 12]) (by simp [results, Try.results50, go_sem]; rfl) rfl (rdEnd_mk _ _ _ (.inr (.inl ⟨by omega, unhide HH 0 (Nat.le_refl _) hp, rfl, rfl, rfl⟩)) ((Kp.refl [] w).alloc _))
    · obtain ⟨d, rfl⟩ : ∃ d, k = d + 1 := ⟨k - 1, by omega⟩
      have q0 := (unhide HS).at0 d (by omega)
      have q1 := (unhide HS).at1 d (by omega)
      have q2 : w.cell? ⟨g, o + d * 3 + 1 + 1, none⟩ = some (.string (vb vs d)) := (unhide HS).at2 d (by omega)
      by_cases hy : va vs d ≤ y
      · have hc : IsCnt vs y (d + 1) := ⟨hk, fun j hj => by have := (unhide HR).le (show j ≤ d by omega) (by omega); omega, unhide HH⟩
        have h00 := (unhide HR).le (show 0 ≤ d by omega) (by omega)
        have HN := hide hc
        have H00 := hide (Int.le_trans h00 hy)
        clear hc h00
        go_wp2
        refine bodyPost_ret (v := .tuple #[.agg #[.bool (vt vs d), .string (vb vs d)], .int .i64 0]) (by simp [results, Try.results50, go_sem]) rfl (rdEnd_mk _ _ _ (.inr (.inr ⟨by omega, unhide H00, d + 1, unhide HN, by omega, rfl, rfl, rfl⟩)) ((Kp.refl [] w).alloc _))
      · go_wp2
        go_round
        case rel => exact ⟨d, by omega, by go_num, hi_step (unhide HH) (by omega)⟩
        case measure => simp [intOf]
end Go.Proofs.Ytfcfoabdangfhab
