/- greatPairs and SamePairs, by their contracts. -/
import Derived.Test.YtfcfoabdangfhabT4
namespace Go.Proofs.Ytfcfoabdangfhab
open Go.RowKit
set_option maxRecDepth 20000
attribute [local go_sem ↓] Go.wp_at_zero Go.wp_at_succ

def GpEnd (ps : List Ver) (w : World) (e : Ending) (w' : World) : Prop := ∃ q : Bool, e = .returned (.bool q) ∧ (q = false → ps.length ≤ 50) ∧ w' = w
theorem gpEnd_mk {ps : List Ver} {w : World} (q : Bool) (h : q = false → ps.length ≤ 50) : GpEnd ps w (.returned (.bool q)) w := ⟨q, rfl, h, rfl⟩

set_option maxHeartbeats 400000 in
theorem gpairs30 (a : Option Addr) (c : Nat) (ps : List Ver) (w : World) (h : Prs w a ps) :
    Calls Try.prog 12 #[.slice a ps.length c] w fun e w' => GpEnd ps w e w' := by
  have hm := h.len
  unfold maxLen at hm
  have HP := hide h
  clear h
  go_enter Try.func12, Try.ntmps12
  go_wp2_with fail
  go_loop [3] (fun i => ∃ k : Nat, k ≤ ps.length ∧ k ≤ 100 ∧ i = .int .i64 k) (fun i => ps.length - (intOf i).toNat)
  case atStart => exact ⟨0, Nat.zero_le _, by omega, rfl⟩
  case round =>
    obtain ⟨k, hk, hk2, rfl⟩ := hrel
    by_cases hlt : k < ps.length
    · by_cases hlt2 : k < 100
      · obtain ⟨g, o, rfl, hs⟩ := (unhide HP).mem (by omega)
        have q2 : w.cell? ⟨g, o + k * 3 + 1 + 1, none⟩ = some (.string (vb ps k)) := hs.at2 k hlt
        have q4 := (unhide HP).str k hlt
        unfold maxLen at q4
        clear hs
        generalize vb ps k = s at *
        by_cases hs : 300 < s.size
        · go_wp2
          go_ret
          exact gpEnd_mk _ (fun h => by simp at h)
        · go_wp2
          go_round
          case rel => exact ⟨k + 1, by omega, by omega, by go_num⟩
          case measure => simp [intOf]; omega
      · go_wp2
        go_ret
        exact gpEnd_mk _ (fun h => by simp at h; omega)
    · go_wp2
      go_ret
      exact gpEnd_mk _ (fun h => by simp at h; omega)

/-- The pairs lie behind the slice's address. -/
def SlO (w : World) (a : Option Addr) (vs : List Ver) : Prop := 0 < vs.length → ∃ g o, a = some ⟨g, o, none⟩ ∧ SlA w g o vs
theorem SlO.kp0 {w w' : World} {a : Option Addr} {vs : List Ver} (h : SlO w a vs) (hk : Kp [] w w') : SlO w' a vs := fun hp => by
  obtain ⟨g, o, e, hs⟩ := h hp
  exact ⟨g, o, e, hs.kp hk (by simp)⟩
theorem slo_own {B n : Nat} {w : World} {a : Option Addr} {cap : Nat} {vs : List Ver} (h : w.ownsRow B 40 3 (.slice a n cap) n (vcells vs)) (hn : n = vs.length) : SlO w a vs := by
  intro hp
  rcases h.2 with ⟨e, _⟩ | ⟨g, c, cur, e, _⟩
  · simp only [Value.slice.injEq] at e; omega
  · simp only [Value.slice.injEq] at e
    obtain ⟨rfl, _, _⟩ := e
    refine ⟨g, 0, rfl, ?_⟩
    intro j u hu
    subst hn
    have := h.cellAt j (by rw [← vcells_length]; exact (List.getElem?_eq_some_iff.1 hu).1)
    rw [Nat.zero_add, this]; exact hu

set_option maxHeartbeats 400000 in
theorem same39 {vs : List Ver} (a a' : Option Addr) (cap cap' : Nat) (w : World) (h : SlO w a vs) (h' : SlO w a' vs) (hm : vs.length ≤ 1000) :
    Calls Try.prog 18 #[.slice a vs.length cap, .slice a' vs.length cap'] w fun e w' => e = .returned (.bool true) ∧ ∃ m, w' = w.drewN m := by
  have HS := hide h
  have HS' := hide h'
  clear h h'
  go_enter Try.func18, Try.ntmps18
  go_wp2_with fail
  go_loopw [5] (fun i wr => ∃ d m : Nat, d ≤ vs.length ∧ i = .int .i64 d ∧ wr = w.drewN m) (fun i _ => vs.length - (intOf i).toNat)
  case atStart => exact ⟨0, 0, Nat.zero_le _, rfl, rfl⟩
  case round =>
    obtain ⟨d, m, hd, rfl, rfl⟩ := hrel
    by_cases hlt : d < vs.length
    · obtain ⟨g, o, rfl, hs⟩ := unhide HS (by omega)
      obtain ⟨g', o', rfl, hs'⟩ := unhide HS' (by omega)
      have q0 := hs.at0 d hlt
      have q1 := hs.at1 d hlt
      have q2 : w.cell? ⟨g, o + d * 3 + 1 + 1, none⟩ = some (.string (vb vs d)) := hs.at2 d hlt
      have p0 := hs'.at0 d hlt
      have p1 := hs'.at1 d hlt
      have p2 : w.cell? ⟨g', o' + d * 3 + 1 + 1, none⟩ = some (.string (vb vs d)) := hs'.at2 d hlt
      have i0 : (0 : Int) ≤ (d : Int) := by omega
      have i1 : (d : Int) < (vs.length : Int) := by omega
      clear hs hs'
      go_wp2_with fail
      go_quiet (fail)
      go_wp2
      exact ⟨⟨d + 1, m + nq, by omega, by go_num, rfl⟩, by simp [intOf]; omega⟩
    · go_wp2
      go_ret
      exact ⟨rfl, _, rfl⟩

end Go.Proofs.Ytfcfoabdangfhab
