/- The chain's own functions, each by a contract: Key, Check, First, Last, the search, Clone, New, List. -/
import Derived.Test.YtfcfoabdangfhabC0
import Derived.Test.YtfcfoabdangfhabChn
namespace Go.Proofs.Ytfcfoabdangfhab
open Go.RowKit
set_option maxRecDepth 20000
attribute [local go_sem ↓] Go.wp_at_zero Go.wp_at_succ

set_option maxHeartbeats 400000 in
theorem first17 {B b g cap : Nat} {vs : List Ver} (w : World) (h : Chn B w b g cap vs) :
    Calls Try.prog 57 #[.pointer (some ⟨b, 0, none⟩)] w fun e w' => e = .returned (.int .i64 (va vs 0)) ∧ w' = w := by
  have h1 := h.cell
  have h2 := h.sla.at0 0 h.pos
  have h3 := h.pos
  clear h
  generalize va vs 0 = x at *
  generalize vs.length = n at *
  simp only [Nat.zero_mul, Nat.add_zero] at h2
  go_enter Try.func57, Try.ntmps57
  go_wp2
  go_ret
  exact ⟨rfl, rfl⟩

set_option maxHeartbeats 400000 in
theorem last15 {B b g cap : Nat} {vs : List Ver} (w : World) (h : Chn B w b g cap vs) (hm : vs.length ≤ 1000) :
    Calls Try.prog 60 #[.pointer (some ⟨b, 0, none⟩)] w fun e w' => e = .returned (.int .i64 (va vs (vs.length - 1))) ∧ ∃ m, w' = w.drewN m := by
  have h1 := h.cell
  have h3 := h.pos
  have h2 := h.sla.at0 (vs.length - 1) (by omega)
  clear h
  generalize va vs (vs.length - 1) = x at *
  generalize vs.length = n at *
  rw [Nat.zero_add] at h2
  have hw : IntKind.i64.wrap ((n : Int) - 1) = ((n - 1 : Nat) : Int) := by rw [wrap_i64_id _ (by omega) (by omega)]; omega
  have k1 : (0 : Int) ≤ ((n - 1 : Nat) : Int) := by omega
  have k2 : ((n - 1 : Nat) : Int) < (n : Int) := by omega
  go_enter Try.func60, Try.ntmps60
  go_wp2
  go_quiet (fail)
  go_wp2
  go_ret
  exact ⟨rfl, _, rfl⟩

set_option maxHeartbeats 400000 in
theorem clo31 {B b g cap : Nat} {vs : List Ver} (p q k : Nat) (y : Int) (w : World) (h : Chn B w b g cap vs) (hk : k < vs.length)
    (h3 : w.cell? ⟨p, 0, none⟩ = some (.pointer (some ⟨b, 0, none⟩))) (h4 : w.cell? ⟨q, 0, none⟩ = some (.int .i64 y)) :
    Calls Try.prog 62 #[.int .i64 k, .pointer (some ⟨p, 0, none⟩), .pointer (some ⟨q, 0, none⟩)] w fun e w' => e = .returned (.bool (decide (y < va vs k))) ∧ ∃ m, w' = w.drewN m := by
  have h1 := h.cell
  have h2 := h.sla.at0 k hk
  clear h
  generalize va vs k = x at *
  generalize vs.length = n at *
  rw [Nat.zero_add] at h2
  have k1 : (0 : Int) ≤ (k : Int) := by omega
  have k2 : (k : Int) < (n : Int) := by omega
  go_enter Try.func62, Try.ntmps62
  go_wp2
  go_quiet (fail)
  go_wp2
  go_ret
  exact ⟨rfl, _, rfl⟩

theorem cnt_of {vs : List Ver} {y : Int} {a : Nat} (ha : a ≤ vs.length) (h1 : ∀ k, k < a → va vs k ≤ y) (h2 : ∀ k, a ≤ k → k < vs.length → y < va vs k) : IsCnt vs y a := ⟨ha, h1, h2⟩
set_option maxHeartbeats 400000 in
theorem search30 {B b g cap : Nat} {vs : List Ver} (p q : Nat) (y : Int) (w : World) (h : Chn B w b g cap vs) (hr : Rise vs) (hm : vs.length ≤ 1000)
    (h3 : w.cell? ⟨p, 0, none⟩ = some (.pointer (some ⟨b, 0, none⟩))) (h4 : w.cell? ⟨q, 0, none⟩ = some (.int .i64 y)) :
    Calls Try.prog 61 #[.int .i64 vs.length, .func (.func 62) #[] #[.pointer (some ⟨p, 0, none⟩), .pointer (some ⟨q, 0, none⟩)]] w fun e w' => ∃ c : Nat, IsCnt vs y c ∧ e = .returned (.int .i64 c) ∧ ∃ m, w' = w.drewN m := by
  have HC := hide h
  have H3 := hide h3
  have H4 := hide h4
  have HR := hide hr
  clear h h3 h4 hr
  go_enter Try.func61, Try.ntmps61
  go_wp2
  go_loopw [5, 6, 7] (fun i j _ wr => ∃ a z m : Nat, a ≤ z ∧ z ≤ vs.length ∧ i = .int .i64 a ∧ j = .int .i64 z ∧ wr = w.drewN m ∧ Hid (∀ k, k < a → va vs k ≤ y) ∧ Hid (∀ k, z ≤ k → k < vs.length → y < va vs k)) (fun i j _ _ => (intOf j).toNat - (intOf i).toNat)
  case atStart => exact ⟨0, vs.length, 0, Nat.zero_le _, Nat.le_refl _, rfl, rfl, rfl, (fun k hk => by omega), (fun k h1 h2 => by omega)⟩
  case round =>
    obtain ⟨a, z, m, haz, hz, rfl, rfl, rfl, HL, HH⟩ := hrel
    by_cases hlt : a < z
    · go_wp2_with fail
      rw [show ((a : Int) + z) / 2 = (((a + z) / 2 : Nat) : Int) from by omega]
      refine (clo31 p q ((a + z) / 2) y _ ((unhide HC).drewN m) (by omega) (unhide H3) (unhide H4)).mono ?_
      rintro e w' ⟨rfl, m2, rfl⟩
      by_cases hy : y < va vs ((a + z) / 2)
      · rw [decide_eq_true hy]
        have HY := hide hy
        clear hy
        go_wp2
        go_roundw
        case rel => exact ⟨a, (a + z) / 2, m + m2, by omega, by omega, rfl, rfl, by simp, HL, fun k h1 h2 => by have := (unhide HR).le h1 h2; have := unhide HY; omega⟩
        case measure => simp [intOf]; omega
      · rw [decide_eq_false hy]
        have HY := hide hy
        clear hy
        go_wp2
        go_roundw
        case rel => exact ⟨(a + z) / 2 + 1, z, m + m2, by omega, by omega, by go_num, rfl, by simp, (fun k h1 => by have := (unhide HR).le (show k ≤ (a + z) / 2 by omega) (by omega); have := unhide HY; omega), HH⟩
        case measure => simp [intOf]; omega
    · go_wp2
      go_ret
      have e : a = z := by omega
      subst e
      exact ⟨a, cnt_of hz (unhide HL) (unhide HH), rfl, m, rfl⟩

set_option maxHeartbeats 400000 in
theorem count28 {B b g cap : Nat} {vs : List Ver} (y : Int) (w : World) (h : Chn B w b g cap vs) (hr : Rise vs) (hm : vs.length ≤ 1000) :
    Calls Try.prog 58 #[.pointer (some ⟨b, 0, none⟩), .int .i64 y] w fun e w' => ∃ c : Nat, IsCnt vs y c ∧ e = .returned (.int .i64 c) ∧ Kp [] w w' := by
  have hmf : ∀ (fn : Fn) (first cap : Array Value) (w : World), (Instr.makeFunc fn first cap).run Try.prog w = .ok (.func fn first cap) w := fun _ _ _ _ => rfl
  have h1 := h.cell
  have h2 := h.blt
  have HC := hide h
  have HR := hide hr
  clear h hr
  go_enter Try.func58, Try.ntmps58
  go_wp2_with fail
  refine (search30 w.heap.size (w.heap.size + 1) y _ ((unhide HC).kp (((Kp.refl [] w).alloc _).alloc _) (by simp) (by simp)) (unhide HR) hm (by simp) (by simp)).mono ?_
  rintro e w' ⟨c, hc, rfl, m, rfl⟩
  have HCN := hide hc
  clear hc
  go_wp2
  go_ret
  exact ⟨c, unhide HCN, rfl, (((Kp.refl [] w).alloc _).alloc _).drewN m⟩

theorem sla_own {B : Nat} {w : World} {g cap : Nat} {vs : List Ver} (h : w.ownsRow B 96 3 (.slice (some ⟨g, 0, none⟩) vs.length cap) vs.length (vcells vs)) : SlA w g 0 vs := by
  intro j u hu
  have := h.cellAt j (by rw [← vcells_length]; exact (List.getElem?_eq_some_iff.1 hu).1)
  rw [Nat.zero_add, this]; exact hu

theorem Try.info96 : (Try.prog.info? 96).map (fun i => (i.zero, i.size, i.bytes)) = some (some (.agg #[.int .i64 0, .bool false, .string ByteArray.empty]), 3, 32) := by kernel_rfl

theorem chn_new (w : World) : Chn w.heap.size ((w.alloc (.cells #[.int .i64 0, .bool false, .string ByteArray.empty] 96)).alloc (.cells #[.slice (some ⟨w.heap.size, 0, none⟩) 1 1] 98)) (w.heap.size + 1) w.heap.size 1 [dv] := by
  refine ⟨?_, ?_, by omega, by omega, by simp⟩
  · exact (World.ownsRow_lit (base := w.heap.size) (e := 96) (size := 3) w #[.int .i64 0, .bool false, .string ByteArray.empty] 1 (Nat.le_refl _) (by unfold maxLen; omega) rfl).alloc _
  · have := heap_alloc_new (w.alloc (.cells #[.int .i64 0, .bool false, .string ByteArray.empty] 96)) (.cells #[.slice (some ⟨w.heap.size, 0, none⟩) 1 1] 98)
    simpa using this

set_option maxHeartbeats 400000 in
theorem new23 (w : World) :
    Calls Try.prog 55 #[] w fun e w' => e = .returned (.pointer (some ⟨w.heap.size + 1, 0, none⟩)) ∧ Chn w.heap.size w' (w.heap.size + 1) w.heap.size 1 [dv] ∧ Kp [] w w' := by
  go_enter Try.func55, Try.ntmps55
  go_wp2
  go_ret
  exact ⟨rfl, chn_new w, ((Kp.refl [] w).alloc _).alloc _⟩

end Go.Proofs.Ytfcfoabdangfhab
