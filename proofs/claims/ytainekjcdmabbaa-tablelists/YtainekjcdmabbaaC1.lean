/- The chain's own functions, each by a contract: Key, Check, First, Last, the search, Clone, New, List. -/
import Derived.Test.YtainekjcdmabbaaRows
import Derived.Test.YtainekjcdmabbaaBase
import Derived.BigQuiet
import Derived.Deep.RegionHeld3
import Derived.Deep.DrawnRows
namespace Go.Proofs.Ytainekjcdmabbaa
open Go.RowKit
set_option maxRecDepth 20000
attribute [local go_sem ↓] Go.wp_at_zero Go.wp_at_succ

theorem ret_int {k : IntKind} {a b : Int} (h : a = b) : Ending.returned (.int k a) = .returned (.int k b) := by rw [h]
theorem ret_bool {a b : Bool} (h : a = b) : Ending.returned (.bool a) = .returned (.bool b) := by rw [h]
theorem wrap_i64_id (x : Int) (h1 : -9223372036854775808 ≤ x) (h2 : x < 9223372036854775808) : IntKind.i64.wrap x = x := by rw [IntKind.wrap_i64]; omega

theorem isEmpty_bytes (s : ByteArray) : s.toList.isEmpty = decide (s.size = 0) := by
  rw [ByteArray.toList_eq]
  obtain ⟨⟨x⟩⟩ := s
  cases x <;> simp [ByteArray.size]

def keyB (k : Int) : Bool := decide (0 ≤ k ∧ k < 8)
set_option maxHeartbeats 400000 in
theorem key11 (k : Int) (w : World) :
    Calls Try.prog 20 #[.int .i64 k] w fun e w' => e = .returned (.bool (keyB k)) ∧ w' = w := by
  go_enter Try.func20, Try.ntmps20
  go_wp2
  all_goals
    go_ret
    exact ⟨ret_bool (by unfold keyB; simp; try omega), rfl⟩
set_option maxHeartbeats 400000 in
theorem key12 (k : Int) (w : World) :
    Calls Try.prog 21 #[.int .i64 k] w fun e w' => e = .returned (.bool (keyB k)) ∧ w' = w := by
  go_enter Try.func21, Try.ntmps21
  go_wp2
  all_goals
    go_ret
    exact ⟨ret_bool (by unfold keyB; simp; try omega), rfl⟩

theorem chk_long {t : Bool} {s : ByteArray} (h : 12 < (s.size : Int)) : 2 = chk t s := by unfold chk; rw [if_pos (by omega)]
theorem chk_true {s : ByteArray} (h : (s.size : Int) ≤ 12) : 0 = chk true s := by unfold chk; rw [if_neg (by omega)]; simp
theorem chk_form {s : ByteArray} (h : (s.size : Int) ≤ 12) (h2 : (!s.toList.isEmpty) = true) : 4 = chk false s := by
  rw [isEmpty_bytes] at h2
  simp only [Bool.not_eq_true', decide_eq_false_iff_not] at h2
  unfold chk; rw [if_neg (by omega), if_pos ⟨rfl, by omega⟩]
theorem chk_none {s : ByteArray} (h2 : (!s.toList.isEmpty) = false) : 0 = chk false s := by
  rw [isEmpty_bytes] at h2
  simp at h2
  subst h2
  rfl
set_option maxHeartbeats 400000 in
theorem check13 (t : Bool) (s : ByteArray) (w : World) (_hs : s.size ≤ maxLen) :
    Calls Try.prog 22 #[.agg #[.bool t, .string s]] w fun e w' => e = .returned (.int .i64 (chk t s)) ∧ Kp [] w w' := by
  go_enter Try.func22, Try.ntmps22
  go_wp2
  all_goals
    go_ret
    refine ⟨ret_int ?_, (Kp.refl _ _).alloc _⟩
    first | exact chk_long (by assumption) | (rw [show t = true by assumption]; exact chk_true (by assumption)) | (rw [show t = false by simpa using ‹¬ t = true›]; first | (exact chk_form (by assumption) (by assumption)) | (exact chk_none (by assumption)))

set_option maxHeartbeats 400000 in
theorem fault14 (t : Bool) (s : ByteArray) (w : World) (hs : s.size ≤ maxLen) :
    Calls Try.prog 23 #[.agg #[.bool t, .string s]] w fun e w' => e = .returned (.int .i64 (chk t s)) ∧ Kp [] w w' := by
  unfold maxLen at hs
  go_enter Try.func23, Try.ntmps23
  go_wp2
  all_goals
    go_ret
    refine ⟨ret_int ?_, (Kp.refl _ _).alloc _⟩
    simp_all [chk]
    try omega

set_option maxHeartbeats 400000 in
theorem first17 {B b g cap : Nat} {vs : List Ver} (w : World) (h : Chn B w b g cap vs) :
    Calls Try.prog 26 #[.pointer (some ⟨b, 0, none⟩)] w fun e w' => e = .returned (.int .i64 (va vs 0)) ∧ w' = w := by
  have h1 := h.cell
  have h2 := h.sla.at0 0 h.pos
  have h3 := h.pos
  clear h
  generalize va vs 0 = x at *
  generalize vs.length = n at *
  simp only [Nat.zero_mul, Nat.add_zero] at h2
  go_enter Try.func26, Try.ntmps26
  go_wp2
  go_ret
  exact ⟨rfl, rfl⟩

set_option maxHeartbeats 400000 in
theorem last15 {B b g cap : Nat} {vs : List Ver} (w : World) (h : Chn B w b g cap vs) (hm : vs.length ≤ 1000) :
    Calls Try.prog 24 #[.pointer (some ⟨b, 0, none⟩)] w fun e w' => e = .returned (.int .i64 (va vs (vs.length - 1))) ∧ ∃ m, w' = w.drewN m := by
  have h1 := h.cell
  have h3 := h.pos
  have h2 := h.sla.at0 (vs.length - 1) (by omega)
  clear h
  generalize va vs (vs.length - 1) = x at *
  generalize vs.length = n at *
  rw [Nat.zero_add] at h2
  have hw : IntKind.i64.wrap ((n : Int) - 1) = ((n - 1 : Nat) : Int) := by rw [wrap_i64_id _ (by omega) (by omega)]; omega
  have k1 : (0 : Int) ≤ ((n - 1 : Nat) : Int) := by omega
  have k2 : ((n - 1 : Nat) : Int) < (n : Int) := by omega
  go_enter Try.func24, Try.ntmps24
  go_wp2
  go_quiet (fail)
  go_wp2
  go_ret
  exact ⟨rfl, _, rfl⟩

set_option maxHeartbeats 400000 in
theorem clo31 {B b g cap : Nat} {vs : List Ver} (p q k : Nat) (y : Int) (w : World) (h : Chn B w b g cap vs) (hk : k < vs.length)
    (h3 : w.cell? ⟨p, 0, none⟩ = some (.pointer (some ⟨b, 0, none⟩))) (h4 : w.cell? ⟨q, 0, none⟩ = some (.int .i64 y)) :
    Calls Try.prog 83 #[.int .i64 k, .pointer (some ⟨p, 0, none⟩), .pointer (some ⟨q, 0, none⟩)] w fun e w' => e = .returned (.bool (decide (y < va vs k))) ∧ ∃ m, w' = w.drewN m := by
  have h1 := h.cell
  have h2 := h.sla.at0 k hk
  clear h
  generalize va vs k = x at *
  generalize vs.length = n at *
  rw [Nat.zero_add] at h2
  have k1 : (0 : Int) ≤ (k : Int) := by omega
  have k2 : (k : Int) < (n : Int) := by omega
  go_enter Try.func83, Try.ntmps83
  go_wp2
  go_quiet (fail)
  go_wp2
  go_ret
  exact ⟨rfl, _, rfl⟩

theorem cnt_of {vs : List Ver} {y : Int} {a : Nat} (ha : a ≤ vs.length) (h1 : ∀ k, k < a → va vs k ≤ y) (h2 : ∀ k, a ≤ k → k < vs.length → y < va vs k) : IsCnt vs y a := ⟨ha, h1, h2⟩
set_option maxHeartbeats 400000 in
theorem search30 {B b g cap : Nat} {vs : List Ver} (p q : Nat) (y : Int) (w : World) (h : Chn B w b g cap vs) (hr : Rise vs) (hm : vs.length ≤ 1000)
    (h3 : w.cell? ⟨p, 0, none⟩ = some (.pointer (some ⟨b, 0, none⟩))) (h4 : w.cell? ⟨q, 0, none⟩ = some (.int .i64 y)) :
    Calls Try.prog 82 #[.int .i64 vs.length, .func (.func 83) #[] #[.pointer (some ⟨p, 0, none⟩), .pointer (some ⟨q, 0, none⟩)]] w fun e w' => ∃ c : Nat, IsCnt vs y c ∧ e = .returned (.int .i64 c) ∧ ∃ m, w' = w.drewN m := by
  have HC := hide h
  have H3 := hide h3
  have H4 := hide h4
  have HR := hide hr
  clear h h3 h4 hr
  go_enter Try.func82, Try.ntmps82
  go_wp2
  go_loopw [5, 6, 7] (fun i j _ wr => ∃ a z m : Nat, a ≤ z ∧ z ≤ vs.length ∧ i = .int .i64 a ∧ j = .int .i64 z ∧ wr = w.drewN m ∧ Hid (∀ k, k < a → va vs k ≤ y) ∧ Hid (∀ k, z ≤ k → k < vs.length → y < va vs k)) (fun i j _ _ => (intOf j).toNat - (intOf i).toNat)
  case atStart => exact ⟨0, vs.length, 0, Nat.zero_le _, Nat.le_refl _, rfl, rfl, rfl, (fun k hk => by omega), (fun k h1 h2 => by omega)⟩
  case round =>
    obtain ⟨a, z, m, haz, hz, rfl, rfl, rfl, HL, HH⟩ := hrel
    by_cases hlt : a < z
    · go_wp2_with fail
      rw [show ((a : Int) + z) / 2 = (((a + z) / 2 : Nat) : Int) from by omega]
      refine (clo31 p q ((a + z) / 2) y _ ((unhide HC).drewN m) (by omega) (unhide H3) (unhide H4)).mono ?_
      rintro e w' ⟨rfl, m2, rfl⟩
      by_cases hy : y < va vs ((a + z) / 2)
      · rw [decide_eq_true hy]
        have HY := hide hy
        clear hy
        go_wp2
        go_roundw
        case rel => exact ⟨a, (a + z) / 2, m + m2, by omega, by omega, rfl, rfl, by simp, HL, fun k h1 h2 => by have := (unhide HR).le h1 h2; have := unhide HY; omega⟩
        case measure => simp [intOf]; omega
      · rw [decide_eq_false hy]
        have HY := hide hy
        clear hy
        go_wp2
        go_roundw
        case rel => exact ⟨(a + z) / 2 + 1, z, m + m2, by omega, by omega, by go_num, rfl, by simp, (fun k h1 => by have := (unhide HR).le (show k ≤ (a + z) / 2 by omega) (by omega); have := unhide HY; omega), HH⟩
        case measure => simp [intOf]; omega
    · go_wp2
      go_ret
      have e : a = z := by omega
      subst e
      exact ⟨a, cnt_of hz (unhide HL) (unhide HH), rfl, m, rfl⟩

set_option maxHeartbeats 400000 in
theorem count28 {B b g cap : Nat} {vs : List Ver} (y : Int) (w : World) (h : Chn B w b g cap vs) (hr : Rise vs) (hm : vs.length ≤ 1000) :
    Calls Try.prog 78 #[.pointer (some ⟨b, 0, none⟩), .int .i64 y] w fun e w' => ∃ c : Nat, IsCnt vs y c ∧ e = .returned (.int .i64 c) ∧ Kp [] w w' := by
  have hmf : ∀ (fn : Fn) (first cap : Array Value) (w : World), (Instr.makeFunc fn first cap).run Try.prog w = .ok (.func fn first cap) w := fun _ _ _ _ => rfl
  have h1 := h.cell
  have h2 := h.blt
  have HC := hide h
  have HR := hide hr
  clear h hr
  go_enter Try.func78, Try.ntmps78
  go_wp2_with fail
  refine (search30 w.heap.size (w.heap.size + 1) y _ ((unhide HC).kp (((Kp.refl [] w).alloc _).alloc _) (by simp) (by simp)) (unhide HR) hm (by simp) (by simp)).mono ?_
  rintro e w' ⟨c, hc, rfl, m, rfl⟩
  have HCN := hide hc
  clear hc
  go_wp2
  go_ret
  exact ⟨c, unhide HCN, rfl, (((Kp.refl [] w).alloc _).alloc _).drewN m⟩

theorem addr_add (g o j : Nat) : (⟨g, o, none⟩ : Addr).add j = ⟨g, o + j, none⟩ := by unfold Addr.add; split <;> simp_all
theorem SlA.news {w : World} {g o : Nat} {vs : List Ver} (h : SlA w g o vs) : ∀ j u, (vcells vs)[j]? = some u → w.cell? ((⟨g, o, none⟩ : Addr).add j) = some u := fun j u hu => by
  rw [addr_add]; exact h j u hu
theorem sla_own {B : Nat} {w : World} {g cap : Nat} {vs : List Ver} (h : w.ownsRow B 41 3 (.slice (some ⟨g, 0, none⟩) vs.length cap) vs.length (vcells vs)) : SlA w g 0 vs := by
  intro j u hu
  have := h.cellAt j (by rw [← vcells_length]; exact (List.getElem?_eq_some_iff.1 hu).1)
  rw [Nat.zero_add, this]; exact hu

theorem Try.info41 : (Try.prog.info? 41).map (fun i => (i.zero, i.size, i.bytes)) = some (some (.agg #[.int .i64 0, .bool false, .string ByteArray.empty]), 3, 32) := by kernel_rfl

set_option maxHeartbeats 400000 in
theorem clone29 {vs : List Ver} (g o cap : Nat) (w : World) (h : SlA w g o vs) (hp : 0 < vs.length) (hm : vs.length ≤ 1000) :
    Calls Try.prog 79 #[.slice (some ⟨g, o, none⟩) vs.length cap] w fun e w' => ∃ g' cap', e = .returned (.slice (some ⟨g', 0, none⟩) vs.length cap') ∧ w.heap.size ≤ g' ∧ w'.ownsRow w.heap.size 41 3 (.slice (some ⟨g', 0, none⟩) vs.length cap') vs.length (vcells vs) ∧ Kp [] w w' := by
  obtain ⟨i0, hi0, hz0, hz1, hz2⟩ := info_parts Try.info41
  have hnil := fun wx a n c n' c' => Lib.run_eql_slice_nil (P := Try.prog) wx 28 41 a n c n' c' Try.underlying28
  have HS := hide (h.kp ((Kp.refl [] w).alloc (.cells #[] 41)) (by simp))
  have HO := hide (World.ownsRow_made (base := w.heap.size) (e := 41) (size := 3) w #[] 0 (Nat.le_refl _) (Nat.zero_le _) rfl)
  clear h
  go_enter Try.func79, Try.ntmps79
  go_wp2_with (at_builtin; refine wpList_append_lies _ rfl _ _ 28 rfl w.heap.size 41 i0 _ 3 32 Try.underlying28 hi0 hz0 hz1 hz2 rfl (by omega) (.slice (some ⟨w.heap.size, 0, none⟩) 0 0) 0 [] rfl (unhide HO) ⟨g, o, none⟩ vs.length cap (vcells vs) rfl (vcells_length vs) (unhide HS).news (vcells_one vs) hp (by unfold maxLen; omega) (by omega) (by simp) _ rfl ?_; intro g2 cap2 w1 hown hgrow hat hlt)
  have HW := hide hown
  have HG := hide hgrow
  have HT := hide hat
  clear hown hgrow hat
  go_wp2
  go_ret
  have hw := unhide HW
  simp only [Nat.zero_add, List.nil_append] at hw
  refine ⟨g2, cap2, by simp, ?_, hw, ((Kp.refl [] w).alloc _).grown (unhide HG) (fun k hk => ?_)⟩
  · exact (hw.lt g2 rfl).1
  · have e : w.heap.size = k := by simpa [Value.ownBlock] using hk
    right; omega

theorem chn_new (w : World) : Chn w.heap.size ((w.alloc (.cells #[.int .i64 0, .bool false, .string ByteArray.empty] 41)).alloc (.cells #[.slice (some ⟨w.heap.size, 0, none⟩) 1 1] 108)) (w.heap.size + 1) w.heap.size 1 [dv] := by
  refine ⟨?_, ?_, by omega, by omega, by simp⟩
  · exact (World.ownsRow_lit (base := w.heap.size) (e := 41) (size := 3) w #[.int .i64 0, .bool false, .string ByteArray.empty] 1 (Nat.le_refl _) (by unfold maxLen; omega) rfl).alloc _
  · have := heap_alloc_new (w.alloc (.cells #[.int .i64 0, .bool false, .string ByteArray.empty] 41)) (.cells #[.slice (some ⟨w.heap.size, 0, none⟩) 1 1] 108)
    simpa using this

set_option maxHeartbeats 400000 in
theorem new23 (w : World) :
    Calls Try.prog 73 #[] w fun e w' => e = .returned (.pointer (some ⟨w.heap.size + 1, 0, none⟩)) ∧ Chn w.heap.size w' (w.heap.size + 1) w.heap.size 1 [dv] ∧ Kp [] w w' := by
  go_enter Try.func73, Try.ntmps73
  go_wp2
  go_ret
  exact ⟨rfl, chn_new w, ((Kp.refl [] w).alloc _).alloc _⟩

set_option maxHeartbeats 400000 in
theorem list20 {B b g cap : Nat} {vs : List Ver} (w : World) (h : Chn B w b g cap vs) (hm : vs.length ≤ 1000) :
    Calls Try.prog 29 #[.pointer (some ⟨b, 0, none⟩)] w fun e w' => ∃ g' cap', e = .returned (.slice (some ⟨g', 0, none⟩) vs.length cap') ∧ w.heap.size ≤ g' ∧ SlA w' g' 0 vs ∧ Kp [] w w' := by
  have h1 := h.cell
  have HS := hide h.sla
  have hp := h.pos
  clear h
  go_enter Try.func29, Try.ntmps29
  go_wp2_with fail
  refine (clone29 g 0 cap _ (unhide HS) hp hm).mono ?_
  rintro e w' ⟨g', cap', rfl, hg', hown, hk⟩
  have HW := hide hown
  have HK := hide hk
  clear hown hk
  go_wp2
  go_ret
  exact ⟨g', cap', rfl, hg', sla_own (unhide HW), unhide HK⟩

end Go.Proofs.Ytainekjcdmabbaa
