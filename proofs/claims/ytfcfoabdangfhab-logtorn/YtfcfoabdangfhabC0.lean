/- Key, Check and the document's, each by a contract. -/
import Derived.Test.YtfcfoabdangfhabRows
import Derived.Test.YtfcfoabdangfhabBase
import Derived.BigQuiet
import Derived.Deep.RegionHeld3
import Derived.Deep.DrawnRows
namespace Go.Proofs.Ytfcfoabdangfhab
open Go.RowKit
set_option maxRecDepth 20000
attribute [local go_sem ↓] Go.wp_at_zero Go.wp_at_succ

theorem ret_int {k : IntKind} {a b : Int} (h : a = b) : Ending.returned (.int k a) = .returned (.int k b) := by rw [h]
theorem ret_bool {a b : Bool} (h : a = b) : Ending.returned (.bool a) = .returned (.bool b) := by rw [h]
theorem wrap_i64_id (x : Int) (h1 : -9223372036854775808 ≤ x) (h2 : x < 9223372036854775808) : IntKind.i64.wrap x = x := by rw [IntKind.wrap_i64]; omega

theorem isEmpty_bytes (s : ByteArray) : s.toList.isEmpty = decide (s.size = 0) := by
  rw [ByteArray.toList_eq]
  obtain ⟨⟨x⟩⟩ := s
  cases x <;> simp [ByteArray.size]

def keyB (k : Int) : Bool := decide (0 ≤ k ∧ k < 8)
set_option maxHeartbeats 400000 in
theorem key11 (k : Int) (w : World) :
    Calls Try.prog 48 #[.int .i64 k] w fun e w' => e = .returned (.bool (keyB k)) ∧ w' = w := by
  go_enter Try.func48, Try.ntmps48
  go_wp2
  all_goals
    go_ret
    exact ⟨ret_bool (by unfold keyB; simp; try omega), rfl⟩
set_option maxHeartbeats 400000 in
theorem key12 (k : Int) (w : World) :
    Calls Try.prog 38 #[.int .i64 k] w fun e w' => e = .returned (.bool (keyB k)) ∧ w' = w := by
  go_enter Try.func38, Try.ntmps38
  go_wp2
  all_goals
    go_ret
    exact ⟨ret_bool (by unfold keyB; simp; try omega), rfl⟩

theorem chk_long {t : Bool} {s : ByteArray} (h : 12 < (s.size : Int)) : 2 = chk t s := by unfold chk; rw [if_pos (by omega)]
theorem chk_true {s : ByteArray} (h : (s.size : Int) ≤ 12) : 0 = chk true s := by unfold chk; rw [if_neg (by omega)]; simp
theorem chk_form {s : ByteArray} (h : (s.size : Int) ≤ 12) (h2 : (!s.toList.isEmpty) = true) : 4 = chk false s := by
  rw [isEmpty_bytes] at h2
  simp only [Bool.not_eq_true', decide_eq_false_iff_not] at h2
  unfold chk; rw [if_neg (by omega), if_pos ⟨rfl, by omega⟩]
theorem chk_none {s : ByteArray} (h2 : (!s.toList.isEmpty) = false) : 0 = chk false s := by
  rw [isEmpty_bytes] at h2
  simp at h2
  subst h2
  rfl
set_option maxHeartbeats 400000 in
theorem check13 (t : Bool) (s : ByteArray) (w : World) (_hs : s.size ≤ maxLen) :
    Calls Try.prog 53 #[.agg #[.bool t, .string s]] w fun e w' => e = .returned (.int .i64 (chk t s)) ∧ Kp [] w w' := by
  go_enter Try.func53, Try.ntmps53
  go_wp2
  all_goals
    go_ret
    refine ⟨ret_int ?_, (Kp.refl _ _).alloc _⟩
    first | exact chk_long (by assumption) | (rw [show t = true by assumption]; exact chk_true (by assumption)) | (rw [show t = false by simpa using ‹¬ t = true›]; first | (exact chk_form (by assumption) (by assumption)) | (exact chk_none (by assumption)))

set_option maxHeartbeats 400000 in
theorem fault14 (t : Bool) (s : ByteArray) (w : World) (hs : s.size ≤ maxLen) :
    Calls Try.prog 39 #[.agg #[.bool t, .string s]] w fun e w' => e = .returned (.int .i64 (chk t s)) ∧ Kp [] w w' := by
  unfold maxLen at hs
  go_enter Try.func39, Try.ntmps39
  go_wp2
  all_goals
    go_ret
    refine ⟨ret_int ?_, (Kp.refl _ _).alloc _⟩
    simp_all [chk]
    try omega

set_option maxHeartbeats 400000 in
theorem has24 (s : ByteArray) (w : World) :
    Calls Try.prog 35 #[.string s] w fun e w' => e = .returned (.agg #[.bool true, .string s]) ∧ Kp [] w w' := by
  go_enter Try.func35, Try.ntmps35
  go_wp2
  exact bodyPost_ret (v := .agg #[.bool true, .string s]) (by simp [results, Try.results35, go_sem]) rfl ⟨rfl, ((Kp.refl [] w).alloc _)⟩

theorem addr_add (g o j : Nat) : (⟨g, o, none⟩ : Addr).add j = ⟨g, o + j, none⟩ := by unfold Addr.add; split <;> simp_all
theorem SlA.news {w : World} {g o : Nat} {vs : List Ver} (h : SlA w g o vs) : ∀ j u, (vcells vs)[j]? = some u → w.cell? ((⟨g, o, none⟩ : Addr).add j) = some u := fun j u hu => by
  rw [addr_add]; exact h j u hu

end Go.Proofs.Ytfcfoabdangfhab
