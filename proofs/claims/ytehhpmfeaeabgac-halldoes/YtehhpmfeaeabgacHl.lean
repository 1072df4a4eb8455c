/- A hall's log; five answers in a variable. -/
import Derived.Test.YtehhpmfeaeabgacM7
namespace Go.Proofs.Ytehhpmfeaeabgac
open Go.RowKit
set_option maxRecDepth 20000
attribute [local go_sem ↓] Go.wp_at_zero Go.wp_at_succ

section
variable {w0 w : World} {hb vb tb gb : Nat} {h : HSt} {st : Nat → Sd} {r : List Thing}
theorem h_log {bs : List UInt8} (hb0 : lb h.cs ++ [] = bs) (hz : Hall w0 w hb vb tb gb h st r) : Calls Try.prog 32 #[.pointer (some ⟨vb, 0, none⟩)] w fun e w' => BtEnd bs w e w' := by
  obtain ⟨F, ⟨Ft, Fg, k⟩, _⟩ := zoo_at0 hz.vlt
  subst hb0
  exact vlog w k
end
/-- Five answers. -/
def bl (f : Nat → Bool) : Array Value := #[.bool (f 0), .bool (f 1), .bool (f 2), .bool (f 3), .bool (f 4)]
theorem bl_at (f : Nat → Bool) {k : Nat} (hk : k < 5) : (bl f)[k]? = some (.bool (f k)) := by
  rcases (show k = 0 ∨ k = 1 ∨ k = 2 ∨ k = 3 ∨ k = 4 by omega) with e | e | e | e | e <;> subst e <;> rfl
theorem bl_set (f : Nat → Bool) {k : Nat} (hk : k < 5) (b : Bool) : (bl f).setIfInBounds k (.bool b) = bl (upd f k b) := by
  rcases (show k = 0 ∨ k = 1 ∨ k = 2 ∨ k = 3 ∨ k = 4 by omega) with e | e | e | e | e <;> subst e <;> rfl
/-- The first k seats: whether each has a deed. -/
def fb (st : Nat → Sd) (k : Nat) : Nat → Bool := fun s => decide (s < k) && (st s).isSome
theorem fb_zero (st : Nat → Sd) : bl (fb st 0) = #[.bool false, .bool false, .bool false, .bool false, .bool false] := by simp [bl, fb]
theorem fb_succ (st : Nat → Sd) (k : Nat) : upd (fb st k) k (st k).isSome = fb st (k + 1) := by
  funext s
  simp only [upd, fb]
  by_cases e : s = k
  · subst e; simp
  · rw [if_neg e]
    by_cases e2 : s < k
    · simp [e2, show s < k + 1 by omega]
    · simp [e2, show ¬ s < k + 1 by omega]
theorem fb_at (st : Nat → Sd) {s : Nat} (hs : s < 5) : fb st 5 s = (st s).isSome := by simp [fb, hs]
theorem Sts.some {st : Nat → Sd} {seat : Nat → Option Dp} (h : Sts st seat) (s : Nat) : (st s).isSome = (seat s).isSome := by
  rw [← h s]
  cases st s <;> rfl
end Go.Proofs.Ytehhpmfeaeabgac
