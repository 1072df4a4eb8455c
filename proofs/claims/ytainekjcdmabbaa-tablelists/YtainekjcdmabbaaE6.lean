/- What tableBegun asks of a table, call by call. -/
import Derived.Test.YtainekjcdmabbaaE5
namespace Go.Proofs.Ytainekjcdmabbaa
open Go.RowKit
set_option maxRecDepth 20000
attribute [local go_sem ↓] Go.wp_at_zero Go.wp_at_succ

def px : ByteArray := ⟨#[120]⟩
def bP1 : List Ver := [⟨2, true, px⟩]
def bP2 : List Ver := [⟨2, false, ByteArray.empty⟩]
def bF1 : Nat → List Ver := wst (fun _ => [dv]) 0 bP1
def bF2 : Nat → List Ver := wst bF1 1 bP2
theorem bc1 : wcode 0 bP1 = 0 := by decide
theorem bn1 : wnum 0 bP1 = 1 := by decide
theorem bm1 : wn 0 bP1 = 1 := by decide
theorem bc2 : wcode 1 bP2 = 0 := by decide
theorem bn2 : wnum 1 bP2 = 2 := by decide
theorem bm2 : wn 1 bP2 = 2 := by decide
theorem bf2 : bF2 2 = [dv, ⟨1, true, px⟩, ⟨2, false, ByteArray.empty⟩] := by rfl
theorem br : tr bF2 2 2 1 = ⟨0, true, px⟩ := by rfl
theorem bl : lst bF2 2 0 7 1 = ([⟨2, true, px⟩], 0) := by rfl
theorem bs2 : snc bF2 2 = 2 := by decide
theorem bs8 : snc bF2 8 = -1 := by decide
theorem bfm : fmx bF2 8 = 0 := by decide
theorem bck : pf (-1) [⟨9, false, ByteArray.empty⟩] = 1 := by decide

theorem pxs : px.size ≤ maxLen := by unfold maxLen; decide
theorem emps : ByteArray.empty.size ≤ maxLen := by unfold maxLen; decide

structure Beg (w0 w : World) (tb p : Nat) : Prop where
  tbx : Tbx w0 w tb bF2 2 []
  c0 : w.cell? ⟨p, 0, none⟩ = some (.bool true)
  c1 : w.cell? ⟨p, 1, none⟩ = some (.string ⟨#[120]⟩)
theorem Beg.kp0 {w0 w w' : World} {tb p : Nat} (h : Beg w0 w tb p) (hk : Kp [] w w') : Beg w0 w' tb p :=
  ⟨h.tbx.kp0 hk, hk.cell (p := ⟨p, 0, none⟩) (by simp) h.c0, hk.cell (p := ⟨p, 1, none⟩) (by simp) h.c1⟩

theorem beg_has {w0 W : World} {tb p : Nat} (h : Beg w0 W tb p) : Calls Try.prog 74 #[.string ⟨#[120]⟩] W fun e w' => e = .returned (.agg #[.bool true, .string ⟨#[120]⟩]) ∧ Hid (Beg w0 w' tb p) := by
  refine (has24 _ W).mono ?_
  rintro e w' ⟨rfl, hk⟩
  exact ⟨rfl, h.kp0 hk⟩
theorem beg_since2 {w0 W : World} {tb p : Nat} (h : Beg w0 W tb p) : Calls Try.prog 44 #[.pointer (some ⟨tb, 0, none⟩), .int .i64 2] W fun e w' => e = .returned (.int .i64 2) ∧ Hid (Beg w0 w' tb p) := by
  refine (tbx_since 2 h.tbx 2 bs2).mono ?_
  rintro e w' ⟨rfl, _, hk⟩
  exact ⟨rfl, h.kp0 hk⟩
theorem beg_since8 {w0 W : World} {tb p : Nat} (h : Beg w0 W tb p) : Calls Try.prog 44 #[.pointer (some ⟨tb, 0, none⟩), .int .i64 8] W fun e w' => e = .returned (.int .i64 (-1)) ∧ Hid (Beg w0 w' tb p) := by
  refine (tbx_since 8 h.tbx (-1) bs8).mono ?_
  rintro e w' ⟨rfl, _, hk⟩
  exact ⟨rfl, h.kp0 hk⟩
theorem beg_last {w0 W : World} {tb p : Nat} (h : Beg w0 W tb p) : Calls Try.prog 42 #[.pointer (some ⟨tb, 0, none⟩)] W fun e w' => e = .returned (.int .i64 2) ∧ Hid (Beg w0 w' tb p) := by
  refine (tbx_last h.tbx).mono ?_
  rintro e w' ⟨rfl, rfl⟩
  exact ⟨rfl, h⟩
theorem beg_first {w0 W : World} {tb p : Nat} (h : Beg w0 W tb p) : Calls Try.prog 46 #[.pointer (some ⟨tb, 0, none⟩)] W fun e w' => e = .returned (.int .i64 0) ∧ Hid (Beg w0 w' tb p) := by
  refine (tbx_first h.tbx 0 bfm).mono ?_
  rintro e w' ⟨rfl, rfl⟩
  exact ⟨rfl, h⟩
theorem beg_check {w0 W : World} {tb p : Nat} (h : Beg w0 W tb p) : Calls Try.prog 40 #[.slice (some ⟨W.heap.size, 0, none⟩) 1 1] (W.alloc (.cells #[.int .i64 9, .bool false, .string ⟨#[]⟩] 72)) fun e w' => e = .returned (.int .i64 1) ∧ Hid (Beg w0 w' tb p) := by
  refine (tcheck36 (some ⟨W.heap.size, 0, none⟩) 1 [⟨9, false, ByteArray.empty⟩] _ (prs_one 9 false ByteArray.empty emps (heap_alloc_new _ _)) (by simp)).mono ?_
  rintro e w' ⟨rfl, hk⟩
  exact ⟨by rw [bck], h.kp0 (((Kp.refl [] W).alloc _).trans0 hk)⟩

theorem beg_read {w0 W : World} {tb : Nat} (h : Tbx w0 W tb bF2 2 []) : Calls Try.prog 36 #[.pointer (some ⟨tb, 0, none⟩), .int .i64 2, .int .i64 1] W fun e w' => e = .returned (.tuple #[.agg #[.bool true, .string ⟨#[120]⟩], .int .i64 0]) ∧ Hid (Tbx w0 w' tb bF2 2 []) := by
  refine (tbx_read 2 1 h _ br).mono ?_
  rintro e w' ⟨rfl, h1, _⟩
  exact ⟨rfl, h1⟩
theorem beg_list {w0 W : World} {tb p : Nat} (h : Beg w0 W tb p) : Calls Try.prog 38 #[.pointer (some ⟨tb, 0, none⟩), .int .i64 0, .int .i64 7, .int .i64 1] W fun e w' => ∃ a cap, e = .returned (.tuple #[.slice a 1 cap, .int .i64 0]) ∧ Hid (Beg w0 w' tb p) := by
  refine (tbx_list 0 7 1 h.tbx _ bl).mono ?_
  rintro e w' ⟨a, cap, rfl, _, _, hk⟩
  exact ⟨a, cap, rfl, h.kp0 hk⟩
theorem beg_mk {w0 w5 : World} {tb : Nat} (h : Tbx w0 w5 tb bF2 2 []) : Beg w0 (w5.alloc (.cells #[.bool true, .string ⟨#[120]⟩] 24)) tb w5.heap.size :=
  ⟨h.kp0 ((Kp.refl [] w5).alloc _), by simp, by simp⟩
end Go.Proofs.Ytainekjcdmabbaa
