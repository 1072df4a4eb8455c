/- Parts of bytes, and as a string; readPair, by its contract. -/
import Derived.Test.YtfcfoabdangfhabQ3
namespace Go.Proofs.Ytfcfoabdangfhab
open Go.RowKit
set_option maxRecDepth 20000
attribute [local go_sem ↓] Go.wp_at_zero Go.wp_at_succ

theorem elem_u8 : Try.prog.elem 23 = 5 := by simp [Program.elem, Try.underlying23]
theorem size_u8 (W : World) : (sizeOf 5).run Try.prog W = .ok 1 W := by
  obtain ⟨i0, hi0, hz0, hz1, hz2⟩ := info_parts Try.info5
  simp [sizeOf, typeInfo, hi0, hz1]
theorem under_u8 : Try.prog.underlying 23 = some (.slice (Try.prog.elem 23)) := by rw [elem_u8]; exact Try.underlying23

/-- The bytes of a part lie where the part does. -/
theorem sliced_byt {w : World} {a : Option Addr} {bs : List UInt8} (h : Byt w a bs) {l k c : Nat} (hlk : l ≤ k) (hk : k ≤ bs.length) (hc : bs.length ≤ c) : Byt w (if c = l then a else a.map (·.add (l * 1))) ((bs.take k).drop l) := by
  intro hp
  have hp' : l < k := by simp at hp; omega
  rw [if_neg (by omega)]
  obtain ⟨g, o, rfl, hs⟩ := h (by omega)
  exact ⟨g, o + l, by simp [addr_add], (hs.take k).drop l⟩

/-- 'b[l:k]'. -/
theorem part_lh {w : World} {a : Option Addr} {bs : List UInt8} (h : Byt w a bs) (l k c n : Nat) (hlk : l ≤ k) (hk : k ≤ bs.length) (hc : bs.length ≤ c) (x y : Int) (hx : x = l) (hy : y = k) :
    ∃ a', (∀ W, (Instr.slice 23 (.slice a n c) (some (.int .i64 x)) (some (.int .i64 y)) none).run Try.prog W = .ok (.slice a' (k - l) (c - l)) W) ∧ Byt w a' ((bs.take k).drop l) := by
  refine ⟨_, fun W => ?_, sliced_byt h hlk hk hc⟩
  subst hx hy
  rw [run_slice_lh W 23 a n c under_u8 .i64 .i64 _ _ (by omega) (by omega) (by omega), elem_u8, size_u8]
  simp [Result.andThen, sliced]
/-- 'b[l:]'. -/
theorem part_l {w : World} {a : Option Addr} {bs : List UInt8} (h : Byt w a bs) (l c n : Nat) (hn : n = bs.length) (hl : l ≤ bs.length) (hc : bs.length ≤ c) (x : Int) (hx : x = l) :
    ∃ a', (∀ W, (Instr.slice 23 (.slice a n c) (some (.int .i64 x)) none none).run Try.prog W = .ok (.slice a' (n - l) (c - l)) W) ∧ Byt w a' (bs.drop l) := by
  refine ⟨_, fun W => ?_, by have := sliced_byt h hl (Nat.le_refl _) hc; rwa [List.take_length] at this⟩
  subst hx
  rw [run_slice_l W 23 a n c under_u8 .i64 _ (by omega) (by omega), elem_u8, size_u8]
  simp [Result.andThen, sliced]
/-- 'b[:k]'. -/
theorem part_h {w : World} {a : Option Addr} {bs : List UInt8} (h : Byt w a bs) (k c n : Nat) (hk : k ≤ bs.length) (hc : bs.length ≤ c) (x : Int) (hx : x = k) :
    ∃ a', (∀ W, (Instr.slice 23 (.slice a n c) none (some (.int .i64 x)) none).run Try.prog W = .ok (.slice a' k c) W) ∧ Byt w a' (bs.take k) := by
  refine ⟨_, fun W => ?_, sliced_byt h (Nat.zero_le _) hk hc⟩
  subst hx
  rw [run_slice_h W 23 a n c under_u8 .i64 _ (by omega) (by omega), elem_u8, size_u8]
  simp [Result.andThen, sliced]

/-- 'string(b)'. -/
theorem str_of {w : World} {a : Option Addr} {bs : List UInt8} (h : Byt w a bs) (n c : Nat) (hn : n = bs.length) (W : World) (hk : Kp [] w W) : (convert 23 9 (.slice a n c)).run Try.prog W = .ok (.string ⟨bs.toArray⟩) W := by
  subst hn
  have hb := h.kp0 hk
  cases a with
  | none =>
    have e : bs = [] := by
      rcases Nat.eq_zero_or_pos bs.length with e | e
      · exact List.eq_nil_of_length_eq_zero e
      · obtain ⟨g, o, e2, _⟩ := h e
        cases e2
    subst e
    show (convert 23 9 (.slice none 0 c)).run Try.prog W = _
    rw [run_convert_bytes_string W 23 9 5 none 0 c Try.underlying23 Try.underlying5 Try.underlying9]
    rfl
  | some ad =>
    refine run_convert_bytes_back W 23 9 5 ad c bs Try.underlying23 Try.underlying5 Try.underlying9 (fun j hj => ?_)
    obtain ⟨g, o, e, hs⟩ := hb (by omega)
    cases e
    rw [addr_add, hs j hj]
    simp [ub, List.getD_eq_getElem?_getD, List.getElem?_eq_getElem hj]

/-- What readPair tells: the pair, how many bytes, whether it is one. -/
def rd1 (bs : List UInt8) : Ver × Nat × Bool :=
  if bs.length < 2 then (dv, 0, false)
  else if ub bs 1 = 255 then (⟨ub bs 0, false, ByteArray.empty⟩, 2, true)
  else if bs.length < 2 + ub bs 1 then (dv, 0, false)
  else (⟨ub bs 0, true, ⟨((bs.take (2 + ub bs 1)).drop 2).toArray⟩⟩, 2 + ub bs 1, true)

theorem kp_set3 {w W : World} {u0 u1 u2 : Value} (h : Kp [] w W) : Kp [] w (((W.setCell ⟨w.heap.size, 0, none⟩ u0).setCell ⟨w.heap.size, 1, none⟩ u1).setCell ⟨w.heap.size, 2, none⟩ u2) :=
  ((h.setCell (.inr (Nat.le_refl _)) _).setCell (.inr (Nat.le_refl _)) _).setCell (.inr (Nat.le_refl _)) _
def Rd1End (R : Ver × Nat × Bool) (w : World) (e : Ending) (w' : World) : Prop :=
  e = .returned (.tuple #[.agg #[.int .i64 R.1.a, .bool R.1.t, .string R.1.s], .int .i64 R.2.1, .bool R.2.2]) ∧ Kp [] w w'

set_option maxHeartbeats 1000000 in
theorem readPair23 (a : Option Addr) (n c : Nat) (bs : List UInt8) (w : World) (h : Byt w a bs) (hn : n = bs.length) (hc : n ≤ c) (hm : bs.length ≤ 10000) :
    Calls Try.prog 54 #[.slice a n c] w fun e w' => Rd1End (rd1 bs) w e w' := by
  by_cases h2 : bs.length < 2
  · have e1 : rd1 bs = (dv, 0, false) := by unfold rd1; rw [if_pos h2]
    rw [e1]
    have hn2 : n < 2 := by omega
    clear h e1 hn
    go_enter Try.func54, Try.ntmps54
    go_wp2_with fail
    exact bodyPost_ret (v := .tuple #[.agg #[.int .i64 0, .bool false, .string ByteArray.empty], .int .i64 0, .bool false]) (by simp [results, Try.results54, go_sem]; rfl) rfl ⟨rfl, (Kp.refl [] w).alloc _⟩
  · obtain ⟨g, o, rfl, hs⟩ := h (by omega)
    have q0 := hs 0 (by omega)
    have q1 := hs 1 (by omega)
    have hg : g < w.heap.size := World.block_lt_of_cell? w _ q0
    have u0 := ub_lt bs 0
    have u1 := ub_lt bs 1
    have HB := hide h
    have hn2 : ¬ n < 2 := by omega
    have i0 : (0 : Int) < (n : Int) := by omega
    have i1 : (1 : Int) < (n : Int) := by omega
    have j0 : 0 < n := by omega
    have j1 : 1 < n := by omega
    have HN := hide hn
    have HC := hide hc
    simp only [Nat.add_zero] at q0
    clear h hs hn hc
    by_cases h255 : ub bs 1 = 255
    · have e1 : rd1 bs = (⟨ub bs 0, false, ByteArray.empty⟩, 2, true) := by unfold rd1; rw [if_neg h2, if_pos h255]
      rw [e1]
      rw [h255] at q1
      clear e1 h255 u1
      generalize ub bs 0 = x at *
      go_enter Try.func54, Try.ntmps54
      go_wp2_with fail
      go_quiet (fail)
      go_wp2_with fail
      exact bodyPost_ret (v := .tuple #[.agg #[.int .i64 x, .bool false, .string ByteArray.empty], .int .i64 2, .bool true]) (by simp [results, Try.results54, go_sem]; rfl) rfl ⟨rfl, kp_set3 (((Kp.refl [] w).alloc _).drewN _)⟩
    · by_cases hl : bs.length < 2 + ub bs 1
      · have e1 : rd1 bs = (dv, 0, false) := by unfold rd1; rw [if_neg h2, if_neg h255, if_pos hl]
        rw [e1]
        have k0 : (n : Int) < 2 + (ub bs 1 : Nat) := by have := unhide HN; omega
        have k1 : ¬ ((ub bs 1 : Nat) : Int) = 255 := by omega
        clear e1 h255 hl
        generalize ub bs 0 = x at *
        generalize ub bs 1 = l at *
        go_enter Try.func54, Try.ntmps54
        go_wp2_with fail
        go_quiet (fail)
        go_wp2_with fail
        exact bodyPost_ret (v := .tuple #[.agg #[.int .i64 0, .bool false, .string ByteArray.empty], .int .i64 0, .bool false]) (by simp [results, Try.results54, go_sem]; rfl) rfl ⟨rfl, kp_set3 (((Kp.refl [] w).alloc _).drewN _)⟩
      · have e1 : rd1 bs = (⟨ub bs 0, true, ⟨((bs.take (2 + ub bs 1)).drop 2).toArray⟩⟩, 2 + ub bs 1, true) := by unfold rd1; rw [if_neg h2, if_neg h255, if_neg hl]
        rw [e1]
        have k0 : ¬ (n : Int) < 2 + (ub bs 1 : Nat) := by have := unhide HN; omega
        have k1 : ¬ ((ub bs 1 : Nat) : Int) = 255 := by omega
        have k2 : 2 + ub bs 1 ≤ c := by have := unhide HN; have := unhide HC; omega
        obtain ⟨a2, hsl, hb2⟩ := part_lh (unhide HB) 2 (2 + ub bs 1) c n (by omega) (by omega) (by have := unhide HN; have := unhide HC; omega) 2 (2 + (ub bs 1 : Nat)) rfl (by omega)
        have e2 : 2 + ub bs 1 - 2 = ub bs 1 := by omega
        rw [e2] at hsl
        have hl2 : ub bs 1 = ((bs.take (2 + ub bs 1)).drop 2).length := by simp; omega
        have hcv := fun m => str_of hb2 (ub bs 1) (c - 2) hl2 ((w.alloc (.cells #[.int .i64 0, .bool false, .string ⟨#[]⟩] 40)).drewN m) (((Kp.refl [] w).alloc _).drewN m)
        clear e1 e2 h255 hl hl2 hb2
        generalize (bs.take (2 + ub bs 1)).drop 2 = sb at *
        generalize ub bs 0 = x at *
        generalize ub bs 1 = l at *
        go_enter Try.func54, Try.ntmps54
        go_wp2_with fail
        go_quiet (fail)
        go_wp2_with fail
        exact bodyPost_ret (v := .tuple #[.agg #[.int .i64 x, .bool true, .string ⟨sb.toArray⟩], .int .i64 (2 + l : Nat), .bool true]) (by simp [results, Try.results54, go_sem]) rfl ⟨rfl, (kp_set3 (((Kp.refl [] w).alloc _).drewN _)).alloc _⟩
end Go.Proofs.Ytfcfoabdangfhab
