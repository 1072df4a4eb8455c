/- A log's memory; New, Len, Mend and Bytes of a log, by their contracts. -/
import Derived.Test.YtfcfoabdangfhabJ0
import Derived.Test.YtfcfoabdangfhabJ1
import Derived.Test.YtfcfoabdangfhabQ5
namespace Go.Proofs.Ytfcfoabdangfhab
open Go.RowKit
set_option maxRecDepth 20000
attribute [local go_sem ↓] Go.wp_at_zero Go.wp_at_succ

/-- A log's memory: the box gb holds its bytes, how many of them are whole commits, and how many commits; F: all blocks that are the log's own. -/
structure LgL (B : Nat) (w : World) (gb : Nat) (F : List Nat) (a : Option Addr) (cap : Nat) (cs : List (List Ver)) (torn : List UInt8) : Prop where
  box : w.heap[gb]? = some (.cells #[.slice a (lb cs ++ torn).length cap, .int .i64 (lb cs).length, .int .i64 cs.length] 82 (0, 0))
  own : OwnU B w a cap (lb cs ++ torn)
  ne : gb ∉ ob a
  gF : gb ∈ F
  aF : ∀ x, x ∈ ob a → x ∈ F
  lo : ∀ x, x ∈ F → B ≤ x ∧ x < w.heap.size
  inv : LInv cs
  tl : torn.length ≤ 114
  hB : B ≤ w.heap.size
def Lg (B : Nat) (w : World) (gb : Nat) (F : List Nat) (cs : List (List Ver)) (torn : List UInt8) : Prop := ∃ a cap, LgL B w gb F a cap cs torn

section
variable {B : Nat} {w w' : World} {gb : Nat} {F S : List Nat} {a : Option Addr} {cap : Nat} {cs : List (List Ver)} {torn : List UInt8}
theorem LgL.kp (h : LgL B w gb F a cap cs torn) (hk : Kp S w w') (hS : ∀ x, x ∈ F → x ∉ S) : LgL B w' gb F a cap cs torn :=
  ⟨by rw [hk.block gb (h.lo gb h.gF).2 (hS _ h.gF)]; exact h.box, h.own.kp hk (fun x hx => hS x (h.aF x hx)), h.ne, h.gF, h.aF, fun x hx => ⟨(h.lo x hx).1, Nat.lt_of_lt_of_le (h.lo x hx).2 hk.size⟩, h.inv, h.tl, Nat.le_trans h.hB hk.size⟩
theorem Lg.kp (h : Lg B w gb F cs torn) (hk : Kp S w w') (hS : ∀ x, x ∈ F → x ∉ S) : Lg B w' gb F cs torn := by
  obtain ⟨a, cap, h⟩ := h
  exact ⟨a, cap, h.kp hk hS⟩
theorem Lg.kp0 (h : Lg B w gb F cs torn) (hk : Kp [] w w') : Lg B w' gb F cs torn := h.kp hk (fun _ _ => by simp)
theorem Lg.lo (h : Lg B w gb F cs torn) : ∀ x, x ∈ F → B ≤ x ∧ x < w.heap.size := by
  obtain ⟨a, cap, h⟩ := h
  exact h.lo
theorem Lg.inv (h : Lg B w gb F cs torn) : LInv cs := by
  obtain ⟨a, cap, h⟩ := h
  exact h.inv
theorem Lg.base {C : Nat} (h : Lg B w gb F cs torn) (hC : C ≤ B) : Lg C w gb F cs torn := by
  obtain ⟨a, cap, h⟩ := h
  exact ⟨a, cap, h.box, h.own.base hC, h.ne, h.gF, h.aF, fun x hx => ⟨Nat.le_trans hC (h.lo x hx).1, (h.lo x hx).2⟩, h.inv, h.tl, Nat.le_trans hC h.hB⟩
theorem LgL.c0 (h : LgL B w gb F a cap cs torn) : w.cell? ⟨gb, 0, none⟩ = some (.slice a (lb cs ++ torn).length cap) := cell_of_block h.box rfl
theorem LgL.c1 (h : LgL B w gb F a cap cs torn) : w.cell? ⟨gb, 1, none⟩ = some (.int .i64 (lb cs).length) := cell_of_block h.box rfl
theorem LgL.c2 (h : LgL B w gb F a cap cs torn) : w.cell? ⟨gb, 2, none⟩ = some (.int .i64 cs.length) := cell_of_block h.box rfl
theorem LgL.fz (h : LgL B w gb F a cap cs torn) (i : Nat) : w.frozen? ⟨gb, i, none⟩ = false := frozen_of_block i h.box
end

set_option maxHeartbeats 400000 in
theorem lnew (w : World) : Calls Try.prog 41 #[] w fun e w' => e = .returned (.pointer (some ⟨w.heap.size, 0, none⟩)) ∧ Lg w.heap.size w' w.heap.size [w.heap.size] [] [] ∧ Kp [] w w' := by
  go_enter Try.func41, Try.ntmps41
  go_wp2
  go_ret
  refine ⟨rfl, ⟨none, 0, ?_, ownU_nil _ _, by simp [ob], by simp, by simp [ob], fun x hx => ?_, linv_nil, by simp, by simp⟩, (Kp.refl [] w).alloc _⟩
  · exact heap_alloc_new w _
  · simp at hx; subst hx; simp

set_option maxHeartbeats 400000 in
theorem llen {B gb : Nat} {F : List Nat} {cs : List (List Ver)} {torn : List UInt8} (w : World) (h : Lg B w gb F cs torn) :
    Calls Try.prog 22 #[.pointer (some ⟨gb, 0, none⟩)] w fun e w' => e = .returned (.int .i64 cs.length) ∧ w' = w := by
  obtain ⟨a, cap, h⟩ := h
  have q := h.c2
  clear h
  go_enter Try.func22, Try.ntmps22
  go_wp2
  go_ret
  exact ⟨rfl, rfl⟩

/-- 'b[:k]' of a row begins where it begins. -/
theorem own_part {B : Nat} {w : World} {a : Option Addr} {cap : Nat} {bs : List UInt8} (h : OwnU B w a cap bs) (k n : Nat) (hk : k ≤ bs.length) (x : Int) (hx : x = k) (W : World) :
    (Instr.slice 23 (.slice a n cap) none (some (.int .i64 x)) none).run Try.prog W = .ok (.slice a k cap) W := by
  subst hx
  have hc := h.le
  rw [run_slice_h W 23 a n cap under_u8 .i64 _ (by omega) (by omega), elem_u8, size_u8]
  rcases h.cases with ⟨rfl, rfl, rfl⟩ | ⟨g, rfl, _⟩
  · simp [Result.andThen, sliced]
  · simp [Result.andThen, sliced, addr_add]

theorem LgL.mend {B : Nat} {w : World} {gb : Nat} {F : List Nat} {a : Option Addr} {cap : Nat} {cs : List (List Ver)} {torn : List UInt8} (h : LgL B w gb F a cap cs torn) :
    LgL B (w.setCell ⟨gb, 0, none⟩ (.slice a (lb cs).length cap)) gb F a cap cs [] ∧ Kp F w (w.setCell ⟨gb, 0, none⟩ (.slice a (lb cs).length cap)) := by
  have hk : Kp [gb] w (w.setCell ⟨gb, 0, none⟩ (.slice a (lb cs).length cap)) := (Kp.refl [gb] w).setCell (.inl (by simp)) _
  refine ⟨⟨?_, ?_, h.ne, h.gF, h.aF, fun x hx => ⟨(h.lo x hx).1, Nat.lt_of_lt_of_le (h.lo x hx).2 hk.size⟩, h.inv, by simp, Nat.le_trans h.hB hk.size⟩, hk.mono (fun x hx => .inl (by rw [List.mem_singleton.1 hx]; exact h.gF))⟩
  · rw [heap_setCell_at 0 _ h.box, List.append_nil]
    rfl
  · have := (h.own.take (lb cs).length (by simp)).kp hk (fun x hx e => h.ne (by rw [← List.mem_singleton.1 e]; exact hx))
    rw [List.take_left] at this
    rw [List.append_nil]
    exact this

set_option maxHeartbeats 400000 in
theorem lmend {B gb : Nat} {F : List Nat} {cs : List (List Ver)} {torn : List UInt8} (w : World) (h : Lg B w gb F cs torn) :
    Calls Try.prog 32 #[.pointer (some ⟨gb, 0, none⟩)] w fun e w' => e = .returned (.int .i64 torn.length) ∧ Lg B w' gb F cs [] ∧ Kp F w w' := by
  obtain ⟨a, cap, h⟩ := h
  have q0 := h.c0
  have q1 := h.c1
  have f0 := h.fz 0
  have hsl := own_part h.own (lb cs).length (lb cs ++ torn).length (by simp) _ rfl
  have hb := h.inv.b3000
  have ht := h.tl
  have hl : (lb cs ++ torn).length = (lb cs).length + torn.length := by simp
  have HM : Hid (∀ W, Kp [] w W → Lg B (W.setCell ⟨gb, 0, none⟩ (.slice a (lb cs).length cap)) gb F cs [] ∧ Kp F w (W.setCell ⟨gb, 0, none⟩ (.slice a (lb cs).length cap))) := fun W hW => by
    obtain ⟨h1, h2⟩ := (h.kp hW (fun _ _ => by simp)).mend
    exact ⟨⟨a, cap, h1⟩, (hW.mono (fun x hx => by simp at hx)).trans h2 (fun x hx => .inl hx)⟩
  rw [hl] at q0 hsl
  clear h hl
  generalize (lb cs).length = n at *
  generalize hT : torn.length = t at *
  clear hT
  go_enter Try.func32, Try.ntmps32
  go_wp2_with fail
  go_quiet (fail)
  go_wp2_with fail
  go_region
  go_wp2_with fail
  go_ret
  obtain ⟨h1, h2⟩ := unhide HM _ ((Kp.refl [] w).drewN _).drew
  exact ⟨ret_int (by omega), h1, h2⟩

/-- A copy of bytes. -/
def BtEnd (bs : List UInt8) (w : World) (e : Ending) (w' : World) : Prop := ∃ a n cap, e = .returned (.slice a n cap) ∧ n = bs.length ∧ n ≤ cap ∧ Byt w' a bs ∧ Kp [] w w'

set_option maxHeartbeats 400000 in
theorem clone45 {B : Nat} {a : Option Addr} {cap : Nat} {bs : List UInt8} (w : World) (h : OwnU B w a cap bs) (hm : bs.length ≤ 10000) :
    Calls Try.prog 45 #[.slice a bs.length cap] w fun e w' => BtEnd bs w e w' := by
  have hnil := fun wx a n c n' c' => Lib.run_eql_slice_nil (P := Try.prog) wx 23 5 a n c n' c' Try.underlying23
  rcases h.cases with ⟨rfl, rfl, rfl⟩ | ⟨g, rfl, _, _, _⟩
  · clear h
    go_enter Try.func45, Try.ntmps45
    go_wp2
    go_ret
    exact ⟨none, 0, 0, rfl, rfl, by simp, byt_nil _ _, Kp.refl _ _⟩
  · have HB := hide (h.byt.kp0 ((Kp.refl [] w).alloc (.cells #[] 5)))
    clear h
    go_enter Try.func45, Try.ntmps45
    go_wp2_with (at_builtin; refine wpList_app0 (by rfl) (.tmp 5) (.tmp 6) 23 rfl _ (.slice (some ⟨g, 0, none⟩) bs.length cap) bs rfl rfl ((unhide HB).src cap) (by omega) ?_; intro a2 c2 n2 w2 hn2 hc2 hb2 hk2)
    go_ret
    exact ⟨a2, n2, c2, rfl, unhide hn2, unhide hc2, unhide hb2, ((Kp.refl [] w).alloc _).trans0 (unhide hk2)⟩

set_option maxHeartbeats 400000 in
theorem lbytes {B gb : Nat} {F : List Nat} {cs : List (List Ver)} {torn : List UInt8} (w : World) (h : Lg B w gb F cs torn) :
    Calls Try.prog 23 #[.pointer (some ⟨gb, 0, none⟩)] w fun e w' => BtEnd (lb cs ++ torn) w e w' := by
  obtain ⟨a, cap, h⟩ := h
  have q0 := h.c0
  have hl : (lb cs ++ torn).length ≤ 10000 := by have := h.inv.b3000; have := h.tl; simp; omega
  have HC := hide (clone45 w h.own hl)
  clear h
  generalize lb cs ++ torn = bs at *
  go_enter Try.func23, Try.ntmps23
  go_wp2_with fail
  refine (unhide HC).mono ?_
  rintro e w2 ⟨a2, n2, c2, rfl, hn2, hc2, hb2, hk2⟩
  have HE : Hid (BtEnd bs w (.returned (.slice a2 n2 c2)) w2) := ⟨a2, n2, c2, rfl, hn2, hc2, hb2, hk2⟩
  clear hn2 hc2 hb2 hk2
  go_wp2
  go_ret
  exact HE
end Go.Proofs.Ytfcfoabdangfhab
