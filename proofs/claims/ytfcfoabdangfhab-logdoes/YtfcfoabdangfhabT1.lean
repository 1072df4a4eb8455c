/- A table's memory; Last, Since, Read and First of a table, by their contracts. -/
import Derived.Test.YtfcfoabdangfhabT0
import Derived.Test.YtfcfoabdangfhabOwn
namespace Go.Proofs.Ytfcfoabdangfhab
open Go.RowKit
set_option maxRecDepth 20000
attribute [local go_sem ↓] Go.wp_at_zero Go.wp_at_succ

/-- Eight cells and a number: a table's box, and a sheet's. -/
def tcells (p : Nat → Value) (n : Int) : Array Value := #[p 0, p 1, p 2, p 3, p 4, p 5, p 6, p 7, .int .i64 n]

theorem lt8 {k : Nat} (h : k < 8) : k = 0 ∨ k = 1 ∨ k = 2 ∨ k = 3 ∨ k = 4 ∨ k = 5 ∨ k = 6 ∨ k = 7 := by omega
theorem tcells_at (p : Nat → Value) (n : Int) {k : Nat} (hk : k < 8) : (tcells p n)[k]? = some (p k) := by
  rcases lt8 hk with rfl | rfl | rfl | rfl | rfl | rfl | rfl | rfl <;> rfl
theorem tcells_n (p : Nat → Value) (n : Int) : (tcells p n)[8]? = some (.int .i64 n) := rfl
theorem tcells_set (p : Nat → Value) (n : Int) {k : Nat} (hk : k < 8) (v : Value) : (tcells p n).setIfInBounds k v = tcells (upd p k v) n := by
  rcases lt8 hk with rfl | rfl | rfl | rfl | rfl | rfl | rfl | rfl <;> rfl
theorem tcells_setn (p : Nat → Value) (n m : Int) : (tcells p n).setIfInBounds 8 (.int .i64 m) = tcells p m := rfl
theorem tcells_congr {p q : Nat → Value} (n : Int) (h : ∀ k, k < 8 → p k = q k) : tcells p n = tcells q n := by
  unfold tcells
  rw [h 0 (by omega), h 1 (by omega), h 2 (by omega), h 3 (by omega), h 4 (by omega), h 5 (by omega), h 6 (by omega), h 7 (by omega)]


def pcell (b : Nat → Nat) : Nat → Value := fun k => .pointer (some ⟨b k, 0, none⟩)

/-- A table's memory: the box tb holds the boxes of the chains and the number of commits; F: all blocks that are the table's own. -/
structure TblL (B : Nat) (w : World) (tb : Nat) (F : List Nat) (b g cap : Nat → Nat) (f : Nat → List Ver) (n : Nat) : Prop where
  box : w.heap[tb]? = some (.cells (tcells (pcell b) n) 88 (0, 0))
  chn : ∀ k, k < 8 → Chn B w (b k) (g k) (cap k) (f k)
  bb : ∀ j k, j < 8 → k < 8 → j ≠ k → b j ≠ b k
  gg : ∀ j k, j < 8 → k < 8 → j ≠ k → g j ≠ g k
  bg : ∀ j k, j < 8 → k < 8 → b j ≠ g k
  tne : ∀ k, k < 8 → tb ≠ b k ∧ tb ≠ g k
  tF : tb ∈ F
  bF : ∀ k, k < 8 → b k ∈ F
  gF : ∀ k, k < 8 → g k ∈ F
  lo : ∀ x, x ∈ F → B ≤ x ∧ x < w.heap.size
  inv : Inv f n
  hB : B ≤ w.heap.size
def Tbl (B : Nat) (w : World) (tb : Nat) (F : List Nat) (f : Nat → List Ver) (n : Nat) : Prop := ∃ b g cap, TblL B w tb F b g cap f n

theorem TblL.kp {B : Nat} {w w' : World} {tb : Nat} {F S : List Nat} {b g cap : Nat → Nat} {f : Nat → List Ver} {n : Nat} (h : TblL B w tb F b g cap f n) (hk : Kp S w w') (hS : ∀ x, x ∈ F → x ∉ S) : TblL B w' tb F b g cap f n :=
  ⟨by rw [hk.block tb (h.lo tb h.tF).2 (hS _ h.tF)]; exact h.box, fun k hk8 => (h.chn k hk8).kp hk (hS _ (h.bF k hk8)) (hS _ (h.gF k hk8)), h.bb, h.gg, h.bg, h.tne, h.tF, h.bF, h.gF, fun x hx => ⟨(h.lo x hx).1, Nat.lt_of_lt_of_le (h.lo x hx).2 hk.size⟩, h.inv, Nat.le_trans h.hB hk.size⟩
theorem Tbl.kp {B : Nat} {w w' : World} {tb : Nat} {F S : List Nat} {f : Nat → List Ver} {n : Nat} (h : Tbl B w tb F f n) (hk : Kp S w w') (hS : ∀ x, x ∈ F → x ∉ S) : Tbl B w' tb F f n := by
  obtain ⟨b, g, cap, h⟩ := h
  exact ⟨b, g, cap, h.kp hk hS⟩
theorem Tbl.kp0 {B : Nat} {w w' : World} {tb : Nat} {F : List Nat} {f : Nat → List Ver} {n : Nat} (h : Tbl B w tb F f n) (hk : Kp [] w w') : Tbl B w' tb F f n := h.kp hk (fun _ _ => by simp)
theorem Tbl.inv {B : Nat} {w : World} {tb : Nat} {F : List Nat} {f : Nat → List Ver} {n : Nat} (h : Tbl B w tb F f n) : Inv f n := by
  obtain ⟨b, g, cap, h⟩ := h
  exact h.inv
theorem Tbl.lo {B : Nat} {w : World} {tb : Nat} {F : List Nat} {f : Nat → List Ver} {n : Nat} (h : Tbl B w tb F f n) : ∀ x, x ∈ F → B ≤ x ∧ x < w.heap.size := by
  obtain ⟨b, g, cap, h⟩ := h
  exact h.lo
theorem TblL.ncell {B : Nat} {w : World} {tb : Nat} {F : List Nat} {b g cap : Nat → Nat} {f : Nat → List Ver} {n : Nat} (h : TblL B w tb F b g cap f n) : w.cell? ⟨tb, 8, none⟩ = some (.int .i64 n) := cell_of_block h.box (tcells_n _ _)
theorem TblL.kcell {B : Nat} {w : World} {tb : Nat} {F : List Nat} {b g cap : Nat → Nat} {f : Nat → List Ver} {n k : Nat} (h : TblL B w tb F b g cap f n) (hk : k < 8) : w.cell? ⟨tb, k, none⟩ = some (.pointer (some ⟨b k, 0, none⟩)) := cell_of_block h.box (tcells_at _ _ hk)

theorem keyB_nat {k : Int} (h : keyB k = true) : ∃ j : Nat, j < 8 ∧ k = (j : Int) := by
  simp [keyB] at h
  exact ⟨k.toNat, by omega, by omega⟩

set_option maxHeartbeats 400000 in
theorem tlast38 {B tb n : Nat} {F : List Nat} {f : Nat → List Ver} (w : World) (h : Tbl B w tb F f n) :
    Calls Try.prog 27 #[.pointer (some ⟨tb, 0, none⟩)] w fun e w' => e = .returned (.int .i64 n) ∧ w' = w := by
  obtain ⟨b, g, cap, h⟩ := h
  have q := h.ncell
  clear h
  go_enter Try.func27, Try.ntmps27
  go_wp2
  go_ret
  exact ⟨rfl, rfl⟩

set_option maxHeartbeats 400000 in
theorem tread32 {B tb n : Nat} {F : List Nat} {f : Nat → List Ver} (k y : Int) (w : World) (h : Tbl B w tb F f n) :
    Calls Try.prog 28 #[.pointer (some ⟨tb, 0, none⟩), .int .i64 k, .int .i64 y] w fun e w' => e = .returned (.tuple #[.agg #[.bool (tr f n k y).t, .string (tr f n k y).s], .int .i64 (tr f n k y).a]) ∧ Kp [] w w' := by
  obtain ⟨b, g, cap, h⟩ := h
  by_cases hk : keyB k = true
  · by_cases hy : y ≤ n
    · have hs : tr f n k y = rd3 (f k.toNat) y := by unfold tr; rw [if_pos ⟨hk, hy⟩]
      obtain ⟨j, hj, rfl⟩ := keyB_nat hk
      rw [hs, Int.toNat_natCast]
      have hlt := (h.lo tb h.tF).2
      have q := h.kcell hj
      have q8 := h.ncell
      have HC := hide (h.chn j hj)
      have HI := hide h.inv
      have hl := h.inv.len41 hj
      clear h hs
      have i0 : (0 : Int) ≤ (j : Int) := by omega
      have i1 : (j : Int) < 8 := by omega
      go_enter Try.func28, Try.ntmps28
      go_wp2_with fail
      refine (key11 _ _).mono ?_
      rintro e w' ⟨rfl, rfl⟩
      rw [hk]
      clear hk
      go_wp2_with fail
      refine (read9 y _ ((unhide HC).kp ((Kp.refl [] w).alloc _) (by simp) (by simp)) ((unhide HI).rise j hj) (by omega)).mono ?_
      rintro e w1 ⟨t, s, c, rfl, hrd, hkp⟩
      obtain ⟨rfl, rfl, rfl⟩ := rd3_of ((unhide HI).rise j hj) ((unhide HI).pos j hj) hrd
      have p0 : w1.cell? ⟨w.heap.size, 0, none⟩ = some (.bool false) := hkp.cell (by simp) (by simp)
      have p1 : w1.cell? ⟨w.heap.size, 1, none⟩ = some (.string ⟨#[]⟩) := hkp.cell (by simp) (by simp)
      have p2 : w1.frozen? ⟨w.heap.size, 0, none⟩ = false := by rw [hkp.frozen (by simp) (by simp)]; simp
      have p3 : w1.frozen? ⟨w.heap.size, 1, none⟩ = false := by rw [hkp.frozen (by simp) (by simp)]; simp
      have HK := hide hkp
      clear hrd hkp
      go_wp2
      refine bodyPost_ret (v := .tuple #[.agg #[.bool (rd3 (f j) y).t, .string (rd3 (f j) y).s], .int .i64 (rd3 (f j) y).a]) (by simp [results, Try.results28, go_sem, p0, p1]) rfl ⟨rfl, ?_⟩
      exact ((((Kp.refl [] w).alloc _).trans0 (unhide HK)).setCell (.inr (Nat.le_refl _)) _).setCell (.inr (Nat.le_refl _)) _
    · have hs : tr f n k y = ⟨1, false, ByteArray.empty⟩ := by unfold tr; rw [if_neg (fun h => hy h.2)]
      rw [hs]
      have q8 := h.ncell
      have hlt := (h.lo tb h.tF).2
      clear h hs
      go_enter Try.func28, Try.ntmps28
      go_wp2_with fail
      refine (key11 _ _).mono ?_
      rintro e w' ⟨rfl, rfl⟩
      rw [hk]
      clear hk
      go_wp2
      exact bodyPost_ret (v := .tuple #[.agg #[.bool false, .string ByteArray.empty], .int .i64 1]) (by simp [results, Try.results28, go_sem]; rfl) rfl ⟨rfl, ((Kp.refl [] w).alloc _)⟩
  · have hs : tr f n k y = ⟨1, false, ByteArray.empty⟩ := by unfold tr; rw [if_neg (fun h => hk h.1)]
    rw [hs]
    have hk2 : keyB k = false := by simpa using hk
    clear h hs hk
    go_enter Try.func28, Try.ntmps28
    go_wp2_with fail
    refine (key11 _ _).mono ?_
    rintro e w' ⟨rfl, rfl⟩
    rw [hk2]
    clear hk2
    go_wp2
    exact bodyPost_ret (v := .tuple #[.agg #[.bool false, .string ByteArray.empty], .int .i64 1]) (by simp [results, Try.results28, go_sem]; rfl) rfl ⟨rfl, ((Kp.refl [] w).alloc _)⟩

end Go.Proofs.Ytfcfoabdangfhab
