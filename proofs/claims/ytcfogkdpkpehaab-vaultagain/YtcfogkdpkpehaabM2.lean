/- T1, T2, T5, T6, T7, Vv, D0, Cu, V1, Q1, Q2, J1, Pw, Q3, Q5, J2, Q4, Pq: bound together for a claim. -/
import Derived.Test.YtcfogkdpkpehaabM1
import Derived.Deep.AppendSrc
import Derived.Laws.IdiomStrings
import Derived.Deep.Upon
/- A table's memory; Last, Since, Read and First of a table, by their contracts. -/
namespace Go.Proofs.Ytcfogkdpkpehaab
open Go.RowKit
set_option maxRecDepth 20000
attribute [local go_sem ↓] Go.wp_at_zero Go.wp_at_succ

/-- Eight cells and a number: a table's box, and a sheet's. -/
def tcells (p : Nat → Value) (n : Int) : Array Value := #[p 0, p 1, p 2, p 3, p 4, p 5, p 6, p 7, .int .i64 n]

theorem lt8 {k : Nat} (h : k < 8) : k = 0 ∨ k = 1 ∨ k = 2 ∨ k = 3 ∨ k = 4 ∨ k = 5 ∨ k = 6 ∨ k = 7 := by omega
theorem tcells_at (p : Nat → Value) (n : Int) {k : Nat} (hk : k < 8) : (tcells p n)[k]? = some (p k) := by
  rcases lt8 hk with rfl | rfl | rfl | rfl | rfl | rfl | rfl | rfl <;> rfl
theorem tcells_n (p : Nat → Value) (n : Int) : (tcells p n)[8]? = some (.int .i64 n) := rfl
theorem tcells_set (p : Nat → Value) (n : Int) {k : Nat} (hk : k < 8) (v : Value) : (tcells p n).setIfInBounds k v = tcells (upd p k v) n := by
  rcases lt8 hk with rfl | rfl | rfl | rfl | rfl | rfl | rfl | rfl <;> rfl
theorem tcells_setn (p : Nat → Value) (n m : Int) : (tcells p n).setIfInBounds 8 (.int .i64 m) = tcells p m := rfl
theorem tcells_congr {p q : Nat → Value} (n : Int) (h : ∀ k, k < 8 → p k = q k) : tcells p n = tcells q n := by
  unfold tcells
  rw [h 0 (by omega), h 1 (by omega), h 2 (by omega), h 3 (by omega), h 4 (by omega), h 5 (by omega), h 6 (by omega), h 7 (by omega)]


def pcell (b : Nat → Nat) : Nat → Value := fun k => .pointer (some ⟨b k, 0, none⟩)

/-- A table's memory: the box tb holds the boxes of the chains and the number of commits; F: all blocks that are the table's own. -/
structure TblL (B : Nat) (w : World) (tb : Nat) (F : List Nat) (b g cap : Nat → Nat) (f : Nat → List Ver) (n : Nat) : Prop where
  box : w.heap[tb]? = some (.cells (tcells (pcell b) n) 118 (0, 0))
  chn : ∀ k, k < 8 → Chn B w (b k) (g k) (cap k) (f k)
  bb : ∀ j k, j < 8 → k < 8 → j ≠ k → b j ≠ b k
  gg : ∀ j k, j < 8 → k < 8 → j ≠ k → g j ≠ g k
  bg : ∀ j k, j < 8 → k < 8 → b j ≠ g k
  tne : ∀ k, k < 8 → tb ≠ b k ∧ tb ≠ g k
  tF : tb ∈ F
  bF : ∀ k, k < 8 → b k ∈ F
  gF : ∀ k, k < 8 → g k ∈ F
  lo : ∀ x, x ∈ F → B ≤ x ∧ x < w.heap.size
  inv : Inv f n
  hB : B ≤ w.heap.size
def Tbl (B : Nat) (w : World) (tb : Nat) (F : List Nat) (f : Nat → List Ver) (n : Nat) : Prop := ∃ b g cap, TblL B w tb F b g cap f n

theorem TblL.kp {B : Nat} {w w' : World} {tb : Nat} {F S : List Nat} {b g cap : Nat → Nat} {f : Nat → List Ver} {n : Nat} (h : TblL B w tb F b g cap f n) (hk : Kp S w w') (hS : ∀ x, x ∈ F → x ∉ S) : TblL B w' tb F b g cap f n :=
  ⟨by rw [hk.block tb (h.lo tb h.tF).2 (hS _ h.tF)]; exact h.box, fun k hk8 => (h.chn k hk8).kp hk (hS _ (h.bF k hk8)) (hS _ (h.gF k hk8)), h.bb, h.gg, h.bg, h.tne, h.tF, h.bF, h.gF, fun x hx => ⟨(h.lo x hx).1, Nat.lt_of_lt_of_le (h.lo x hx).2 hk.size⟩, h.inv, Nat.le_trans h.hB hk.size⟩
theorem Tbl.kp {B : Nat} {w w' : World} {tb : Nat} {F S : List Nat} {f : Nat → List Ver} {n : Nat} (h : Tbl B w tb F f n) (hk : Kp S w w') (hS : ∀ x, x ∈ F → x ∉ S) : Tbl B w' tb F f n := by
  obtain ⟨b, g, cap, h⟩ := h
  exact ⟨b, g, cap, h.kp hk hS⟩
theorem Tbl.kp0 {B : Nat} {w w' : World} {tb : Nat} {F : List Nat} {f : Nat → List Ver} {n : Nat} (h : Tbl B w tb F f n) (hk : Kp [] w w') : Tbl B w' tb F f n := h.kp hk (fun _ _ => by simp)
theorem Tbl.inv {B : Nat} {w : World} {tb : Nat} {F : List Nat} {f : Nat → List Ver} {n : Nat} (h : Tbl B w tb F f n) : Inv f n := by
  obtain ⟨b, g, cap, h⟩ := h
  exact h.inv
theorem Tbl.lo {B : Nat} {w : World} {tb : Nat} {F : List Nat} {f : Nat → List Ver} {n : Nat} (h : Tbl B w tb F f n) : ∀ x, x ∈ F → B ≤ x ∧ x < w.heap.size := by
  obtain ⟨b, g, cap, h⟩ := h
  exact h.lo
theorem Tbl.base {B C : Nat} {w : World} {tb : Nat} {F : List Nat} {f : Nat → List Ver} {n : Nat} (h : Tbl B w tb F f n) (hC : C ≤ B) : Tbl C w tb F f n := by
  obtain ⟨b, g, cap, h⟩ := h
  refine ⟨b, g, cap, h.box, fun k hk8 => ?_, h.bb, h.gg, h.bg, h.tne, h.tF, h.bF, h.gF, fun x hx => ⟨Nat.le_trans hC (h.lo x hx).1, (h.lo x hx).2⟩, h.inv, Nat.le_trans hC h.hB⟩
  have hc := h.chn k hk8
  exact ⟨own_base hc.own hC, hc.box, hc.ne, Nat.le_trans hC hc.hb, hc.pos⟩
theorem TblL.ncell {B : Nat} {w : World} {tb : Nat} {F : List Nat} {b g cap : Nat → Nat} {f : Nat → List Ver} {n : Nat} (h : TblL B w tb F b g cap f n) : w.cell? ⟨tb, 8, none⟩ = some (.int .i64 n) := cell_of_block h.box (tcells_n _ _)
theorem TblL.kcell {B : Nat} {w : World} {tb : Nat} {F : List Nat} {b g cap : Nat → Nat} {f : Nat → List Ver} {n k : Nat} (h : TblL B w tb F b g cap f n) (hk : k < 8) : w.cell? ⟨tb, k, none⟩ = some (.pointer (some ⟨b k, 0, none⟩)) := cell_of_block h.box (tcells_at _ _ hk)

theorem keyB_nat {k : Int} (h : keyB k = true) : ∃ j : Nat, j < 8 ∧ k = (j : Int) := by
  simp [keyB] at h
  exact ⟨k.toNat, by omega, by omega⟩

set_option maxHeartbeats 400000 in
theorem tlast38 {B tb n : Nat} {F : List Nat} {f : Nat → List Ver} (w : World) (h : Tbl B w tb F f n) :
    Calls Try.prog 31 #[.pointer (some ⟨tb, 0, none⟩)] w fun e w' => e = .returned (.int .i64 n) ∧ w' = w := by
  obtain ⟨b, g, cap, h⟩ := h
  have q := h.ncell
  clear h
  go_enter Try.func31, Try.ntmps31
  go_wp2
  go_ret
  exact ⟨rfl, rfl⟩

set_option maxHeartbeats 400000 in
theorem tsince40 {B tb n : Nat} {F : List Nat} {f : Nat → List Ver} (k : Int) (w : World) (h : Tbl B w tb F f n) :
    Calls Try.prog 109 #[.pointer (some ⟨tb, 0, none⟩), .int .i64 k] w fun e w' => e = .returned (.int .i64 (snc f k)) ∧ Kp [] w w' := by
  obtain ⟨b, g, cap, h⟩ := h
  by_cases hk : keyB k = true
  · have hs : snc f k = va (f k.toNat) ((f k.toNat).length - 1) := by unfold snc; rw [if_pos hk]
    obtain ⟨j, hj, rfl⟩ := keyB_nat hk
    rw [hs, Int.toNat_natCast]
    have q := h.kcell hj
    have HC := hide (h.chn j hj)
    have hl := h.inv.len41 hj
    clear h hs
    have i0 : (0 : Int) ≤ (j : Int) := by omega
    have i1 : (j : Int) < 8 := by omega
    go_enter Try.func109, Try.ntmps109
    go_wp2_with fail
    refine (key11 _ w).mono ?_
    rintro e w' ⟨rfl, rfl⟩
    rw [hk]
    clear hk
    go_wp2_with fail
    refine (last15 _ (unhide HC) (by omega)).mono ?_
    rintro e w' ⟨rfl, m, rfl⟩
    go_wp2
    go_ret
    exact ⟨rfl, (Kp.refl [] _).drewN m⟩
  · have hs : snc f k = -1 := by unfold snc; rw [if_neg hk]
    rw [hs]
    have hk2 : keyB k = false := by simpa using hk
    clear h hs hk
    go_enter Try.func109, Try.ntmps109
    go_wp2_with fail
    refine (key11 _ w).mono ?_
    rintro e w' ⟨rfl, rfl⟩
    rw [hk2]
    clear hk2
    go_wp2
    go_ret
    exact ⟨rfl, Kp.refl [] _⟩

set_option maxHeartbeats 400000 in
theorem tread32 {B tb n : Nat} {F : List Nat} {f : Nat → List Ver} (k y : Int) (w : World) (h : Tbl B w tb F f n) :
    Calls Try.prog 32 #[.pointer (some ⟨tb, 0, none⟩), .int .i64 k, .int .i64 y] w fun e w' => e = .returned (.tuple #[.agg #[.bool (tr f n k y).t, .string (tr f n k y).s], .int .i64 (tr f n k y).a]) ∧ Kp [] w w' := by
  obtain ⟨b, g, cap, h⟩ := h
  by_cases hk : keyB k = true
  · by_cases hy : y ≤ n
    · have hs : tr f n k y = rd3 (f k.toNat) y := by unfold tr; rw [if_pos ⟨hk, hy⟩]
      obtain ⟨j, hj, rfl⟩ := keyB_nat hk
      rw [hs, Int.toNat_natCast]
      have hlt := (h.lo tb h.tF).2
      have q := h.kcell hj
      have q8 := h.ncell
      have HC := hide (h.chn j hj)
      have HI := hide h.inv
      have hl := h.inv.len41 hj
      clear h hs
      have i0 : (0 : Int) ≤ (j : Int) := by omega
      have i1 : (j : Int) < 8 := by omega
      go_enter Try.func32, Try.ntmps32
      go_wp2_with fail
      refine (key11 _ _).mono ?_
      rintro e w' ⟨rfl, rfl⟩
      rw [hk]
      clear hk
      go_wp2_with fail
      refine (read9 y _ ((unhide HC).kp ((Kp.refl [] w).alloc _) (by simp) (by simp)) ((unhide HI).rise j hj) (by omega)).mono ?_
      rintro e w1 ⟨t, s, c, rfl, hrd, hkp⟩
      obtain ⟨rfl, rfl, rfl⟩ := rd3_of ((unhide HI).rise j hj) ((unhide HI).pos j hj) hrd
      have p0 : w1.cell? ⟨w.heap.size, 0, none⟩ = some (.bool false) := hkp.cell (by simp) (by simp)
      have p1 : w1.cell? ⟨w.heap.size, 1, none⟩ = some (.string ⟨#[]⟩) := hkp.cell (by simp) (by simp)
      have p2 : w1.frozen? ⟨w.heap.size, 0, none⟩ = false := by rw [hkp.frozen (by simp) (by simp)]; simp
      have p3 : w1.frozen? ⟨w.heap.size, 1, none⟩ = false := by rw [hkp.frozen (by simp) (by simp)]; simp
      have HK := hide hkp
      clear hrd hkp
      go_wp2
      refine bodyPost_ret (v := .tuple #[.agg #[.bool (rd3 (f j) y).t, .string (rd3 (f j) y).s], .int .i64 (rd3 (f j) y).a]) (by simp [results, Try.results32, go_sem, p0, p1]) rfl ⟨rfl, ?_⟩
      exact ((((Kp.refl [] w).alloc _).trans0 (unhide HK)).setCell (.inr (Nat.le_refl _)) _).setCell (.inr (Nat.le_refl _)) _
    · have hs : tr f n k y = ⟨1, false, ByteArray.empty⟩ := by unfold tr; rw [if_neg (fun h => hy h.2)]
      rw [hs]
      have q8 := h.ncell
      have hlt := (h.lo tb h.tF).2
      clear h hs
      go_enter Try.func32, Try.ntmps32
      go_wp2_with fail
      refine (key11 _ _).mono ?_
      rintro e w' ⟨rfl, rfl⟩
      rw [hk]
      clear hk
      go_wp2
      exact bodyPost_ret (v := .tuple #[.agg #[.bool false, .string ByteArray.empty], .int .i64 1]) (by simp [results, Try.results32, go_sem]; rfl) rfl ⟨rfl, ((Kp.refl [] w).alloc _)⟩
  · have hs : tr f n k y = ⟨1, false, ByteArray.empty⟩ := by unfold tr; rw [if_neg (fun h => hk h.1)]
    rw [hs]
    have hk2 : keyB k = false := by simpa using hk
    clear h hs hk
    go_enter Try.func32, Try.ntmps32
    go_wp2_with fail
    refine (key11 _ _).mono ?_
    rintro e w' ⟨rfl, rfl⟩
    rw [hk2]
    clear hk2
    go_wp2
    exact bodyPost_ret (v := .tuple #[.agg #[.bool false, .string ByteArray.empty], .int .i64 1]) (by simp [results, Try.results32, go_sem]; rfl) rfl ⟨rfl, ((Kp.refl [] w).alloc _)⟩

end Go.Proofs.Ytcfogkdpkpehaab

/- First and Clear of a table, by their contracts. -/
namespace Go.Proofs.Ytcfogkdpkpehaab
open Go.RowKit
set_option maxRecDepth 20000
attribute [local go_sem ↓] Go.wp_at_zero Go.wp_at_succ

theorem run_index_arr (w : World) (cs : Array Value) (k : Nat) (v : Value) (hk : k < 8) (hv : cs[k]? = some v) :
    (Instr.index 116 (.agg cs) (.int .i64 (k : Int))).run Try.prog w = .ok v w := by
  have hn : (k : Int) < 8 := by omega
  simp [Instr.index, run_underlying Try.underlying116, asIntOf, hk, hv, go_sem]

theorem parr_ex (b : Nat → Nat) : ∃ A : Array Value, #[Value.pointer (some ⟨b 0, 0, none⟩), Value.pointer (some ⟨b 1, 0, none⟩), Value.pointer (some ⟨b 2, 0, none⟩), Value.pointer (some ⟨b 3, 0, none⟩), Value.pointer (some ⟨b 4, 0, none⟩), Value.pointer (some ⟨b 5, 0, none⟩), Value.pointer (some ⟨b 6, 0, none⟩), Value.pointer (some ⟨b 7, 0, none⟩)] = A ∧ A.size = 8 ∧ ∀ k, k < 8 → A[k]? = some (Value.pointer (some ⟨b k, 0, none⟩)) := by
  refine ⟨_, rfl, rfl, fun k hk => ?_⟩
  rcases lt8 hk with rfl | rfl | rfl | rfl | rfl | rfl | rfl | rfl <;> rfl

set_option maxHeartbeats 400000 in
theorem tfirst42 {B tb n : Nat} {F : List Nat} {f : Nat → List Ver} (w : World) (h : Tbl B w tb F f n) :
    Calls Try.prog 44 #[.pointer (some ⟨tb, 0, none⟩)] w fun e w' => e = .returned (.int .i64 (fmx f 8)) ∧ w' = w := by
  obtain ⟨b, g, cap, h⟩ := h
  have q0 := h.kcell (k := 0) (by omega)
  have q1 := h.kcell (k := 1) (by omega)
  have q2 := h.kcell (k := 2) (by omega)
  have q3 := h.kcell (k := 3) (by omega)
  have q4 := h.kcell (k := 4) (by omega)
  have q5 := h.kcell (k := 5) (by omega)
  have q6 := h.kcell (k := 6) (by omega)
  have q7 := h.kcell (k := 7) (by omega)
  have H := hide h
  clear h
  go_enter Try.func44, Try.ntmps44
  go_wp2_with fail
  obtain ⟨A, hA, hA8, hAk⟩ := parr_ex b
  rw [hA]
  clear hA q0 q1 q2 q3 q4 q5 q6 q7
  go_loop [3, 10] (fun x i => ∃ k : Nat, k ≤ 8 ∧ x = .int .i64 (fmx f k) ∧ i = .int .i64 k) (fun _ i => 8 - (intOf i).toNat)
  case atStart => exact ⟨0, by omega, rfl, rfl⟩
  case round =>
    obtain ⟨k, hk, rfl, rfl⟩ := hrel
    by_cases hlt : k < 8
    · have i0 : (0 : Int) ≤ (k : Int) := by omega
      have i1 : (k : Int) < 8 := by omega
      have hx := fun w => run_index_arr w A k _ hlt (hAk k hlt)
      go_wp2_with fail
      refine (first17 _ ((unhide H).chn k hlt)).mono ?_
      rintro e w' ⟨rfl, rfl⟩
      go_wp2_with fail
      exact ⟨⟨k + 1, by omega, rfl, by go_num⟩, by simp [intOf]; omega⟩
    · have e : k = 8 := by omega
      subst e
      go_wp2
      go_ret
      exact ⟨rfl, rfl⟩

/-- One chain turned: the table with it. -/
theorem TblL.step {B : Nat} {w w' : World} {tb : Nat} {F : List Nat} {b g cap : Nat → Nat} {f : Nat → List Ver} {n k g' cap' : Nat} {vs : List Ver} (h : TblL B w tb F b g cap f n) (hk : k < 8)
    (hc : Chn B w' (b k) g' cap' vs) (hg : g' = g k ∨ w.heap.size ≤ g') (hkp : Kp [b k, g k] w w') (hi : Inv (upd f k vs) n) :
    TblL B w' tb (g' :: F) b (upd g k g') (upd cap k cap') (upd f k vs) n ∧ Kp F w w' ∧ ∀ x, x ∈ g' :: F → x ∈ F ∨ w.heap.size ≤ x := by
  have hlo := h.lo
  have far : ∀ x, x ∈ F → x ≠ g k → x ≠ g' := by
    intro x hx hne e
    rcases hg with e2 | e2
    · omega
    · have := (hlo x hx).2; omega
  have htn := h.tne k hk
  refine ⟨⟨?_, fun j hj => ?_, h.bb, fun j i hj hi8 hne => ?_, fun j i hj hi8 => ?_, fun j hj => ?_, List.mem_cons_of_mem _ h.tF, fun j hj => List.mem_cons_of_mem _ (h.bF j hj), fun j hj => ?_, fun x hx => ?_, hi, Nat.le_trans h.hB hkp.size⟩, ?_, ?_⟩
  · rw [hkp.block tb (hlo tb h.tF).2 (by simp; exact ⟨htn.1, htn.2⟩)]; exact h.box
  · by_cases e : j = k
    · subst e; rw [upd_same, upd_same, upd_same]; exact hc
    · rw [upd_other _ _ _ e, upd_other _ _ _ e, upd_other _ _ _ e]
      exact (h.chn j hj).kp hkp (by simp; exact ⟨h.bb j k hj hk e, h.bg j k hj hk⟩) (by simp; exact ⟨fun e2 => h.bg k j hk hj e2.symm, h.gg j k hj hk e⟩)
  · by_cases e : j = k
    · subst e
      rw [upd_same, upd_other _ _ _ (Ne.symm hne)]
      exact (far _ (h.gF i hi8) (h.gg i j hi8 hj (Ne.symm hne))).symm
    · rw [upd_other _ _ _ e]
      by_cases e2 : i = k
      · subst e2
        rw [upd_same]
        exact far _ (h.gF j hj) (h.gg j i hj hi8 hne)
      · rw [upd_other _ _ _ e2]; exact h.gg j i hj hi8 hne
  · by_cases e : i = k
    · subst e; rw [upd_same]; exact far _ (h.bF j hj) (h.bg j i hj hi8)
    · rw [upd_other _ _ _ e]; exact h.bg j i hj hi8
  · refine ⟨(h.tne j hj).1, ?_⟩
    by_cases e : j = k
    · subst e; rw [upd_same]; exact far _ h.tF htn.2
    · rw [upd_other _ _ _ e]; exact (h.tne j hj).2
  · by_cases e : j = k
    · subst e; rw [upd_same]; exact List.mem_cons_self
    · rw [upd_other _ _ _ e]; exact List.mem_cons_of_mem _ (h.gF j hj)
  · rcases List.mem_cons.1 hx with e | e
    · subst e; exact hc.hg
    · exact ⟨(hlo x e).1, Nat.lt_of_lt_of_le (hlo x e).2 hkp.size⟩
  · exact hkp.mono (by simp; exact ⟨.inl (h.bF k hk), .inl (h.gF k hk)⟩)
  · intro x hx
    rcases List.mem_cons.1 hx with e | e
    · subst e
      rcases hg with e2 | e2
      · rw [e2]; exact .inl (h.gF k hk)
      · exact .inr e2
    · exact .inl e

/-- The table at the head of a round of Clear, the first k chains cleared. -/
def ClrI (B : Nat) (w : World) (tb : Nat) (F : List Nat) (b : Nat → Nat) (f : Nat → List Ver) (n : Nat) (y : Int) (k : Nat) (wr : World) : Prop :=
  ∃ g cap Fk, TblL B wr tb Fk b g cap (clm f y k) n ∧ Kp F w wr ∧ ∀ x, x ∈ Fk → x ∈ F ∨ w.heap.size ≤ x

theorem clr_step {B tb n k : Nat} {w wr : World} {F : List Nat} {b : Nat → Nat} {f : Nat → List Ver} {y : Int} (h : ClrI B w tb F b f n y k wr) (hi : Inv f n) (hk : k < 8) :
    Calls Try.prog 99 #[.pointer (some ⟨b k, 0, none⟩), .int .i64 y] wr fun e w' => e = .returned (.int .i64 (cd (f k) y : Nat)) ∧ Hid (ClrI B w tb F b f n y (k + 1) w') := by
  obtain ⟨g, cap, Fk, ht, hkp, hF⟩ := h
  have hc := ht.chn k hk
  rw [clm_at] at hc
  refine (clear22 y wr hc (hi.rise k hk) (by have := hi.len41 hk; omega) ht.hB).mono ?_
  rintro e w' ⟨c, hcn, rfl, g', cap', h1, h2, h3⟩
  have e1 := hcn.eqf (hi.rise k hk)
  subst e1
  refine ⟨rfl, ?_⟩
  have hinv := hi.clm y (k + 1) (by omega)
  rw [clm_succ] at hinv
  obtain ⟨z1, z2, z3⟩ := ht.step hk h1 h2 (h3.mono (by simp)) hinv
  refine ⟨upd g k g', upd cap k cap', g' :: Fk, by rw [clm_succ]; exact z1, hkp.trans z2 hF, fun x hx => ?_⟩
  rcases z3 x hx with e | e
  · exact hF x e
  · right; have := hkp.size; omega

set_option maxHeartbeats 400000 in
theorem tclear46 {B tb n : Nat} {F : List Nat} {f : Nat → List Ver} (y : Int) (w : World) (h : Tbl B w tb F f n) :
    Calls Try.prog 76 #[.pointer (some ⟨tb, 0, none⟩), .int .i64 y] w fun e w' => e = .returned (.int .i64 (cln f y 8 : Nat)) ∧ ∃ F', Tbl B w' tb F' (clm f y 8) n ∧ Kp F w w' ∧ ∀ x, x ∈ F' → x ∈ F ∨ w.heap.size ≤ x := by
  obtain ⟨b, g, cap, h⟩ := h
  have q0 := h.kcell (k := 0) (by omega)
  have q1 := h.kcell (k := 1) (by omega)
  have q2 := h.kcell (k := 2) (by omega)
  have q3 := h.kcell (k := 3) (by omega)
  have q4 := h.kcell (k := 4) (by omega)
  have q5 := h.kcell (k := 5) (by omega)
  have q6 := h.kcell (k := 6) (by omega)
  have q7 := h.kcell (k := 7) (by omega)
  have HI := hide h.inv
  have H0 : Hid (ClrI B w tb F b f n y 0 w) := ⟨g, cap, F, by rw [clm_zero]; exact h, Kp.refl _ _, fun x hx => .inl hx⟩
  clear h
  go_enter Try.func76, Try.ntmps76
  go_wp2_with fail
  obtain ⟨A, hA, hA8, hAk⟩ := parr_ex b
  rw [hA]
  clear hA q0 q1 q2 q3 q4 q5 q6 q7
  go_loopw [5, 12] (fun x i wr => ∃ k : Nat, k ≤ 8 ∧ x = .int .i64 (cln f y k : Nat) ∧ i = .int .i64 k ∧ Hid (ClrI B w tb F b f n y k wr)) (fun _ i _ => 8 - (intOf i).toNat)
  case atStart => exact ⟨0, by omega, rfl, rfl, H0⟩
  case round =>
    obtain ⟨k, hk, rfl, rfl, HC⟩ := hrel
    by_cases hlt : k < 8
    · have i0 : (0 : Int) ≤ (k : Int) := by omega
      have i1 : (k : Int) < 8 := by omega
      have hx := fun w => run_index_arr w A k _ hlt (hAk k hlt)
      have l1 := cln_le (unhide HI) y k hk
      have l2 := cln_le (unhide HI) y (k + 1) (by omega)
      have l3 : cln f y (k + 1) = cln f y k + cd (f k) y := rfl
      go_wp2_with fail
      refine (clr_step (unhide HC) (unhide HI) hlt).mono ?_
      rintro e w' ⟨rfl, HC2⟩
      go_wp2_with fail
      exact ⟨⟨k + 1, by omega, by rw [l3]; go_num, by go_num, HC2⟩, by simp [intOf]; omega⟩
    · have e : k = 8 := by omega
      subst e
      go_wp2
      go_ret
      obtain ⟨g, cap, Fk, ht, hkp, hF⟩ := unhide HC
      exact ⟨rfl, Fk, ⟨_, _, _, ht⟩, hkp, hF⟩
end Go.Proofs.Ytcfogkdpkpehaab

/- New of a table, by its contract. -/
namespace Go.Proofs.Ytcfogkdpkpehaab
open Go.RowKit
set_option maxRecDepth 20000
attribute [local go_sem ↓] Go.wp_at_zero Go.wp_at_succ

theorem riseD : Rise [dv] := by
  intro i j h1 h2
  simp at h2
  omega
theorem invD : Inv (fun _ => [dv]) 0 := ⟨fun _ _ => riseD, fun _ _ => by simp, fun _ _ => by simp [va, dv], fun _ _ => by simp [va, dv], by omega⟩

/-- A table under way: the first k chains are there. -/
structure NewL (B : Nat) (w : World) (tb k : Nat) (wr : World) (b g cap : Nat → Nat) : Prop where
  box : wr.heap[tb]? = some (.cells (tcells (fun j => if j < k then .pointer (some ⟨b j, 0, none⟩) else .pointer none) 0) 118 (0, 0))
  chn : ∀ j, j < k → Chn B wr (b j) (g j) (cap j) [dv]
  ab : ∀ j, j < k → tb < b j ∧ tb < g j
  far : ∀ j i, j < k → i < k → j ≠ i → b j ≠ b i ∧ g j ≠ g i ∧ b j ≠ g i
  kp : Kp [] w wr
  hB : B = w.heap.size
  ht : B ≤ tb
def NewI (B : Nat) (w : World) (tb k : Nat) (wr : World) : Prop := ∃ b g cap, NewL B w tb k wr b g cap

theorem NewL.kp0 {B : Nat} {w : World} {tb k : Nat} {wr wr' : World} {b g cap : Nat → Nat} (h : NewL B w tb k wr b g cap) (hk : Kp [] wr wr') : NewL B w tb k wr' b g cap :=
  ⟨by rw [hk.block tb (lt_of_block h.box) (by simp)]; exact h.box, fun j hj => (h.chn j hj).kp hk (by simp) (by simp), h.ab, h.far, h.kp.trans0 hk, h.hB, h.ht⟩

theorem new_step {B tb k : Nat} {w wr : World} (W : World) (h : NewI B w tb k wr) (hW : Kp [] wr W) (hk : k < 8) :
    Calls Try.prog 88 #[] W fun e w1 => ∃ b', e = .returned (.pointer (some ⟨b', 0, none⟩)) ∧ w1.cell? ⟨tb, k, none⟩ = some (.pointer none) ∧ w1.frozen? ⟨tb, k, none⟩ = false ∧
      Hid (NewI B w tb (k + 1) (w1.setCell ⟨tb, k, none⟩ (.pointer (some ⟨b', 0, none⟩)))) := by
  obtain ⟨b, g, cap, h⟩ := h
  have h0 := h.kp0 hW
  refine (new23 W).mono ?_
  rintro e w1 ⟨rfl, hc, hkp⟩
  have h1 := h0.kp0 hkp
  have hlt := lt_of_block h0.box
  have hsz := h0.kp.size
  have hBe := h.hB
  have hold : ∀ j, j < k → b j < W.heap.size ∧ g j < W.heap.size := fun j hj => ⟨(h0.chn j hj).blt, (h0.chn j hj).hg.2⟩
  have kS : Kp [tb] w1 (w1.setCell ⟨tb, k, none⟩ (.pointer (some ⟨W.heap.size + 1, 0, none⟩))) := (Kp.refl [tb] w1).setCell (.inl (by simp)) _
  refine ⟨_, rfl, cell_of_block h1.box (by rw [tcells_at _ _ hk]; simp), frozen_of_block _ h1.box, upd b k (W.heap.size + 1), upd g k W.heap.size, upd cap k 1, ?_, fun j hj => ?_, fun j hj => ?_, fun j i hj hi hne => ?_, ?_, h.hB, h.ht⟩
  · rw [heap_setCell_at k _ h1.box, tcells_set _ _ hk]
    congr 2
    refine tcells_congr _ (fun j _ => ?_)
    by_cases e : j = k
    · subst e; simp [upd]
    · rw [upd_other _ _ _ e, upd_other _ _ _ e]
      by_cases e2 : j < k
      · rw [if_pos e2, if_pos (by omega)]
      · rw [if_neg e2, if_neg (by omega)]
  · by_cases e : j = k
    · subst e
      rw [upd_same, upd_same, upd_same]
      have hc2 : Chn B w1 (W.heap.size + 1) W.heap.size 1 [dv] := by
        refine ⟨?_, hc.box, hc.ne, by omega, hc.pos⟩
        refine ⟨hc.own.1, ?_⟩
        rcases hc.own.2 with ⟨e, _⟩ | ⟨g2, c2, cur, e, q1, q2⟩
        · simp at e
        · exact .inr ⟨g2, c2, cur, e, by omega, q2⟩
      exact hc2.kp kS (by simp; omega) (by simp; omega)
    · rw [upd_other _ _ _ e, upd_other _ _ _ e, upd_other _ _ _ e]
      have := h.ab j (by omega)
      exact (h1.chn j (by omega)).kp kS (by simp; omega) (by simp; omega)
  · by_cases e : j = k
    · subst e; rw [upd_same, upd_same]; omega
    · rw [upd_other _ _ _ e, upd_other _ _ _ e]; exact h.ab j (by omega)
  · by_cases e : j = k
    · subst e
      have := hold i (by omega)
      rw [upd_same, upd_same, upd_other _ _ _ (Ne.symm hne), upd_other _ _ _ (Ne.symm hne)]; omega
    · have q := hold j (by omega)
      rw [upd_other _ _ _ e, upd_other _ _ _ e]
      by_cases e2 : i = k
      · subst e2; rw [upd_same, upd_same]; omega
      · rw [upd_other _ _ _ e2, upd_other _ _ _ e2]; exact h.far j i (by omega) (by omega) hne
  · have := h.ht
    exact h1.kp.setCell (.inr (by show w.heap.size ≤ tb; omega)) _

theorem new_end {B tb : Nat} {w wr : World} (h : NewI B w tb 8 wr) : ∃ F, Tbl B wr tb F (fun _ => [dv]) 0 := by
  obtain ⟨b, g, cap, h⟩ := h
  have hin : ∀ k, k < 8 → k ∈ List.range 8 := fun k hk => List.mem_range.2 hk
  refine ⟨tb :: (List.range 8).flatMap (fun k => [b k, g k]), b, g, cap, ?_, h.chn, fun j k hj hk hne => (h.far j k hj hk hne).1, fun j k hj hk hne => (h.far j k hj hk hne).2.1, fun j k hj hk => ?_, fun k hk => ?_, by simp, fun k hk => ?_, fun k hk => ?_, fun x hx => ?_, invD, by rw [h.hB]; exact h.kp.size⟩
  · rw [h.box]
    congr 2
  · by_cases e : j = k
    · subst e; exact (h.chn j hj).ne
    · exact (h.far j k hj hk e).2.2
  · have := h.ab k hk
    omega
  · exact List.mem_cons_of_mem _ (List.mem_flatMap.2 ⟨k, hin k hk, by simp⟩)
  · exact List.mem_cons_of_mem _ (List.mem_flatMap.2 ⟨k, hin k hk, by simp⟩)
  · rcases List.mem_cons.1 hx with e | e
    · subst e; exact ⟨h.ht, lt_of_block h.box⟩
    · obtain ⟨k, hk, hx2⟩ := List.mem_flatMap.1 e
      have hk8 := List.mem_range.1 hk
      have hc := h.chn k hk8
      rcases List.mem_cons.1 hx2 with e2 | e2
      · subst e2; exact ⟨hc.hb, hc.blt⟩
      · have : x = g k := by simpa using e2
        subst this; exact hc.hg

theorem new_start (w : World) : NewI w.heap.size w w.heap.size 0 (w.alloc (.cells #[.pointer none, .pointer none, .pointer none, .pointer none, .pointer none, .pointer none, .pointer none, .pointer none, .int .i64 0] 118)) := by
  refine ⟨fun _ => 0, fun _ => 0, fun _ => 0, ?_, fun j hj => by omega, fun j hj => by omega, fun j i hj => by omega, (Kp.refl [] w).alloc _, rfl, Nat.le_refl _⟩
  have := heap_alloc_new w (.cells #[.pointer none, .pointer none, .pointer none, .pointer none, .pointer none, .pointer none, .pointer none, .pointer none, .int .i64 0] 118)
  rw [this]
  rfl

set_option maxHeartbeats 1000000 in
theorem tnew47 (w : World) :
    Calls Try.prog 65 #[] w fun e w' => e = .returned (.pointer (some ⟨w.heap.size, 0, none⟩)) ∧ (∃ F, Tbl w.heap.size w' w.heap.size F (fun _ => [dv]) 0) ∧ Kp [] w w' := by
  have H0 := hide (new_start w)
  go_enter Try.func65, Try.ntmps65
  go_wp2_with fail
  generalize htb : w.heap.size = tb at *
  have HTB := hide htb
  clear htb
  go_loopw [5] (fun i wr => ∃ k : Nat, k ≤ 8 ∧ i = .int .i64 k ∧ Hid (NewI tb w tb k wr)) (fun i _ => 8 - (intOf i).toNat)
  case atStart => exact ⟨0, by omega, rfl, H0⟩
  case round =>
    obtain ⟨k, hk, rfl, HN⟩ := hrel
    by_cases hlt : k < 8
    · have i0 : (0 : Int) ≤ (k : Int) := by omega
      have i1 : (k : Int) < 8 := by omega
      go_wp2_with fail
      go_region_with (go_at_call 88; refine (new_step _ (unhide HN) (Kp.refl [] _).drew hlt).mono ?_; rintro e w1 ⟨b', rfl, y1, y2, HN2⟩)
      all_goals
        go_wp2_with fail
        exact ⟨⟨k + 1, by omega, by go_num, HN2⟩, by simp [intOf]; omega⟩
    · have e : k = 8 := by omega
      subst e
      go_wp2
      go_ret
      obtain ⟨b, g, cap, hN⟩ := unhide HN
      rw [unhide HTB]
      exact ⟨rfl, new_end (unhide HN), hN.kp⟩
end Go.Proofs.Ytcfogkdpkpehaab

/- Write of a table, by its contract. -/
namespace Go.Proofs.Ytcfogkdpkpehaab
open Go.RowKit
set_option maxRecDepth 20000
attribute [local go_sem ↓] Go.wp_at_zero Go.wp_at_succ

/-- The table at the head of a round of Write, behind the first k pairs. -/
def WrI (B : Nat) (w : World) (tb : Nat) (F : List Nat) (f : Nat → List Ver) (m : Nat) (ps : List Ver) (k : Nat) (wr : World) : Prop :=
  ∃ fk Fk, Tbl B wr tb Fk fk m ∧ wrs fk m (ps.drop k) = wrs f m ps ∧ Kp F w wr ∧ ∀ x, x ∈ Fk → x ∈ F ∨ w.heap.size ≤ x

theorem wrs_at {f : Nat → List Ver} {x : Int} {ps : List Ver} {k : Nat} (h : k < ps.length) : wrs f x (ps.drop k) = wrs (upd f (va ps k).toNat (pvers (f (va ps k).toNat) x (vt ps k) (vb ps k))) x (ps.drop (k + 1)) := by
  rw [ver_drop h]; rfl

theorem wr_step {B tb m k j : Nat} {w wr W : World} {F Fk : List Nat} {b g cap : Nat → Nat} {f fk : Nat → List Ver} {ps : List Ver} (ht : TblL B wr tb Fk b g cap fk m) (he : wrs fk m (ps.drop k) = wrs f m ps)
    (hkp : Kp F w wr) (hF : ∀ x, x ∈ Fk → x ∈ F ∨ w.heap.size ≤ x) (hW : Kp [] wr W) (hk : k < ps.length) (hj : j < 8) (hv : va ps k = (j : Int)) (hs : (vb ps k).size ≤ maxLen) :
    Calls Try.prog 89 #[.pointer (some ⟨b j, 0, none⟩), .int .i64 m, .agg #[.bool (vt ps k), .string (vb ps k)]] W fun e w2 => ∃ c, e = .returned (.int .i64 c) ∧ Hid (WrI B w tb F f m ps (k + 1) w2) := by
  have h0 := ht.kp hW (fun _ _ => by simp)
  refine (put21 (m : Int) (vt ps k) (vb ps k) W (h0.chn j hj) (by have := h0.inv.len41 hj; omega) hs h0.hB).mono ?_
  rintro e w2 ⟨rfl, g', cap', h1, h2, h3⟩
  obtain ⟨z1, z2, z3⟩ := h0.step hj h1 h2 h3 (h0.inv.put hj _ _)
  refine ⟨_, rfl, _, g' :: Fk, ⟨_, _, _, z1⟩, ?_, (hkp.trans0 hW).trans z2 hF, fun x hx => ?_⟩
  · rw [← he, wrs_at hk, hv, Int.toNat_natCast]
  · rcases z3 x hx with e | e
    · exact hF x e
    · right; have := (hkp.trans0 hW).size; omega

theorem TblL.count {B : Nat} {w : World} {tb : Nat} {F : List Nat} {b g cap : Nat → Nat} {f : Nat → List Ver} {n : Nat} (h : TblL B w tb F b g cap f n) (m : Nat) (hi : Inv f m) :
    TblL B (w.setCell ⟨tb, 8, none⟩ (.int .i64 m)) tb F b g cap f m ∧ Kp F w (w.setCell ⟨tb, 8, none⟩ (.int .i64 m)) := by
  have hk : Kp [tb] w (w.setCell ⟨tb, 8, none⟩ (.int .i64 m)) := (Kp.refl [tb] w).setCell (.inl (by simp)) _
  refine ⟨⟨?_, fun k hk8 => ?_, h.bb, h.gg, h.bg, h.tne, h.tF, h.bF, h.gF, fun x hx => ⟨(h.lo x hx).1, Nat.lt_of_lt_of_le (h.lo x hx).2 hk.size⟩, hi, Nat.le_trans h.hB hk.size⟩, hk.mono (by simp; exact .inl h.tF)⟩
  · rw [heap_setCell_at 8 _ h.box, tcells_setn]
  · have := h.tne k hk8
    exact (h.chn k hk8).kp hk (by simp; exact fun e => this.1 e.symm) (by simp; exact fun e => this.2 e.symm)

set_option maxHeartbeats 2000000 in
theorem twrite45 {B tb n : Nat} {F : List Nat} {f : Nat → List Ver} (a : Option Addr) (c : Nat) (ps : List Ver) (w : World) (h : Tbl B w tb F f n) (hp : Prs w a ps) (hpF : 0 < ps.length → ∀ g o, a = some ⟨g, o, none⟩ → g ∉ F) (hm : ps.length ≤ 1000) :
    Calls Try.prog 66 #[.pointer (some ⟨tb, 0, none⟩), .slice a ps.length c] w fun e w' => e = .returned (.tuple #[.int .i64 (wnum n ps), .int .i64 (wcode n ps)]) ∧
      ∃ F', Tbl B w' tb F' (wst f n ps) (wn n ps) ∧ Kp F w w' ∧ ∀ x, x ∈ F' → x ∈ F ∨ w.heap.size ≤ x := by
  have HT := hide h
  have HP := hide hp
  have HPF := hide hpF
  clear h hp hpF
  by_cases hc : pf (-1) ps = 0
  · by_cases hn : 40 ≤ n
    · have e1 : wcode n ps = 9 := by unfold wcode; rw [if_pos hc, if_pos hn]
      have e2 : wn n ps = n := by unfold wn; rw [if_neg (by rw [e1]; decide)]
      have e3 : wnum n ps = 0 := by unfold wnum; rw [if_neg (by rw [e1]; decide)]
      have e4 : wst f n ps = f := by unfold wst; rw [if_neg (by rw [e1]; decide)]
      rw [e1, e2, e3, e4]
      clear e1 e2 e3 e4
      go_enter Try.func66, Try.ntmps66
      go_wp2_with fail
      refine (tcheck36 a c ps w (unhide HP) hm).mono ?_
      rintro e w1 ⟨rfl, hk⟩
      rw [hc]
      clear hc
      obtain ⟨b, g, cap, ht⟩ := (unhide HT).kp0 hk
      have q8 := ht.ncell
      have HT1 := hide ht
      have HK := hide hk
      clear ht hk
      go_wp2_with fail
      go_ret2
      exact ⟨rfl, F, ⟨_, _, _, unhide HT1⟩, (unhide HK).mono (by simp), fun x hx => .inl hx⟩
    · have e1 : wcode n ps = 0 := by unfold wcode; rw [if_pos hc, if_neg hn]
      have e2 : wn n ps = n + 1 := by unfold wn; rw [if_pos e1]
      have e3 : wnum n ps = (n : Int) + 1 := by unfold wnum; rw [if_pos e1]
      have e4 : wst f n ps = wrs f ((n + 1 : Nat) : Int) ps := by unfold wst; rw [if_pos e1]; simp
      rw [e1, e2, e3, e4]
      clear e1 e2 e3 e4
      have hkeys := pf_keys hc
      go_enter Try.func66, Try.ntmps66
      go_wp2_with fail
      refine (tcheck36 a c ps w (unhide HP) hm).mono ?_
      rintro e w1 ⟨rfl, hk⟩
      rw [hc]
      clear hc
      have HKEY := hide hkeys
      clear hkeys
      obtain ⟨b, g, cap, ht⟩ := (unhide HT).kp0 hk
      have q8 := ht.ncell
      have f8 : w1.frozen? ⟨tb, 8, none⟩ = false := frozen_of_block _ ht.box
      obtain ⟨y1, y2⟩ := ht.count (n + 1) (ht.inv.mono (Nat.le_succ n) (by omega))
      have HW0 : Hid (WrI B w tb F f (n + 1) ps 0 (w1.setCell ⟨tb, 8, none⟩ (.int .i64 ((n + 1 : Nat) : Int)))) := ⟨f, F, ⟨_, _, _, y1⟩, by simp, (hk.mono (by simp)).trans y2 (fun x hx => .inl hx), fun x hx => .inl hx⟩
      clear ht hk y1 y2
      push_cast at HW0
      go_wp2_with fail
      clear q8 f8
      generalize w1.setCell { block := tb, off := 8 } (Value.int IntKind.i64 (↑n + 1)) = w2 at *
      go_loopw [28] (fun i wr => ∃ k : Nat, k ≤ ps.length ∧ i = .int .i64 k ∧ Hid (WrI B w tb F f (n + 1) ps k wr)) (fun i _ => ps.length - (intOf i).toNat)
      case atStart => exact ⟨0, by omega, rfl, HW0⟩
      case round =>
        obtain ⟨k, hk, rfl, HW⟩ := hrel
        obtain ⟨fk, Fk, ⟨b, g, cap, ht⟩, he, hkp, hF⟩ := unhide HW
        have q8 := ht.ncell
        push_cast at q8
        by_cases hlt : k < ps.length
        · obtain ⟨pg, po, rfl, hs⟩ := (unhide HP).mem (by omega)
          have hs2 := hs.kp hkp ((unhide HPF) (by omega) pg po rfl)
          have p0 := hs2.at0 k hlt
          have p1 := hs2.at1 k hlt
          have p2 : _ = _ := hs2.at2 k hlt
          have hsz := (unhide HP).str k hlt
          have hkk := (unhide HKEY) k hlt
          obtain ⟨j, hj, hv⟩ : ∃ j : Nat, j < 8 ∧ va ps k = (j : Int) := ⟨(va ps k).toNat, by omega, by omega⟩
          have qj := ht.kcell hj
          have htl := (ht.lo tb ht.tF).2
          rw [hv] at p0
          have i0 : (0 : Int) ≤ (k : Int) := by omega
          have i1 : (k : Int) < (ps.length : Int) := by omega
          have j0 : (0 : Int) ≤ (j : Int) := by omega
          have j1 : (j : Int) < 8 := by omega
          have HT2 := hide ht
          have HE := hide he
          have HK2 := hide hkp
          have HF := hide hF
          have HV := hide hv
          clear ht he hkp hF hs hs2 hv hkk
          go_wp2_with fail
          go_region_with (go_at_call 89; refine (wr_step (unhide HT2) (unhide HE) (unhide HK2) (unhide HF) ((Kp.refl [] wr).alloc _).drew hlt hj (unhide HV) hsz).mono ?_; rintro e w3 ⟨cc, rfl, HW3⟩)
          all_goals
            go_wp2_with fail
            exact ⟨⟨k + 1, by omega, by go_num, HW3⟩, by simp [intOf]; omega⟩
        · have HT2 := hide ht
          have HE := hide he
          have HK2 := hide hkp
          have HF := hide hF
          clear ht he hkp hF
          go_wp2_with fail
          go_ret2
          have he := unhide HE
          rw [List.drop_eq_nil_of_le (by omega)] at he
          refine ⟨rfl, Fk, ⟨b, g, cap, ?_⟩, unhide HK2, unhide HF⟩
          rw [← he]
          exact unhide HT2
  · have e1 : wcode n ps = pf (-1) ps := by unfold wcode; rw [if_neg hc]
    have e2 : wn n ps = n := by unfold wn; rw [if_neg (by rw [e1]; exact hc)]
    have e3 : wnum n ps = 0 := by unfold wnum; rw [if_neg (by rw [e1]; exact hc)]
    have e4 : wst f n ps = f := by unfold wst; rw [if_neg (by rw [e1]; exact hc)]
    rw [e1, e2, e3, e4]
    clear e1 e2 e3 e4
    generalize hq : pf (-1) ps = q at *
    have HQ := hide hq
    clear hq
    go_enter Try.func66, Try.ntmps66
    go_wp2_with fail
    refine (tcheck36 a c ps w (unhide HP) hm).mono ?_
    rintro e w1 ⟨rfl, hk⟩
    rw [unhide HQ]
    have HT1 := hide ((unhide HT).kp0 hk)
    have HK := hide hk
    clear hk
    go_wp2_with fail
    go_ret2
    exact ⟨rfl, F, unhide HT1, (unhide HK).mono (by simp), fun x hx => .inl hx⟩
end Go.Proofs.Ytcfogkdpkpehaab

/- List of a table, by its contract. -/
namespace Go.Proofs.Ytcfogkdpkpehaab
open Go.RowKit
set_option maxRecDepth 20000
attribute [local go_sem ↓] Go.wp_at_zero Go.wp_at_succ


/-- A list of pairs that a call made: it lies in memory of its own. -/
def LstEnd (L : List Ver × Int) (w : World) (e : Ending) (w' : World) : Prop :=
  ∃ a cap, e = .returned (.tuple #[.slice a L.1.length cap, .int .i64 L.2]) ∧ w'.ownsRow w.heap.size 40 3 (.slice a L.1.length cap) L.1.length (vcells L.1) ∧ Kp [] w w'
theorem lstEnd_mk {L : List Ver × Int} {w w' : World} (acc : List Ver) (code : Int) (a : Option Addr) (cap : Nat) (h : L = (acc, code)) (ho : w'.ownsRow w.heap.size 40 3 (.slice a acc.length cap) acc.length (vcells acc)) (hk : Kp [] w w') :
    LstEnd L w (.returned (.tuple #[.slice a acc.length cap, .int .i64 code])) w' := by
  subst h; exact ⟨a, cap, rfl, ho, hk⟩


theorem lgo_more {f : Nat → List Ver} {n k m : Nat} {y : Int} {acc : List Ver} {R : List Ver × Int} (h : lgo f n y k (m + 1) acc = R) (h0 : (tr f n k y).a = 0) (ht : (tr f n k y).t = true) : lgo f n y (k + 1) m (acc ++ [⟨k, (tr f n k y).t, (tr f n k y).s⟩]) = R := by
  rw [← h]; simp only [lgo]; rw [if_pos h0, if_pos ht]
theorem lgo_skip {f : Nat → List Ver} {n k m : Nat} {y : Int} {acc : List Ver} {R : List Ver × Int} (h : lgo f n y k (m + 1) acc = R) (h0 : (tr f n k y).a = 0) (ht : ¬ (tr f n k y).t = true) : lgo f n y (k + 1) m acc = R := by
  rw [← h]; simp only [lgo]; rw [if_pos h0, if_neg ht]
theorem lgo_stop {f : Nat → List Ver} {n k m : Nat} {y : Int} {acc : List Ver} {R : List Ver × Int} (h : lgo f n y k (m + 1) acc = R) (h0 : ¬ (tr f n k y).a = 0) : R = ([], (tr f n k y).a) := by
  rw [← h]; simp only [lgo]; rw [if_neg h0]
theorem lgo_end {f : Nat → List Ver} {n k m : Nat} {y : Int} {acc : List Ver} {R : List Ver × Int} (h : lgo f n y k m acc = R) (h0 : m = 0) : R = (acc, 0) := by
  subst h0; rw [← h]; rfl

/-- What stands at the head of a round of List. -/
structure LsI (R : List Ver × Int) (w : World) (f : Nat → List Ver) (n : Nat) (y : Int) (t k : Nat) (acc : List Ver) (a : Option Addr) (cap : Nat) (wr : World) : Prop where
  goes : lgo f n y k (t + 1 - k) acc = R
  own : wr.ownsRow w.heap.size 40 3 (.slice a acc.length cap) acc.length (vcells acc)
  kp : Kp [] w wr
  len : acc.length ≤ k

theorem LsI.skip {R : List Ver × Int} {w : World} {f : Nat → List Ver} {n : Nat} {y : Int} {t k : Nat} {acc : List Ver} {a : Option Addr} {cap : Nat} {wr w1 : World} (h : LsI R w f n y t k acc a cap wr) (hk : k ≤ t) (hw : Kp [] wr w1)
    (h0 : (tr f n k y).a = 0) (ht : ¬ (tr f n k y).t = true) : LsI R w f n y t (k + 1) acc a cap w1 :=
  ⟨by have := h.goes; rw [show t + 1 - k = (t + 1 - (k + 1)) + 1 by omega] at this; exact lgo_skip this h0 ht, own_kp0 h.own hw, h.kp.trans0 hw, by have := h.len; omega⟩
theorem LsI.more {R : List Ver × Int} {w : World} {f : Nat → List Ver} {n : Nat} {y : Int} {t k : Nat} {acc : List Ver} {a : Option Addr} {cap : Nat} {wr W w2 : World} (h : LsI R w f n y t k acc a cap wr) (hk : k ≤ t) (hw : Kp [] wr W)
    (h0 : (tr f n k y).a = 0) (ht : (tr f n k y).t = true) {g2 cap2 : Nat} (hown : w2.ownsRow w.heap.size 40 3 (.slice (some ⟨g2, 0, none⟩) (acc.length + 1) cap2) (acc.length + 1) (vcells acc ++ [.int .i64 k, .bool true, .string (tr f n k y).s]))
    (hgrow : W.grownBy w2 (Value.slice a acc.length cap).ownBlock) : LsI R w f n y t (k + 1) (acc ++ [⟨k, (tr f n k y).t, (tr f n k y).s⟩]) (some ⟨g2, 0, none⟩) cap2 w2 := by
  refine ⟨by have := h.goes; rw [show t + 1 - k = (t + 1 - (k + 1)) + 1 by omega] at this; exact lgo_more this h0 ht, ?_, (h.kp.trans0 hw).grown hgrow (fun g hg => .inr (own_ge h.own hg)), by have := h.len; simp; omega⟩
  have hv : vcells acc ++ [.int .i64 k, .bool true, .string (tr f n k y).s] = vcells (acc ++ [⟨k, (tr f n k y).t, (tr f n k y).s⟩]) := by rw [vcells_append, ht]; rfl
  rw [hv] at hown
  simpa using hown

end Go.Proofs.Ytcfogkdpkpehaab

/- A version more, behind a list of versions: what stands where. -/
namespace Go.Proofs.Ytcfogkdpkpehaab
open Go.RowKit
set_option maxRecDepth 20000

theorem vt_append_left (vs us : List Ver) {i : Nat} (h : i < vs.length) : vt (vs ++ us) i = vt vs i := by
  simp only [vt, List.getD_eq_getElem?_getD]
  rw [List.getElem?_append_left h]
theorem vb_append_left (vs us : List Ver) {i : Nat} (h : i < vs.length) : vb (vs ++ us) i = vb vs i := by
  simp only [vb, List.getD_eq_getElem?_getD]
  rw [List.getElem?_append_left h]
theorem vt_concat (vs : List Ver) (v : Ver) : vt (vs ++ [v]) vs.length = v.t := by
  simp only [vt, List.getD_eq_getElem?_getD]
  rw [List.getElem?_concat_length]; rfl
theorem vb_concat (vs : List Ver) (v : Ver) : vb (vs ++ [v]) vs.length = v.s := by
  simp only [vb, List.getD_eq_getElem?_getD]
  rw [List.getElem?_concat_length]; rfl
end Go.Proofs.Ytcfogkdpkpehaab

/- Plain words for deeds: what it read (keys, one behind the other), what it wrote (pairs, a: the key), and what each call tells of them; no statement of the program yet. -/
namespace Go.Proofs.Ytcfogkdpkpehaab
open Go.RowKit
set_option maxRecDepth 20000

/-- The last of the first i pairs that bears the key k. -/
def lw (ws : List Ver) (k : Int) : Nat → Option Ver
  | 0 => none
  | i + 1 => if va ws i = k then some ⟨k, vt ws i, vb ws i⟩ else lw ws k i
/-- What was written last to the key k. -/
def lwr (ws : List Ver) (k : Int) : Option Ver := lw ws k ws.length

theorem lw_append (ws us : List Ver) (k : Int) : ∀ i, i ≤ ws.length → lw (ws ++ us) k i = lw ws k i := by
  intro i
  induction i with
  | zero => intro _; rfl
  | succ i ih =>
    intro hi
    simp only [lw]
    rw [va_append_left _ _ (by omega), vt_append_left _ _ (by omega), vb_append_left _ _ (by omega), ih (by omega)]
theorem lwr_put (ws : List Ver) (k : Int) (v : Ver) : lwr (ws ++ [v]) k = if v.a = k then some ⟨k, v.t, v.s⟩ else lwr ws k := by
  unfold lwr
  simp only [List.length_append, List.length_cons, List.length_nil, Nat.zero_add, lw]
  rw [va_concat, vt_concat, vb_concat, lw_append _ _ _ _ (Nat.le_refl _)]
theorem lwr_nil (k : Int) : lwr [] k = none := rfl

/-- What Get tells: the code (a), and the value; and the keys read behind it. -/
def dg (f : Nat → List Ver) (n : Nat) (y : Int) (ws : List Ver) (k : Int) : Ver :=
  if keyB k = true then (match lwr ws k with | some v => ⟨0, v.t, v.s⟩ | none => tr f n k y) else ⟨1, false, ByteArray.empty⟩
def dr (f : Nat → List Ver) (n : Nat) (y : Int) (rs : List Int) (ws : List Ver) (k : Int) : List Int :=
  if keyB k = true ∧ lwr ws k = none ∧ (tr f n k y).a = 0 then rs ++ [k] else rs

/-- What Put tells, and what is written behind it. -/
def dpc (md k : Int) (t : Bool) (s : ByteArray) : Int := if keyB k = true then (if md = 3 then 3 else chk t s) else 1
def dpw (md : Int) (ws : List Ver) (k : Int) (t : Bool) (s : ByteArray) : List Ver := if dpc md k t s = 0 then ws ++ [⟨k, t, s⟩] else ws

/-- What List tells, from the key k on, m keys, behind acc; and the keys read. -/
def dgo (f : Nat → List Ver) (n : Nat) (y : Int) (ws : List Ver) : Nat → Nat → List Ver → List Int → List Ver × Int × List Int
  | _, 0, acc, rs => (acc, 0, rs)
  | k, m + 1, acc, rs =>
    if (dg f n y ws k).a = 0 then
      (if (dg f n y ws k).t = true then dgo f n y ws (k + 1) m (acc ++ [⟨k, (dg f n y ws k).t, (dg f n y ws k).s⟩]) (dr f n y rs ws k) else dgo f n y ws (k + 1) m acc (dr f n y rs ws k))
    else ([], (dg f n y ws k).a, dr f n y rs ws k)
def dls (f : Nat → List Ver) (n : Nat) (y : Int) (ws : List Ver) (rs : List Int) (fr to_ : Int) : List Ver × Int × List Int :=
  if keyB fr = true ∧ keyB to_ = true then dgo f n y ws fr.toNat (to_ + 1 - fr).toNat [] rs else ([], 1, rs)

/-- Of the first m keys those that were read, and those that were written. -/
def rk (rs : List Int) : Nat → List Int
  | 0 => []
  | m + 1 => if (m : Int) ∈ rs then rk rs m ++ [(m : Int)] else rk rs m
def wk (ws : List Ver) : Nat → List Ver
  | 0 => []
  | m + 1 => match lwr ws m with | some v => wk ws m ++ [⟨m, v.t, v.s⟩] | none => wk ws m

/-- One of the first m keys was written (read) by it, and has what it has since a commit above y. -/
def cls (f : Nat → List Ver) (y : Int) (ws : List Ver) : Nat → Bool
  | 0 => false
  | m + 1 => if (lwr ws m).isSome = true ∧ y < snc f m then true else cls f y ws m
def stl (f : Nat → List Ver) (y : Int) (rs : List Int) : Nat → Bool
  | 0 => false
  | m + 1 => if (m : Int) ∈ rs ∧ y < snc f m then true else stl f y rs m
/-- What May tells. -/
def dm (f : Nat → List Ver) (md y : Int) (rs : List Int) (ws : List Ver) : Int :=
  if cls f y ws 8 = true then 10 else if md = 2 ∧ stl f y rs 8 = true then 11 else 0

theorem rk_len (rs : List Int) : ∀ m, (rk rs m).length ≤ m := by
  intro m
  induction m with
  | zero => simp [rk]
  | succ m ih => simp only [rk]; split <;> (try simp) <;> omega
theorem wk_len (ws : List Ver) : ∀ m, (wk ws m).length ≤ m := by
  intro m
  induction m with
  | zero => simp [wk]
  | succ m ih => simp only [wk]; split <;> (try simp) <;> omega

theorem dr_len (f : Nat → List Ver) (n : Nat) (y : Int) (rs : List Int) (ws : List Ver) (k : Int) : (dr f n y rs ws k).length ≤ rs.length + 1 := by
  unfold dr; split <;> simp
theorem dpw_len (md : Int) (ws : List Ver) (k : Int) (t : Bool) (s : ByteArray) : (dpw md ws k t s).length ≤ ws.length + 1 := by
  unfold dpw; split <;> simp
theorem dgo_len (f : Nat → List Ver) (n : Nat) (y : Int) (ws : List Ver) : ∀ (m k : Nat) (acc : List Ver) (rs : List Int), (dgo f n y ws k m acc rs).1.length ≤ acc.length + m ∧ (dgo f n y ws k m acc rs).2.2.length ≤ rs.length + m := by
  intro m
  induction m with
  | zero => intro k acc rs; simp [dgo]
  | succ m ih =>
    intro k acc rs
    have hd := dr_len f n y rs ws k
    simp only [dgo]
    split
    · split
      · have := ih (k + 1) (acc ++ [⟨k, (dg f n y ws k).t, (dg f n y ws k).s⟩]) (dr f n y rs ws k)
        simp only [List.length_append, List.length_cons, List.length_nil] at this
        omega
      · have := ih (k + 1) acc (dr f n y rs ws k)
        omega
    · simp; omega
theorem dls_len (f : Nat → List Ver) (n : Nat) (y : Int) (ws : List Ver) (rs : List Int) (fr to_ : Int) : (dls f n y ws rs fr to_).1.length ≤ 8 ∧ (dls f n y ws rs fr to_).2.2.length ≤ rs.length + 8 := by
  unfold dls
  split
  · rename_i h
    have h1 := h.1
    have h2 := h.2
    simp [keyB] at h1 h2
    have := dgo_len f n y ws (to_ + 1 - fr).toNat fr.toNat [] rs
    simp only [List.length_nil] at this
    omega
  · simp

theorem dgo_more {f : Nat → List Ver} {n k m : Nat} {y : Int} {ws acc : List Ver} {rs : List Int} {R : List Ver × Int × List Int} (h : dgo f n y ws k (m + 1) acc rs = R) (h0 : (dg f n y ws k).a = 0) (ht : (dg f n y ws k).t = true) :
    dgo f n y ws (k + 1) m (acc ++ [⟨k, (dg f n y ws k).t, (dg f n y ws k).s⟩]) (dr f n y rs ws k) = R := by
  rw [← h]; simp only [dgo]; rw [if_pos h0, if_pos ht]
theorem dgo_skip {f : Nat → List Ver} {n k m : Nat} {y : Int} {ws acc : List Ver} {rs : List Int} {R : List Ver × Int × List Int} (h : dgo f n y ws k (m + 1) acc rs = R) (h0 : (dg f n y ws k).a = 0) (ht : ¬ (dg f n y ws k).t = true) :
    dgo f n y ws (k + 1) m acc (dr f n y rs ws k) = R := by
  rw [← h]; simp only [dgo]; rw [if_pos h0, if_neg ht]
theorem dgo_stop {f : Nat → List Ver} {n k m : Nat} {y : Int} {ws acc : List Ver} {rs : List Int} {R : List Ver × Int × List Int} (h : dgo f n y ws k (m + 1) acc rs = R) (h0 : ¬ (dg f n y ws k).a = 0) : R = ([], (dg f n y ws k).a, dr f n y rs ws k) := by
  rw [← h]; simp only [dgo]; rw [if_neg h0]
theorem dgo_end {f : Nat → List Ver} {n k m : Nat} {y : Int} {ws acc : List Ver} {rs : List Int} {R : List Ver × Int × List Int} (h : dgo f n y ws k m acc rs = R) (h0 : m = 0) : R = (acc, 0, rs) := by
  subst h0; rw [← h]; rfl

/-- A deed's box: the mode, the commit, and of each key whether it was read, whether it was written, and what was written last. -/
def ncell (rs : List Int) (ws : List Ver) (k : Nat) : Nat → Value
  | 0 => .bool (decide ((k : Int) ∈ rs))
  | 1 => .bool (lwr ws k).isSome
  | 2 => .bool ((lwr ws k).getD dv).t
  | _ => .string ((lwr ws k).getD dv).s
/-- The cells of all notes. -/
def nlist (c : Nat → Nat → Value) : List Value :=
  [c 0 0, c 0 1, c 0 2, c 0 3, c 1 0, c 1 1, c 1 2, c 1 3, c 2 0, c 2 1, c 2 2, c 2 3, c 3 0, c 3 1, c 3 2, c 3 3,
    c 4 0, c 4 1, c 4 2, c 4 3, c 5 0, c 5 1, c 5 2, c 5 3, c 6 0, c 6 1, c 6 2, c 6 3, c 7 0, c 7 1, c 7 2, c 7 3]
def dcells (md y : Int) (c : Nat → Nat → Value) : Array Value :=
  #[.int .i64 md, .int .i64 y, c 0 0, c 0 1, c 0 2, c 0 3, c 1 0, c 1 1, c 1 2, c 1 3, c 2 0, c 2 1, c 2 2, c 2 3, c 3 0, c 3 1, c 3 2, c 3 3,
    c 4 0, c 4 1, c 4 2, c 4 3, c 5 0, c 5 1, c 5 2, c 5 3, c 6 0, c 6 1, c 6 2, c 6 3, c 7 0, c 7 1, c 7 2, c 7 3]

theorem dcells_note (md y : Int) (c : Nat → Nat → Value) (j : Nat) : (dcells md y c)[2 + j]? = (nlist c)[j]? := by
  show (Value.int .i64 md :: Value.int .i64 y :: nlist c).toArray[2 + j]? = _
  rw [List.getElem?_toArray, Nat.add_comm]
  rfl
theorem nlist_take (c : Nat → Nat → Value) {k : Nat} (hk : k < 8) : List.take 4 (List.drop (k * 4) (nlist c)) = [c k 0, c k 1, c k 2, c k 3] := by
  rcases lt8 hk with rfl | rfl | rfl | rfl | rfl | rfl | rfl | rfl <;> rfl
theorem lt4 {k : Nat} (h : k < 4) : k = 0 ∨ k = 1 ∨ k = 2 ∨ k = 3 := by omega
theorem dcells_at (md y : Int) (c : Nat → Nat → Value) {k i : Nat} (hk : k < 8) (hi : i < 4) : (dcells md y c)[2 + k * 4 + i]? = some (c k i) := by
  rcases lt8 hk with rfl | rfl | rfl | rfl | rfl | rfl | rfl | rfl <;> rcases lt4 hi with rfl | rfl | rfl | rfl <;> rfl
theorem dcells_set (md y : Int) (c : Nat → Nat → Value) {k i : Nat} (hk : k < 8) (hi : i < 4) (v : Value) : (dcells md y c).setIfInBounds (2 + k * 4 + i) v = dcells md y (fun j l => if j = k ∧ l = i then v else c j l) := by
  rcases lt8 hk with rfl | rfl | rfl | rfl | rfl | rfl | rfl | rfl <;> rcases lt4 hi with rfl | rfl | rfl | rfl <;> rfl
theorem dcells_congr {md y : Int} {c d : Nat → Nat → Value} (h : ∀ k i, k < 8 → i < 4 → c k i = d k i) : dcells md y c = dcells md y d := by
  have key : ∀ m : Nat, m < 34 → (dcells md y c)[m]? = (dcells md y d)[m]? := by
    intro m hm
    by_cases h2 : m < 2
    · have : m = 0 ∨ m = 1 := by omega
      rcases this with rfl | rfl <;> rfl
    · have e : m = 2 + (m - 2) / 4 * 4 + (m - 2) % 4 := by omega
      rw [e, dcells_at md y c (by omega) (by omega), dcells_at md y d (by omega) (by omega), h _ _ (by omega) (by omega)]
  refine Array.ext (by rfl) (fun m h1 h2 => ?_)
  have hm : m < 34 := h1
  have := key m hm
  rw [Array.getElem?_eq_getElem h1, Array.getElem?_eq_getElem h2] at this
  exact Option.some.inj this

theorem ncell_read {rs : List Int} {ws : List Ver} {k : Nat} (j i : Nat) (hi : i < 4) : (if j = k ∧ i = 0 then Value.bool true else ncell rs ws j i) = ncell (rs ++ [(k : Int)]) ws j i := by
  rcases lt4 hi with rfl | rfl | rfl | rfl
  · by_cases e : j = k
    · subst e; simp [ncell]
    · have : ¬ ((j : Int) = (k : Int)) := by omega
      simp [ncell, e, this]
  · simp [ncell]
  · simp [ncell]
  · simp [ncell]
theorem ncell_write {rs : List Int} {ws : List Ver} {k : Nat} (t : Bool) (s : ByteArray) (j i : Nat) (hi : i < 4) :
    (if j = k ∧ i = 3 then Value.string s else if j = k ∧ i = 2 then Value.bool t else if j = k ∧ i = 1 then Value.bool true else ncell rs ws j i) = ncell rs (ws ++ [⟨(k : Int), t, s⟩]) j i := by
  by_cases e : j = k
  · subst e
    rcases lt4 hi with rfl | rfl | rfl | rfl <;> simp [ncell, lwr_put]
  · have e2 : ¬ ((k : Int) = (j : Int)) := by omega
    rcases lt4 hi with rfl | rfl | rfl | rfl <;> simp [ncell, lwr_put, e, e2]
end Go.Proofs.Ytcfogkdpkpehaab

/- 'int(uint(x) % uint(n))', reckoned. -/
namespace Go.Proofs.Ytcfogkdpkpehaab
open Go.RowKit
set_option maxRecDepth 20000

/-- 'int(uint(cut) % uint(n + 1))'. -/
theorem cut_of (cut : Int) {n : Nat} (h2 : n ≤ 100000) : ∃ k : Nat, wrap64 ((IntKind.u64.wrap cut).tmod ((n : Int) + 1)) = (k : Int) ∧ k ≤ n := by
  have e : IntKind.u64.wrap cut = cut % 18446744073709551616 := by simp [IntKind.wrap, IntKind.bits, IntKind.signed]
  have h0 : 0 ≤ cut % 18446744073709551616 := Int.emod_nonneg _ (by omega)
  rw [e, Int.tmod_eq_emod_of_nonneg h0]
  generalize cut % 18446744073709551616 = x at *
  have h3 := Int.emod_nonneg x (show (n : Int) + 1 ≠ 0 by omega)
  have h4 := Int.emod_lt_of_pos x (show (0 : Int) < (n : Int) + 1 by omega)
  refine ⟨(x % ((n : Int) + 1)).toNat, ?_, by omega⟩
  unfold wrap64
  omega
end Go.Proofs.Ytcfogkdpkpehaab

/- Plain words for vaults: what Begin, Commit, Tear and Crash tell and leave; no statement of the program yet. -/
namespace Go.Proofs.Ytcfogkdpkpehaab
open Go.RowKit
set_option maxRecDepth 20000

/-- What a deed wrote: keys, and values that may be. -/
def WOk (ws : List Ver) : Prop := ∀ p ∈ ws, 0 ≤ p.a ∧ p.a < 8 ∧ chk p.t p.s = 0
theorem wok_nil : WOk [] := fun p hp => by simp at hp
theorem WOk.put {ws : List Ver} (h : WOk ws) (md k : Int) (t : Bool) (s : ByteArray) : WOk (dpw md ws k t s) := by
  unfold dpw
  split
  · rename_i hc
    intro p hp
    rcases List.mem_append.1 hp with q | q
    · exact h p q
    · rw [List.mem_singleton.1 q]
      unfold dpc at hc
      split at hc
      · rename_i hk
        simp only [keyB, decide_eq_true_eq] at hk
        split at hc
        · simp at hc
        · exact ⟨hk.1, hk.2, hc⟩
      · simp at hc
  · exact h
theorem getD_mem {ws : List Ver} {i : Nat} (h : i < ws.length) : ws.getD i dv ∈ ws := by
  simp only [List.getD_eq_getElem?_getD, List.getElem?_eq_getElem h, Option.getD_some]
  exact List.getElem_mem h
theorem WOk.lw {ws : List Ver} (h : WOk ws) {k : Int} {v : Ver} : ∀ i, i ≤ ws.length → Ytcfogkdpkpehaab.lw ws k i = some v → chk v.t v.s = 0 := by
  intro i
  induction i with
  | zero => intro _ e; simp [Ytcfogkdpkpehaab.lw] at e
  | succ i ih =>
    intro hi e
    simp only [Ytcfogkdpkpehaab.lw] at e
    split at e
    · simp only [Option.some.injEq] at e
      rw [← e]
      exact (h _ (getD_mem (i := i) (by omega))).2.2
    · exact ih (by omega) e
theorem WOk.lwr {ws : List Ver} (h : WOk ws) {k : Int} {v : Ver} (e : Ytcfogkdpkpehaab.lwr ws k = some v) : chk v.t v.s = 0 := h.lw _ (Nat.le_refl _) e
theorem pf_snoc {p : Ver} : ∀ {ps : List Ver} {a : Int}, pf a ps = 0 → (∀ q ∈ ps, q.a < p.a) → a < p.a → 0 ≤ p.a → p.a < 8 → chk p.t p.s = 0 → pf a (ps ++ [p]) = 0 := by
  intro ps
  induction ps with
  | nil =>
    intro a _ _ h2 h3 h4 h5
    simp only [List.nil_append, pf]
    rw [if_neg (by simp [keyB]; omega), if_neg (by omega), if_pos h5]
  | cons q r ih =>
    intro a h h1 h2 h3 h4 h5
    simp only [List.cons_append, pf] at h ⊢
    split at h
    · simp at h
    · rename_i g1
      split at h
      · simp at h
      · rename_i g2
        split at h
        · rename_i g3
          rw [if_neg g1, if_neg g2, if_pos g3]
          exact ih h (fun x hx => h1 x (by simp [hx])) (h1 q (by simp)) h3 h4 h5
        · rename_i g3
          exact absurd h g3
theorem WOk.wk {ws : List Ver} (h : WOk ws) : ∀ m, m ≤ 8 → pf (-1) (Ytcfogkdpkpehaab.wk ws m) = 0 ∧ ∀ q ∈ Ytcfogkdpkpehaab.wk ws m, q.a < m := by
  intro m
  induction m with
  | zero => intro _; exact ⟨rfl, fun q hq => by simp [Ytcfogkdpkpehaab.wk] at hq⟩
  | succ m ih =>
    intro hm
    obtain ⟨h1, h2⟩ := ih (by omega)
    simp only [Ytcfogkdpkpehaab.wk]
    split
    · rename_i v hv
      refine ⟨pf_snoc h1 h2 (by show (-1 : Int) < (m : Int); omega) (by show (0 : Int) ≤ (m : Int); omega) (by show (m : Int) < 8; omega) (show chk v.t v.s = 0 from h.lwr hv), fun q hq => ?_⟩
      rcases List.mem_append.1 hq with e | e
      · have := h2 q e; push_cast; omega
      · rw [List.mem_singleton.1 e]; push_cast; omega
    · exact ⟨h1, fun q hq => by have := h2 q hq; push_cast; omega⟩
theorem WOk.pf {ws : List Ver} (h : WOk ws) : Ytcfogkdpkpehaab.pf (-1) (Ytcfogkdpkpehaab.wk ws 8) = 0 := (h.wk 8 (Nat.le_refl _)).1

/-- The versions of all keys behind commits. -/
theorem inv_wal : ∀ (cs : List (List Ver)) (f : Nat → List Ver) (n : Nat), Inv f n → (∀ c ∈ cs, pf (-1) c = 0) → n + cs.length ≤ 40 → Inv (wal f n cs) (n + cs.length) := by
  intro cs
  induction cs with
  | nil => intro f n h _ _; exact h
  | cons c r ih =>
    intro f n h hp hn
    simp only [List.length_cons] at hn
    obtain ⟨h1, h2⟩ := wcode_ok (n := n) (hp c (by simp)) (by omega)
    have h3 := h.write c
    rw [h2] at h3
    have := ih _ _ h3 (fun x hx => hp x (by simp [hx])) (by omega)
    simp only [wal, List.length_cons]
    rw [show n + (r.length + 1) = n + 1 + r.length by omega]
    exact this
theorem inv_dv : Inv (fun _ => [dv]) 0 :=
  ⟨fun _ _ i j h1 h2 => by simp at h2; omega, fun _ _ => by simp, fun _ _ => by simp [va, dv], fun _ _ => by simp [va, dv], by omega⟩
theorem inv_wal0 {cs : List (List Ver)} (h : LInv cs) : Inv (wal0 cs) cs.length := by
  have := inv_wal cs _ _ inv_dv h.pf (by have := h.n40; omega)
  rw [Nat.zero_add] at this
  exact this
theorem wrs_lo : ∀ (ps : List Ver) (f : Nat → List Ver) (x : Int), (∀ k, 0 < (f k).length) → ∀ k, 0 < (wrs f x ps k).length ∧ va (wrs f x ps k) 0 = va (f k) 0 := by
  intro ps
  induction ps with
  | nil => intro f x h k; exact ⟨h k, rfl⟩
  | cons p r ih =>
    intro f x h k
    have hl : ∀ k, 0 < (wr1 f x p k).length ∧ va (wr1 f x p k) 0 = va (f k) 0 := by
      intro k
      unfold wr1
      by_cases e : k = p.a.toNat
      · subst e
        rw [upd_same]
        exact ⟨by have := (pvers_length (f p.a.toNat) x p.t p.s).1; have := h p.a.toNat; omega, pvers_lo (h _)⟩
      · rw [upd_other _ _ _ e]
        exact ⟨h k, rfl⟩
    simp only [wrs]
    obtain ⟨h1, h2⟩ := ih (wr1 f x p) x (fun k => (hl k).1) k
    exact ⟨h1, h2.trans (hl k).2⟩
theorem wal_lo : ∀ (cs : List (List Ver)) (f : Nat → List Ver) (n : Nat), (∀ k, 0 < (f k).length) → ∀ k, va (wal f n cs k) 0 = va (f k) 0 := by
  intro cs
  induction cs with
  | nil => intro f n _ k; rfl
  | cons c r ih =>
    intro f n h k
    simp only [wal]
    have hl : ∀ k, 0 < (wst f n c k).length ∧ va (wst f n c k) 0 = va (f k) 0 := by
      intro k
      unfold wst
      split
      · exact wrs_lo c f _ h k
      · exact ⟨h k, rfl⟩
    rw [ih _ _ (fun k => (hl k).1) k]
    exact (hl k).2
theorem fmx_zero {f : Nat → List Ver} (h : ∀ k, va (f k) 0 = 0) : ∀ m, fmx f m = 0 := by
  intro m
  induction m with
  | zero => rfl
  | succ m ih => simp only [fmx]; rw [ih, h m]; simp
theorem fmx_wal0 (cs : List (List Ver)) : fmx (wal0 cs) 8 = 0 := fmx_zero (fun k => by unfold wal0; rw [wal_lo _ _ _ (fun _ => by simp)]; simp [va, dv]) 8
theorem fmx_le {f : Nat → List Ver} {n : Nat} (h : Inv f n) : ∀ m, m ≤ 8 → 0 ≤ fmx f m ∧ fmx f m ≤ n := by
  intro m
  induction m with
  | zero => intro _; simp [fmx]
  | succ m ih =>
    intro hm
    have h1 := ih (by omega)
    have h2 := (h.rise m (by omega)).le (Nat.zero_le ((f m).length - 1)) (by have := h.pos m (by omega); omega)
    have h3 := h.hi m (by omega)
    simp only [fmx]
    split <;> omega
/-- Where all is known nothing is refused. -/
theorem tr_known {f : Nat → List Ver} {n : Nat} {y : Int} (h : Inv f n) (h1 : fmx f 8 ≤ y) (h2 : y ≤ n) {k : Nat} (hk : k < 8) : (tr f n k y).a = 0 := by
  have h3 := fmx_ge f 8 k hk
  have h4 := (fmx_le h 8 (Nat.le_refl _)).1
  unfold tr
  rw [if_pos ⟨by simp [keyB]; omega, h2⟩]
  unfold rd3
  rw [Int.toNat_natCast, if_neg (by omega), if_neg (by omega)]

/-- What is so of a vault's table and its log. -/
structure VI (f : Nat → List Ver) (n : Nat) (cs : List (List Ver)) : Prop where
  sfx : Sfx f (wal0 cs)
  len : n = cs.length
theorem VI.crash {cs : List (List Ver)} (h : LInv cs) : VI (wal0 cs) cs.length cs := ⟨sfx_refl (inv_wal0 h), rfl⟩
theorem VI.clear {f : Nat → List Ver} {n : Nat} {cs : List (List Ver)} (h : VI f n cs) (hi : Inv f n) (y : Int) : VI (clm f y 8) n cs := ⟨h.sfx.clear y hi, h.len⟩
theorem VI.commit {f : Nat → List Ver} {n : Nat} {cs : List (List Ver)} (h : VI f n cs) (ps : List Ver) : VI (wst f n ps) (n + 1) (cs ++ [ps]) := by
  refine ⟨?_, by rw [h.len]; simp⟩
  rw [wal0_snoc, ← h.len]
  exact h.sfx.write n ps
theorem vi_new : VI (fun _ => [dv]) 0 [] := ⟨sfx_refl inv_dv, rfl⟩

/-- Begin: the code; the commit behind which the deed begins. -/
def bcode (f : Nat → List Ver) (n : Nat) (md at_ : Int) : Int :=
  if 1 ≤ md ∧ md ≤ 3 then (if md = 3 then (if at_ < 0 ∨ (n : Int) < at_ then 1 else if at_ < fmx f 8 then 12 else 0) else 0) else 3
def bat (n : Nat) (md at_ : Int) : Int := if md = 3 then at_ else n

/-- Commit: its code, whether it makes a commit, what it leaves, its number. -/
def vcode (f : Nat → List Ver) (cs : List (List Ver)) (md y : Int) (rs : List Int) (ws : List Ver) : Int :=
  if dm f md y rs ws = 0 then (if (wk ws 8).length = 0 then 0 else lcode cs (wk ws 8)) else dm f md y rs ws
def vdone (f : Nat → List Ver) (cs : List (List Ver)) (md y : Int) (rs : List Int) (ws : List Ver) : Bool :=
  decide (dm f md y rs ws = 0 ∧ (wk ws 8).length ≠ 0 ∧ lcode cs (wk ws 8) = 0)
def vf (f : Nat → List Ver) (n : Nat) (cs : List (List Ver)) (md y : Int) (rs : List Int) (ws : List Ver) : Nat → List Ver := if vdone f cs md y rs ws = true then wst f n (wk ws 8) else f
def vn (f : Nat → List Ver) (n : Nat) (cs : List (List Ver)) (md y : Int) (rs : List Int) (ws : List Ver) : Nat := if vdone f cs md y rs ws = true then n + 1 else n
def vcs (f : Nat → List Ver) (cs : List (List Ver)) (md y : Int) (rs : List Int) (ws : List Ver) : List (List Ver) := if vdone f cs md y rs ws = true then cs ++ [wk ws 8] else cs
def vnum (f : Nat → List Ver) (n : Nat) (cs : List (List Ver)) (md y : Int) (rs : List Int) (ws : List Ver) : Int := if vdone f cs md y rs ws = true then (n : Int) + 1 else 0

section
variable {f : Nat → List Ver} {n : Nat} {cs : List (List Ver)} {md y : Int} {rs : List Int} {ws : List Ver}
theorem v_may (h : ¬ dm f md y rs ws = 0) : vcode f cs md y rs ws = dm f md y rs ws ∧ vdone f cs md y rs ws = false := by
  unfold vcode vdone
  rw [if_neg h]
  exact ⟨rfl, by simp [h]⟩
theorem v_none (h : dm f md y rs ws = 0) (h2 : (wk ws 8).length = 0) : vcode f cs md y rs ws = 0 ∧ vdone f cs md y rs ws = false := by
  unfold vcode vdone
  rw [if_pos h, if_pos h2]
  exact ⟨rfl, by simp [h2]⟩
theorem v_full (h : dm f md y rs ws = 0) (h2 : ¬ (wk ws 8).length = 0) (h3 : ¬ lcode cs (wk ws 8) = 0) : vcode f cs md y rs ws = lcode cs (wk ws 8) ∧ vdone f cs md y rs ws = false := by
  unfold vcode vdone
  rw [if_pos h, if_neg h2]
  exact ⟨rfl, by simp [h3]⟩
theorem v_yes (h : dm f md y rs ws = 0) (h2 : ¬ (wk ws 8).length = 0) (h3 : lcode cs (wk ws 8) = 0) : vcode f cs md y rs ws = 0 ∧ vdone f cs md y rs ws = true := by
  unfold vcode vdone
  rw [if_pos h, if_neg h2]
  exact ⟨h3, by simp [h, h2, h3]⟩
theorem v_not (h : vdone f cs md y rs ws = false) : vf f n cs md y rs ws = f ∧ vn f n cs md y rs ws = n ∧ vcs f cs md y rs ws = cs ∧ vnum f n cs md y rs ws = 0 := by
  unfold vf vn vcs vnum
  rw [h]
  exact ⟨rfl, rfl, rfl, rfl⟩
theorem v_did (h : vdone f cs md y rs ws = true) : vf f n cs md y rs ws = wst f n (wk ws 8) ∧ vn f n cs md y rs ws = n + 1 ∧ vcs f cs md y rs ws = cs ++ [wk ws 8] ∧ vnum f n cs md y rs ws = (n : Int) + 1 := by
  unfold vf vn vcs vnum
  rw [h]
  exact ⟨rfl, rfl, rfl, rfl⟩
theorem VI.done (h : VI f n cs) : VI (vf f n cs md y rs ws) (vn f n cs md y rs ws) (vcs f cs md y rs ws) := by
  cases hd : vdone f cs md y rs ws with
  | false =>
    obtain ⟨h1, h2, h3, _⟩ := v_not (n := n) hd
    rw [h1, h2, h3]
    exact h
  | true =>
    obtain ⟨h1, h2, h3, _⟩ := v_did (n := n) hd
    rw [h1, h2, h3]
    exact h.commit _
/-- A commit for which the log has room: the table has room, too. -/
theorem VI.room (h : VI f n cs) {ps : List Ver} (hc : lcode cs ps = 0) : wcode n ps = 0 ∧ wn n ps = n + 1 ∧ wnum n ps = (n : Int) + 1 := by
  obtain ⟨h1, h2, _⟩ := lcode_zero hc
  have h3 := h.len
  obtain ⟨e1, e2⟩ := wcode_ok (n := n) h1 (by omega)
  exact ⟨e1, e2, by unfold wnum; rw [if_pos e1]⟩
end

/-- Tear: the commits behind it; its number. -/
def tcs (f : Nat → List Ver) (cs : List (List Ver)) (md y : Int) (rs : List Int) (ws : List Ver) (keep : Int) : List (List Ver) :=
  if dm f md y rs ws = 0 ∧ (wk ws 8).length ≠ 0 then ltear cs (wk ws 8) keep else cs
def tnum (f : Nat → List Ver) (cs : List (List Ver)) (md y : Int) (rs : List Int) (ws : List Ver) (keep : Int) : Int :=
  if cs.length < (tcs f cs md y rs ws keep).length then ((tcs f cs md y rs ws keep).length : Int) else 0
section
variable {f : Nat → List Ver} {n : Nat} {cs : List (List Ver)} {md y : Int} {rs : List Int} {ws : List Ver} {keep : Int}
theorem t_may (h : ¬ dm f md y rs ws = 0) : tcs f cs md y rs ws keep = cs := by unfold tcs; rw [if_neg (fun q => h q.1)]
theorem t_none (h2 : (wk ws 8).length = 0) : tcs f cs md y rs ws keep = cs := by unfold tcs; rw [if_neg (fun q => q.2 h2)]
theorem t_tear (h : dm f md y rs ws = 0) (h2 : ¬ (wk ws 8).length = 0) : tcs f cs md y rs ws keep = ltear cs (wk ws 8) keep := by unfold tcs; rw [if_pos ⟨h, h2⟩]
theorem tcs_cases : tcs f cs md y rs ws keep = cs ∨ (tcs f cs md y rs ws keep = cs ++ [wk ws 8] ∧ vcode f cs md y rs ws = 0 ∧ dm f md y rs ws = 0 ∧ (wk ws 8).length ≠ 0 ∧ lcode cs (wk ws 8) = 0) := by
  unfold tcs
  split
  · rename_i q
    unfold ltear
    split
    · rename_i q2
      exact .inr ⟨rfl, (v_yes q.1 q.2 q2.1).1, q.1, q.2, q2.1⟩
    · exact .inl rfl
  · exact .inl rfl
theorem LInv.tcs (h : LInv cs) : LInv (Ytcfogkdpkpehaab.tcs f cs md y rs ws keep) := by
  unfold Ytcfogkdpkpehaab.tcs
  split
  · exact h.tear keep
  · exact h
theorem tcs_code (h : ¬ vcode f cs md y rs ws = 0) : tcs f cs md y rs ws keep = cs := by
  rcases tcs_cases (f := f) (cs := cs) (md := md) (y := y) (rs := rs) (ws := ws) (keep := keep) with e | e
  · exact e
  · exact absurd e.2.1 h
theorem tnum_same (h : tcs f cs md y rs ws keep = cs) : tnum f cs md y rs ws keep = 0 := by unfold tnum; rw [h, if_neg (by omega)]
theorem tnum_more (h : tcs f cs md y rs ws keep = cs ++ [wk ws 8]) : tnum f cs md y rs ws keep = (cs.length : Int) + 1 := by unfold tnum; rw [h, if_pos (by simp)]; simp
end
end Go.Proofs.Ytcfogkdpkpehaab

/- Bytes in memory; append onto them; string(b), b[i:j]. -/
namespace Go.Proofs.Ytcfogkdpkpehaab
open Go.RowKit
set_option maxRecDepth 20000

/-- The k-th byte, as a number. -/
def ub (bs : List UInt8) (k : Nat) : Nat := (bs.getD k 0).toNat
def bcells (bs : List UInt8) : List Value := bs.map fun b => Value.int .u8 b.toNat

theorem bcells_length (bs : List UInt8) : (bcells bs).length = bs.length := by simp [bcells]
theorem bcells_append (xs ys : List UInt8) : bcells (xs ++ ys) = bcells xs ++ bcells ys := by simp [bcells]
theorem bcells_at {bs : List UInt8} {k : Nat} (h : k < bs.length) : (bcells bs)[k]? = some (.int .u8 (ub bs k : Nat)) := by
  simp [bcells, ub, List.getD_eq_getElem?_getD, List.getElem?_eq_getElem h]
theorem bcells_one (bs : List UInt8) : ∀ u ∈ bcells bs, u.oneCell' = true := by
  intro u hu
  obtain ⟨_, _, rfl⟩ := List.mem_map.1 hu
  rfl
theorem ub_lt (bs : List UInt8) (k : Nat) : ub bs k < 256 := (bs.getD k 0).toNat_lt
theorem ub_drop (bs : List UInt8) (l k : Nat) : ub (bs.drop l) k = ub bs (l + k) := by simp [ub, List.getD_eq_getElem?_getD, List.getElem?_drop]
theorem ub_take (bs : List UInt8) {l k : Nat} (h : k < l) : ub (bs.take l) k = ub bs k := by simp [ub, List.getD_eq_getElem?_getD, h]

/-- The bytes lie in block g from offset o on. -/
def SlU (w : World) (g o : Nat) (bs : List UInt8) : Prop := ∀ j, j < bs.length → w.cell? ⟨g, o + j, none⟩ = some (.int .u8 (ub bs j : Nat))
theorem SlU.kp {S : List Nat} {w w' : World} {g o : Nat} {bs : List UInt8} (h : SlU w g o bs) (hk : Kp S w w') (hg : g ∉ S) : SlU w' g o bs :=
  fun j hj => hk.cell (p := ⟨g, o + j, none⟩) hg (h j hj)
theorem SlU.drop {w : World} {g o : Nat} {bs : List UInt8} (h : SlU w g o bs) (l : Nat) : SlU w g (o + l) (bs.drop l) := fun j hj => by
  rw [ub_drop, Nat.add_assoc]
  exact h (l + j) (by simp at hj; omega)
theorem SlU.take {w : World} {g o : Nat} {bs : List UInt8} (h : SlU w g o bs) (l : Nat) : SlU w g o (bs.take l) := fun j hj => by
  simp at hj
  rw [ub_take _ (by omega)]
  exact h j (by omega)
theorem SlU.news {w : World} {g o : Nat} {bs : List UInt8} (h : SlU w g o bs) : ∀ j u, (bcells bs)[j]? = some u → w.cell? ((⟨g, o, none⟩ : Addr).add j) = some u := fun j u hu => by
  have hj : j < bs.length := by rw [← bcells_length]; exact (List.getElem?_eq_some_iff.1 hu).1
  rw [addr_add, h j hj, ← bcells_at hj]; exact hu

/-- The bytes lie behind a slice's address. -/
def Byt (w : World) (a : Option Addr) (bs : List UInt8) : Prop := 0 < bs.length → ∃ g o, a = some ⟨g, o, none⟩ ∧ SlU w g o bs
theorem Byt.kp {S : List Nat} {w w' : World} {a : Option Addr} {bs : List UInt8} (h : Byt w a bs) (hk : Kp S w w') (hS : ∀ g o, a = some ⟨g, o, none⟩ → g ∉ S) : Byt w' a bs := fun hp => by
  obtain ⟨g, o, e, hs⟩ := h hp
  exact ⟨g, o, e, hs.kp hk (hS g o e)⟩
theorem Byt.kp0 {w w' : World} {a : Option Addr} {bs : List UInt8} (h : Byt w a bs) (hk : Kp [] w w') : Byt w' a bs := h.kp hk (fun _ _ _ => by simp)
theorem byt_nil (w : World) (a : Option Addr) : Byt w a [] := fun h => by simp at h

/-- A row of bytes that a call made since w0, and changed nothing else. -/
structure Row (w0 w : World) (g cap : Nat) (bs : List UInt8) : Prop where
  own : w.ownsRow w0.heap.size 5 1 (.slice (some ⟨g, 0, none⟩) bs.length cap) bs.length (bcells bs)
  kp : Kp [] w0 w
theorem Row.lt {w0 w : World} {g cap : Nat} {bs : List UInt8} (h : Row w0 w g cap bs) : w0.heap.size ≤ g ∧ g < w.heap.size := h.own.lt g rfl
theorem Row.cap {w0 w : World} {g cap : Nat} {bs : List UInt8} (h : Row w0 w g cap bs) : bs.length ≤ cap := by
  rcases h.own.2 with ⟨e, _⟩ | ⟨g2, c2, cur, e, q1, q2, q3, q4, q5, q6⟩
  · simp at e
  · simp only [Value.slice.injEq, Option.some.injEq, Addr.mk.injEq, and_true, true_and] at e
    obtain ⟨rfl, rfl⟩ := e
    exact q3
theorem Row.kp0 {w0 w w' : World} {g cap : Nat} {bs : List UInt8} (h : Row w0 w g cap bs) (hk : Kp [] w w') : Row w0 w' g cap bs := ⟨own_kp0 h.own hk, h.kp.trans0 hk⟩
theorem Row.since {w0 w1 w : World} {g cap : Nat} {bs : List UInt8} (h : Row w1 w g cap bs) (hk : Kp [] w0 w1) : Row w0 w g cap bs := ⟨own_base h.own hk.size, hk.trans0 h.kp⟩
theorem Row.slu {w0 w : World} {g cap : Nat} {bs : List UInt8} (h : Row w0 w g cap bs) : SlU w g 0 bs := fun j hj => by
  have := h.own.cellAt j (by omega)
  rw [Nat.zero_add, this, bcells_at hj]
theorem Row.byt {w0 w : World} {g cap : Nat} {bs : List UInt8} (h : Row w0 w g cap bs) : Byt w (some ⟨g, 0, none⟩) bs := fun _ => ⟨g, 0, rfl, h.slu⟩
theorem row_lit (w0 w : World) (hk : Kp [] w0 w) (bs : List UInt8) (cs : Array Value) (hc : cs.toList = bcells bs) (hm : bs.length ≤ 1000) : Row w0 (w.alloc (.cells cs 5)) w.heap.size bs.length bs := by
  refine ⟨⟨by rw [bcells_length]; omega, .inr ⟨w.heap.size, bs.length, cs, rfl, hk.size, heap_alloc_new w _, Nat.le_refl _, by unfold maxLen; omega, ?_, ?_⟩⟩, hk.alloc _⟩
  · rw [← Array.length_toList, hc, bcells_length]; omega
  · rw [hc, Nat.mul_one, ← bcells_length, List.take_length]

theorem Try.info5 : (Try.prog.info? 5).map (fun i => (i.zero, i.size, i.bytes)) = some (some (.int .u8 0), 1, 1) := by kernel_rfl

/-- What may be appended: bytes behind an address, a string. -/
theorem Byt.src {w : World} {a : Option Addr} {bs : List UInt8} (h : Byt w a bs) (c : Nat) : Src Try.prog 1 23 (.slice a bs.length c) bs.length (bcells bs) w := by
  by_cases hp : 0 < bs.length
  · obtain ⟨g, o, rfl, hs⟩ := h hp
    exact Src.ofSlice w Try.underlying23 ⟨g, o, none⟩ bs.length c (bcells bs) (by rw [bcells_length]; omega) hs.news (bcells_one bs)
  · have e : bs = [] := List.eq_nil_of_length_eq_zero (by omega)
    subst e
    cases a with
    | none => exact Src.ofNil w Try.underlying23 c
    | some a => exact Src.ofSlice w Try.underlying23 a 0 c [] (by simp) (by simp) (by simp)
theorem str_src (w : World) (s : ByteArray) : Src Try.prog 1 9 (.string s) s.data.toList.length (bcells s.data.toList) w := by
  rw [bytes_size]
  exact Src.ofString w Try.underlying9 s

theorem grown_row {w0 w : World} (hk : Kp [] w0 w) (bs : List UInt8) (cap : Nat) (hc : bs.length ≤ cap) (hcm : cap ≤ maxLen) (tl : Array Value) (ht : tl.size = cap - bs.length) :
    Row w0 (w.drew.alloc (.cells ((bcells bs).toArray ++ tl) 5)) w.heap.size cap bs := by
  refine ⟨⟨by rw [bcells_length]; omega, .inr ⟨w.heap.size, cap, _, rfl, hk.size, heap_alloc_new w.drew _, hc, hcm, ?_, ?_⟩⟩, hk.drew.alloc _⟩
  · simp only [Array.size_append, List.size_toArray, bcells_length, ht]; omega
  · simp only [Array.toList_append, Nat.mul_one]
    rw [← bcells_length bs]
    exact List.take_left

theorem run_app {w0 w : World} {g cap : Nat} {bs : List UInt8} (h : Row w0 w g cap bs) (tx ty : TypeId) (x : Value) (news : List UInt8) (hs : Src Try.prog 1 tx x news.length (bcells news) w) (hm : bs.length + news.length ≤ 100000) :
    ∃ g' cap' w', (Builtin.append_ #[23, tx] ty #[.slice (some ⟨g, 0, none⟩) bs.length cap, x]).run Try.prog w = .ok (.slice (some ⟨g', 0, none⟩) (bs ++ news).length cap') w' ∧
      Row w0 w' g' cap' (bs ++ news) ∧ Kp [g] w w' ∧ (g' = g ∨ g' = w.heap.size) := by
  obtain ⟨i0, hi0, hz0, hz1, hz2⟩ := info_parts Try.info5
  have hB := h.kp.size
  have hgl := h.lt
  rcases h.own.2 with ⟨e, _⟩ | ⟨g2, c2, cur, e, q1, q2, q3, q4, q5, q6⟩
  · simp at e
  · simp only [Value.slice.injEq, Option.some.injEq, Addr.mk.injEq, and_true, true_and] at e
    obtain ⟨rfl, rfl⟩ := e
    have hs' : Src Try.prog i0.size tx x news.length (bcells news) w := by rw [hz1]; exact hs
    simp only [Nat.mul_one] at q5 q6
    by_cases hroom : bs.length + news.length ≤ cap
    · have hst := run_storeCells_at Try.prog g bs.length 5 (bcells news) 0 cur w q2 (by rw [bcells_length]; omega) (bcells_one news)
      simp only [Nat.add_zero] at hst
      refine ⟨g, cap, w.setRow g (cur.toList.take bs.length ++ bcells news ++ cur.toList.drop (bs.length + (bcells news).length)).toArray, ?_, ⟨⟨?_, .inr ⟨g, cap, _, rfl, q1, setRow_heap w g cur _ 5 _ q2, by simp; omega, q4, ?_, ?_⟩⟩, ?_⟩, ?_, .inl rfl⟩
      · have hl : (bs ++ news).length = bs.length + news.length := by simp
        rw [hl]
        rcases hs'.kind with ⟨e', hk⟩ | hk <;> simp [Builtin.append_, run_underlying Try.underlying23, run_underlying hk, sizeOf, typeInfo, hi0, hz1, hs.len, hroom, hs.cells, Addr.add_lit, hst]
      · rw [bcells_length]; omega
      · simp only [List.size_toArray, List.length_append, List.length_take, List.length_drop, Array.length_toList, bcells_length]
        omega
      · rw [q6, Nat.mul_one]
        have hl : (bs ++ news).length = (bcells bs ++ bcells news).length := by simp [bcells_length]
        rw [hl, bcells_append]
        exact List.take_left
      · exact ⟨h.kp.os, h.kp.tape, h.kp.output, by simpa using h.kp.size, fun k hk hn => by rw [setRow_other w g k _ (by omega)]; exact h.kp.block k hk hn⟩
      · exact ⟨rfl, rfl, rfl, by simp, fun k _ hn => setRow_other w g k _ (by simpa using hn)⟩
    · have hfo := run_firstCells_some (P := Try.prog) w.drew i0.size bs.length ⟨g, 0, none⟩ bs.length cap (bcells bs) (by rw [bcells_length, hz1]; omega) (fun j u hu => by simpa using h.slu.news j u hu)
      have hge := grownCap_ge w (bs.length + news.length) cap 5
      have hfit : Builtin.nextslicecap (bs.length + news.length) cap * i0.bytes ≤ 281474976710656 := growslice_fits (by omega) (by rw [hz2]; omega)
      have hr := run_append_grow_src (P := Try.prog) w 23 tx ty 5 i0 _ Try.underlying23 hi0 hz0 (some ⟨g, 0, none⟩) bs.length cap (bcells bs) hfo x news.length (bcells news) hs' (by omega) (by omega) hfit
      have hl : (bs ++ news).length = bs.length + news.length := by simp
      rw [← bcells_append, ← hl] at hr
      refine ⟨w.heap.size, _, _, hr, grown_row h.kp (bs ++ news) _ (by rw [hl]; exact hge) (grownCap_le_maxLen w _ _ _ (by rw [hl]; unfold maxLen; omega)) _ ?_, ?_, .inr rfl⟩
      · rw [size_zeroCells]; simp [Value.cells]
      · exact ((Kp.refl [g] w).drew.alloc _)

theorem run_app_nil {w0 w : World} (hk : Kp [] w0 w) (tx ty : TypeId) (x : Value) (news : List UInt8) (hs : Src Try.prog 1 tx x news.length (bcells news) w) (hp : 0 < news.length) (hm : news.length ≤ 100000) :
    ∃ cap' w', (Builtin.append_ #[23, tx] ty #[.slice none 0 0, x]).run Try.prog w = .ok (.slice (some ⟨w.heap.size, 0, none⟩) news.length cap') w' ∧ Row w0 w' w.heap.size cap' news ∧ Kp [] w w' := by
  obtain ⟨i0, hi0, hz0, hz1, hz2⟩ := info_parts Try.info5
  have hs' : Src Try.prog i0.size tx x news.length (bcells news) w := by rw [hz1]; exact hs
  have hge := grownCap_ge w (0 + news.length) 0 5
  have hfit : Builtin.nextslicecap (0 + news.length) 0 * i0.bytes ≤ 281474976710656 := growslice_fits (by omega) (by rw [hz2]; omega)
  have hr := run_append_grow_src (P := Try.prog) w 23 tx ty 5 i0 _ Try.underlying23 hi0 hz0 none 0 0 [] (run_firstCells_none w.drew i0.size 0 0 0) x news.length (bcells news) hs' (by omega) (by omega) hfit
  rw [List.nil_append, Nat.zero_add] at hr
  refine ⟨_, _, hr, grown_row hk news _ (by rw [Nat.zero_add] at hge; exact hge) (grownCap_le_maxLen w _ _ _ (by unfold maxLen; omega)) _ ?_, ((Kp.refl [] w).drew.alloc _)⟩
  rw [size_zeroCells]; simp [Value.cells]

end Go.Proofs.Ytcfogkdpkpehaab

/- append onto bytes, at the operation; appendPair, by its contract. -/
namespace Go.Proofs.Ytcfogkdpkpehaab
open Go.RowKit
set_option maxRecDepth 20000
attribute [local go_sem ↓] Go.wp_at_zero Go.wp_at_succ

theorem wpList_app {ops : Array Oper} {rest : List Oper} {o : Oper} {a : Act} {w : World} {Q : Exit → Act → World → Prop} (hw : Region.wanted o (yielded ops a.tmps) = true) (s x : Operand) (tx : TypeId)
    (ho : o.op = .call { callee := .builtin .append, args := #[s, x], argTypes := #[23, tx] }) {w0 : World} {g cap : Nat} {bs : List UInt8} (h : Row w0 w g cap bs) (n : Nat) (hn : n = bs.length) (xv : Value) (news : List UInt8)
    (hs : a.eval s = .slice (some ⟨g, 0, none⟩) n cap) (hx : a.eval x = xv) (hsrc : Src Try.prog 1 tx xv news.length (bcells news) w) (hm : bs.length + news.length ≤ 100000)
    (k : ∀ g' cap' n' w', Hid (n' = (bs ++ news).length) → Hid (Row w0 w' g' cap' (bs ++ news)) → Hid (Kp [g] w w') → Hid (g' = g ∨ g' = w.heap.size) → wpList Try.prog ops Q rest (a.put o.dst (.slice (some ⟨g', 0, none⟩) n' cap')) w') : wpList Try.prog ops Q (o :: rest) a w := by
  subst hn
  obtain ⟨g', cap', w', hr, h1, h2, h3⟩ := run_app h tx o.type xv news hsrc hm
  refine wpList_step fun K hK => ?_
  rw [if_pos hw]
  unfold Oper.wp execOp
  simp only [ho, resolve, invoke, builtin, Sem.run_bind, Sem.run_pure, Result.andThen_ok, List.map_toArray, List.map_cons, List.map_nil, hs, hx, hr]
  exact hK _ _ (k g' cap' _ w' rfl h1 h2 h3)

theorem wpList_app_nil {ops : Array Oper} {rest : List Oper} {o : Oper} {a : Act} {w : World} {Q : Exit → Act → World → Prop} (hw : Region.wanted o (yielded ops a.tmps) = true) (s x : Operand) (tx : TypeId)
    (ho : o.op = .call { callee := .builtin .append, args := #[s, x], argTypes := #[23, tx] }) {w0 : World} (hk : Kp [] w0 w) (xv : Value) (news : List UInt8)
    (hs : a.eval s = .slice none 0 0) (hx : a.eval x = xv) (hsrc : Src Try.prog 1 tx xv news.length (bcells news) w) (hp : 0 < news.length) (hm : news.length ≤ 100000)
    (k : ∀ g' cap' n' w', Hid (n' = news.length) → Hid (Row w0 w' g' cap' news) → Hid (Kp [] w w') → Hid (g' = w.heap.size) → wpList Try.prog ops Q rest (a.put o.dst (.slice (some ⟨g', 0, none⟩) n' cap')) w') : wpList Try.prog ops Q (o :: rest) a w := by
  obtain ⟨cap', w', hr, h1, h2⟩ := run_app_nil hk tx o.type xv news hsrc hp hm
  refine wpList_step fun K hK => ?_
  rw [if_pos hw]
  unfold Oper.wp execOp
  simp only [ho, resolve, invoke, builtin, Sem.run_bind, Sem.run_pure, Result.andThen_ok, List.map_toArray, List.map_cons, List.map_nil, hs, hx, hr]
  exact hK _ _ (k w.heap.size cap' _ w' rfl h1 h2 rfl)

theorem mod_b8 (k : Int) : k % 256 = ((b8 k).toNat : Int) := (b8_toNat k).symm

/-- One byte, just laid into a block of its own. -/
theorem one_src {w : World} (b : Nat) (hb : b = w.heap.size) (u : UInt8) (x : Int) (h : x = (u.toNat : Int)) : Src Try.prog 1 23 (.slice (some ⟨b, 0, none⟩) 1 1) [u].length (bcells [u]) (w.alloc (.cells #[.int .u8 x] 5)) := by
  subst h
  subst hb
  exact (row_lit w w (Kp.refl _ _) [u] #[.int .u8 u.toNat] rfl (by simp)).byt.src 1

def ApEnd (w0 : World) (bs : List UInt8) (e : Ending) (w' : World) : Prop := ∃ g' cap' n', e = .returned (.slice (some ⟨g', 0, none⟩) n' cap') ∧ n' = bs.length ∧ Row w0 w' g' cap' bs
theorem apEnd_mk {w0 w' : World} {bs : List UInt8} {g' cap' n' : Nat} (hn : n' = bs.length) (h : Row w0 w' g' cap' bs) : ApEnd w0 bs (.returned (.slice (some ⟨g', 0, none⟩) n' cap')) w' := ⟨g', cap', n', rfl, hn, h⟩

theorem box_far {w w2 : World} {k x : Int} {t : Bool} {s : ByteArray} {g g2 : Nat} (hk : Kp [g] ((w.alloc (.cells #[.int .i64 k, .bool t, .string s] 40)).alloc (.cells #[.int .u8 x] 5)) w2)
    (hg2 : g2 = g ∨ g2 = ((w.alloc (.cells #[.int .i64 k, .bool t, .string s] 40)).alloc (.cells #[.int .u8 x] 5)).heap.size) (hg : g < w.heap.size) :
    w2.cell? ⟨w.heap.size, 1, none⟩ = some (.bool t) ∧ w2.cell? ⟨w.heap.size, 1 + 1, none⟩ = some (.string s) ∧ Hid (w.heap.size < w2.heap.size ∧ g2 ≠ w.heap.size) := by
  have h1 := hk.size
  simp at h1 hg2
  exact ⟨hk.cell (by simp; omega) (by simp), hk.cell (by simp; omega) (by simp), by omega, by omega⟩
theorem str_far {w2 w3 : World} {o : Obj} {s : ByteArray} {g2 q : Nat} (hk : Kp [g2] (w2.alloc o) w3) (hq : q < w2.heap.size ∧ g2 ≠ q) (h : w2.cell? ⟨q, 1 + 1, none⟩ = some (.string s)) : w3.cell? ⟨q, 1 + 1, none⟩ = some (.string s) :=
  hk.cell (by simp; omega) (((Kp.refl [] w2).alloc o).cell (by simp) h)

set_option maxHeartbeats 1000000 in
theorem appendPair17 {w0 w : World} {g cap n : Nat} {bs : List UInt8} (k : Int) (t : Bool) (s : ByteArray) (h : Row w0 w g cap bs) (hn : n = bs.length) (hm : bs.length ≤ 2000) (hs : s.size ≤ 300) :
    Calls Try.prog 57 #[.slice (some ⟨g, 0, none⟩) n cap, .agg #[.int .i64 k, .bool t, .string s]] w fun e w' => ApEnd w0 (bs ++ pb ⟨k, t, s⟩) e w' := by
  have hlt := h.lt
  have HR := hide (h.kp0 (((Kp.refl [] w).alloc (.cells #[.int .i64 k, .bool t, .string s] 40))))
  have HN := hide hn
  clear h hn
  cases t with
  | false =>
    go_enter Try.func57, Try.ntmps57
    go_wp2_with (first | (at_builtin; refine wpList_app (by rfl) (.tmp 5) (.tmp 9) 23 rfl ((unhide HR).kp0 ((Kp.refl [] _).alloc _)) n (unhide HN) (.slice (some ⟨w.heap.size + 1, 0, none⟩) 1 1) [b8 k] rfl rfl (one_src _ (by simp) (b8 k) _ (mod_b8 k)) (by simp; omega) ?_; intro g2 c2 n2 w2 hn2 hr2 hk2 hg2; obtain ⟨p1, p2, HQ2⟩ := box_far (unhide hk2) (unhide hg2) hlt.2) | (at_builtin; refine wpList_app (by rfl) (.tmp 15) (.tmp 16) 23 rfl ((unhide hr2).kp0 ((Kp.refl [] _).alloc _)) n2 (unhide hn2) (.slice (some ⟨w2.heap.size, 0, none⟩) 1 1) [255] rfl rfl (one_src _ rfl 255 _ rfl) (by simp; omega) ?_; intro g3 c3 n3 w3 hn3 hr3 hk3 hg3))
    go_ret
    exact apEnd_mk (by rw [unhide hn3]; simp [pb]) (by have := unhide hr3; simpa [pb] using this)
  | true =>
    go_enter Try.func57, Try.ntmps57
    go_wp2_with (first | (at_builtin; refine wpList_app (by rfl) (.tmp 5) (.tmp 9) 23 rfl ((unhide HR).kp0 ((Kp.refl [] _).alloc _)) n (unhide HN) (.slice (some ⟨w.heap.size + 1, 0, none⟩) 1 1) [b8 k] rfl rfl (one_src _ (by simp) (b8 k) _ (mod_b8 k)) (by simp; omega) ?_; intro g2 c2 n2 w2 hn2 hr2 hk2 hg2; obtain ⟨p1, p2, HQ2⟩ := box_far (unhide hk2) (unhide hg2) hlt.2) | (at_builtin; refine wpList_app (by rfl) (.tmp 18) (.tmp 24) 23 rfl ((unhide hr2).kp0 ((Kp.refl [] _).alloc _)) n2 (unhide hn2) (.slice (some ⟨w2.heap.size, 0, none⟩) 1 1) [b8 s.size] rfl rfl (one_src _ rfl (b8 s.size) _ (mod_b8 s.size)) (by simp; omega) ?_; intro g3 c3 n3 w3 hn3 hr3 hk3 hg3; have p3 := str_far (unhide hk3) (unhide HQ2) p2; clear p1 p2) | (at_builtin; refine wpList_app (by rfl) (.tmp 26) (.tmp 29) 9 rfl (unhide hr3) n3 (unhide hn3) (.string s) s.data.toList rfl rfl (str_src _ s) (by simp; omega) ?_; intro g4 c4 n4 w4 hn4 hr4 hk4 hg4))
    go_ret
    exact apEnd_mk (by rw [unhide hn4]; simp [pb]) (by have := unhide hr4; simpa [pb] using this)
end Go.Proofs.Ytcfogkdpkpehaab

/- append onto bytes that a call owns, whatever they are: nil, a row, nothing behind it. -/
namespace Go.Proofs.Ytcfogkdpkpehaab
open Go.RowKit
set_option maxRecDepth 20000
attribute [local go_sem ↓] Go.wp_at_zero Go.wp_at_succ

theorem kp_cut {w : World} {B : Nat} (h : B ≤ w.heap.size) : ∃ w0 : World, w0.heap.size = B ∧ Kp [] w0 w := by
  refine ⟨{ w with heap := w.heap.extract 0 B }, by simp; omega, rfl, rfl, rfl, by simp; omega, fun k hk _ => ?_⟩
  simp at hk
  simp only [Array.getElem?_extract]
  rw [if_pos (by omega), Nat.zero_add]

/-- The block behind an address. -/
def ob (a : Option Addr) : List Nat := match a with
  | none => []
  | some ad => [ad.block]
theorem ob_none : ob none = [] := rfl
theorem ob_some (g o : Nat) : ob (some ⟨g, o, none⟩) = [g] := rfl

/-- Bytes that a call owns since B. -/
def OwnU (B : Nat) (w : World) (a : Option Addr) (cap : Nat) (bs : List UInt8) : Prop := w.ownsRow B 5 1 (.slice a bs.length cap) bs.length (bcells bs)

section
variable {B : Nat} {w w' : World} {a : Option Addr} {cap : Nat} {bs : List UInt8}
theorem ownU_nil (B : Nat) (w : World) : OwnU B w none 0 [] := World.ownsRow_nil _ _ _ _
theorem OwnU.cases (h : OwnU B w a cap bs) : (a = none ∧ cap = 0 ∧ bs = []) ∨ ∃ g, a = some ⟨g, 0, none⟩ ∧ B ≤ g ∧ g < w.heap.size ∧ bs.length ≤ cap := by
  have h' := h
  rcases h.2 with ⟨e, _⟩ | ⟨g, c, cur, e, h1, h2, h3, _⟩
  · simp only [Value.slice.injEq] at e
    exact .inl ⟨e.1, e.2.2, List.eq_nil_of_length_eq_zero e.2.1⟩
  · simp only [Value.slice.injEq, true_and] at e
    obtain ⟨rfl, rfl⟩ := e
    exact .inr ⟨g, rfl, h1, lt_of_block h2, h3⟩
theorem OwnU.lo (h : OwnU B w a cap bs) : ∀ x ∈ ob a, B ≤ x ∧ x < w.heap.size := by
  intro x hx
  rcases h.cases with ⟨rfl, _⟩ | ⟨g, rfl, h1, h2, _⟩
  · simp [ob] at hx
  · simp [ob] at hx; omega
theorem OwnU.kp {S : List Nat} (h : OwnU B w a cap bs) (hk : Kp S w w') (hS : ∀ x ∈ ob a, x ∉ S) : OwnU B w' a cap bs := by
  refine own_kp h hk (fun g hg => ?_)
  rcases h.cases with ⟨rfl, _⟩ | ⟨g', rfl, _⟩
  · simp [Value.ownBlock] at hg
  · have : g' = g := by simpa [Value.ownBlock] using hg
    subst this
    exact hS g' (by simp [ob])
theorem OwnU.kp0 (h : OwnU B w a cap bs) (hk : Kp [] w w') : OwnU B w' a cap bs := h.kp hk (fun _ _ => by simp)
theorem OwnU.base {C : Nat} (h : OwnU B w a cap bs) (hC : C ≤ B) : OwnU C w a cap bs := own_base h hC
theorem OwnU.le (h : OwnU B w a cap bs) : bs.length ≤ cap := by
  rcases h.cases with ⟨_, rfl, rfl⟩ | ⟨_, _, _, _, h⟩
  · simp
  · exact h
theorem OwnU.row {w0 : World} {g : Nat} (h : OwnU w0.heap.size w (some ⟨g, 0, none⟩) cap bs) (hk : Kp [] w0 w) : Row w0 w g cap bs := ⟨h, hk⟩
theorem Row.ownU {w0 : World} {g : Nat} (h : Row w0 w g cap bs) : OwnU w0.heap.size w (some ⟨g, 0, none⟩) cap bs := h.own
theorem OwnU.byt (h : OwnU B w a cap bs) : Byt w a bs := by
  rcases h.cases with ⟨_, _, rfl⟩ | ⟨g, rfl, _⟩
  · exact byt_nil _ _
  · refine fun _ => ⟨g, 0, rfl, fun j hj => ?_⟩
    have := World.ownsRow.cellAt h j (by omega)
    rw [Nat.zero_add, this, bcells_at hj]
/-- The first bytes of a row are a row. -/
theorem OwnU.take (h : OwnU B w a cap bs) (k : Nat) (hk : k ≤ bs.length) : OwnU B w a cap (bs.take k) := by
  have hl : (bs.take k).length = k := by simp; omega
  refine ⟨by rw [bcells_length]; omega, ?_⟩
  rcases h.2 with ⟨e, e2⟩ | ⟨g, c, cur, e, h1, h2, h3, h4, h5, h6⟩
  · have : k = 0 := by omega
    subst this
    simp only [Value.slice.injEq] at e
    exact .inl ⟨by simp [e.1, e.2.2], by simp⟩
  · simp only [Value.slice.injEq, true_and] at e
    obtain ⟨rfl, rfl⟩ := e
    refine .inr ⟨g, cap, cur, rfl, h1, h2, by omega, h4, h5, ?_⟩
    simp only [Nat.mul_one] at h6 ⊢
    have e2 : cur.toList.take k = (cur.toList.take bs.length).take k := by rw [List.take_take, Nat.min_eq_left hk]
    rw [hl, e2, h6]
    simp [bcells, List.map_take]

theorem run_appx (h : OwnU B w a cap bs) (hB : B ≤ w.heap.size) (tx ty : TypeId) (x : Value) (news : List UInt8) (hs : Src Try.prog 1 tx x news.length (bcells news) w) (hm : bs.length + news.length ≤ 100000) :
    ∃ a' cap' w', (Builtin.append_ #[23, tx] ty #[.slice a bs.length cap, x]).run Try.prog w = .ok (.slice a' (bs ++ news).length cap') w' ∧
      OwnU B w' a' cap' (bs ++ news) ∧ Kp (ob a) w w' ∧ (∀ x ∈ ob a', x ∈ ob a ∨ w.heap.size ≤ x) := by
  obtain ⟨w0, e0, hk0⟩ := kp_cut hB
  rcases h.cases with ⟨rfl, rfl, rfl⟩ | ⟨g, rfl, h1, h2, h3⟩
  · by_cases hp : 0 < news.length
    · obtain ⟨cap', w', hr, h4, h5⟩ := run_app_nil hk0 tx ty x news hs hp (by omega)
      refine ⟨_, _, w', hr, ?_, h5, fun y hy => .inr (by simp [ob] at hy; omega)⟩
      have := h4.ownU
      rw [e0] at this
      exact this
    · have e : news = [] := List.eq_nil_of_length_eq_zero (by omega)
      subst e
      obtain ⟨i0, hi0, hz0, hz1, hz2⟩ := info_parts Try.info5
      have hs' : Src Try.prog i0.size tx x 0 [] w := by rw [hz1]; exact hs
      have hr := run_append_nothing (P := Try.prog) w 23 tx ty 5 i0 Try.underlying23 hi0 none 0 0 (Nat.le_refl _) x hs'
      exact ⟨none, 0, w, hr, h, Kp.refl _ _, fun y hy => .inl hy⟩
  · have hrow : Row w0 w g cap bs := ⟨by rw [e0]; exact h, hk0⟩
    obtain ⟨g', cap', w', hr, h4, h5, h6⟩ := run_app hrow tx ty x news hs hm
    refine ⟨_, _, w', hr, ?_, h5, fun y hy => ?_⟩
    · have := h4.ownU
      rw [e0] at this
      exact this
    · simp only [ob, List.mem_singleton] at hy ⊢
      subst hy
      rcases h6 with e | e
      · exact .inl e
      · exact .inr (by omega)
end

theorem wpList_appx {ops : Array Oper} {rest : List Oper} {o : Oper} {ac : Act} {w : World} {Q : Exit → Act → World → Prop} (hw : Region.wanted o (yielded ops ac.tmps) = true) (s x : Operand) (tx : TypeId)
    (ho : o.op = .call { callee := .builtin .append, args := #[s, x], argTypes := #[23, tx] }) {B : Nat} {a : Option Addr} {cap : Nat} {bs : List UInt8} (h : OwnU B w a cap bs) (hB : B ≤ w.heap.size) (n : Nat) (hn : n = bs.length) (xv : Value) (news : List UInt8)
    (hs : ac.eval s = .slice a n cap) (hx : ac.eval x = xv) (hsrc : Src Try.prog 1 tx xv news.length (bcells news) w) (hm : bs.length + news.length ≤ 100000)
    (k : ∀ a' cap' n' w', Hid (n' = (bs ++ news).length) → Hid (OwnU B w' a' cap' (bs ++ news)) → Hid (Kp (ob a) w w') → Hid (∀ x ∈ ob a', x ∈ ob a ∨ w.heap.size ≤ x) → wpList Try.prog ops Q rest (ac.put o.dst (.slice a' n' cap')) w') : wpList Try.prog ops Q (o :: rest) ac w := by
  subst hn
  obtain ⟨a', cap', w', hr, h1, h2, h3⟩ := run_appx h hB tx o.type xv news hsrc hm
  refine wpList_step fun K hK => ?_
  rw [if_pos hw]
  unfold Oper.wp execOp
  simp only [ho, resolve, invoke, builtin, Sem.run_bind, Sem.run_pure, Result.andThen_ok, List.map_toArray, List.map_cons, List.map_nil, hs, hx, hr]
  exact hK _ _ (k a' cap' _ w' rfl h1 h2 h3)

theorem step_appx {ops : Array Oper} {o : Oper} {ac : Act} {w : World} {K : Act → World → Prop} {Q : Exit → Act → World → Prop} {E : Prop} (hgd : o.guard = none) (s x : Operand) (tx : TypeId)
    (ho : o.op = .call { callee := .builtin .append, args := #[s, x], argTypes := #[23, tx] }) {B : Nat} {a : Option Addr} {cap : Nat} {bs : List UInt8} (h : OwnU B w a cap bs) (hB : B ≤ w.heap.size) (n : Nat) (hn : n = bs.length) (xv : Value) (news : List UInt8)
    (hs : ac.eval s = .slice a n cap) (hx : ac.eval x = xv) (hsrc : Src Try.prog 1 tx xv news.length (bcells news) w) (hm : bs.length + news.length ≤ 100000)
    (k : ∀ a' cap' n' w', Hid (n' = (bs ++ news).length) → Hid (OwnU B w' a' cap' (bs ++ news)) → Hid (Kp (ob a) w w') → Hid (∀ x ∈ ob a', x ∈ ob a ∨ w.heap.size ≤ x) → K (ac.put o.dst (.slice a' n' cap')) w') :
    if Region.wanted o (yielded ops ac.tmps) = true then Oper.wp Try.prog o ac w K Q else E := by
  subst hn
  have hw : Region.wanted o (yielded ops ac.tmps) = true := by simp [Region.wanted, hgd]
  obtain ⟨a', cap', w', hr, h1, h2, h3⟩ := run_appx h hB tx o.type xv news hsrc hm
  rw [if_pos hw]
  unfold Oper.wp execOp
  simp only [ho, resolve, invoke, builtin, Sem.run_bind, Sem.run_pure, Result.andThen_ok, List.map_toArray, List.map_cons, List.map_nil, hs, hx, hr]
  exact k a' cap' _ w' rfl h1 h2 h3

/-- Behind bytes of no length: a copy. -/
theorem run_app_zero (w : World) (a : Option Addr) (tx ty : TypeId) (x : Value) (news : List UInt8) (hs : Src Try.prog 1 tx x news.length (bcells news) w) (hm : news.length ≤ 100000) :
    ∃ a' cap' w', (Builtin.append_ #[23, tx] ty #[.slice a 0 0, x]).run Try.prog w = .ok (.slice a' news.length cap') w' ∧ news.length ≤ cap' ∧ Byt w' a' news ∧ Kp [] w w' := by
  obtain ⟨i0, hi0, hz0, hz1, hz2⟩ := info_parts Try.info5
  have hs' : Src Try.prog i0.size tx x news.length (bcells news) w := by rw [hz1]; exact hs
  by_cases hp : 0 < news.length
  · have hge := grownCap_ge w (0 + news.length) 0 5
    have hfit : Builtin.nextslicecap (0 + news.length) 0 * i0.bytes ≤ 281474976710656 := growslice_fits (by omega) (by rw [hz2]; omega)
    have hfc : (Builtin.firstCells i0.size 0 (.slice a 0 0)).run Try.prog w.drew = .ok ([] : List Value).toArray w.drew := by
      cases a with
      | none => exact run_firstCells_none w.drew i0.size 0 0 0
      | some ad => exact run_firstCells_some w.drew i0.size 0 ad 0 0 [] (by simp) (by simp)
    have hr := run_append_grow_src (P := Try.prog) w 23 tx ty 5 i0 _ Try.underlying23 hi0 hz0 a 0 0 [] hfc x news.length (bcells news) hs' (by omega) (by omega) hfit
    rw [List.nil_append, Nat.zero_add] at hr
    refine ⟨_, _, _, hr, by rw [Nat.zero_add] at hge; exact hge, ?_, ((Kp.refl [] w).drew.alloc _)⟩
    exact (grown_row (Kp.refl [] w) news _ (by rw [Nat.zero_add] at hge; exact hge) (grownCap_le_maxLen w _ _ _ (by unfold maxLen; omega)) _ (by rw [size_zeroCells]; simp [Value.cells])).byt
  · have e : news = [] := List.eq_nil_of_length_eq_zero (by omega)
    subst e
    have hr := run_append_nothing (P := Try.prog) w 23 tx ty 5 i0 Try.underlying23 hi0 a 0 0 (Nat.le_refl _) x hs'
    exact ⟨a, 0, w, hr, by simp, byt_nil _ _, Kp.refl _ _⟩

theorem wpList_app0 {ops : Array Oper} {rest : List Oper} {o : Oper} {ac : Act} {w : World} {Q : Exit → Act → World → Prop} (hw : Region.wanted o (yielded ops ac.tmps) = true) (s x : Operand) (tx : TypeId)
    (ho : o.op = .call { callee := .builtin .append, args := #[s, x], argTypes := #[23, tx] }) (a : Option Addr) (xv : Value) (news : List UInt8)
    (hs : ac.eval s = .slice a 0 0) (hx : ac.eval x = xv) (hsrc : Src Try.prog 1 tx xv news.length (bcells news) w) (hm : news.length ≤ 100000)
    (k : ∀ a' cap' n' w', Hid (n' = news.length) → Hid (n' ≤ cap') → Hid (Byt w' a' news) → Hid (Kp [] w w') → wpList Try.prog ops Q rest (ac.put o.dst (.slice a' n' cap')) w') : wpList Try.prog ops Q (o :: rest) ac w := by
  obtain ⟨a', cap', w', hr, h1, h2, h3⟩ := run_app_zero w a tx o.type xv news hsrc hm
  refine wpList_step fun K hK => ?_
  rw [if_pos hw]
  unfold Oper.wp execOp
  simp only [ho, resolve, invoke, builtin, Sem.run_bind, Sem.run_pure, Result.andThen_ok, List.map_toArray, List.map_cons, List.map_nil, hs, hx, hr]
  exact hK _ _ (k a' cap' _ w' rfl h1 h2 h3)
end Go.Proofs.Ytcfogkdpkpehaab

/- Rows of one-cell elements (pointers) of which a part may have been cut off: append onto them, and their first ones. -/
namespace Go.Proofs.Ytcfogkdpkpehaab
open Go.RowKit
set_option maxRecDepth 20000

/-- n elements lie from the beginning of a block of one's own on; the room (cap) is no more than the block has. -/
def PRow (e : TypeId) (B : Nat) (w : World) (a : Option Addr) (n cap : Nat) (xs : List Value) : Prop :=
  xs.length = n ∧ ((a = none ∧ n = 0 ∧ cap = 0) ∨ ∃ g cur, a = some ⟨g, 0, none⟩ ∧ B ≤ g ∧ w.heap[g]? = some (.cells cur e (0, 0)) ∧ n ≤ cap ∧ cap ≤ maxLen ∧ cap ≤ cur.size ∧ cur.toList.take n = xs)

section
variable {e : TypeId} {B : Nat} {w w' : World} {a : Option Addr} {n cap : Nat} {xs : List Value}
theorem prow_nil (e : TypeId) (B : Nat) (w : World) : PRow e B w none 0 0 [] := ⟨rfl, .inl ⟨rfl, rfl, rfl⟩⟩
theorem PRow.len (h : PRow e B w a n cap xs) : xs.length = n := h.1
theorem PRow.le (h : PRow e B w a n cap xs) : n ≤ cap := by
  rcases h.2 with ⟨_, e1, e2⟩ | ⟨g, cur, _, _, _, h1, _⟩
  · omega
  · exact h1
theorem PRow.lo (h : PRow e B w a n cap xs) : ∀ x ∈ ob a, B ≤ x ∧ x < w.heap.size := by
  intro x hx
  rcases h.2 with ⟨rfl, _⟩ | ⟨g, cur, rfl, h1, h2, _⟩
  · simp [ob] at hx
  · simp [ob] at hx
    have := lt_of_block h2
    omega
theorem PRow.kp {S : List Nat} (h : PRow e B w a n cap xs) (hk : Kp S w w') (hS : ∀ x ∈ ob a, x ∉ S) : PRow e B w' a n cap xs := by
  refine ⟨h.1, ?_⟩
  rcases h.2 with hn | ⟨g, cur, rfl, h1, h2, h3⟩
  · exact .inl hn
  · exact .inr ⟨g, cur, rfl, h1, by rw [hk.block g (lt_of_block h2) (hS g (by simp [ob]))]; exact h2, h3⟩
theorem PRow.kp0 (h : PRow e B w a n cap xs) (hk : Kp [] w w') : PRow e B w' a n cap xs := h.kp hk (fun _ _ => by simp)
theorem PRow.base {C : Nat} (h : PRow e B w a n cap xs) (hC : C ≤ B) : PRow e C w a n cap xs := by
  refine ⟨h.1, ?_⟩
  rcases h.2 with hn | ⟨g, cur, rfl, h1, h2⟩
  · exact .inl hn
  · exact .inr ⟨g, cur, rfl, by omega, h2⟩
theorem PRow.cell (h : PRow e B w a n cap xs) {k : Nat} {v : Value} (hk : xs[k]? = some v) : ∃ g, a = some ⟨g, 0, none⟩ ∧ w.cell? ⟨g, k, none⟩ = some v := by
  have hl : k < n := by rw [← h.1]; exact (List.getElem?_eq_some_iff.1 hk).1
  rcases h.2 with ⟨_, e1, _⟩ | ⟨g, cur, rfl, h1, h2, h3, h4, h5, h6⟩
  · omega
  · refine ⟨g, rfl, cell_of_block h2 ?_⟩
    rw [← h6, List.getElem?_take] at hk
    rw [if_pos hl] at hk
    simpa using hk
/-- 's[:k:k]'. -/
theorem PRow.cut (h : PRow e B w a n cap xs) (k : Nat) (hk : k ≤ n) : PRow e B w a k k (xs.take k) := by
  refine ⟨by rw [List.length_take, h.1]; omega, ?_⟩
  rcases h.2 with ⟨e1, e2, e3⟩ | ⟨g, cur, rfl, h1, h2, h3, h4, h5, h6⟩
  · exact .inl ⟨e1, by omega, by omega⟩
  · refine .inr ⟨g, cur, rfl, h1, h2, Nat.le_refl _, by omega, by omega, ?_⟩
    rw [← h6, List.take_take, Nat.min_eq_left hk]
/-- 's[k:]', as what is appended. -/
theorem PRow.src {t : TypeId} (hu : Try.prog.underlying t = some (.slice e)) (h : PRow e B w a n cap xs) (hx : ∀ u ∈ xs, u.oneCell' = true) {g k m c : Nat} (ha : a = some ⟨g, 0, none⟩) (hm : m = n - k) (_hk : k ≤ n) : Src Try.prog 1 t (.slice (some ⟨g, k, none⟩) m c) m (xs.drop k) w := by
  subst hm
  refine Src.ofSlice w hu ⟨g, k, none⟩ (n - k) c (xs.drop k) (by rw [List.length_drop, h.1]; omega) (fun j u hj => ?_) (fun u hu => hx u (List.mem_of_mem_drop hu))
  rw [List.getElem?_drop] at hj
  obtain ⟨g', e', hc⟩ := h.cell hj
  rw [ha] at e'
  simp only [Option.some.injEq, Addr.mk.injEq, and_true] at e'
  subst e'
  rw [addr_add]
  exact hc

theorem prow_app {t : TypeId} {z : Value} (hu : Try.prog.underlying t = some (.slice e)) (hi : (Try.prog.info? e).map (fun i => (i.zero, i.size, i.bytes)) = some (some z, 1, 8)) (hz : z.cells.size = 1)
    (h : PRow e B w a n cap xs) (hB : B ≤ w.heap.size) (ty : TypeId) (x : Value) (news : List Value) (m : Nat) (hs : Src Try.prog 1 t x m news w) (hl : n + m ≤ 100000) :
    ∃ a' cap' w', (Builtin.append_ #[t, t] ty #[.slice a n cap, x]).run Try.prog w = .ok (.slice a' (n + m) cap') w' ∧ PRow e B w' a' (n + m) cap' (xs ++ news) ∧ Kp (ob a) w w' ∧ ∀ y ∈ ob a', y ∈ ob a ∨ w.heap.size ≤ y := by
  obtain ⟨i0, hi0, hz0, hz1, hz2⟩ := info_parts hi
  have hs' : Src Try.prog i0.size t x m news w := by rw [hz1]; exact hs
  have hnl : news.length = m := by have := hs.newsLen; omega
  have hle := h.le
  by_cases hp : m = 0
  · subst hp
    have e0 : news = [] := List.eq_nil_of_length_eq_zero hnl
    subst e0
    have hr := run_append_nothing (P := Try.prog) w t t ty e i0 hu hi0 a n cap hle x hs'
    exact ⟨a, cap, w, hr, by rw [List.append_nil]; exact h, Kp.refl _ _, fun y hy => .inl hy⟩
  have hold : (Builtin.firstCells i0.size n (.slice a n cap)).run Try.prog w.drew = .ok xs.toArray w.drew := by
    rcases h.2 with ⟨rfl, rfl, rfl⟩ | ⟨g, cur, rfl, h1, h2, h3, h4, h5, h6⟩
    · have : xs = [] := List.eq_nil_of_length_eq_zero h.1
      subst this
      exact run_firstCells_none w.drew i0.size 0 0 0
    · refine run_firstCells_some (P := Try.prog) w.drew i0.size n ⟨g, 0, none⟩ n cap xs (by rw [hz1, h.1]; omega) (fun j u hj => ?_)
      obtain ⟨g', e', hc⟩ := h.cell hj
      simp only [Option.some.injEq, Addr.mk.injEq, and_true] at e'
      subst e'
      rw [addr_add, Nat.zero_add]
      exact hc
  by_cases hroom : n + m ≤ cap
  · rcases h.2 with ⟨_, _, _⟩ | ⟨g, cur, rfl, h1, h2, h3, h4, h5, h6⟩
    · omega
    · have hst := run_storeCells_at Try.prog g n e news 0 cur w h2 (by omega) hs.one
      simp only [Nat.add_zero] at hst
      refine ⟨some ⟨g, 0, none⟩, cap, w.setRow g (cur.toList.take n ++ news ++ cur.toList.drop (n + news.length)).toArray, ?_, ⟨by rw [List.length_append, h.1, hnl], .inr ⟨g, _, rfl, h1, setRow_heap w g cur _ e _ h2, hroom, h4, ?_, ?_⟩⟩, ?_, fun y hy => .inl hy⟩
      · rcases hs'.kind with ⟨e', hk⟩ | hk <;> simp [Builtin.append_, run_underlying hu, sizeOf, typeInfo, hi0, hz1, hs.len, hroom, hs.cells, Addr.add_lit, hst]
      · simp only [List.size_toArray, List.length_append, List.length_take, List.length_drop, Array.length_toList]
        omega
      · rw [h6]
        have hll : n + m = (xs ++ news).length := by rw [List.length_append, h.1, hnl]
        rw [hll]
        exact List.take_left
      · exact ⟨rfl, rfl, rfl, by simp, fun k _ hn => setRow_other w g k _ (by simpa [ob] using hn)⟩
  · have hge := grownCap_ge w (n + m) cap e
    have hfit : Builtin.nextslicecap (n + m) cap * i0.bytes ≤ 281474976710656 := growslice_fits (by omega) (by rw [hz2]; omega)
    have hr := run_append_grow_src (P := Try.prog) w t t ty e i0 _ hu hi0 hz0 a n cap xs hold x m news hs' (by omega) (by omega) hfit
    refine ⟨_, _, _, hr, ⟨by rw [List.length_append, h.1, hnl], .inr ⟨w.heap.size, _, rfl, hB, heap_alloc_new w.drew _, hge, grownCap_le_maxLen w _ _ _ (by unfold maxLen; omega), ?_, ?_⟩⟩, (Kp.refl _ w).drew.alloc _, fun y hy => .inr (by simp [ob] at hy; omega)⟩
    · rw [Array.size_append, size_zeroCells, hz]
      simp only [List.size_toArray, List.length_append, h.1, hnl]
      omega
    · simp only [Array.toList_append]
      have hll : n + m = (xs ++ news).length := by rw [List.length_append, h.1, hnl]
      rw [hll]
      exact List.take_left
end

theorem wpList_prow {ops : Array Oper} {rest : List Oper} {o : Oper} {ac : Act} {w : World} {Q : Exit → Act → World → Prop} (hw : Region.wanted o (yielded ops ac.tmps) = true) (s x : Operand) (t : TypeId)
    (ho : o.op = .call { callee := .builtin .append, args := #[s, x], argTypes := #[t, t] }) {e : TypeId} {z : Value} (hu : Try.prog.underlying t = some (.slice e)) (hi : (Try.prog.info? e).map (fun i => (i.zero, i.size, i.bytes)) = some (some z, 1, 8)) (hz : z.cells.size = 1)
    {B : Nat} {a : Option Addr} {n cap : Nat} {xs : List Value} (h : PRow e B w a n cap xs) (hB : B ≤ w.heap.size) (xv : Value) (news : List Value) (m : Nat)
    (hs : ac.eval s = .slice a n cap) (hx : ac.eval x = xv) (hsrc : Src Try.prog 1 t xv m news w) (hm : n + m ≤ 100000) (N : Nat) (hN : n + m = N)
    (k : ∀ a' cap' w', Hid (PRow e B w' a' N cap' (xs ++ news)) → Hid (Kp (ob a) w w') → Hid (∀ x ∈ ob a', x ∈ ob a ∨ w.heap.size ≤ x) → wpList Try.prog ops Q rest (ac.put o.dst (.slice a' N cap')) w') : wpList Try.prog ops Q (o :: rest) ac w := by
  subst hN
  obtain ⟨a', cap', w', hr, h1, h2, h3⟩ := prow_app hu hi hz h hB o.type xv news m hsrc hm
  refine wpList_step fun K hK => ?_
  rw [if_pos hw]
  unfold Oper.wp execOp
  simp only [ho, resolve, invoke, builtin, Sem.run_bind, Sem.run_pure, Result.andThen_ok, List.map_toArray, List.map_cons, List.map_nil, hs, hx, hr]
  exact hK _ _ (k a' cap' w' h1 h2 h3)

theorem step_prow {ops : Array Oper} {o : Oper} {ac : Act} {w : World} {K : Act → World → Prop} {Q : Exit → Act → World → Prop} {E : Prop} (hw : Region.wanted o (yielded ops ac.tmps) = true) (s x : Operand) (t : TypeId)
    (ho : o.op = .call { callee := .builtin .append, args := #[s, x], argTypes := #[t, t] }) {e : TypeId} {z : Value} (hu : Try.prog.underlying t = some (.slice e)) (hi : (Try.prog.info? e).map (fun i => (i.zero, i.size, i.bytes)) = some (some z, 1, 8)) (hz : z.cells.size = 1)
    {B : Nat} {a : Option Addr} {n cap : Nat} {xs : List Value} (h : PRow e B w a n cap xs) (hB : B ≤ w.heap.size) (xv : Value) (news : List Value) (m : Nat)
    (hs : ac.eval s = .slice a n cap) (hx : ac.eval x = xv) (hsrc : Src Try.prog 1 t xv m news w) (hm : n + m ≤ 100000) (N : Nat) (hN : n + m = N)
    (k : ∀ a' cap' w', Hid (PRow e B w' a' N cap' (xs ++ news)) → Hid (Kp (ob a) w w') → Hid (∀ x ∈ ob a', x ∈ ob a ∨ w.heap.size ≤ x) → K (ac.put o.dst (.slice a' N cap')) w') :
    if Region.wanted o (yielded ops ac.tmps) = true then Oper.wp Try.prog o ac w K Q else E := by
  subst hN
  obtain ⟨a', cap', w', hr, h1, h2, h3⟩ := prow_app hu hi hz h hB o.type xv news m hsrc hm
  rw [if_pos hw]
  unfold Oper.wp execOp
  simp only [ho, resolve, invoke, builtin, Sem.run_bind, Sem.run_pure, Result.andThen_ok, List.map_toArray, List.map_cons, List.map_nil, hs, hx, hr]
  exact k a' cap' w' h1 h2 h3
end Go.Proofs.Ytcfogkdpkpehaab

/- Encode, by its contract. -/
namespace Go.Proofs.Ytcfogkdpkpehaab
open Go.RowKit
set_option maxRecDepth 20000
attribute [local go_sem ↓] Go.wp_at_zero Go.wp_at_succ

theorem pf_str {a : Int} {ps : List Ver} (h : pf a ps = 0) : ∀ k, k < ps.length → (vb ps k).size ≤ 12 := by
  induction ps generalizing a with
  | nil => intro k hk; simp at hk
  | cons p r ih =>
    obtain ⟨_, _, _, h4, h5⟩ := pf_cons h
    intro k hk
    cases k with
    | zero => simpa [vb] using (chk_zero h4).1
    | succ k => have := ih h5 k (by simpa using hk); simpa [vb] using this

theorem take_succ_ver {ps : List Ver} {k : Nat} (h : k < ps.length) : ps.take (k + 1) = ps.take k ++ [⟨va ps k, vt ps k, vb ps k⟩] := by
  have e : (⟨va ps k, vt ps k, vb ps k⟩ : Ver) = ps[k] := by simp [va, vt, vb, List.getD_eq_getElem?_getD, List.getElem?_eq_getElem h]
  rw [e, List.take_succ_eq_append_getElem h]
theorem pbs_take_succ {ps : List Ver} {k : Nat} (h : k < ps.length) : pbs (ps.take (k + 1)) = pbs (ps.take k) ++ pb ⟨va ps k, vt ps k, vb ps k⟩ := by
  rw [take_succ_ver h, pbs_append]
  simp [pbs]
theorem pbs_take_le (ps : List Ver) (k : Nat) : (pbs (ps.take k)).length ≤ (pbs ps).length := by
  have := congrArg (fun l => (pbs l).length) (List.take_append_drop k ps)
  simp only [pbs_append, List.length_append] at this
  omega

theorem Row.head {w0 w : World} {g cap : Nat} {u : UInt8} {bs : List UInt8} (h : Row w0 w g cap (u :: bs)) : w.cell? ⟨g, 0, none⟩ = some (.int .u8 u.toNat) ∧ w.frozen? ⟨g, 0, none⟩ = false := by
  refine ⟨by simpa [ub] using h.slu 0 (by simp), ?_⟩
  rcases h.own.2 with ⟨e, _⟩ | ⟨g2, c2, cur, e, q1, q2, q3, q4, q5, q6⟩
  · simp at e
  · simp only [Value.slice.injEq, Option.some.injEq, Addr.mk.injEq, and_true, true_and] at e
    obtain ⟨rfl, rfl⟩ := e
    exact frozen_of_block _ q2
theorem Row.set0 {w0 w : World} {g cap : Nat} {u : UInt8} {bs : List UInt8} (h : Row w0 w g cap (u :: bs)) (v : UInt8) (x : Int) (hx : x = (v.toNat : Int)) : Row w0 (w.setCell ⟨g, 0, none⟩ (.int .u8 x)) g cap (v :: bs) := by
  subst hx
  have hlt := h.lt
  refine ⟨⟨by simp [bcells_length], ?_⟩, h.kp.setCell (.inr hlt.1) _⟩
  rcases h.own.2 with ⟨e, _⟩ | ⟨g2, c2, cur, e, q1, q2, q3, q4, q5, q6⟩
  · simp at e
  · simp only [Value.slice.injEq, Option.some.injEq, Addr.mk.injEq, and_true, true_and] at e
    obtain ⟨rfl, rfl⟩ := e
    refine .inr ⟨g, cap, _, by simp, q1, heap_setCell_at 0 _ q2, by simpa using q3, q4, by simpa using q5, ?_⟩
    simp only [Nat.mul_one, List.length_cons] at q6 ⊢
    rw [Array.toList_setIfInBounds, List.take_set, q6]
    simp [bcells]

/-- At the head of a round: the bytes of the first k pairs, behind others. -/
structure EnI (w : World) (hd : List UInt8) (ps : List Ver) (k g cap n : Nat) (wr : World) : Prop where
  len : n = (hd ++ pbs (ps.take k)).length
  row : Row w wr g cap (hd ++ pbs (ps.take k))
theorem EnI.next {w wr : World} {hd : List UInt8} {ps : List Ver} {k g cap n : Nat} (hk : k < ps.length) (hn : n = (hd ++ pbs (ps.take k) ++ pb ⟨va ps k, vt ps k, vb ps k⟩).length) (hr : Row w wr g cap (hd ++ pbs (ps.take k) ++ pb ⟨va ps k, vt ps k, vb ps k⟩)) : EnI w hd ps (k + 1) g cap n wr := by
  rw [List.append_assoc, ← pbs_take_succ hk] at hn hr
  exact ⟨hn, hr⟩
theorem EnI.last {w wr : World} {hd : List UInt8} {ps : List Ver} {g cap n : Nat} (h : EnI w hd ps ps.length g cap n wr) : n = (hd ++ pbs ps).length ∧ Row w wr g cap (hd ++ pbs ps) := by
  obtain ⟨h1, h2⟩ := h
  rw [List.take_length] at h1 h2
  exact ⟨h1, h2⟩
theorem enI_start (w W : World) (hk : Kp [] w W) (ps : List Ver) (hd : List UInt8) (cs : Array Value) (hc : cs.toList = bcells hd) (hm : hd.length ≤ 1000) (g c : Nat) (hg : g = W.heap.size) (h2 : c = hd.length) : EnI w hd ps 0 g c c (W.alloc (.cells cs 5)) := by
  subst hg
  subst h2
  have := row_lit w W hk hd cs hc hm
  exact ⟨by simp [pbs], by simpa [pbs] using this⟩

def EncEnd (ps : List Ver) (w : World) (e : Ending) (w' : World) : Prop := ∃ g cap n, e = .returned (.tuple #[.slice (some ⟨g, 0, none⟩) n cap, .int .i64 0]) ∧ n = (enc ps).length ∧ Row w w' g cap (enc ps)
theorem encEnd_mk {ps : List Ver} {w W : World} {g cap n : Nat} {x : Int} (hx : x = (n : Int) % 256) (hr : n = ([0, b8 ps.length] ++ pbs ps).length ∧ Row w W g cap ([0, b8 ps.length] ++ pbs ps)) :
    EncEnd ps w (.returned (.tuple #[.slice (some ⟨g, 0, none⟩) n cap, .int .i64 0])) (W.setCell ⟨g, 0, none⟩ (.int .u8 x)) := by
  obtain ⟨h1, h2⟩ := hr
  refine ⟨g, cap, n, rfl, by rw [h1]; simp [enc], h2.set0 (b8 ((pbs ps).length + 2 : Nat)) x ?_⟩
  rw [hx, ← mod_b8, h1]
  simp; omega

set_option maxHeartbeats 1000000 in
theorem encode_ok (a : Option Addr) (c : Nat) (ps : List Ver) (w : World) (h : Prs w a ps) (hp : pf (-1) ps = 0) :
    Calls Try.prog 17 #[.slice a ps.length c] w fun e w' => EncEnd ps w e w' := by
  have h8 := pf_len8 hp
  have h112 := pbs_len112 hp
  have HP := hide h
  have HS := hide (pf_str hp)
  have HPF := hide hp
  clear h hp
  go_enter Try.func17, Try.ntmps17
  go_wp2_with fail
  refine (tcheck36 a c ps w (unhide HP) (by omega)).mono ?_
  rintro e w1 ⟨rfl, hk1⟩
  have HK1 := hide hk1
  clear hk1
  rw [unhide HPF]
  go_wp2_with fail
  go_loopw [5, 19] (fun b i wr => ∃ k g cap n : Nat, k ≤ ps.length ∧ b = .slice (some ⟨g, 0, none⟩) n cap ∧ i = .int .i64 k ∧ Hid (EnI w [0, b8 ps.length] ps k g cap n wr)) (fun _ i _ => ps.length - (intOf i).toNat)
  case atStart => exact ⟨0, w1.heap.size, 2, 2, by omega, rfl, rfl, enI_start w w1 (unhide HK1) ps [0, b8 ps.length] _ (by simp [bcells, ← mod_b8]; omega) (by simp) _ _ rfl rfl⟩
  case round =>
    obtain ⟨k, g, cap, n, hk, rfl, rfl, HE⟩ := hrel
    by_cases hlt : k < ps.length
    · obtain ⟨ga, o, rfl, hs⟩ := (unhide HP).mem (by omega)
      have hs2 := hs.kp (unhide HE).row.kp (by simp)
      have q0 := hs2.at0 k hlt
      have q1 := hs2.at1 k hlt
      have q2 := hs2.at2 k hlt
      have i0 : (0 : Int) ≤ (k : Int) := by omega
      have i1 : (k : Int) < (ps.length : Int) := by omega
      clear hs hs2
      go_wp2_with fail
      refine (appendPair17 (va ps k) (vt ps k) (vb ps k) ((unhide HE).row.kp0 ((Kp.refl [] _).alloc _)) (unhide HE).len (by have := pbs_take_le ps k; simp; omega) (by have := unhide HS k hlt; omega)).mono ?_
      rintro e w2 ⟨g2, c2, n2, rfl, hn2, hr2⟩
      have HE2 := hide (EnI.next hlt hn2 hr2)
      clear hn2 hr2
      go_wp2_with fail
      exact ⟨⟨k + 1, g2, c2, n2, by omega, rfl, by go_num, HE2⟩, by simp [intOf]; omega⟩
    · have e : k = ps.length := by omega
      subst e
      have hl := (unhide HE).last
      obtain ⟨y0, y1⟩ := Row.head hl.2
      have HLL := hide hl
      have hn0 : 0 < n := by rw [hl.1]; simp
      clear hl
      go_wp2_with fail
      go_ret2
      exact encEnd_mk rfl (unhide HLL)

theorem encode_bad (a : Option Addr) (c : Nat) (ps : List Ver) (w : World) (h : Prs w a ps) (hm : ps.length ≤ 1000) (hp : pf (-1) ps ≠ 0) :
    Calls Try.prog 17 #[.slice a ps.length c] w fun e w' => e = .returned (.tuple #[.slice none 0 0, .int .i64 (pf (-1) ps)]) ∧ Kp [] w w' := by
  have hc := tcheck36 a c ps w h (by omega)
  generalize pf (-1) ps = q at *
  have HC := hide hc
  clear h hc
  go_enter Try.func17, Try.ntmps17
  go_wp2_with fail
  refine (unhide HC).mono ?_
  rintro e w1 ⟨rfl, hk1⟩
  have HK1 := hide hk1
  clear hk1
  go_wp2_with fail
  go_ret2
  exact ⟨rfl, unhide HK1⟩
end Go.Proofs.Ytcfogkdpkpehaab

/- Parts of bytes, and as a string; readPair, by its contract. -/
namespace Go.Proofs.Ytcfogkdpkpehaab
open Go.RowKit
set_option maxRecDepth 20000
attribute [local go_sem ↓] Go.wp_at_zero Go.wp_at_succ

theorem elem_u8 : Try.prog.elem 23 = 5 := by simp [Program.elem, Try.underlying23]
theorem size_u8 (W : World) : (sizeOf 5).run Try.prog W = .ok 1 W := by
  obtain ⟨i0, hi0, hz0, hz1, hz2⟩ := info_parts Try.info5
  simp [sizeOf, typeInfo, hi0, hz1]
theorem under_u8 : Try.prog.underlying 23 = some (.slice (Try.prog.elem 23)) := by rw [elem_u8]; exact Try.underlying23

/-- The bytes of a part lie where the part does. -/
theorem sliced_byt {w : World} {a : Option Addr} {bs : List UInt8} (h : Byt w a bs) {l k c : Nat} (hlk : l ≤ k) (hk : k ≤ bs.length) (hc : bs.length ≤ c) : Byt w (if c = l then a else a.map (·.add (l * 1))) ((bs.take k).drop l) := by
  intro hp
  have hp' : l < k := by simp at hp; omega
  rw [if_neg (by omega)]
  obtain ⟨g, o, rfl, hs⟩ := h (by omega)
  exact ⟨g, o + l, by simp [addr_add], (hs.take k).drop l⟩

/-- 'b[l:k]'. -/
theorem part_lh {w : World} {a : Option Addr} {bs : List UInt8} (h : Byt w a bs) (l k c n : Nat) (hlk : l ≤ k) (hk : k ≤ bs.length) (hc : bs.length ≤ c) (x y : Int) (hx : x = l) (hy : y = k) :
    ∃ a', (∀ W, (Instr.slice 23 (.slice a n c) (some (.int .i64 x)) (some (.int .i64 y)) none).run Try.prog W = .ok (.slice a' (k - l) (c - l)) W) ∧ Byt w a' ((bs.take k).drop l) := by
  refine ⟨_, fun W => ?_, sliced_byt h hlk hk hc⟩
  subst hx hy
  rw [run_slice_lh W 23 a n c under_u8 .i64 .i64 _ _ (by omega) (by omega) (by omega), elem_u8, size_u8]
  simp [Result.andThen, sliced]
/-- 'b[l:]'. -/
theorem part_l {w : World} {a : Option Addr} {bs : List UInt8} (h : Byt w a bs) (l c n : Nat) (hn : n = bs.length) (hl : l ≤ bs.length) (hc : bs.length ≤ c) (x : Int) (hx : x = l) :
    ∃ a', (∀ W, (Instr.slice 23 (.slice a n c) (some (.int .i64 x)) none none).run Try.prog W = .ok (.slice a' (n - l) (c - l)) W) ∧ Byt w a' (bs.drop l) := by
  refine ⟨_, fun W => ?_, by have := sliced_byt h hl (Nat.le_refl _) hc; rwa [List.take_length] at this⟩
  subst hx
  rw [run_slice_l W 23 a n c under_u8 .i64 _ (by omega) (by omega), elem_u8, size_u8]
  simp [Result.andThen, sliced]
/-- 'b[:k]'. -/
theorem part_h {w : World} {a : Option Addr} {bs : List UInt8} (h : Byt w a bs) (k c n : Nat) (hk : k ≤ bs.length) (hc : bs.length ≤ c) (x : Int) (hx : x = k) :
    ∃ a', (∀ W, (Instr.slice 23 (.slice a n c) none (some (.int .i64 x)) none).run Try.prog W = .ok (.slice a' k c) W) ∧ Byt w a' (bs.take k) := by
  refine ⟨_, fun W => ?_, sliced_byt h (Nat.zero_le _) hk hc⟩
  subst hx
  rw [run_slice_h W 23 a n c under_u8 .i64 _ (by omega) (by omega), elem_u8, size_u8]
  simp [Result.andThen, sliced]

/-- 'string(b)'. -/
theorem str_of {w : World} {a : Option Addr} {bs : List UInt8} (h : Byt w a bs) (n c : Nat) (hn : n = bs.length) (W : World) (hk : Kp [] w W) : (convert 23 9 (.slice a n c)).run Try.prog W = .ok (.string ⟨bs.toArray⟩) W := by
  subst hn
  have hb := h.kp0 hk
  cases a with
  | none =>
    have e : bs = [] := by
      rcases Nat.eq_zero_or_pos bs.length with e | e
      · exact List.eq_nil_of_length_eq_zero e
      · obtain ⟨g, o, e2, _⟩ := h e
        cases e2
    subst e
    show (convert 23 9 (.slice none 0 c)).run Try.prog W = _
    rw [run_convert_bytes_string W 23 9 5 none 0 c Try.underlying23 Try.underlying5 Try.underlying9]
    rfl
  | some ad =>
    refine run_convert_bytes_back W 23 9 5 ad c bs Try.underlying23 Try.underlying5 Try.underlying9 (fun j hj => ?_)
    obtain ⟨g, o, e, hs⟩ := hb (by omega)
    cases e
    rw [addr_add, hs j hj]
    simp [ub, List.getD_eq_getElem?_getD, List.getElem?_eq_getElem hj]

/-- What readPair tells: the pair, how many bytes, whether it is one. -/
def rd1 (bs : List UInt8) : Ver × Nat × Bool :=
  if bs.length < 2 then (dv, 0, false)
  else if ub bs 1 = 255 then (⟨ub bs 0, false, ByteArray.empty⟩, 2, true)
  else if bs.length < 2 + ub bs 1 then (dv, 0, false)
  else (⟨ub bs 0, true, ⟨((bs.take (2 + ub bs 1)).drop 2).toArray⟩⟩, 2 + ub bs 1, true)

theorem kp_set3 {w W : World} {u0 u1 u2 : Value} (h : Kp [] w W) : Kp [] w (((W.setCell ⟨w.heap.size, 0, none⟩ u0).setCell ⟨w.heap.size, 1, none⟩ u1).setCell ⟨w.heap.size, 2, none⟩ u2) :=
  ((h.setCell (.inr (Nat.le_refl _)) _).setCell (.inr (Nat.le_refl _)) _).setCell (.inr (Nat.le_refl _)) _
def Rd1End (R : Ver × Nat × Bool) (w : World) (e : Ending) (w' : World) : Prop :=
  e = .returned (.tuple #[.agg #[.int .i64 R.1.a, .bool R.1.t, .string R.1.s], .int .i64 R.2.1, .bool R.2.2]) ∧ Kp [] w w'

set_option maxHeartbeats 1000000 in
theorem readPair23 (a : Option Addr) (n c : Nat) (bs : List UInt8) (w : World) (h : Byt w a bs) (hn : n = bs.length) (hc : n ≤ c) (hm : bs.length ≤ 10000) :
    Calls Try.prog 87 #[.slice a n c] w fun e w' => Rd1End (rd1 bs) w e w' := by
  by_cases h2 : bs.length < 2
  · have e1 : rd1 bs = (dv, 0, false) := by unfold rd1; rw [if_pos h2]
    rw [e1]
    have hn2 : n < 2 := by omega
    clear h e1 hn
    go_enter Try.func87, Try.ntmps87
    go_wp2_with fail
    exact bodyPost_ret (v := .tuple #[.agg #[.int .i64 0, .bool false, .string ByteArray.empty], .int .i64 0, .bool false]) (by simp [results, Try.results87, go_sem]; rfl) rfl ⟨rfl, (Kp.refl [] w).alloc _⟩
  · obtain ⟨g, o, rfl, hs⟩ := h (by omega)
    have q0 := hs 0 (by omega)
    have q1 := hs 1 (by omega)
    have hg : g < w.heap.size := World.block_lt_of_cell? w _ q0
    have u0 := ub_lt bs 0
    have u1 := ub_lt bs 1
    have HB := hide h
    have hn2 : ¬ n < 2 := by omega
    have i0 : (0 : Int) < (n : Int) := by omega
    have i1 : (1 : Int) < (n : Int) := by omega
    have j0 : 0 < n := by omega
    have j1 : 1 < n := by omega
    have HN := hide hn
    have HC := hide hc
    simp only [Nat.add_zero] at q0
    clear h hs hn hc
    by_cases h255 : ub bs 1 = 255
    · have e1 : rd1 bs = (⟨ub bs 0, false, ByteArray.empty⟩, 2, true) := by unfold rd1; rw [if_neg h2, if_pos h255]
      rw [e1]
      rw [h255] at q1
      clear e1 h255 u1
      generalize ub bs 0 = x at *
      go_enter Try.func87, Try.ntmps87
      go_wp2_with fail
      go_quiet (fail)
      go_wp2_with fail
      exact bodyPost_ret (v := .tuple #[.agg #[.int .i64 x, .bool false, .string ByteArray.empty], .int .i64 2, .bool true]) (by simp [results, Try.results87, go_sem]; rfl) rfl ⟨rfl, kp_set3 (((Kp.refl [] w).alloc _).drewN _)⟩
    · by_cases hl : bs.length < 2 + ub bs 1
      · have e1 : rd1 bs = (dv, 0, false) := by unfold rd1; rw [if_neg h2, if_neg h255, if_pos hl]
        rw [e1]
        have k0 : (n : Int) < 2 + (ub bs 1 : Nat) := by have := unhide HN; omega
        have k1 : ¬ ((ub bs 1 : Nat) : Int) = 255 := by omega
        clear e1 h255 hl
        generalize ub bs 0 = x at *
        generalize ub bs 1 = l at *
        go_enter Try.func87, Try.ntmps87
        go_wp2_with fail
        go_quiet (fail)
        go_wp2_with fail
        exact bodyPost_ret (v := .tuple #[.agg #[.int .i64 0, .bool false, .string ByteArray.empty], .int .i64 0, .bool false]) (by simp [results, Try.results87, go_sem]; rfl) rfl ⟨rfl, kp_set3 (((Kp.refl [] w).alloc _).drewN _)⟩
      · have e1 : rd1 bs = (⟨ub bs 0, true, ⟨((bs.take (2 + ub bs 1)).drop 2).toArray⟩⟩, 2 + ub bs 1, true) := by unfold rd1; rw [if_neg h2, if_neg h255, if_neg hl]
        rw [e1]
        have k0 : ¬ (n : Int) < 2 + (ub bs 1 : Nat) := by have := unhide HN; omega
        have k1 : ¬ ((ub bs 1 : Nat) : Int) = 255 := by omega
        have k2 : 2 + ub bs 1 ≤ c := by have := unhide HN; have := unhide HC; omega
        obtain ⟨a2, hsl, hb2⟩ := part_lh (unhide HB) 2 (2 + ub bs 1) c n (by omega) (by omega) (by have := unhide HN; have := unhide HC; omega) 2 (2 + (ub bs 1 : Nat)) rfl (by omega)
        have e2 : 2 + ub bs 1 - 2 = ub bs 1 := by omega
        rw [e2] at hsl
        have hl2 : ub bs 1 = ((bs.take (2 + ub bs 1)).drop 2).length := by simp; omega
        have hcv := fun m => str_of hb2 (ub bs 1) (c - 2) hl2 ((w.alloc (.cells #[.int .i64 0, .bool false, .string ⟨#[]⟩] 40)).drewN m) (((Kp.refl [] w).alloc _).drewN m)
        clear e1 e2 h255 hl hl2 hb2
        generalize (bs.take (2 + ub bs 1)).drop 2 = sb at *
        generalize ub bs 0 = x at *
        generalize ub bs 1 = l at *
        go_enter Try.func87, Try.ntmps87
        go_wp2_with fail
        go_quiet (fail)
        go_wp2_with fail
        exact bodyPost_ret (v := .tuple #[.agg #[.int .i64 x, .bool true, .string ⟨sb.toArray⟩], .int .i64 (2 + l : Nat), .bool true]) (by simp [results, Try.results87, go_sem]) rfl ⟨rfl, (kp_set3 (((Kp.refl [] w).alloc _).drewN _)).alloc _⟩
end Go.Proofs.Ytcfogkdpkpehaab

/- A log's memory; New, Len, Mend and Bytes of a log, by their contracts. -/
namespace Go.Proofs.Ytcfogkdpkpehaab
open Go.RowKit
set_option maxRecDepth 20000
attribute [local go_sem ↓] Go.wp_at_zero Go.wp_at_succ

/-- A log's memory: the box gb holds its bytes, how many of them are whole commits, and how many commits; F: all blocks that are the log's own. -/
structure LgL (B : Nat) (w : World) (gb : Nat) (F : List Nat) (a : Option Addr) (cap : Nat) (cs : List (List Ver)) (torn : List UInt8) : Prop where
  box : w.heap[gb]? = some (.cells #[.slice a (lb cs ++ torn).length cap, .int .i64 (lb cs).length, .int .i64 cs.length] 112 (0, 0))
  own : OwnU B w a cap (lb cs ++ torn)
  ne : gb ∉ ob a
  gF : gb ∈ F
  aF : ∀ x, x ∈ ob a → x ∈ F
  lo : ∀ x, x ∈ F → B ≤ x ∧ x < w.heap.size
  inv : LInv cs
  tl : torn.length ≤ 114
  hB : B ≤ w.heap.size
def Lg (B : Nat) (w : World) (gb : Nat) (F : List Nat) (cs : List (List Ver)) (torn : List UInt8) : Prop := ∃ a cap, LgL B w gb F a cap cs torn

section
variable {B : Nat} {w w' : World} {gb : Nat} {F S : List Nat} {a : Option Addr} {cap : Nat} {cs : List (List Ver)} {torn : List UInt8}
theorem LgL.kp (h : LgL B w gb F a cap cs torn) (hk : Kp S w w') (hS : ∀ x, x ∈ F → x ∉ S) : LgL B w' gb F a cap cs torn :=
  ⟨by rw [hk.block gb (h.lo gb h.gF).2 (hS _ h.gF)]; exact h.box, h.own.kp hk (fun x hx => hS x (h.aF x hx)), h.ne, h.gF, h.aF, fun x hx => ⟨(h.lo x hx).1, Nat.lt_of_lt_of_le (h.lo x hx).2 hk.size⟩, h.inv, h.tl, Nat.le_trans h.hB hk.size⟩
theorem Lg.kp (h : Lg B w gb F cs torn) (hk : Kp S w w') (hS : ∀ x, x ∈ F → x ∉ S) : Lg B w' gb F cs torn := by
  obtain ⟨a, cap, h⟩ := h
  exact ⟨a, cap, h.kp hk hS⟩
theorem Lg.kp0 (h : Lg B w gb F cs torn) (hk : Kp [] w w') : Lg B w' gb F cs torn := h.kp hk (fun _ _ => by simp)
theorem Lg.lo (h : Lg B w gb F cs torn) : ∀ x, x ∈ F → B ≤ x ∧ x < w.heap.size := by
  obtain ⟨a, cap, h⟩ := h
  exact h.lo
theorem Lg.inv (h : Lg B w gb F cs torn) : LInv cs := by
  obtain ⟨a, cap, h⟩ := h
  exact h.inv
theorem Lg.base {C : Nat} (h : Lg B w gb F cs torn) (hC : C ≤ B) : Lg C w gb F cs torn := by
  obtain ⟨a, cap, h⟩ := h
  exact ⟨a, cap, h.box, h.own.base hC, h.ne, h.gF, h.aF, fun x hx => ⟨Nat.le_trans hC (h.lo x hx).1, (h.lo x hx).2⟩, h.inv, h.tl, Nat.le_trans hC h.hB⟩
theorem LgL.c0 (h : LgL B w gb F a cap cs torn) : w.cell? ⟨gb, 0, none⟩ = some (.slice a (lb cs ++ torn).length cap) := cell_of_block h.box rfl
theorem LgL.c1 (h : LgL B w gb F a cap cs torn) : w.cell? ⟨gb, 1, none⟩ = some (.int .i64 (lb cs).length) := cell_of_block h.box rfl
theorem LgL.c2 (h : LgL B w gb F a cap cs torn) : w.cell? ⟨gb, 2, none⟩ = some (.int .i64 cs.length) := cell_of_block h.box rfl
theorem LgL.fz (h : LgL B w gb F a cap cs torn) (i : Nat) : w.frozen? ⟨gb, i, none⟩ = false := frozen_of_block i h.box
end

set_option maxHeartbeats 400000 in
theorem lnew (w : World) : Calls Try.prog 60 #[] w fun e w' => e = .returned (.pointer (some ⟨w.heap.size, 0, none⟩)) ∧ Lg w.heap.size w' w.heap.size [w.heap.size] [] [] ∧ Kp [] w w' := by
  go_enter Try.func60, Try.ntmps60
  go_wp2
  go_ret
  refine ⟨rfl, ⟨none, 0, ?_, ownU_nil _ _, by simp [ob], by simp, by simp [ob], fun x hx => ?_, linv_nil, by simp, by simp⟩, (Kp.refl [] w).alloc _⟩
  · exact heap_alloc_new w _
  · simp at hx; subst hx; simp

set_option maxHeartbeats 400000 in
theorem llen {B gb : Nat} {F : List Nat} {cs : List (List Ver)} {torn : List UInt8} (w : World) (h : Lg B w gb F cs torn) :
    Calls Try.prog 26 #[.pointer (some ⟨gb, 0, none⟩)] w fun e w' => e = .returned (.int .i64 cs.length) ∧ w' = w := by
  obtain ⟨a, cap, h⟩ := h
  have q := h.c2
  clear h
  go_enter Try.func26, Try.ntmps26
  go_wp2
  go_ret
  exact ⟨rfl, rfl⟩

/-- 'b[:k]' of a row begins where it begins. -/
theorem own_part {B : Nat} {w : World} {a : Option Addr} {cap : Nat} {bs : List UInt8} (h : OwnU B w a cap bs) (k n : Nat) (hk : k ≤ bs.length) (x : Int) (hx : x = k) (W : World) :
    (Instr.slice 23 (.slice a n cap) none (some (.int .i64 x)) none).run Try.prog W = .ok (.slice a k cap) W := by
  subst hx
  have hc := h.le
  rw [run_slice_h W 23 a n cap under_u8 .i64 _ (by omega) (by omega), elem_u8, size_u8]
  rcases h.cases with ⟨rfl, rfl, rfl⟩ | ⟨g, rfl, _⟩
  · simp [Result.andThen, sliced]
  · simp [Result.andThen, sliced, addr_add]

theorem LgL.mend {B : Nat} {w : World} {gb : Nat} {F : List Nat} {a : Option Addr} {cap : Nat} {cs : List (List Ver)} {torn : List UInt8} (h : LgL B w gb F a cap cs torn) :
    LgL B (w.setCell ⟨gb, 0, none⟩ (.slice a (lb cs).length cap)) gb F a cap cs [] ∧ Kp F w (w.setCell ⟨gb, 0, none⟩ (.slice a (lb cs).length cap)) := by
  have hk : Kp [gb] w (w.setCell ⟨gb, 0, none⟩ (.slice a (lb cs).length cap)) := (Kp.refl [gb] w).setCell (.inl (by simp)) _
  refine ⟨⟨?_, ?_, h.ne, h.gF, h.aF, fun x hx => ⟨(h.lo x hx).1, Nat.lt_of_lt_of_le (h.lo x hx).2 hk.size⟩, h.inv, by simp, Nat.le_trans h.hB hk.size⟩, hk.mono (fun x hx => .inl (by rw [List.mem_singleton.1 hx]; exact h.gF))⟩
  · rw [heap_setCell_at 0 _ h.box, List.append_nil]
    rfl
  · have := (h.own.take (lb cs).length (by simp)).kp hk (fun x hx e => h.ne (by rw [← List.mem_singleton.1 e]; exact hx))
    rw [List.take_left] at this
    rw [List.append_nil]
    exact this

set_option maxHeartbeats 400000 in
theorem lmend {B gb : Nat} {F : List Nat} {cs : List (List Ver)} {torn : List UInt8} (w : World) (h : Lg B w gb F cs torn) :
    Calls Try.prog 36 #[.pointer (some ⟨gb, 0, none⟩)] w fun e w' => e = .returned (.int .i64 torn.length) ∧ Lg B w' gb F cs [] ∧ Kp F w w' := by
  obtain ⟨a, cap, h⟩ := h
  have q0 := h.c0
  have q1 := h.c1
  have f0 := h.fz 0
  have hsl := own_part h.own (lb cs).length (lb cs ++ torn).length (by simp) _ rfl
  have hb := h.inv.b3000
  have ht := h.tl
  have hl : (lb cs ++ torn).length = (lb cs).length + torn.length := by simp
  have HM : Hid (∀ W, Kp [] w W → Lg B (W.setCell ⟨gb, 0, none⟩ (.slice a (lb cs).length cap)) gb F cs [] ∧ Kp F w (W.setCell ⟨gb, 0, none⟩ (.slice a (lb cs).length cap))) := fun W hW => by
    obtain ⟨h1, h2⟩ := (h.kp hW (fun _ _ => by simp)).mend
    exact ⟨⟨a, cap, h1⟩, (hW.mono (fun x hx => by simp at hx)).trans h2 (fun x hx => .inl hx)⟩
  rw [hl] at q0 hsl
  clear h hl
  generalize (lb cs).length = n at *
  generalize hT : torn.length = t at *
  clear hT
  go_enter Try.func36, Try.ntmps36
  go_wp2_with fail
  go_quiet (fail)
  go_wp2_with fail
  go_region
  go_wp2_with fail
  go_ret
  obtain ⟨h1, h2⟩ := unhide HM _ ((Kp.refl [] w).drewN _).drew
  exact ⟨ret_int (by omega), h1, h2⟩

/-- A copy of bytes. -/
def BtEnd (bs : List UInt8) (w : World) (e : Ending) (w' : World) : Prop := ∃ a n cap, e = .returned (.slice a n cap) ∧ n = bs.length ∧ n ≤ cap ∧ Byt w' a bs ∧ Kp [] w w'

set_option maxHeartbeats 400000 in
theorem clone45 {B : Nat} {a : Option Addr} {cap : Nat} {bs : List UInt8} (w : World) (h : OwnU B w a cap bs) (hm : bs.length ≤ 10000) :
    Calls Try.prog 64 #[.slice a bs.length cap] w fun e w' => BtEnd bs w e w' := by
  have hnil := fun wx a n c n' c' => Lib.run_eql_slice_nil (P := Try.prog) wx 23 5 a n c n' c' Try.underlying23
  rcases h.cases with ⟨rfl, rfl, rfl⟩ | ⟨g, rfl, _, _, _⟩
  · clear h
    go_enter Try.func64, Try.ntmps64
    go_wp2
    go_ret
    exact ⟨none, 0, 0, rfl, rfl, by simp, byt_nil _ _, Kp.refl _ _⟩
  · have HB := hide (h.byt.kp0 ((Kp.refl [] w).alloc (.cells #[] 5)))
    clear h
    go_enter Try.func64, Try.ntmps64
    go_wp2_with (at_builtin; refine wpList_app0 (by rfl) (.tmp 5) (.tmp 6) 23 rfl _ (.slice (some ⟨g, 0, none⟩) bs.length cap) bs rfl rfl ((unhide HB).src cap) (by omega) ?_; intro a2 c2 n2 w2 hn2 hc2 hb2 hk2)
    go_ret
    exact ⟨a2, n2, c2, rfl, unhide hn2, unhide hc2, unhide hb2, ((Kp.refl [] w).alloc _).trans0 (unhide hk2)⟩

set_option maxHeartbeats 400000 in
theorem lbytes {B gb : Nat} {F : List Nat} {cs : List (List Ver)} {torn : List UInt8} (w : World) (h : Lg B w gb F cs torn) :
    Calls Try.prog 27 #[.pointer (some ⟨gb, 0, none⟩)] w fun e w' => BtEnd (lb cs ++ torn) w e w' := by
  obtain ⟨a, cap, h⟩ := h
  have q0 := h.c0
  have hl : (lb cs ++ torn).length ≤ 10000 := by have := h.inv.b3000; have := h.tl; simp; omega
  have HC := hide (clone45 w h.own hl)
  clear h
  generalize lb cs ++ torn = bs at *
  go_enter Try.func27, Try.ntmps27
  go_wp2_with fail
  refine (unhide HC).mono ?_
  rintro e w2 ⟨a2, n2, c2, rfl, hn2, hc2, hb2, hk2⟩
  have HE : Hid (BtEnd bs w (.returned (.slice a2 n2 c2)) w2) := ⟨a2, n2, c2, rfl, hn2, hc2, hb2, hk2⟩
  clear hn2 hc2 hb2 hk2
  go_wp2
  go_ret
  exact HE
end Go.Proofs.Ytcfogkdpkpehaab

/- The document's bytes of a commit, by their contract. -/
namespace Go.Proofs.Ytcfogkdpkpehaab
open Go.RowKit
set_option maxRecDepth 20000
attribute [local go_sem ↓] Go.wp_at_zero Go.wp_at_succ

theorem at12 {w w2 : World} {ga o k : Nat} {ps : List Ver} {t : Bool} (hs : SlA w ga o ps) (hk : Kp [] w w2) (hlt : k < ps.length) (ht : vt ps k = t) :
    w2.cell? ⟨ga, o + k * 3 + 1, none⟩ = some (.bool t) ∧ w2.cell? ⟨ga, o + k * 3 + 1 + 1, none⟩ = some (.string (vb ps k)) := by
  have h := hs.kp hk (by simp)
  subst ht
  exact ⟨h.at1 k hlt, h.at2 k hlt⟩
theorem Row.src {w0 w : World} {g cap n : Nat} {bs : List UInt8} (h : Row w0 w g cap bs) (hn : n = bs.length) : Src Try.prog 1 23 (.slice (some ⟨g, 0, none⟩) n cap) bs.length (bcells bs) w := by
  subst hn
  exact h.byt.src cap

/-- '[]byte(s)': the new row's bytes. -/
theorem conv_byt (w : World) (s : ByteArray) (cap : Nat) (fr : Nat × Nat) : Byt (w.drew.alloc (.cells (bytesRow s cap) 5 fr)) (some ⟨w.heap.size, 0, none⟩) s.data.toList := fun _ => by
  refine ⟨w.heap.size, 0, rfl, fun j hj => ?_⟩
  have hj' : j < s.data.size := by simpa using hj
  have := World.cell?_alloc_mark w.drew (bytesRow s cap) 5 fr j
  rw [bytesRow_at s cap j hj'] at this
  rw [Nat.zero_add]
  have e : s.data[j]? = some s.data[j] := Array.getElem?_eq_getElem hj'
  simpa [ub, List.getD_eq_getElem?_getD, e] using this
theorem conv_src (w : World) (s : ByteArray) (n cap c : Nat) (fr : Nat × Nat) (hn : n = s.size) : Src Try.prog 1 23 (.slice (some ⟨w.heap.size, 0, none⟩) n c) s.data.toList.length (bcells s.data.toList) (w.drew.alloc (.cells (bytesRow s cap) 5 fr)) := by
  subst hn
  have := (conv_byt w s cap fr).src c
  rw [bytes_size] at this ⊢
  exact this

set_option maxHeartbeats 1000000 in
theorem bytesOf11 (a : Option Addr) (c : Nat) (ps : List Ver) (w : World) (h : Prs w a ps) (hp : pf (-1) ps = 0) :
    Calls Try.prog 19 #[.slice a ps.length c] w fun e w' => ApEnd w (enc ps) e w' := by
  have hcv := fun (W : World) (s : ByteArray) => run_bytes_of_string (P := Try.prog) W 9 23 5 s Try.underlying9 Try.underlying23 Try.underlying5
  have h8 := pf_len8 hp
  have h112 := pbs_len112 hp
  have HP := hide h
  have HS := hide (pf_str hp)
  have HPF := hide hp
  clear h hp
  go_enter Try.func19, Try.ntmps19
  go_wp2_with fail
  go_loopw [3, 4] (fun b i wr => ∃ k g cap n : Nat, k ≤ ps.length ∧ b = .slice (some ⟨g, 0, none⟩) n cap ∧ i = .int .i64 k ∧ Hid (EnI w [b8 ps.length] ps k g cap n wr)) (fun _ i _ => ps.length - (intOf i).toNat)
  case atStart => exact ⟨0, w.heap.size, 1, 1, by omega, rfl, rfl, enI_start w w (Kp.refl _ _) ps [b8 ps.length] _ (by simp [bcells, ← mod_b8]; omega) (by simp) _ _ rfl rfl⟩
  case round =>
    obtain ⟨k, g, cap, n, hk, rfl, rfl, HE⟩ := hrel
    by_cases hlt : k < ps.length
    · obtain ⟨ga, o, rfl, hs⟩ := (unhide HP).mem (by omega)
      have hs2 := hs.kp (unhide HE).row.kp (by simp)
      have q0 := hs2.at0 k hlt
      have hbl : (vb ps k).size ≤ 12 := unhide HS k hlt
      have htl : (pbs (ps.take k)).length ≤ 112 := by have := pbs_take_le ps k; omega
      have i0 : (0 : Int) ≤ (k : Int) := by omega
      have i1 : (k : Int) < (ps.length : Int) := by omega
      have HS1 := hide hs
      clear hs hs2
      cases ht : vt ps k with
      | false =>
        have HT := hide ht
        clear ht
        go_wp2_with (first | (at_builtin; refine wpList_app (by rfl) (.tmp 15) (.tmp 22) 23 rfl ((unhide HE).row.kp0 ((Kp.refl [] _).alloc _)) n (unhide HE).len (.slice (some ⟨wr.heap.size, 0, none⟩) 1 1) [b8 (va ps k)] rfl rfl (one_src _ rfl (b8 (va ps k)) _ (mod_b8 (va ps k))) (by simp; omega) ?_; intro g2 c2 n2 w2 hn2 hr2 hk2 hg2; obtain ⟨r1, r2⟩ := at12 (unhide HS1) (unhide hr2).kp hlt (unhide HT)) | (at_builtin; refine wpList_app (by rfl) (.tmp 50) (.tmp 51) 23 rfl ((unhide hr2).kp0 ((Kp.refl [] _).alloc _)) n2 (unhide hn2) (.slice (some ⟨w2.heap.size, 0, none⟩) 1 1) [255] rfl rfl (one_src _ rfl 255 _ rfl) (by simp; omega) ?_; intro g3 c3 n3 w3 hn3 hr3 hk3 hg3; clear r1 r2))
        refine ⟨⟨k + 1, g3, c3, n3, by omega, rfl, by go_num, EnI.next hlt ?_ ?_⟩, by simp [intOf]; omega⟩
        · rw [unhide hn3]; simp [pb, unhide HT]
        · have := unhide hr3; simpa [pb, unhide HT] using this
      | true =>
        have HT := hide ht
        clear ht
        go_wp2_with (first | (at_builtin; refine wpList_app (by rfl) (.tmp 15) (.tmp 22) 23 rfl ((unhide HE).row.kp0 ((Kp.refl [] _).alloc _)) n (unhide HE).len (.slice (some ⟨wr.heap.size, 0, none⟩) 1 1) [b8 (va ps k)] rfl rfl (one_src _ rfl (b8 (va ps k)) _ (mod_b8 (va ps k))) (by simp; omega) ?_; intro g2 c2 n2 w2 hn2 hr2 hk2 hg2; obtain ⟨r1, r2⟩ := at12 (unhide HS1) (unhide hr2).kp hlt (unhide HT)) | (at_builtin; refine wpList_app (by rfl) (.tmp 30) (.tmp 39) 23 rfl ((unhide hr2).kp0 ((Kp.refl [] _).alloc _)) n2 (unhide hn2) (.slice (some ⟨w2.heap.size, 0, none⟩) 1 1) [b8 (vb ps k).size] rfl rfl (one_src _ rfl (b8 (vb ps k).size) _ (by rw [← mod_b8]; omega)) (by simp; omega) ?_; intro g3 c3 n3 w3 hn3 hr3 hk3 hg3; clear r1 r2; obtain ⟨_, r3⟩ := at12 (unhide HS1) (unhide hr3).kp hlt (unhide HT)) | (at_builtin; refine wpList_app (by rfl) (.tmp 41) (.tmp 48) 23 rfl ((unhide hr3).kp0 ((Kp.refl [] _).drew.alloc _)) n3 (unhide hn3) (.slice (some ⟨w3.heap.size, 0, none⟩) (vb ps k).size _) (vb ps k).data.toList rfl rfl (conv_src w3 (vb ps k) _ _ _ _ rfl) (by simp; omega) ?_; intro g4 c4 n4 w4 hn4 hr4 hk4 hg4; clear r3))
        refine ⟨⟨k + 1, g4, c4, n4, by omega, rfl, by go_num, EnI.next hlt ?_ ?_⟩, by simp [intOf]; omega⟩
        · rw [unhide hn4]; simp [pb, unhide HT]
        · have := unhide hr4; simpa [pb, unhide HT] using this
    · have e : k = ps.length := by omega
      subst e
      have hl := (unhide HE).last
      have hn0 : n ≤ 200 := by rw [hl.1]; simp; omega
      have HLL := hide hl
      clear hl
      go_wp2_with (at_builtin; refine wpList_app (by rfl) (.tmp 57) (.tmp 58) 23 rfl (row_lit w wr (unhide HLL).2.kp [b8 ((n : Int) + 1)] _ (by simp [bcells, ← mod_b8]; try omega) (by simp)) 1 rfl (.slice (some ⟨g, 0, none⟩) n cap) ([b8 ps.length] ++ pbs ps) rfl rfl (((unhide HLL).2.kp0 ((Kp.refl [] _).alloc _)).src (unhide HLL).1) (by simp; omega) ?_; intro g5 c5 n5 w5 hn5 hr5 hk5 hg5)
      go_ret
      have en : b8 ((n : Int) + 1) = b8 ((pbs ps).length + 2 : Nat) := by
        rw [(unhide HLL).1]; congr 1
      refine apEnd_mk ?_ ?_
      · rw [unhide hn5]; simp [enc]
      · have := unhide hr5
        rw [en] at this
        exact this
end Go.Proofs.Ytcfogkdpkpehaab

/- greatPairs and SamePairs, by their contracts. -/
namespace Go.Proofs.Ytcfogkdpkpehaab
open Go.RowKit
set_option maxRecDepth 20000
attribute [local go_sem ↓] Go.wp_at_zero Go.wp_at_succ

def GpEnd (ps : List Ver) (w : World) (e : Ending) (w' : World) : Prop := ∃ q : Bool, e = .returned (.bool q) ∧ (q = false → ps.length ≤ 50) ∧ w' = w
theorem gpEnd_mk {ps : List Ver} {w : World} (q : Bool) (h : q = false → ps.length ≤ 50) : GpEnd ps w (.returned (.bool q)) w := ⟨q, rfl, h, rfl⟩

set_option maxHeartbeats 400000 in
theorem gpairs30 (a : Option Addr) (c : Nat) (ps : List Ver) (w : World) (h : Prs w a ps) :
    Calls Try.prog 16 #[.slice a ps.length c] w fun e w' => GpEnd ps w e w' := by
  have hm := h.len
  unfold maxLen at hm
  have HP := hide h
  clear h
  go_enter Try.func16, Try.ntmps16
  go_wp2_with fail
  go_loop [3] (fun i => ∃ k : Nat, k ≤ ps.length ∧ k ≤ 100 ∧ i = .int .i64 k) (fun i => ps.length - (intOf i).toNat)
  case atStart => exact ⟨0, Nat.zero_le _, by omega, rfl⟩
  case round =>
    obtain ⟨k, hk, hk2, rfl⟩ := hrel
    by_cases hlt : k < ps.length
    · by_cases hlt2 : k < 100
      · obtain ⟨g, o, rfl, hs⟩ := (unhide HP).mem (by omega)
        have q2 : w.cell? ⟨g, o + k * 3 + 1 + 1, none⟩ = some (.string (vb ps k)) := hs.at2 k hlt
        have q4 := (unhide HP).str k hlt
        unfold maxLen at q4
        clear hs
        generalize vb ps k = s at *
        by_cases hs : 300 < s.size
        · go_wp2
          go_ret
          exact gpEnd_mk _ (fun h => by simp at h)
        · go_wp2
          go_round
          case rel => exact ⟨k + 1, by omega, by omega, by go_num⟩
          case measure => simp [intOf]; omega
      · go_wp2
        go_ret
        exact gpEnd_mk _ (fun h => by simp at h; omega)
    · go_wp2
      go_ret
      exact gpEnd_mk _ (fun h => by simp at h; omega)

/-- The pairs lie behind the slice's address. -/
def SlO (w : World) (a : Option Addr) (vs : List Ver) : Prop := 0 < vs.length → ∃ g o, a = some ⟨g, o, none⟩ ∧ SlA w g o vs
theorem SlO.kp0 {w w' : World} {a : Option Addr} {vs : List Ver} (h : SlO w a vs) (hk : Kp [] w w') : SlO w' a vs := fun hp => by
  obtain ⟨g, o, e, hs⟩ := h hp
  exact ⟨g, o, e, hs.kp hk (by simp)⟩
theorem slo_own {B n : Nat} {w : World} {a : Option Addr} {cap : Nat} {vs : List Ver} (h : w.ownsRow B 40 3 (.slice a n cap) n (vcells vs)) (hn : n = vs.length) : SlO w a vs := by
  intro hp
  rcases h.2 with ⟨e, _⟩ | ⟨g, c, cur, e, _⟩
  · simp only [Value.slice.injEq] at e; omega
  · simp only [Value.slice.injEq] at e
    obtain ⟨rfl, _, _⟩ := e
    refine ⟨g, 0, rfl, ?_⟩
    intro j u hu
    subst hn
    have := h.cellAt j (by rw [← vcells_length]; exact (List.getElem?_eq_some_iff.1 hu).1)
    rw [Nat.zero_add, this]; exact hu

set_option maxHeartbeats 400000 in
theorem same39 {vs : List Ver} (a a' : Option Addr) (cap cap' : Nat) (w : World) (h : SlO w a vs) (h' : SlO w a' vs) (hm : vs.length ≤ 1000) :
    Calls Try.prog 22 #[.slice a vs.length cap, .slice a' vs.length cap'] w fun e w' => e = .returned (.bool true) ∧ ∃ m, w' = w.drewN m := by
  have HS := hide h
  have HS' := hide h'
  clear h h'
  go_enter Try.func22, Try.ntmps22
  go_wp2_with fail
  go_loopw [5] (fun i wr => ∃ d m : Nat, d ≤ vs.length ∧ i = .int .i64 d ∧ wr = w.drewN m) (fun i _ => vs.length - (intOf i).toNat)
  case atStart => exact ⟨0, 0, Nat.zero_le _, rfl, rfl⟩
  case round =>
    obtain ⟨d, m, hd, rfl, rfl⟩ := hrel
    by_cases hlt : d < vs.length
    · obtain ⟨g, o, rfl, hs⟩ := unhide HS (by omega)
      obtain ⟨g', o', rfl, hs'⟩ := unhide HS' (by omega)
      have q0 := hs.at0 d hlt
      have q1 := hs.at1 d hlt
      have q2 : w.cell? ⟨g, o + d * 3 + 1 + 1, none⟩ = some (.string (vb vs d)) := hs.at2 d hlt
      have p0 := hs'.at0 d hlt
      have p1 := hs'.at1 d hlt
      have p2 : w.cell? ⟨g', o' + d * 3 + 1 + 1, none⟩ = some (.string (vb vs d)) := hs'.at2 d hlt
      have i0 : (0 : Int) ≤ (d : Int) := by omega
      have i1 : (d : Int) < (vs.length : Int) := by omega
      clear hs hs'
      go_wp2_with fail
      go_quiet (fail)
      go_wp2
      exact ⟨⟨d + 1, m + nq, by omega, by go_num, rfl⟩, by simp [intOf]; omega⟩
    · go_wp2
      go_ret
      exact ⟨rfl, _, rfl⟩

end Go.Proofs.Ytcfogkdpkpehaab
