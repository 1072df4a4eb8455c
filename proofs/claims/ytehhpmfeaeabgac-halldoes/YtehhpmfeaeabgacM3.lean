/- D1, D2, V2, Zo, Q1, Q2, J1, Pw, Q3, Q5, J2, Q4, J4, J5: bound together for a claim. -/
import Derived.Test.YtehhpmfeaeabgacM2
import Derived.Deep.MidRow
import Derived.Deep.AppendSrc
import Derived.Laws.IdiomStrings
import Derived.Deep.Upon
/- A deed's memory; New, Mode, At, Get and Put of a deed, by their contracts. -/
namespace Go.Proofs.Ytehhpmfeaeabgac
open Go.RowKit
set_option maxRecDepth 20000
attribute [local go_sem ↓] Go.wp_at_zero Go.wp_at_succ

/-- A deed's memory: its box. -/
def Ded (w : World) (db : Nat) (md y : Int) (rs : List Int) (ws : List Ver) : Prop := w.heap[db]? = some (.cells (dcells md y (ncell rs ws)) 106 (0, 0))

section
variable {w w' : World} {db : Nat} {md y : Int} {rs : List Int} {ws : List Ver}
theorem Ded.lt (h : Ded w db md y rs ws) : db < w.heap.size := lt_of_block h
theorem Ded.kp {S : List Nat} (h : Ded w db md y rs ws) (hk : Kp S w w') (hS : db ∉ S) : Ded w' db md y rs ws := by
  unfold Ded at h ⊢
  rw [hk.block db (lt_of_block h) hS]; exact h
theorem Ded.kp0 (h : Ded w db md y rs ws) (hk : Kp [] w w') : Ded w' db md y rs ws := h.kp hk (by simp)
theorem Ded.mcell (h : Ded w db md y rs ws) : w.cell? ⟨db, 0, none⟩ = some (.int .i64 md) := cell_of_block h rfl
theorem Ded.ycell (h : Ded w db md y rs ws) : w.cell? ⟨db, 1, none⟩ = some (.int .i64 y) := cell_of_block h rfl
theorem Ded.ncell0 (h : Ded w db md y rs ws) {k : Nat} (hk : k < 8) : w.cell? ⟨db, 2 + k * 4, none⟩ = some (.bool (decide ((k : Int) ∈ rs))) := cell_of_block h (dcells_at (i := 0) _ _ _ hk (by omega))
theorem Ded.ncell1 (h : Ded w db md y rs ws) {k : Nat} (hk : k < 8) : w.cell? ⟨db, 2 + k * 4 + 1, none⟩ = some (.bool (lwr ws k).isSome) := cell_of_block h (dcells_at (i := 1) _ _ _ hk (by omega))
theorem Ded.ncell2 (h : Ded w db md y rs ws) {k : Nat} (hk : k < 8) : w.cell? ⟨db, 2 + k * 4 + 2, none⟩ = some (.bool ((lwr ws k).getD dv).t) := cell_of_block h (dcells_at (i := 2) _ _ _ hk (by omega))
theorem Ded.ncell3 (h : Ded w db md y rs ws) {k : Nat} (hk : k < 8) : w.cell? ⟨db, 2 + k * 4 + 2 + 1, none⟩ = some (.string ((lwr ws k).getD dv).s) := cell_of_block h (dcells_at (i := 3) _ _ _ hk (by omega))
theorem Ded.frozen (h : Ded w db md y rs ws) (i : Nat) : w.frozen? ⟨db, i, none⟩ = false := frozen_of_block i h
theorem Ded.read (h : Ded w db md y rs ws) {k : Nat} (hk : k < 8) : Ded (w.setCell ⟨db, 2 + k * 4, none⟩ (.bool true)) db md y (rs ++ [(k : Int)]) ws := by
  unfold Ded at h ⊢
  rw [heap_setCell_at _ _ h, show 2 + k * 4 = 2 + k * 4 + 0 from rfl, dcells_set _ _ _ hk (by omega)]
  congr 2
  exact dcells_congr (fun j i _ hi => ncell_read j i hi)
theorem Ded.write (h : Ded w db md y rs ws) {k : Nat} (hk : k < 8) (t : Bool) (s : ByteArray) :
    Ded (((w.setCell ⟨db, 2 + k * 4 + 1, none⟩ (.bool true)).setCell ⟨db, 2 + k * 4 + 2, none⟩ (.bool t)).setCell ⟨db, 2 + k * 4 + 2 + 1, none⟩ (.string s)) db md y rs (ws ++ [⟨(k : Int), t, s⟩]) := by
  unfold Ded at h ⊢
  rw [heap_setCell_at _ _ (heap_setCell_at _ _ (heap_setCell_at _ _ h)), show 2 + k * 4 + 2 + 1 = 2 + k * 4 + 3 from rfl, dcells_set _ _ _ hk (by omega), dcells_set _ _ _ hk (by omega), dcells_set _ _ _ hk (by omega)]
  congr 2
  exact dcells_congr (fun j i _ hi => ncell_write t s j i hi)
end

def deedNil : Array Value := dcells 0 0 (ncell [] [])
/-- What New tells. -/
def DnEnd (md y : Int) (w : World) (e : Ending) (w' : World) : Prop :=
  (1 ≤ md ∧ md ≤ 3 ∧ e = .returned (.pointer (some ⟨w.heap.size, 0, none⟩)) ∧ Ded w' w.heap.size md y [] [] ∧ Kp [] w w') ∨ (¬ (1 ≤ md ∧ md ≤ 3) ∧ e = .returned (.pointer none) ∧ w' = w)

theorem ded_new (w : World) (md y : Int) : Ded (w.alloc (.cells #[.int .i64 md, .int .i64 y, .bool false, .bool false, .bool false, .string ⟨#[]⟩, .bool false, .bool false, .bool false, .string ⟨#[]⟩, .bool false, .bool false, .bool false, .string ⟨#[]⟩, .bool false, .bool false, .bool false, .string ⟨#[]⟩, .bool false, .bool false, .bool false, .string ⟨#[]⟩, .bool false, .bool false, .bool false, .string ⟨#[]⟩, .bool false, .bool false, .bool false, .string ⟨#[]⟩, .bool false, .bool false, .bool false, .string ⟨#[]⟩] 106)) w.heap.size md y [] [] := by
  unfold Ded
  rw [heap_alloc_new]
  rfl

set_option maxHeartbeats 400000 in
theorem dnew54 (md y : Int) (w : World) : Calls Try.prog 92 #[.int .i64 md, .int .i64 y] w fun e w' => DnEnd md y w e w' := by
  by_cases h1 : md = 1
  · subst h1
    go_enter Try.func92, Try.ntmps92
    go_wp2
    go_ret
    exact .inl ⟨by omega, by omega, rfl, ded_new w _ _, (Kp.refl [] w).alloc _⟩
  · by_cases h2 : md = 2
    · subst h2
      go_enter Try.func92, Try.ntmps92
      go_wp2
      go_ret
      exact .inl ⟨by omega, by omega, rfl, ded_new w _ _, (Kp.refl [] w).alloc _⟩
    · by_cases h3 : md = 3
      · subst h3
        go_enter Try.func92, Try.ntmps92
        go_wp2
        go_ret
        exact .inl ⟨by omega, by omega, rfl, ded_new w _ _, (Kp.refl [] w).alloc _⟩
      · have e1 : (md == 1) = false := beq_eq_false_iff_ne.2 h1
        have e2 : (md == 2) = false := beq_eq_false_iff_ne.2 h2
        have e3 : (md == 3) = false := beq_eq_false_iff_ne.2 h3
        go_enter Try.func92, Try.ntmps92
        go_wp2
        go_ret
        exact .inr ⟨by omega, rfl, rfl⟩

theorem dmode70 {db : Nat} {md y : Int} {rs : List Int} {ws : List Ver} (w : World) (h : Ded w db md y rs ws) : Calls Try.prog 26 #[.pointer (some ⟨db, 0, none⟩)] w fun e w' => e = .returned (.int .i64 md) ∧ w' = w := by
  have q := h.mcell
  clear h
  go_enter Try.func26, Try.ntmps26
  go_wp2
  go_ret
  exact ⟨rfl, rfl⟩
theorem dat71 {db : Nat} {md y : Int} {rs : List Int} {ws : List Ver} (w : World) (h : Ded w db md y rs ws) : Calls Try.prog 27 #[.pointer (some ⟨db, 0, none⟩)] w fun e w' => e = .returned (.int .i64 y) ∧ w' = w := by
  have q := h.ycell
  clear h
  go_enter Try.func27, Try.ntmps27
  go_wp2
  go_ret
  exact ⟨rfl, rfl⟩

theorem dg_out {f : Nat → List Ver} {n : Nat} {y : Int} {ws : List Ver} {k : Int} (h : keyB k = false) : dg f n y ws k = ⟨1, false, ByteArray.empty⟩ := by unfold dg; rw [if_neg (by simp [h])]
theorem dr_out {f : Nat → List Ver} {n : Nat} {y : Int} {rs : List Int} {ws : List Ver} {k : Int} (h : keyB k = false) : dr f n y rs ws k = rs := by unfold dr; rw [if_neg (by simp [h])]
theorem dg_own {f : Nat → List Ver} {n : Nat} {y : Int} {ws : List Ver} {k : Int} {v : Ver} (h : keyB k = true) (hv : lwr ws k = some v) : dg f n y ws k = ⟨0, v.t, v.s⟩ := by unfold dg; rw [if_pos h, hv]
theorem dr_own {f : Nat → List Ver} {n : Nat} {y : Int} {rs : List Int} {ws : List Ver} {k : Int} {v : Ver} (hv : lwr ws k = some v) : dr f n y rs ws k = rs := by unfold dr; rw [if_neg (by simp [hv])]
theorem dg_tbl {f : Nat → List Ver} {n : Nat} {y : Int} {ws : List Ver} {k : Int} (h : keyB k = true) (hv : lwr ws k = none) : dg f n y ws k = tr f n k y := by unfold dg; rw [if_pos h, hv]
theorem dr_tbl {f : Nat → List Ver} {n : Nat} {y : Int} {rs : List Int} {ws : List Ver} {k : Int} (h : keyB k = true) (hv : lwr ws k = none) (h0 : (tr f n k y).a = 0) : dr f n y rs ws k = rs ++ [k] := by unfold dr; rw [if_pos ⟨h, hv, h0⟩]
theorem dr_code {f : Nat → List Ver} {n : Nat} {y : Int} {rs : List Int} {ws : List Ver} {k : Int} (h0 : ¬ (tr f n k y).a = 0) : dr f n y rs ws k = rs := by unfold dr; rw [if_neg (fun h => h0 h.2.2)]
/-- A code of Read comes with no value. -/
theorem tr_code {f : Nat → List Ver} {n : Nat} {k y : Int} (h : ¬ (tr f n k y).a = 0) : (tr f n k y).t = false ∧ (tr f n k y).s = ByteArray.empty := by
  unfold tr at h ⊢
  split
  · rename_i hc
    rw [if_pos hc] at h
    unfold rd3 at h ⊢
    split
    · exact ⟨rfl, rfl⟩
    · rename_i h1
      rw [if_neg h1] at h
      split
      · exact ⟨rfl, rfl⟩
      · rename_i h2
        rw [if_neg h2] at h
        exact absurd rfl h
  · exact ⟨rfl, rfl⟩

set_option maxHeartbeats 1000000 in
theorem dget55 {B tb n db : Nat} {F : List Nat} {f : Nat → List Ver} {md y : Int} {rs : List Int} {ws : List Ver} (k : Int) (w : World) (h : Tbl B w tb F f n) (hd : Ded w db md y rs ws) :
    Calls Try.prog 75 #[.pointer (some ⟨db, 0, none⟩), .pointer (some ⟨tb, 0, none⟩), .int .i64 k] w fun e w' => e = .returned (.tuple #[.agg #[.bool (dg f n y ws k).t, .string (dg f n y ws k).s], .int .i64 (dg f n y ws k).a]) ∧
      Ded w' db md y (dr f n y rs ws k) ws ∧ Kp [db] w w' := by
  have HT := hide h
  have HD := hide hd
  have hlt := hd.lt
  clear h hd
  by_cases hk : keyB k = true
  · obtain ⟨j, hj, rfl⟩ := keyB_nat hk
    have i0 : (0 : Int) ≤ (j : Int) := by omega
    have i1 : (j : Int) < 8 := by omega
    have q1 := (unhide HD).ncell1 hj
    cases hv : lwr ws j with
    | some v =>
      rw [dg_own hk hv, dr_own hv]
      have q2 := (unhide HD).ncell2 hj
      have q3 := (unhide HD).ncell3 hj
      rw [hv] at q1 q2 q3
      simp only [Option.isSome_some, Option.getD_some] at q1 q2 q3
      clear hv
      go_enter Try.func75, Try.ntmps75
      go_wp2_with fail
      refine (key11 _ _).mono ?_
      rintro e w' ⟨rfl, rfl⟩
      rw [hk]
      clear hk
      go_wp2
      refine bodyPost_ret (v := .tuple #[.agg #[.bool v.t, .string v.s], .int .i64 0]) (by simp [results, Try.results75, go_sem]) rfl ⟨rfl, ?_⟩
      have hkp := (Kp.refl [] w).alloc (.cells #[.bool v.t, .string v.s] 31)
      exact ⟨(unhide HD).kp0 hkp, hkp.mono (by simp)⟩
    | none =>
      rw [dg_tbl hk hv]
      have HV := hide hv
      have qy := (unhide HD).ycell
      have q0 := (unhide HD).ncell0 hj
      rw [hv] at q1
      simp only [Option.isSome_none] at q1
      clear hv
      by_cases h0 : (tr f n j y).a = 0
      · rw [dr_tbl hk (unhide HV) h0, h0]
        have H0 := hide h0
        clear h0
        go_enter Try.func75, Try.ntmps75
        go_wp2_with fail
        refine (key11 _ _).mono ?_
        rintro e w' ⟨rfl, rfl⟩
        rw [hk]
        clear hk
        go_wp2_with fail
        refine (tread32 j y _ ((unhide HT).kp0 ((Kp.refl [] w).alloc _))).mono ?_
        rintro e w1 ⟨rfl, hkp⟩
        have p0 : w1.cell? ⟨w.heap.size, 0, none⟩ = some (.bool false) := hkp.cell (by simp) (by simp)
        have p1 : w1.cell? ⟨w.heap.size, 1, none⟩ = some (.string ⟨#[]⟩) := hkp.cell (by simp) (by simp)
        have p2 : w1.frozen? ⟨w.heap.size, 0, none⟩ = false := by rw [hkp.frozen (by simp) (by simp)]; simp
        have p3 : w1.frozen? ⟨w.heap.size, 1, none⟩ = false := by rw [hkp.frozen (by simp) (by simp)]; simp
        have hkp1 := ((Kp.refl [] w).alloc (.cells #[.bool false, .string ⟨#[]⟩] 31)).trans0 hkp
        have hd1 := (unhide HD).kp0 hkp1
        have r0 := hd1.ncell0 hj
        have r1 := hd1.frozen (2 + j * 4)
        have hlt1 := hd1.lt
        have hsz := hkp1.size
        have hRs : w.heap.size < w1.heap.size := by have := hkp.size; simp at this; omega
        have hne : db ≠ w.heap.size := by omega
        have hne2 : db ≠ w1.heap.size := by omega
        have hne3 : w.heap.size ≠ w1.heap.size := by omega
        have HD1 := hide hd1
        have HK1 := hide hkp1
        clear hkp hkp1 hd1 q0 q1 qy
        rw [unhide H0]
        generalize hvv : tr f n j y = v at *
        have HVV := hide hvv
        clear hvv
        go_wp2
        refine bodyPost_ret (v := .tuple #[.agg #[.bool v.t, .string v.s], .int .i64 0]) (by simp [results, Try.results75, go_sem, p0, p1, hRs]) rfl ⟨by rw [unhide HVV], ?_⟩
        have hB := ((unhide HK1).mono (T := [db]) (by simp)).setCell (p := ⟨db, 2 + j * 4, none⟩) (.inl (by simp)) (.bool true)
        have hC := ((hB.setCell (p := ⟨w.heap.size, 0, none⟩) (.inr (Nat.le_refl _)) (.bool v.t)).setCell (p := ⟨w.heap.size, 1, none⟩) (.inr (Nat.le_refl _)) (.string v.s)).alloc (.cells #[.bool v.t, .string v.s] 31)
        refine ⟨?_, hC⟩
        refine ((unhide HD1).read hj).kp (S := [w.heap.size]) ((((Kp.refl _ _).setCell (.inl (by simp)) _).setCell (.inl (by simp)) _).alloc _) (by simp; omega)
      · obtain ⟨e1, e2⟩ := tr_code h0
        rw [dr_code h0, e1, e2]
        go_enter Try.func75, Try.ntmps75
        go_wp2_with fail
        refine (key11 _ _).mono ?_
        rintro e w' ⟨rfl, rfl⟩
        rw [hk]
        clear hk
        go_wp2_with fail
        refine (tread32 j y _ ((unhide HT).kp0 ((Kp.refl [] w).alloc _))).mono ?_
        rintro e w1 ⟨rfl, hkp⟩
        have p0 : w1.cell? ⟨w.heap.size, 0, none⟩ = some (.bool false) := hkp.cell (by simp) (by simp)
        have p1 : w1.cell? ⟨w.heap.size, 1, none⟩ = some (.string ⟨#[]⟩) := hkp.cell (by simp) (by simp)
        have p2 : w1.frozen? ⟨w.heap.size, 0, none⟩ = false := by rw [hkp.frozen (by simp) (by simp)]; simp
        have p3 : w1.frozen? ⟨w.heap.size, 1, none⟩ = false := by rw [hkp.frozen (by simp) (by simp)]; simp
        have hkp1 := ((Kp.refl [] w).alloc (.cells #[.bool false, .string ⟨#[]⟩] 31)).trans0 hkp
        have hd1 := (unhide HD).kp0 hkp1
        have r0 := hd1.ncell0 hj
        have r1 := hd1.frozen (2 + j * 4)
        have hlt1 := hd1.lt
        have hsz := hkp1.size
        have hRs : w.heap.size < w1.heap.size := by have := hkp.size; simp at this; omega
        have hne : db ≠ w.heap.size := by omega
        have hne2 : db ≠ w1.heap.size := by omega
        have hne3 : w.heap.size ≠ w1.heap.size := by omega
        have HD1 := hide hd1
        have HK1 := hide hkp1
        clear hkp hkp1 hd1 q0 q1 qy
        have HN := hide h0
        rw [e1, e2]
        generalize hvv : (tr f n j y).a = c at *
        have HVV := hide hvv
        clear hvv
        go_wp2
        refine bodyPost_ret (v := .tuple #[.agg #[.bool false, .string ByteArray.empty], .int .i64 c]) (by simp [results, Try.results75, go_sem, p0, p1, hRs]; rfl) rfl ⟨by rw [unhide HVV], ?_⟩
        have hA := ((((unhide HK1).setCell (p := ⟨w.heap.size, 0, none⟩) (.inr (Nat.le_refl _)) (.bool false)).setCell (p := ⟨w.heap.size, 1, none⟩) (.inr (Nat.le_refl _)) (.string ⟨#[]⟩)).alloc (.cells #[.bool false, .string ByteArray.empty] 31))
        exact ⟨(unhide HD).kp0 hA, hA.mono (by simp)⟩
  · have hk2 : keyB k = false := by simpa using hk
    rw [dg_out hk2, dr_out hk2]
    clear hk
    go_enter Try.func75, Try.ntmps75
    go_wp2_with fail
    refine (key11 _ _).mono ?_
    rintro e w' ⟨rfl, rfl⟩
    rw [hk2]
    clear hk2
    go_wp2
    refine bodyPost_ret (v := .tuple #[.agg #[.bool false, .string ByteArray.empty], .int .i64 1]) (by simp [results, Try.results75, go_sem]; rfl) rfl ⟨rfl, ?_⟩
    have hkp := ((Kp.refl [] w).alloc (.cells #[.bool false, .string ⟨#[]⟩] 31))
    first
    | exact ⟨(unhide HD).kp0 hkp, hkp.mono (by simp)⟩
    | (have hkp := ((((Kp.refl [] w).alloc (.cells #[.bool false, .string ⟨#[]⟩] 31)).setCell (p := ⟨w.heap.size, 0, none⟩) (.inr (Nat.le_refl _)) (.bool false)).setCell (p := ⟨w.heap.size, 1, none⟩) (.inr (Nat.le_refl _)) (.string ⟨#[]⟩))
       exact ⟨(unhide HD).kp0 hkp, hkp.mono (by simp)⟩)
end Go.Proofs.Ytehhpmfeaeabgac

/- Put, Reads and Writes of a deed, by their contracts. -/
namespace Go.Proofs.Ytehhpmfeaeabgac
open Go.RowKit
set_option maxRecDepth 20000
attribute [local go_sem ↓] Go.wp_at_zero Go.wp_at_succ

theorem Ded.range {w : World} {db : Nat} {md y : Int} {rs : List Int} {ws : List Ver} (h : Ded w db md y rs ws) : w.rangeAt db 2 (nlist (ncell rs ws)) := fun j v hv => cell_of_block h (by rw [dcells_note]; exact hv)
theorem Try.size104 : (Try.prog.info? 104).map (·.size) = some 32 := by kernel_rfl
theorem Try.info103 : (Try.prog.info? 103).map (fun i => (i.zero, i.size, i.bytes)) = some (some (.agg #[.bool false, .bool false, .bool false, .string ByteArray.empty]), 4, 32) := by kernel_rfl
theorem Try.info3 : (Try.prog.info? 3).map (fun i => (i.zero, i.size, i.bytes)) = some (some (.int .i64 0), 1, 8) := by kernel_rfl

theorem run_index_note (w : World) (c : Nat → Nat → Value) {k : Nat} (hk : k < 8) :
    (Instr.index 104 (.agg (nlist c).toArray) (.int .i64 (k : Int))).run Try.prog w = .ok (.agg #[c k 0, c k 1, c k 2, c k 3]) w := by
  have hn : (k : Int) < 8 := by omega
  obtain ⟨i0, hi0, hz0, hz1, hz2⟩ := info_parts Try.info103
  have h1 : (isAgg 103).run Try.prog w = .ok true w := by
    unfold isAgg
    rw [Sem.run_bind, run_underlying Try.underlying103 w]
    rfl
  have hp : (part 103 (nlist c).toArray (k * 4)).run Try.prog w = .ok (.agg #[c k 0, c k 1, c k 2, c k 3]) w := by
    unfold part
    have hp := nlist_take c hk
    simp [Sem.run_bind, h1, sizeOf, typeInfo, hi0, hz1, hp]
  simp [Instr.index, run_underlying Try.underlying104, asIntOf, hk, sizeOf, typeInfo, hi0, hz1, hp]

/-- The notes as a value: what is found at a key. -/
theorem notes_ex (rs : List Int) (ws : List Ver) : ∃ A : Array Value, (nlist (ncell rs ws)).toArray = A ∧ ∀ k : Nat, k < 8 → ∀ w, (Instr.index 104 (.agg A) (.int .i64 (k : Int))).run Try.prog w =
    .ok (.agg #[.bool (decide ((k : Int) ∈ rs)), .bool (lwr ws k).isSome, .bool ((lwr ws k).getD dv).t, .string ((lwr ws k).getD dv).s]) w :=
  ⟨_, rfl, fun _ hk w => run_index_note w (ncell rs ws) hk⟩

def icells (l : List Int) : List Value := l.map (.int .i64)
theorem icells_length (l : List Int) : (icells l).length = l.length := by simp [icells]
theorem icells_append (l m : List Int) : icells (l ++ m) = icells l ++ icells m := by simp [icells]

/-- A list of numbers that a call made: it lies in memory of its own. -/
def IntsEnd (L : List Int) (w : World) (e : Ending) (w' : World) : Prop :=
  ∃ a cap, e = .returned (.slice a L.length cap) ∧ w'.ownsRow w.heap.size 3 1 (.slice a L.length cap) L.length (icells L) ∧ Kp [] w w'
def PrsEnd (L : List Ver) (w : World) (e : Ending) (w' : World) : Prop :=
  ∃ a cap, e = .returned (.slice a L.length cap) ∧ w'.ownsRow w.heap.size 79 3 (.slice a L.length cap) L.length (vcells L) ∧ Kp [] w w'

/-- What stands at the head of a round that gathers. -/
structure RdI (w : World) (L : List Int) (a : Option Addr) (cap : Nat) (wr : World) : Prop where
  own : wr.ownsRow w.heap.size 3 1 (.slice a L.length cap) L.length (icells L)
  kp : Kp [] w wr
structure WrtI (w : World) (L : List Ver) (a : Option Addr) (cap : Nat) (wr : World) : Prop where
  own : wr.ownsRow w.heap.size 79 3 (.slice a L.length cap) L.length (vcells L)
  kp : Kp [] w wr
theorem RdI.skip {w wr w1 : World} {L : List Int} {a : Option Addr} {cap : Nat} (h : RdI w L a cap wr) (hk : Kp [] wr w1) : RdI w L a cap w1 := ⟨own_kp0 h.own hk, h.kp.trans0 hk⟩
theorem WrtI.skip {w wr w1 : World} {L : List Ver} {a : Option Addr} {cap : Nat} (h : WrtI w L a cap wr) (hk : Kp [] wr w1) : WrtI w L a cap w1 := ⟨own_kp0 h.own hk, h.kp.trans0 hk⟩
theorem RdI.more {w wr W w2 : World} {L : List Int} {a : Option Addr} {cap g2 cap2 : Nat} {k : Int} (h : RdI w L a cap wr) (hw : Kp [] wr W) (hown : w2.ownsRow w.heap.size 3 1 (.slice (some ⟨g2, 0, none⟩) (L.length + 1) cap2) (L.length + 1) (icells L ++ [.int .i64 k]))
    (hgrow : W.grownBy w2 (Value.slice a L.length cap).ownBlock) : RdI w (L ++ [k]) (some ⟨g2, 0, none⟩) cap2 w2 := by
  refine ⟨?_, (h.kp.trans0 hw).grown hgrow (fun g hg => .inr (own_ge h.own hg))⟩
  have hv : icells L ++ [.int .i64 k] = icells (L ++ [k]) := by rw [icells_append]; rfl
  rw [hv] at hown
  simpa using hown
theorem WrtI.more {w wr W w2 : World} {L : List Ver} {a : Option Addr} {cap g2 cap2 : Nat} {k : Int} {t : Bool} {s : ByteArray} (h : WrtI w L a cap wr) (hw : Kp [] wr W) (hown : w2.ownsRow w.heap.size 79 3 (.slice (some ⟨g2, 0, none⟩) (L.length + 1) cap2) (L.length + 1) (vcells L ++ [.int .i64 k, .bool t, .string s]))
    (hgrow : W.grownBy w2 (Value.slice a L.length cap).ownBlock) : WrtI w (L ++ [⟨k, t, s⟩]) (some ⟨g2, 0, none⟩) cap2 w2 := by
  refine ⟨?_, (h.kp.trans0 hw).grown hgrow (fun g hg => .inr (own_ge h.own hg))⟩
  have hv : vcells L ++ [.int .i64 k, .bool t, .string s] = vcells (L ++ [⟨k, t, s⟩]) := by rw [vcells_append]; rfl
  rw [hv] at hown
  simpa using hown

theorem rk_yes {rs : List Int} {k : Nat} (h : (k : Int) ∈ rs) : rk rs (k + 1) = rk rs k ++ [(k : Int)] := by simp only [rk]; rw [if_pos h]
theorem rk_no {rs : List Int} {k : Nat} (h : ¬ (k : Int) ∈ rs) : rk rs (k + 1) = rk rs k := by simp only [rk]; rw [if_neg h]
theorem wk_yes {ws : List Ver} {k : Nat} {v : Ver} (h : lwr ws k = some v) : wk ws (k + 1) = wk ws k ++ [⟨(k : Int), v.t, v.s⟩] := by simp only [wk, h]
theorem wk_no {ws : List Ver} {k : Nat} (h : lwr ws k = none) : wk ws (k + 1) = wk ws k := by simp only [wk, h]

set_option maxHeartbeats 1000000 in
theorem dwrites66 {db : Nat} {md y : Int} {rs : List Int} {ws : List Ver} (w : World) (h : Ded w db md y rs ws) : Calls Try.prog 38 #[.pointer (some ⟨db, 0, none⟩)] w fun e w' => PrsEnd (wk ws 8) w e w' := by
  obtain ⟨in0, hi0, hz0, hz1, hz2⟩ := info_parts Try.info79
  have HR := hide h.range
  have H0 : Hid (WrtI w (wk ws 0) none 0 w) := ⟨World.ownsRow_nil _ _ _ _, Kp.refl _ _⟩
  have hlt := h.lt
  clear h
  go_enter Try.func38, Try.ntmps38
  go_wp2_with (refine wpList_load_mid rfl 104 _ rfl db 2 rfl _ _ (unhide HR) Try.underlying104 rfl Try.size104 ?_)
  obtain ⟨A, hA, hAk⟩ := notes_ex rs ws
  rw [hA]
  have HA := hide hAk
  clear hA hAk HR
  go_loopw [3, 10] (fun s i wr => ∃ (k : Nat) (a : Option Addr) (cap : Nat), k ≤ 8 ∧ s = .slice a (wk ws k).length cap ∧ i = .int .i64 k ∧ Hid (WrtI w (wk ws k) a cap wr)) (fun _ i _ => 8 - (intOf i).toNat)
  case atStart => exact ⟨0, none, 0, by omega, rfl, rfl, H0⟩
  case round =>
    obtain ⟨k, a, cap, hk, rfl, rfl, HL⟩ := hrel
    by_cases hlt8 : k < 8
    · have i0 : (0 : Int) ≤ (k : Int) := by omega
      have i1 : (k : Int) < 8 := by omega
      have hx := (unhide HA) k hlt8
      generalize decide ((k : Int) ∈ rs) = b0 at *
      have hal := wk_len ws k
      cases hv : lwr ws k with
      | some v =>
        have HN := hide (wk_yes hv)
        rw [hv] at hx
        simp only [Option.isSome_some, Option.getD_some] at hx
        clear hv
        generalize wk ws k = L at *
        have hOW := hide (own_kp0 (unhide HL).own (((Kp.refl [] wr).alloc (.cells #[.bool b0, .bool true, .bool v.t, .string v.s] 103)).alloc (.cells #[.int .i64 k, .bool v.t, .string v.s] 79)))
        have hwl := (unhide HL).kp.size
        go_wp2_with (at_builtin; refine wpList_append_lies _ rfl _ _ 32 rfl w.heap.size 79 in0 _ 3 32 Try.underlying32 hi0 hz0 hz1 hz2 rfl (by omega) (.slice a L.length cap) L.length (vcells L) rfl (unhide hOW) ⟨wr.heap.size + 1, 0, none⟩ 1 1 [.int .i64 k, .bool v.t, .string v.s] (by rfl) (by rfl) (World.news_of_block (cs := #[.int .i64 k, .bool v.t, .string v.s]) (t := 79) (fr := (0, 0)) (by have := heap_alloc_new (wr.alloc (.cells #[.bool b0, .bool true, .bool v.t, .string v.s] 103)) (.cells #[.int .i64 k, .bool v.t, .string v.s] 79); simpa using this)) (by simp [Value.oneCell']) (by omega) (by unfold maxLen; omega) (by omega) (by simp; omega) _ rfl ?_; intro g2 cap2 w2 hown hgrow hat hlt2)
        have HL2 := hide ((unhide HL).more (((Kp.refl [] wr).alloc _).alloc _) hown hgrow)
        clear hown hgrow hat
        go_wp2_with fail
        exact ⟨⟨k + 1, some ⟨g2, 0, none⟩, cap2, by omega, by rw [unhide HN]; simp, by go_num, by rw [unhide HN]; exact HL2⟩, by simp [intOf]; omega⟩
      | none =>
        have HN := hide (wk_no hv)
        rw [hv] at hx
        simp only [Option.isSome_none, Option.getD_none] at hx
        clear hv
        have HL2 := hide ((unhide HL).skip ((Kp.refl [] wr).alloc (.cells #[.bool b0, .bool false, .bool dv.t, .string dv.s] 103)))
        go_wp2_with fail
        exact ⟨⟨k + 1, a, cap, by omega, by rw [unhide HN], by go_num, by rw [unhide HN]; exact HL2⟩, by simp [intOf]; omega⟩
    · have e : k = 8 := by omega
      subst e
      go_wp2_with fail
      go_ret
      exact ⟨a, cap, rfl, (unhide HL).own, (unhide HL).kp⟩
end Go.Proofs.Ytehhpmfeaeabgac

/- Plain words for the laws of vaults: what was written laid over what was there; what is read behind a crash. -/
namespace Go.Proofs.Ytehhpmfeaeabgac
open Go.RowKit
set_option maxRecDepth 20000

/-- The values of all keys, with what a deed wrote last laid over them. -/
def lay (v : Nat → Ver) (ws : List Ver) : Nat → Ver := fun k => match lwr ws k with | some u => ⟨0, u.t, u.s⟩ | none => v k
theorem lay_nil (v : Nat → Ver) : lay v [] = v := by
  funext k
  unfold lay
  rw [lwr_nil]
theorem lay_put (v : Nat → Ver) (ws : List Ver) (j : Nat) (t : Bool) (s : ByteArray) : lay v (ws ++ [⟨(j : Int), t, s⟩]) = upd (lay v ws) j ⟨0, t, s⟩ := by
  funext k
  unfold upd
  by_cases e : k = j
  · subst e
    rw [if_pos rfl]
    unfold lay
    rw [lwr_put, if_pos rfl]
  · rw [if_neg e]
    unfold lay
    rw [lwr_put, if_neg (by show ¬ ((j : Int) = (k : Int)); omega)]
theorem wk_lt (ws : List Ver) : ∀ m, ∀ q ∈ wk ws m, q.a < m := by
  intro m
  induction m with
  | zero => intro q hq; simp [wk] at hq
  | succ m ih =>
    intro q hq
    simp only [wk] at hq
    split at hq
    · rcases List.mem_append.1 hq with e | e
      · have := ih q e; push_cast; omega
      · rw [List.mem_singleton.1 e]; push_cast; omega
    · have := ih q hq; push_cast; omega
theorem fnd_wk (ws : List Ver) {k : Nat} : ∀ m, k < m → fnd (wk ws m) k = (lwr ws k).map (fun u => ⟨(k : Int), u.t, u.s⟩) := by
  intro m
  induction m with
  | zero => intro h; omega
  | succ m ih =>
    intro h
    by_cases e : k = m
    · subst e
      have hn : (wk ws k).find? (fun p => p.a == (k : Int)) = none := by
        rw [List.find?_eq_none]
        intro q hq
        have := wk_lt ws k q hq
        simp only [beq_iff_eq]
        omega
      cases hl : lwr ws k with
      | some u =>
        rw [wk_yes hl]
        unfold fnd
        rw [List.find?_append, hn]
        simp
      | none =>
        rw [wk_no hl]
        unfold fnd
        rw [hn]
        rfl
    · have hk := ih (by omega)
      cases hl : lwr ws m with
      | some u =>
        rw [wk_yes hl]
        unfold fnd at hk ⊢
        rw [List.find?_append, hk]
        have hf : ((m : Int) == (k : Int)) = false := by simp only [beq_eq_false_iff_ne]; omega
        simp [hf]
      | none =>
        rw [wk_no hl]
        exact hk
theorem lay_wvs {ws : List Ver} (h : WOk ws) (v : Nat → Ver) : wagg (wvs v (wk ws 8)) = wagg (lay v ws) := by
  refine wagg_congr (fun k hk => ?_)
  rw [wvs_get h.pf k, fnd_wk ws 8 hk]
  unfold lay
  cases lwr ws k with
  | some u => exact ⟨rfl, rfl⟩
  | none => exact ⟨rfl, rfl⟩
/-- Behind a crash all that is known is read as it was. -/
theorem crash_tr {f : Nat → List Ver} {n : Nat} {cs : List (List Ver)} (h : VI f n cs) (hl : LInv cs) {y : Int} (hy : fmx f 8 ≤ y) (j : Nat) : tr (wal0 cs) n j y = tr f n j y := by
  have hi := inv_wal0 hl
  rw [← h.len] at hi
  exact (h.sfx.read hi j y hy).symm
theorem crash_shw {f : Nat → List Ver} {n : Nat} {cs : List (List Ver)} (h : VI f n cs) (hl : LInv cs) {y : Int} (hy : fmx f 8 ≤ y) : shw (wal0 cs) n y 8 = shw f n y 8 :=
  shw_congr (Nat.le_refl _) (fun j _ => crash_tr h hl hy j)
theorem shk_known {f : Nat → List Ver} {n : Nat} {y : Int} (h : Inv f n) (h1 : fmx f 8 ≤ y) (h2 : y ≤ n) : ShK f n y 8 :=
  ⟨Nat.le_refl _, fun _ hj => tr_known h h1 h2 hj, fun h => by omega⟩
/-- What is there behind a commit that came whole. -/
theorem tears_now {f : Nat → List Ver} {n : Nat} {cs : List (List Ver)} {ws : List Ver} (h : VI f n cs) (hf : Inv f n) (hl : LInv cs) (hw : WOk ws) (hc : lcode cs (wk ws 8) = 0) {m : Nat} (hm : n + 1 = m) :
    wagg (lay (shw f n n 8) ws) = wagg (shw (wal0 (cs ++ [wk ws 8])) m m 8) := by
  subst hm
  have hi := inv_wal0 hl
  rw [← h.len] at hi
  have h1 := shots_now' hi (h.room hc).1
  rw [crash_shw h hl (fmx_le hf 8 (Nat.le_refl _)).2, lay_wvs hw] at h1
  rw [h1, wal0_snoc, ← h.len]
end Go.Proofs.Ytehhpmfeaeabgac

/- Many things in memory beside each other: each with its own blocks, no two sharing one; a call on one of them leaves the others. -/
namespace Go.Proofs.Ytehhpmfeaeabgac
open Go.RowKit
set_option maxRecDepth 20000

/-- A thing in memory: what is so of it (since B, in a world, with its own blocks F), and that it hangs on its own blocks alone. -/
structure Thing where
  holds : Nat → World → List Nat → Prop
  kp : ∀ {B : Nat} {w w' : World} {S F : List Nat}, holds B w F → Kp S w w' → (∀ x, x ∈ F → x ∉ S) → holds B w' F
  lo : ∀ {B : Nat} {w : World} {F : List Nat}, holds B w F → ∀ x, x ∈ F → B ≤ x ∧ x < w.heap.size
  base : ∀ {B C : Nat} {w : World} {F : List Nat}, holds B w F → C ≤ B → holds C w F

/-- The things of a list, X all their blocks. -/
def ZooF (B : Nat) (w : World) : List Thing → List Nat → Prop
  | [], X => X = []
  | o :: r, X => ∃ F Y, o.holds B w F ∧ ZooF B w r Y ∧ (∀ x, x ∈ F → x ∉ Y) ∧ X = F ++ Y

theorem ZooF.lo {B : Nat} {w : World} : ∀ {os : List Thing} {X : List Nat}, ZooF B w os X → ∀ x, x ∈ X → B ≤ x ∧ x < w.heap.size
  | [], X, h, x, hx => by rw [show X = [] from h] at hx; simp at hx
  | o :: _, X, ⟨F, Y, h1, h2, _, e⟩, x, hx => by
    subst e
    rcases List.mem_append.1 hx with q | q
    · exact o.lo h1 x q
    · exact ZooF.lo h2 x q
theorem ZooF.kp {B : Nat} {w w' : World} {S : List Nat} (hk : Kp S w w') : ∀ {os : List Thing} {X : List Nat}, ZooF B w os X → (∀ x, x ∈ X → x ∉ S) → ZooF B w' os X
  | [], _, h, _ => h
  | o :: _, X, ⟨F, Y, h1, h2, h3, e⟩, hS => by
    subst e
    exact ⟨F, Y, o.kp h1 hk (fun x hx => hS x (by simp [hx])), ZooF.kp hk h2 (fun x hx => hS x (by simp [hx])), h3, rfl⟩
theorem ZooF.base {B C : Nat} {w : World} (hC : C ≤ B) : ∀ {os : List Thing} {X : List Nat}, ZooF B w os X → ZooF C w os X
  | [], _, h => h
  | o :: _, _, ⟨F, Y, h1, h2, h3, e⟩ => ⟨F, Y, o.base h1 hC, ZooF.base hC h2, h3, e⟩

/-- All were made since w0, and all that was there is as it was. -/
def Zoo (w0 w : World) (os : List Thing) : Prop := ∃ X, ZooF w0.heap.size w os X ∧ Kp [] w0 w

section
variable {w0 w w' : World} {o o' : Thing} {os r : List Thing}
theorem Zoo.kp (h : Zoo w0 w os) : Kp [] w0 w := by
  obtain ⟨_, _, h⟩ := h
  exact h
theorem Zoo.kp0 (h : Zoo w0 w os) (hk : Kp [] w w') : Zoo w0 w' os := by
  obtain ⟨X, h1, h2⟩ := h
  exact ⟨X, h1.kp hk (fun _ _ => by simp), h2.trans0 hk⟩
theorem zoo_nil (hk : Kp [] w0 w) : Zoo w0 w [] := ⟨[], rfl, hk⟩
/-- The first one, its blocks, and what a call on it may do. -/
theorem Zoo.head (h : Zoo w0 w (o :: r)) : ∃ F, o.holds w0.heap.size w F ∧ ∀ (o' : Thing) (w' : World), (∃ F', o'.holds w0.heap.size w' F' ∧ Kp F w w' ∧ ∀ x, x ∈ F' → x ∈ F ∨ w.heap.size ≤ x) → Zoo w0 w' (o' :: r) := by
  obtain ⟨X, ⟨F, Y, h1, h2, h3, rfl⟩, h4⟩ := h
  refine ⟨F, h1, fun o' w' ⟨F', k1, k2, k3⟩ => ⟨F' ++ Y, ⟨F', Y, k1, h2.kp k2 (fun x hx hf => h3 x hf hx), fun x hx hy => ?_, rfl⟩, h4.trans k2 (fun x hx => .inr (o.lo h1 x hx).1)⟩⟩
  rcases k3 x hx with e | e
  · exact h3 x e hy
  · have := (h2.lo x hy).2; omega
/-- A new one. -/
theorem Zoo.cons (h : Zoo w0 w os) {F : List Nat} (ho : o.holds w.heap.size w' F) (hk : Kp [] w w') : Zoo w0 w' (o :: os) := by
  obtain ⟨X, h1, h2⟩ := h
  refine ⟨F ++ X, ⟨F, X, o.base ho h2.size, h1.kp hk (fun _ _ => by simp), fun x hx hy => ?_, rfl⟩, h2.trans0 hk⟩
  have := (o.lo ho x hx).1
  have := (h1.lo x hy).2
  omega
theorem Zoo.tail (h : Zoo w0 w (o :: r)) : Zoo w0 w r := by
  obtain ⟨X, ⟨F, Y, h1, h2, h3, rfl⟩, h4⟩ := h
  exact ⟨Y, h2, h4⟩
end

theorem ZooF.perm {B : Nat} {w : World} {us vs : List Thing} (hp : us.Perm vs) : ∀ {X : List Nat}, ZooF B w us X → ∃ Y, ZooF B w vs Y ∧ ∀ x, x ∈ Y ↔ x ∈ X := by
  induction hp with
  | nil => intro X h; exact ⟨X, h, fun _ => Iff.rfl⟩
  | cons o _ ih =>
    rintro X ⟨F, Y, h1, h2, h3, rfl⟩
    obtain ⟨Z, k1, k2⟩ := ih h2
    exact ⟨F ++ Z, ⟨F, Z, h1, k1, fun x hx hz => h3 x hx ((k2 x).1 hz), rfl⟩, fun x => by simp [k2 x]⟩
  | swap a b l =>
    rintro X ⟨F, Y, h1, ⟨F2, Y2, h4, h5, h6, rfl⟩, h3, rfl⟩
    refine ⟨F2 ++ (F ++ Y2), ⟨F2, F ++ Y2, h4, ⟨F, Y2, h1, h5, fun x hx hy => h3 x hx (by simp [hy]), rfl⟩, fun x hx hy => ?_, rfl⟩, fun x => by simp [or_left_comm]⟩
    rcases List.mem_append.1 hy with q | q
    · exact h3 x q (by simp [hx])
    · exact h6 x hx q
  | trans _ _ ih1 ih2 =>
    intro X h
    obtain ⟨Y, h1, h2⟩ := ih1 h
    obtain ⟨Z, h3, h4⟩ := ih2 h1
    exact ⟨Z, h3, fun x => (h4 x).trans (h2 x)⟩
theorem Zoo.perm {w0 w : World} {us vs : List Thing} (h : Zoo w0 w us) (hp : us.Perm vs) : Zoo w0 w vs := by
  obtain ⟨X, h1, h2⟩ := h
  obtain ⟨Y, k1, _⟩ := h1.perm hp
  exact ⟨Y, k1, h2⟩
/-- One of them, its blocks, and what a call on it may do: it is changed where it stands. -/
theorem Zoo.at_ {w0 w : World} {l1 l2 : List Thing} {o : Thing} (h : Zoo w0 w (l1 ++ o :: l2)) : ∃ F, o.holds w0.heap.size w F ∧ ∀ (o' : Thing) (w' : World), (∃ F', o'.holds w0.heap.size w' F' ∧ Kp F w w' ∧ ∀ x, x ∈ F' → x ∈ F ∨ w.heap.size ≤ x) → Zoo w0 w' (l1 ++ o' :: l2) := by
  obtain ⟨F, h1, h2⟩ := (h.perm List.perm_middle).head
  exact ⟨F, h1, fun o' w' k => (h2 o' w' k).perm List.perm_middle.symm⟩
theorem Zoo.drop_ {w0 w : World} {l1 l2 : List Thing} {o : Thing} (h : Zoo w0 w (l1 ++ o :: l2)) : Zoo w0 w (l1 ++ l2) := (h.perm List.perm_middle).tail
/-- A new one, in between. -/
theorem Zoo.put_ {w0 w w' : World} {l1 l2 : List Thing} {o : Thing} (h : Zoo w0 w (l1 ++ l2)) {F : List Nat} (ho : o.holds w.heap.size w' F) (hk : Kp [] w w') : Zoo w0 w' (l1 ++ o :: l2) := (h.cons ho hk).perm List.perm_middle.symm

/-- A call on one of them, by its contract. -/
theorem zoo_call {P : Program} {f : Nat} {args : Array Value} {w0 w : World} {l1 l2 : List Thing} {o o' : Thing} {E : Ending → Prop} (h : Zoo w0 w (l1 ++ o :: l2))
    (hc : ∀ F, o.holds w0.heap.size w F → Calls P f args w fun e w' => E e ∧ ∃ F', o'.holds w0.heap.size w' F' ∧ Kp F w w' ∧ ∀ x, x ∈ F' → x ∈ F ∨ w.heap.size ≤ x) :
    Calls P f args w fun e w' => E e ∧ Hid (Zoo w0 w' (l1 ++ o' :: l2)) := by
  obtain ⟨F, h1, h2⟩ := h.at_
  exact (hc F h1).mono (fun e w' ⟨he, k⟩ => ⟨he, h2 o' w' k⟩)
end Go.Proofs.Ytehhpmfeaeabgac

/- Bytes in memory; append onto them; string(b), b[i:j]. -/
namespace Go.Proofs.Ytehhpmfeaeabgac
open Go.RowKit
set_option maxRecDepth 20000

/-- The k-th byte, as a number. -/
def ub (bs : List UInt8) (k : Nat) : Nat := (bs.getD k 0).toNat
def bcells (bs : List UInt8) : List Value := bs.map fun b => Value.int .u8 b.toNat

theorem bcells_length (bs : List UInt8) : (bcells bs).length = bs.length := by simp [bcells]
theorem bcells_append (xs ys : List UInt8) : bcells (xs ++ ys) = bcells xs ++ bcells ys := by simp [bcells]
theorem bcells_at {bs : List UInt8} {k : Nat} (h : k < bs.length) : (bcells bs)[k]? = some (.int .u8 (ub bs k : Nat)) := by
  simp [bcells, ub, List.getD_eq_getElem?_getD, List.getElem?_eq_getElem h]
theorem bcells_one (bs : List UInt8) : ∀ u ∈ bcells bs, u.oneCell' = true := by
  intro u hu
  obtain ⟨_, _, rfl⟩ := List.mem_map.1 hu
  rfl
theorem ub_lt (bs : List UInt8) (k : Nat) : ub bs k < 256 := (bs.getD k 0).toNat_lt
theorem ub_drop (bs : List UInt8) (l k : Nat) : ub (bs.drop l) k = ub bs (l + k) := by simp [ub, List.getD_eq_getElem?_getD, List.getElem?_drop]
theorem ub_take (bs : List UInt8) {l k : Nat} (h : k < l) : ub (bs.take l) k = ub bs k := by simp [ub, List.getD_eq_getElem?_getD, h]

/-- The bytes lie in block g from offset o on. -/
def SlU (w : World) (g o : Nat) (bs : List UInt8) : Prop := ∀ j, j < bs.length → w.cell? ⟨g, o + j, none⟩ = some (.int .u8 (ub bs j : Nat))
theorem SlU.kp {S : List Nat} {w w' : World} {g o : Nat} {bs : List UInt8} (h : SlU w g o bs) (hk : Kp S w w') (hg : g ∉ S) : SlU w' g o bs :=
  fun j hj => hk.cell (p := ⟨g, o + j, none⟩) hg (h j hj)
theorem SlU.drop {w : World} {g o : Nat} {bs : List UInt8} (h : SlU w g o bs) (l : Nat) : SlU w g (o + l) (bs.drop l) := fun j hj => by
  rw [ub_drop, Nat.add_assoc]
  exact h (l + j) (by simp at hj; omega)
theorem SlU.take {w : World} {g o : Nat} {bs : List UInt8} (h : SlU w g o bs) (l : Nat) : SlU w g o (bs.take l) := fun j hj => by
  simp at hj
  rw [ub_take _ (by omega)]
  exact h j (by omega)
theorem SlU.news {w : World} {g o : Nat} {bs : List UInt8} (h : SlU w g o bs) : ∀ j u, (bcells bs)[j]? = some u → w.cell? ((⟨g, o, none⟩ : Addr).add j) = some u := fun j u hu => by
  have hj : j < bs.length := by rw [← bcells_length]; exact (List.getElem?_eq_some_iff.1 hu).1
  rw [addr_add, h j hj, ← bcells_at hj]; exact hu

/-- The bytes lie behind a slice's address. -/
def Byt (w : World) (a : Option Addr) (bs : List UInt8) : Prop := 0 < bs.length → ∃ g o, a = some ⟨g, o, none⟩ ∧ SlU w g o bs
theorem Byt.kp {S : List Nat} {w w' : World} {a : Option Addr} {bs : List UInt8} (h : Byt w a bs) (hk : Kp S w w') (hS : ∀ g o, a = some ⟨g, o, none⟩ → g ∉ S) : Byt w' a bs := fun hp => by
  obtain ⟨g, o, e, hs⟩ := h hp
  exact ⟨g, o, e, hs.kp hk (hS g o e)⟩
theorem Byt.kp0 {w w' : World} {a : Option Addr} {bs : List UInt8} (h : Byt w a bs) (hk : Kp [] w w') : Byt w' a bs := h.kp hk (fun _ _ _ => by simp)
theorem byt_nil (w : World) (a : Option Addr) : Byt w a [] := fun h => by simp at h

/-- A row of bytes that a call made since w0, and changed nothing else. -/
structure Row (w0 w : World) (g cap : Nat) (bs : List UInt8) : Prop where
  own : w.ownsRow w0.heap.size 5 1 (.slice (some ⟨g, 0, none⟩) bs.length cap) bs.length (bcells bs)
  kp : Kp [] w0 w
theorem Row.lt {w0 w : World} {g cap : Nat} {bs : List UInt8} (h : Row w0 w g cap bs) : w0.heap.size ≤ g ∧ g < w.heap.size := h.own.lt g rfl
theorem Row.cap {w0 w : World} {g cap : Nat} {bs : List UInt8} (h : Row w0 w g cap bs) : bs.length ≤ cap := by
  rcases h.own.2 with ⟨e, _⟩ | ⟨g2, c2, cur, e, q1, q2, q3, q4, q5, q6⟩
  · simp at e
  · simp only [Value.slice.injEq, Option.some.injEq, Addr.mk.injEq, and_true, true_and] at e
    obtain ⟨rfl, rfl⟩ := e
    exact q3
theorem Row.kp0 {w0 w w' : World} {g cap : Nat} {bs : List UInt8} (h : Row w0 w g cap bs) (hk : Kp [] w w') : Row w0 w' g cap bs := ⟨own_kp0 h.own hk, h.kp.trans0 hk⟩
theorem Row.since {w0 w1 w : World} {g cap : Nat} {bs : List UInt8} (h : Row w1 w g cap bs) (hk : Kp [] w0 w1) : Row w0 w g cap bs := ⟨own_base h.own hk.size, hk.trans0 h.kp⟩
theorem Row.slu {w0 w : World} {g cap : Nat} {bs : List UInt8} (h : Row w0 w g cap bs) : SlU w g 0 bs := fun j hj => by
  have := h.own.cellAt j (by omega)
  rw [Nat.zero_add, this, bcells_at hj]
theorem Row.byt {w0 w : World} {g cap : Nat} {bs : List UInt8} (h : Row w0 w g cap bs) : Byt w (some ⟨g, 0, none⟩) bs := fun _ => ⟨g, 0, rfl, h.slu⟩
theorem row_lit (w0 w : World) (hk : Kp [] w0 w) (bs : List UInt8) (cs : Array Value) (hc : cs.toList = bcells bs) (hm : bs.length ≤ 1000) : Row w0 (w.alloc (.cells cs 5)) w.heap.size bs.length bs := by
  refine ⟨⟨by rw [bcells_length]; omega, .inr ⟨w.heap.size, bs.length, cs, rfl, hk.size, heap_alloc_new w _, Nat.le_refl _, by unfold maxLen; omega, ?_, ?_⟩⟩, hk.alloc _⟩
  · rw [← Array.length_toList, hc, bcells_length]; omega
  · rw [hc, Nat.mul_one, ← bcells_length, List.take_length]

theorem Try.info5 : (Try.prog.info? 5).map (fun i => (i.zero, i.size, i.bytes)) = some (some (.int .u8 0), 1, 1) := by kernel_rfl

/-- What may be appended: bytes behind an address, a string. -/
theorem Byt.src {w : World} {a : Option Addr} {bs : List UInt8} (h : Byt w a bs) (c : Nat) : Src Try.prog 1 55 (.slice a bs.length c) bs.length (bcells bs) w := by
  by_cases hp : 0 < bs.length
  · obtain ⟨g, o, rfl, hs⟩ := h hp
    exact Src.ofSlice w Try.underlying55 ⟨g, o, none⟩ bs.length c (bcells bs) (by rw [bcells_length]; omega) hs.news (bcells_one bs)
  · have e : bs = [] := List.eq_nil_of_length_eq_zero (by omega)
    subst e
    cases a with
    | none => exact Src.ofNil w Try.underlying55 c
    | some a => exact Src.ofSlice w Try.underlying55 a 0 c [] (by simp) (by simp) (by simp)
theorem str_src (w : World) (s : ByteArray) : Src Try.prog 1 9 (.string s) s.data.toList.length (bcells s.data.toList) w := by
  rw [bytes_size]
  exact Src.ofString w Try.underlying9 s

theorem grown_row {w0 w : World} (hk : Kp [] w0 w) (bs : List UInt8) (cap : Nat) (hc : bs.length ≤ cap) (hcm : cap ≤ maxLen) (tl : Array Value) (ht : tl.size = cap - bs.length) :
    Row w0 (w.drew.alloc (.cells ((bcells bs).toArray ++ tl) 5)) w.heap.size cap bs := by
  refine ⟨⟨by rw [bcells_length]; omega, .inr ⟨w.heap.size, cap, _, rfl, hk.size, heap_alloc_new w.drew _, hc, hcm, ?_, ?_⟩⟩, hk.drew.alloc _⟩
  · simp only [Array.size_append, List.size_toArray, bcells_length, ht]; omega
  · simp only [Array.toList_append, Nat.mul_one]
    rw [← bcells_length bs]
    exact List.take_left

theorem run_app {w0 w : World} {g cap : Nat} {bs : List UInt8} (h : Row w0 w g cap bs) (tx ty : TypeId) (x : Value) (news : List UInt8) (hs : Src Try.prog 1 tx x news.length (bcells news) w) (hm : bs.length + news.length ≤ 100000) :
    ∃ g' cap' w', (Builtin.append_ #[55, tx] ty #[.slice (some ⟨g, 0, none⟩) bs.length cap, x]).run Try.prog w = .ok (.slice (some ⟨g', 0, none⟩) (bs ++ news).length cap') w' ∧
      Row w0 w' g' cap' (bs ++ news) ∧ Kp [g] w w' ∧ (g' = g ∨ g' = w.heap.size) := by
  obtain ⟨i0, hi0, hz0, hz1, hz2⟩ := info_parts Try.info5
  have hB := h.kp.size
  have hgl := h.lt
  rcases h.own.2 with ⟨e, _⟩ | ⟨g2, c2, cur, e, q1, q2, q3, q4, q5, q6⟩
  · simp at e
  · simp only [Value.slice.injEq, Option.some.injEq, Addr.mk.injEq, and_true, true_and] at e
    obtain ⟨rfl, rfl⟩ := e
    have hs' : Src Try.prog i0.size tx x news.length (bcells news) w := by rw [hz1]; exact hs
    simp only [Nat.mul_one] at q5 q6
    by_cases hroom : bs.length + news.length ≤ cap
    · have hst := run_storeCells_at Try.prog g bs.length 5 (bcells news) 0 cur w q2 (by rw [bcells_length]; omega) (bcells_one news)
      simp only [Nat.add_zero] at hst
      refine ⟨g, cap, w.setRow g (cur.toList.take bs.length ++ bcells news ++ cur.toList.drop (bs.length + (bcells news).length)).toArray, ?_, ⟨⟨?_, .inr ⟨g, cap, _, rfl, q1, setRow_heap w g cur _ 5 _ q2, by simp; omega, q4, ?_, ?_⟩⟩, ?_⟩, ?_, .inl rfl⟩
      · have hl : (bs ++ news).length = bs.length + news.length := by simp
        rw [hl]
        rcases hs'.kind with ⟨e', hk⟩ | hk <;> simp [Builtin.append_, run_underlying Try.underlying55, run_underlying hk, sizeOf, typeInfo, hi0, hz1, hs.len, hroom, hs.cells, Addr.add_lit, hst]
      · rw [bcells_length]; omega
      · simp only [List.size_toArray, List.length_append, List.length_take, List.length_drop, Array.length_toList, bcells_length]
        omega
      · rw [q6, Nat.mul_one]
        have hl : (bs ++ news).length = (bcells bs ++ bcells news).length := by simp [bcells_length]
        rw [hl, bcells_append]
        exact List.take_left
      · exact ⟨h.kp.os, h.kp.tape, h.kp.output, by simpa using h.kp.size, fun k hk hn => by rw [setRow_other w g k _ (by omega)]; exact h.kp.block k hk hn⟩
      · exact ⟨rfl, rfl, rfl, by simp, fun k _ hn => setRow_other w g k _ (by simpa using hn)⟩
    · have hfo := run_firstCells_some (P := Try.prog) w.drew i0.size bs.length ⟨g, 0, none⟩ bs.length cap (bcells bs) (by rw [bcells_length, hz1]; omega) (fun j u hu => by simpa using h.slu.news j u hu)
      have hge := grownCap_ge w (bs.length + news.length) cap 5
      have hfit : Builtin.nextslicecap (bs.length + news.length) cap * i0.bytes ≤ 281474976710656 := growslice_fits (by omega) (by rw [hz2]; omega)
      have hr := run_append_grow_src (P := Try.prog) w 55 tx ty 5 i0 _ Try.underlying55 hi0 hz0 (some ⟨g, 0, none⟩) bs.length cap (bcells bs) hfo x news.length (bcells news) hs' (by omega) (by omega) hfit
      have hl : (bs ++ news).length = bs.length + news.length := by simp
      rw [← bcells_append, ← hl] at hr
      refine ⟨w.heap.size, _, _, hr, grown_row h.kp (bs ++ news) _ (by rw [hl]; exact hge) (grownCap_le_maxLen w _ _ _ (by rw [hl]; unfold maxLen; omega)) _ ?_, ?_, .inr rfl⟩
      · rw [size_zeroCells]; simp [Value.cells]
      · exact ((Kp.refl [g] w).drew.alloc _)

theorem run_app_nil {w0 w : World} (hk : Kp [] w0 w) (tx ty : TypeId) (x : Value) (news : List UInt8) (hs : Src Try.prog 1 tx x news.length (bcells news) w) (hp : 0 < news.length) (hm : news.length ≤ 100000) :
    ∃ cap' w', (Builtin.append_ #[55, tx] ty #[.slice none 0 0, x]).run Try.prog w = .ok (.slice (some ⟨w.heap.size, 0, none⟩) news.length cap') w' ∧ Row w0 w' w.heap.size cap' news ∧ Kp [] w w' := by
  obtain ⟨i0, hi0, hz0, hz1, hz2⟩ := info_parts Try.info5
  have hs' : Src Try.prog i0.size tx x news.length (bcells news) w := by rw [hz1]; exact hs
  have hge := grownCap_ge w (0 + news.length) 0 5
  have hfit : Builtin.nextslicecap (0 + news.length) 0 * i0.bytes ≤ 281474976710656 := growslice_fits (by omega) (by rw [hz2]; omega)
  have hr := run_append_grow_src (P := Try.prog) w 55 tx ty 5 i0 _ Try.underlying55 hi0 hz0 none 0 0 [] (run_firstCells_none w.drew i0.size 0 0 0) x news.length (bcells news) hs' (by omega) (by omega) hfit
  rw [List.nil_append, Nat.zero_add] at hr
  refine ⟨_, _, hr, grown_row hk news _ (by rw [Nat.zero_add] at hge; exact hge) (grownCap_le_maxLen w _ _ _ (by unfold maxLen; omega)) _ ?_, ((Kp.refl [] w).drew.alloc _)⟩
  rw [size_zeroCells]; simp [Value.cells]

end Go.Proofs.Ytehhpmfeaeabgac

/- append onto bytes, at the operation; appendPair, by its contract. -/
namespace Go.Proofs.Ytehhpmfeaeabgac
open Go.RowKit
set_option maxRecDepth 20000
attribute [local go_sem ↓] Go.wp_at_zero Go.wp_at_succ

theorem wpList_app {ops : Array Oper} {rest : List Oper} {o : Oper} {a : Act} {w : World} {Q : Exit → Act → World → Prop} (hw : Region.wanted o (yielded ops a.tmps) = true) (s x : Operand) (tx : TypeId)
    (ho : o.op = .call { callee := .builtin .append, args := #[s, x], argTypes := #[55, tx] }) {w0 : World} {g cap : Nat} {bs : List UInt8} (h : Row w0 w g cap bs) (n : Nat) (hn : n = bs.length) (xv : Value) (news : List UInt8)
    (hs : a.eval s = .slice (some ⟨g, 0, none⟩) n cap) (hx : a.eval x = xv) (hsrc : Src Try.prog 1 tx xv news.length (bcells news) w) (hm : bs.length + news.length ≤ 100000)
    (k : ∀ g' cap' n' w', Hid (n' = (bs ++ news).length) → Hid (Row w0 w' g' cap' (bs ++ news)) → Hid (Kp [g] w w') → Hid (g' = g ∨ g' = w.heap.size) → wpList Try.prog ops Q rest (a.put o.dst (.slice (some ⟨g', 0, none⟩) n' cap')) w') : wpList Try.prog ops Q (o :: rest) a w := by
  subst hn
  obtain ⟨g', cap', w', hr, h1, h2, h3⟩ := run_app h tx o.type xv news hsrc hm
  refine wpList_step fun K hK => ?_
  rw [if_pos hw]
  unfold Oper.wp execOp
  simp only [ho, resolve, invoke, builtin, Sem.run_bind, Sem.run_pure, Result.andThen_ok, List.map_toArray, List.map_cons, List.map_nil, hs, hx, hr]
  exact hK _ _ (k g' cap' _ w' rfl h1 h2 h3)

theorem wpList_app_nil {ops : Array Oper} {rest : List Oper} {o : Oper} {a : Act} {w : World} {Q : Exit → Act → World → Prop} (hw : Region.wanted o (yielded ops a.tmps) = true) (s x : Operand) (tx : TypeId)
    (ho : o.op = .call { callee := .builtin .append, args := #[s, x], argTypes := #[55, tx] }) {w0 : World} (hk : Kp [] w0 w) (xv : Value) (news : List UInt8)
    (hs : a.eval s = .slice none 0 0) (hx : a.eval x = xv) (hsrc : Src Try.prog 1 tx xv news.length (bcells news) w) (hp : 0 < news.length) (hm : news.length ≤ 100000)
    (k : ∀ g' cap' n' w', Hid (n' = news.length) → Hid (Row w0 w' g' cap' news) → Hid (Kp [] w w') → Hid (g' = w.heap.size) → wpList Try.prog ops Q rest (a.put o.dst (.slice (some ⟨g', 0, none⟩) n' cap')) w') : wpList Try.prog ops Q (o :: rest) a w := by
  obtain ⟨cap', w', hr, h1, h2⟩ := run_app_nil hk tx o.type xv news hsrc hp hm
  refine wpList_step fun K hK => ?_
  rw [if_pos hw]
  unfold Oper.wp execOp
  simp only [ho, resolve, invoke, builtin, Sem.run_bind, Sem.run_pure, Result.andThen_ok, List.map_toArray, List.map_cons, List.map_nil, hs, hx, hr]
  exact hK _ _ (k w.heap.size cap' _ w' rfl h1 h2 rfl)

theorem mod_b8 (k : Int) : k % 256 = ((b8 k).toNat : Int) := (b8_toNat k).symm

/-- One byte, just laid into a block of its own. -/
theorem one_src {w : World} (b : Nat) (hb : b = w.heap.size) (u : UInt8) (x : Int) (h : x = (u.toNat : Int)) : Src Try.prog 1 55 (.slice (some ⟨b, 0, none⟩) 1 1) [u].length (bcells [u]) (w.alloc (.cells #[.int .u8 x] 5)) := by
  subst h
  subst hb
  exact (row_lit w w (Kp.refl _ _) [u] #[.int .u8 u.toNat] rfl (by simp)).byt.src 1

def ApEnd (w0 : World) (bs : List UInt8) (e : Ending) (w' : World) : Prop := ∃ g' cap' n', e = .returned (.slice (some ⟨g', 0, none⟩) n' cap') ∧ n' = bs.length ∧ Row w0 w' g' cap' bs
theorem apEnd_mk {w0 w' : World} {bs : List UInt8} {g' cap' n' : Nat} (hn : n' = bs.length) (h : Row w0 w' g' cap' bs) : ApEnd w0 bs (.returned (.slice (some ⟨g', 0, none⟩) n' cap')) w' := ⟨g', cap', n', rfl, hn, h⟩

theorem box_far {w w2 : World} {k x : Int} {t : Bool} {s : ByteArray} {g g2 : Nat} (hk : Kp [g] ((w.alloc (.cells #[.int .i64 k, .bool t, .string s] 79)).alloc (.cells #[.int .u8 x] 5)) w2)
    (hg2 : g2 = g ∨ g2 = ((w.alloc (.cells #[.int .i64 k, .bool t, .string s] 79)).alloc (.cells #[.int .u8 x] 5)).heap.size) (hg : g < w.heap.size) :
    w2.cell? ⟨w.heap.size, 1, none⟩ = some (.bool t) ∧ w2.cell? ⟨w.heap.size, 1 + 1, none⟩ = some (.string s) ∧ Hid (w.heap.size < w2.heap.size ∧ g2 ≠ w.heap.size) := by
  have h1 := hk.size
  simp at h1 hg2
  exact ⟨hk.cell (by simp; omega) (by simp), hk.cell (by simp; omega) (by simp), by omega, by omega⟩
theorem str_far {w2 w3 : World} {o : Obj} {s : ByteArray} {g2 q : Nat} (hk : Kp [g2] (w2.alloc o) w3) (hq : q < w2.heap.size ∧ g2 ≠ q) (h : w2.cell? ⟨q, 1 + 1, none⟩ = some (.string s)) : w3.cell? ⟨q, 1 + 1, none⟩ = some (.string s) :=
  hk.cell (by simp; omega) (((Kp.refl [] w2).alloc o).cell (by simp) h)

set_option maxHeartbeats 1000000 in
theorem appendPair17 {w0 w : World} {g cap n : Nat} {bs : List UInt8} (k : Int) (t : Bool) (s : ByteArray) (h : Row w0 w g cap bs) (hn : n = bs.length) (hm : bs.length ≤ 2000) (hs : s.size ≤ 300) :
    Calls Try.prog 108 #[.slice (some ⟨g, 0, none⟩) n cap, .agg #[.int .i64 k, .bool t, .string s]] w fun e w' => ApEnd w0 (bs ++ pb ⟨k, t, s⟩) e w' := by
  have hlt := h.lt
  have HR := hide (h.kp0 (((Kp.refl [] w).alloc (.cells #[.int .i64 k, .bool t, .string s] 79))))
  have HN := hide hn
  clear h hn
  cases t with
  | false =>
    go_enter Try.func108, Try.ntmps108
    go_wp2_with (first | (at_builtin; refine wpList_app (by rfl) (.tmp 5) (.tmp 9) 55 rfl ((unhide HR).kp0 ((Kp.refl [] _).alloc _)) n (unhide HN) (.slice (some ⟨w.heap.size + 1, 0, none⟩) 1 1) [b8 k] rfl rfl (one_src _ (by simp) (b8 k) _ (mod_b8 k)) (by simp; omega) ?_; intro g2 c2 n2 w2 hn2 hr2 hk2 hg2; obtain ⟨p1, p2, HQ2⟩ := box_far (unhide hk2) (unhide hg2) hlt.2) | (at_builtin; refine wpList_app (by rfl) (.tmp 15) (.tmp 16) 55 rfl ((unhide hr2).kp0 ((Kp.refl [] _).alloc _)) n2 (unhide hn2) (.slice (some ⟨w2.heap.size, 0, none⟩) 1 1) [255] rfl rfl (one_src _ rfl 255 _ rfl) (by simp; omega) ?_; intro g3 c3 n3 w3 hn3 hr3 hk3 hg3))
    go_ret
    exact apEnd_mk (by rw [unhide hn3]; simp [pb]) (by have := unhide hr3; simpa [pb] using this)
  | true =>
    go_enter Try.func108, Try.ntmps108
    go_wp2_with (first | (at_builtin; refine wpList_app (by rfl) (.tmp 5) (.tmp 9) 55 rfl ((unhide HR).kp0 ((Kp.refl [] _).alloc _)) n (unhide HN) (.slice (some ⟨w.heap.size + 1, 0, none⟩) 1 1) [b8 k] rfl rfl (one_src _ (by simp) (b8 k) _ (mod_b8 k)) (by simp; omega) ?_; intro g2 c2 n2 w2 hn2 hr2 hk2 hg2; obtain ⟨p1, p2, HQ2⟩ := box_far (unhide hk2) (unhide hg2) hlt.2) | (at_builtin; refine wpList_app (by rfl) (.tmp 18) (.tmp 24) 55 rfl ((unhide hr2).kp0 ((Kp.refl [] _).alloc _)) n2 (unhide hn2) (.slice (some ⟨w2.heap.size, 0, none⟩) 1 1) [b8 s.size] rfl rfl (one_src _ rfl (b8 s.size) _ (mod_b8 s.size)) (by simp; omega) ?_; intro g3 c3 n3 w3 hn3 hr3 hk3 hg3; have p3 := str_far (unhide hk3) (unhide HQ2) p2; clear p1 p2) | (at_builtin; refine wpList_app (by rfl) (.tmp 26) (.tmp 29) 9 rfl (unhide hr3) n3 (unhide hn3) (.string s) s.data.toList rfl rfl (str_src _ s) (by simp; omega) ?_; intro g4 c4 n4 w4 hn4 hr4 hk4 hg4))
    go_ret
    exact apEnd_mk (by rw [unhide hn4]; simp [pb]) (by have := unhide hr4; simpa [pb] using this)
end Go.Proofs.Ytehhpmfeaeabgac

/- append onto bytes that a call owns, whatever they are: nil, a row, nothing behind it. -/
namespace Go.Proofs.Ytehhpmfeaeabgac
open Go.RowKit
set_option maxRecDepth 20000
attribute [local go_sem ↓] Go.wp_at_zero Go.wp_at_succ

theorem kp_cut {w : World} {B : Nat} (h : B ≤ w.heap.size) : ∃ w0 : World, w0.heap.size = B ∧ Kp [] w0 w := by
  refine ⟨{ w with heap := w.heap.extract 0 B }, by simp; omega, rfl, rfl, rfl, by simp; omega, fun k hk _ => ?_⟩
  simp at hk
  simp only [Array.getElem?_extract]
  rw [if_pos (by omega), Nat.zero_add]

/-- The block behind an address. -/
def ob (a : Option Addr) : List Nat := match a with
  | none => []
  | some ad => [ad.block]
theorem ob_none : ob none = [] := rfl
theorem ob_some (g o : Nat) : ob (some ⟨g, o, none⟩) = [g] := rfl

/-- Bytes that a call owns since B. -/
def OwnU (B : Nat) (w : World) (a : Option Addr) (cap : Nat) (bs : List UInt8) : Prop := w.ownsRow B 5 1 (.slice a bs.length cap) bs.length (bcells bs)

section
variable {B : Nat} {w w' : World} {a : Option Addr} {cap : Nat} {bs : List UInt8}
theorem ownU_nil (B : Nat) (w : World) : OwnU B w none 0 [] := World.ownsRow_nil _ _ _ _
theorem OwnU.cases (h : OwnU B w a cap bs) : (a = none ∧ cap = 0 ∧ bs = []) ∨ ∃ g, a = some ⟨g, 0, none⟩ ∧ B ≤ g ∧ g < w.heap.size ∧ bs.length ≤ cap := by
  have h' := h
  rcases h.2 with ⟨e, _⟩ | ⟨g, c, cur, e, h1, h2, h3, _⟩
  · simp only [Value.slice.injEq] at e
    exact .inl ⟨e.1, e.2.2, List.eq_nil_of_length_eq_zero e.2.1⟩
  · simp only [Value.slice.injEq, true_and] at e
    obtain ⟨rfl, rfl⟩ := e
    exact .inr ⟨g, rfl, h1, lt_of_block h2, h3⟩
theorem OwnU.lo (h : OwnU B w a cap bs) : ∀ x ∈ ob a, B ≤ x ∧ x < w.heap.size := by
  intro x hx
  rcases h.cases with ⟨rfl, _⟩ | ⟨g, rfl, h1, h2, _⟩
  · simp [ob] at hx
  · simp [ob] at hx; omega
theorem OwnU.kp {S : List Nat} (h : OwnU B w a cap bs) (hk : Kp S w w') (hS : ∀ x ∈ ob a, x ∉ S) : OwnU B w' a cap bs := by
  refine own_kp h hk (fun g hg => ?_)
  rcases h.cases with ⟨rfl, _⟩ | ⟨g', rfl, _⟩
  · simp [Value.ownBlock] at hg
  · have : g' = g := by simpa [Value.ownBlock] using hg
    subst this
    exact hS g' (by simp [ob])
theorem OwnU.kp0 (h : OwnU B w a cap bs) (hk : Kp [] w w') : OwnU B w' a cap bs := h.kp hk (fun _ _ => by simp)
theorem OwnU.base {C : Nat} (h : OwnU B w a cap bs) (hC : C ≤ B) : OwnU C w a cap bs := own_base h hC
theorem OwnU.le (h : OwnU B w a cap bs) : bs.length ≤ cap := by
  rcases h.cases with ⟨_, rfl, rfl⟩ | ⟨_, _, _, _, h⟩
  · simp
  · exact h
theorem OwnU.row {w0 : World} {g : Nat} (h : OwnU w0.heap.size w (some ⟨g, 0, none⟩) cap bs) (hk : Kp [] w0 w) : Row w0 w g cap bs := ⟨h, hk⟩
theorem Row.ownU {w0 : World} {g : Nat} (h : Row w0 w g cap bs) : OwnU w0.heap.size w (some ⟨g, 0, none⟩) cap bs := h.own
theorem OwnU.byt (h : OwnU B w a cap bs) : Byt w a bs := by
  rcases h.cases with ⟨_, _, rfl⟩ | ⟨g, rfl, _⟩
  · exact byt_nil _ _
  · refine fun _ => ⟨g, 0, rfl, fun j hj => ?_⟩
    have := World.ownsRow.cellAt h j (by omega)
    rw [Nat.zero_add, this, bcells_at hj]
/-- The first bytes of a row are a row. -/
theorem OwnU.take (h : OwnU B w a cap bs) (k : Nat) (hk : k ≤ bs.length) : OwnU B w a cap (bs.take k) := by
  have hl : (bs.take k).length = k := by simp; omega
  refine ⟨by rw [bcells_length]; omega, ?_⟩
  rcases h.2 with ⟨e, e2⟩ | ⟨g, c, cur, e, h1, h2, h3, h4, h5, h6⟩
  · have : k = 0 := by omega
    subst this
    simp only [Value.slice.injEq] at e
    exact .inl ⟨by simp [e.1, e.2.2], by simp⟩
  · simp only [Value.slice.injEq, true_and] at e
    obtain ⟨rfl, rfl⟩ := e
    refine .inr ⟨g, cap, cur, rfl, h1, h2, by omega, h4, h5, ?_⟩
    simp only [Nat.mul_one] at h6 ⊢
    have e2 : cur.toList.take k = (cur.toList.take bs.length).take k := by rw [List.take_take, Nat.min_eq_left hk]
    rw [hl, e2, h6]
    simp [bcells, List.map_take]

theorem run_appx (h : OwnU B w a cap bs) (hB : B ≤ w.heap.size) (tx ty : TypeId) (x : Value) (news : List UInt8) (hs : Src Try.prog 1 tx x news.length (bcells news) w) (hm : bs.length + news.length ≤ 100000) :
    ∃ a' cap' w', (Builtin.append_ #[55, tx] ty #[.slice a bs.length cap, x]).run Try.prog w = .ok (.slice a' (bs ++ news).length cap') w' ∧
      OwnU B w' a' cap' (bs ++ news) ∧ Kp (ob a) w w' ∧ (∀ x ∈ ob a', x ∈ ob a ∨ w.heap.size ≤ x) := by
  obtain ⟨w0, e0, hk0⟩ := kp_cut hB
  rcases h.cases with ⟨rfl, rfl, rfl⟩ | ⟨g, rfl, h1, h2, h3⟩
  · by_cases hp : 0 < news.length
    · obtain ⟨cap', w', hr, h4, h5⟩ := run_app_nil hk0 tx ty x news hs hp (by omega)
      refine ⟨_, _, w', hr, ?_, h5, fun y hy => .inr (by simp [ob] at hy; omega)⟩
      have := h4.ownU
      rw [e0] at this
      exact this
    · have e : news = [] := List.eq_nil_of_length_eq_zero (by omega)
      subst e
      obtain ⟨i0, hi0, hz0, hz1, hz2⟩ := info_parts Try.info5
      have hs' : Src Try.prog i0.size tx x 0 [] w := by rw [hz1]; exact hs
      have hr := run_append_nothing (P := Try.prog) w 55 tx ty 5 i0 Try.underlying55 hi0 none 0 0 (Nat.le_refl _) x hs'
      exact ⟨none, 0, w, hr, h, Kp.refl _ _, fun y hy => .inl hy⟩
  · have hrow : Row w0 w g cap bs := ⟨by rw [e0]; exact h, hk0⟩
    obtain ⟨g', cap', w', hr, h4, h5, h6⟩ := run_app hrow tx ty x news hs hm
    refine ⟨_, _, w', hr, ?_, h5, fun y hy => ?_⟩
    · have := h4.ownU
      rw [e0] at this
      exact this
    · simp only [ob, List.mem_singleton] at hy ⊢
      subst hy
      rcases h6 with e | e
      · exact .inl e
      · exact .inr (by omega)
end

theorem wpList_appx {ops : Array Oper} {rest : List Oper} {o : Oper} {ac : Act} {w : World} {Q : Exit → Act → World → Prop} (hw : Region.wanted o (yielded ops ac.tmps) = true) (s x : Operand) (tx : TypeId)
    (ho : o.op = .call { callee := .builtin .append, args := #[s, x], argTypes := #[55, tx] }) {B : Nat} {a : Option Addr} {cap : Nat} {bs : List UInt8} (h : OwnU B w a cap bs) (hB : B ≤ w.heap.size) (n : Nat) (hn : n = bs.length) (xv : Value) (news : List UInt8)
    (hs : ac.eval s = .slice a n cap) (hx : ac.eval x = xv) (hsrc : Src Try.prog 1 tx xv news.length (bcells news) w) (hm : bs.length + news.length ≤ 100000)
    (k : ∀ a' cap' n' w', Hid (n' = (bs ++ news).length) → Hid (OwnU B w' a' cap' (bs ++ news)) → Hid (Kp (ob a) w w') → Hid (∀ x ∈ ob a', x ∈ ob a ∨ w.heap.size ≤ x) → wpList Try.prog ops Q rest (ac.put o.dst (.slice a' n' cap')) w') : wpList Try.prog ops Q (o :: rest) ac w := by
  subst hn
  obtain ⟨a', cap', w', hr, h1, h2, h3⟩ := run_appx h hB tx o.type xv news hsrc hm
  refine wpList_step fun K hK => ?_
  rw [if_pos hw]
  unfold Oper.wp execOp
  simp only [ho, resolve, invoke, builtin, Sem.run_bind, Sem.run_pure, Result.andThen_ok, List.map_toArray, List.map_cons, List.map_nil, hs, hx, hr]
  exact hK _ _ (k a' cap' _ w' rfl h1 h2 h3)

theorem step_appx {ops : Array Oper} {o : Oper} {ac : Act} {w : World} {K : Act → World → Prop} {Q : Exit → Act → World → Prop} {E : Prop} (hgd : o.guard = none) (s x : Operand) (tx : TypeId)
    (ho : o.op = .call { callee := .builtin .append, args := #[s, x], argTypes := #[55, tx] }) {B : Nat} {a : Option Addr} {cap : Nat} {bs : List UInt8} (h : OwnU B w a cap bs) (hB : B ≤ w.heap.size) (n : Nat) (hn : n = bs.length) (xv : Value) (news : List UInt8)
    (hs : ac.eval s = .slice a n cap) (hx : ac.eval x = xv) (hsrc : Src Try.prog 1 tx xv news.length (bcells news) w) (hm : bs.length + news.length ≤ 100000)
    (k : ∀ a' cap' n' w', Hid (n' = (bs ++ news).length) → Hid (OwnU B w' a' cap' (bs ++ news)) → Hid (Kp (ob a) w w') → Hid (∀ x ∈ ob a', x ∈ ob a ∨ w.heap.size ≤ x) → K (ac.put o.dst (.slice a' n' cap')) w') :
    if Region.wanted o (yielded ops ac.tmps) = true then Oper.wp Try.prog o ac w K Q else E := by
  subst hn
  have hw : Region.wanted o (yielded ops ac.tmps) = true := by simp [Region.wanted, hgd]
  obtain ⟨a', cap', w', hr, h1, h2, h3⟩ := run_appx h hB tx o.type xv news hsrc hm
  rw [if_pos hw]
  unfold Oper.wp execOp
  simp only [ho, resolve, invoke, builtin, Sem.run_bind, Sem.run_pure, Result.andThen_ok, List.map_toArray, List.map_cons, List.map_nil, hs, hx, hr]
  exact k a' cap' _ w' rfl h1 h2 h3

/-- Behind bytes of no length: a copy. -/
theorem run_app_zero (w : World) (a : Option Addr) (tx ty : TypeId) (x : Value) (news : List UInt8) (hs : Src Try.prog 1 tx x news.length (bcells news) w) (hm : news.length ≤ 100000) :
    ∃ a' cap' w', (Builtin.append_ #[55, tx] ty #[.slice a 0 0, x]).run Try.prog w = .ok (.slice a' news.length cap') w' ∧ news.length ≤ cap' ∧ Byt w' a' news ∧ Kp [] w w' := by
  obtain ⟨i0, hi0, hz0, hz1, hz2⟩ := info_parts Try.info5
  have hs' : Src Try.prog i0.size tx x news.length (bcells news) w := by rw [hz1]; exact hs
  by_cases hp : 0 < news.length
  · have hge := grownCap_ge w (0 + news.length) 0 5
    have hfit : Builtin.nextslicecap (0 + news.length) 0 * i0.bytes ≤ 281474976710656 := growslice_fits (by omega) (by rw [hz2]; omega)
    have hfc : (Builtin.firstCells i0.size 0 (.slice a 0 0)).run Try.prog w.drew = .ok ([] : List Value).toArray w.drew := by
      cases a with
      | none => exact run_firstCells_none w.drew i0.size 0 0 0
      | some ad => exact run_firstCells_some w.drew i0.size 0 ad 0 0 [] (by simp) (by simp)
    have hr := run_append_grow_src (P := Try.prog) w 55 tx ty 5 i0 _ Try.underlying55 hi0 hz0 a 0 0 [] hfc x news.length (bcells news) hs' (by omega) (by omega) hfit
    rw [List.nil_append, Nat.zero_add] at hr
    refine ⟨_, _, _, hr, by rw [Nat.zero_add] at hge; exact hge, ?_, ((Kp.refl [] w).drew.alloc _)⟩
    exact (grown_row (Kp.refl [] w) news _ (by rw [Nat.zero_add] at hge; exact hge) (grownCap_le_maxLen w _ _ _ (by unfold maxLen; omega)) _ (by rw [size_zeroCells]; simp [Value.cells])).byt
  · have e : news = [] := List.eq_nil_of_length_eq_zero (by omega)
    subst e
    have hr := run_append_nothing (P := Try.prog) w 55 tx ty 5 i0 Try.underlying55 hi0 a 0 0 (Nat.le_refl _) x hs'
    exact ⟨a, 0, w, hr, by simp, byt_nil _ _, Kp.refl _ _⟩

theorem wpList_app0 {ops : Array Oper} {rest : List Oper} {o : Oper} {ac : Act} {w : World} {Q : Exit → Act → World → Prop} (hw : Region.wanted o (yielded ops ac.tmps) = true) (s x : Operand) (tx : TypeId)
    (ho : o.op = .call { callee := .builtin .append, args := #[s, x], argTypes := #[55, tx] }) (a : Option Addr) (xv : Value) (news : List UInt8)
    (hs : ac.eval s = .slice a 0 0) (hx : ac.eval x = xv) (hsrc : Src Try.prog 1 tx xv news.length (bcells news) w) (hm : news.length ≤ 100000)
    (k : ∀ a' cap' n' w', Hid (n' = news.length) → Hid (n' ≤ cap') → Hid (Byt w' a' news) → Hid (Kp [] w w') → wpList Try.prog ops Q rest (ac.put o.dst (.slice a' n' cap')) w') : wpList Try.prog ops Q (o :: rest) ac w := by
  obtain ⟨a', cap', w', hr, h1, h2, h3⟩ := run_app_zero w a tx o.type xv news hsrc hm
  refine wpList_step fun K hK => ?_
  rw [if_pos hw]
  unfold Oper.wp execOp
  simp only [ho, resolve, invoke, builtin, Sem.run_bind, Sem.run_pure, Result.andThen_ok, List.map_toArray, List.map_cons, List.map_nil, hs, hx, hr]
  exact hK _ _ (k a' cap' _ w' rfl h1 h2 h3)
end Go.Proofs.Ytehhpmfeaeabgac

/- Rows of one-cell elements (pointers) of which a part may have been cut off: append onto them, and their first ones. -/
namespace Go.Proofs.Ytehhpmfeaeabgac
open Go.RowKit
set_option maxRecDepth 20000

/-- n elements lie from the beginning of a block of one's own on; the room (cap) is no more than the block has. -/
def PRow (e : TypeId) (B : Nat) (w : World) (a : Option Addr) (n cap : Nat) (xs : List Value) : Prop :=
  xs.length = n ∧ ((a = none ∧ n = 0 ∧ cap = 0) ∨ ∃ g cur, a = some ⟨g, 0, none⟩ ∧ B ≤ g ∧ w.heap[g]? = some (.cells cur e (0, 0)) ∧ n ≤ cap ∧ cap ≤ maxLen ∧ cap ≤ cur.size ∧ cur.toList.take n = xs)

section
variable {e : TypeId} {B : Nat} {w w' : World} {a : Option Addr} {n cap : Nat} {xs : List Value}
theorem prow_nil (e : TypeId) (B : Nat) (w : World) : PRow e B w none 0 0 [] := ⟨rfl, .inl ⟨rfl, rfl, rfl⟩⟩
theorem PRow.len (h : PRow e B w a n cap xs) : xs.length = n := h.1
theorem PRow.le (h : PRow e B w a n cap xs) : n ≤ cap := by
  rcases h.2 with ⟨_, e1, e2⟩ | ⟨g, cur, _, _, _, h1, _⟩
  · omega
  · exact h1
theorem PRow.lo (h : PRow e B w a n cap xs) : ∀ x ∈ ob a, B ≤ x ∧ x < w.heap.size := by
  intro x hx
  rcases h.2 with ⟨rfl, _⟩ | ⟨g, cur, rfl, h1, h2, _⟩
  · simp [ob] at hx
  · simp [ob] at hx
    have := lt_of_block h2
    omega
theorem PRow.kp {S : List Nat} (h : PRow e B w a n cap xs) (hk : Kp S w w') (hS : ∀ x ∈ ob a, x ∉ S) : PRow e B w' a n cap xs := by
  refine ⟨h.1, ?_⟩
  rcases h.2 with hn | ⟨g, cur, rfl, h1, h2, h3⟩
  · exact .inl hn
  · exact .inr ⟨g, cur, rfl, h1, by rw [hk.block g (lt_of_block h2) (hS g (by simp [ob]))]; exact h2, h3⟩
theorem PRow.kp0 (h : PRow e B w a n cap xs) (hk : Kp [] w w') : PRow e B w' a n cap xs := h.kp hk (fun _ _ => by simp)
theorem PRow.base {C : Nat} (h : PRow e B w a n cap xs) (hC : C ≤ B) : PRow e C w a n cap xs := by
  refine ⟨h.1, ?_⟩
  rcases h.2 with hn | ⟨g, cur, rfl, h1, h2⟩
  · exact .inl hn
  · exact .inr ⟨g, cur, rfl, by omega, h2⟩
theorem PRow.cell (h : PRow e B w a n cap xs) {k : Nat} {v : Value} (hk : xs[k]? = some v) : ∃ g, a = some ⟨g, 0, none⟩ ∧ w.cell? ⟨g, k, none⟩ = some v := by
  have hl : k < n := by rw [← h.1]; exact (List.getElem?_eq_some_iff.1 hk).1
  rcases h.2 with ⟨_, e1, _⟩ | ⟨g, cur, rfl, h1, h2, h3, h4, h5, h6⟩
  · omega
  · refine ⟨g, rfl, cell_of_block h2 ?_⟩
    rw [← h6, List.getElem?_take] at hk
    rw [if_pos hl] at hk
    simpa using hk
/-- 's[:k:k]'. -/
theorem PRow.cut (h : PRow e B w a n cap xs) (k : Nat) (hk : k ≤ n) : PRow e B w a k k (xs.take k) := by
  refine ⟨by rw [List.length_take, h.1]; omega, ?_⟩
  rcases h.2 with ⟨e1, e2, e3⟩ | ⟨g, cur, rfl, h1, h2, h3, h4, h5, h6⟩
  · exact .inl ⟨e1, by omega, by omega⟩
  · refine .inr ⟨g, cur, rfl, h1, h2, Nat.le_refl _, by omega, by omega, ?_⟩
    rw [← h6, List.take_take, Nat.min_eq_left hk]
/-- 's[k:]', as what is appended. -/
theorem PRow.src {t : TypeId} (hu : Try.prog.underlying t = some (.slice e)) (h : PRow e B w a n cap xs) (hx : ∀ u ∈ xs, u.oneCell' = true) {g k m c : Nat} (ha : a = some ⟨g, 0, none⟩) (hm : m = n - k) (_hk : k ≤ n) : Src Try.prog 1 t (.slice (some ⟨g, k, none⟩) m c) m (xs.drop k) w := by
  subst hm
  refine Src.ofSlice w hu ⟨g, k, none⟩ (n - k) c (xs.drop k) (by rw [List.length_drop, h.1]; omega) (fun j u hj => ?_) (fun u hu => hx u (List.mem_of_mem_drop hu))
  rw [List.getElem?_drop] at hj
  obtain ⟨g', e', hc⟩ := h.cell hj
  rw [ha] at e'
  simp only [Option.some.injEq, Addr.mk.injEq, and_true] at e'
  subst e'
  rw [addr_add]
  exact hc

theorem prow_app {t : TypeId} {z : Value} (hu : Try.prog.underlying t = some (.slice e)) (hi : (Try.prog.info? e).map (fun i => (i.zero, i.size, i.bytes)) = some (some z, 1, 8)) (hz : z.cells.size = 1)
    (h : PRow e B w a n cap xs) (hB : B ≤ w.heap.size) (ty : TypeId) (x : Value) (news : List Value) (m : Nat) (hs : Src Try.prog 1 t x m news w) (hl : n + m ≤ 100000) :
    ∃ a' cap' w', (Builtin.append_ #[t, t] ty #[.slice a n cap, x]).run Try.prog w = .ok (.slice a' (n + m) cap') w' ∧ PRow e B w' a' (n + m) cap' (xs ++ news) ∧ Kp (ob a) w w' ∧ ∀ y ∈ ob a', y ∈ ob a ∨ w.heap.size ≤ y := by
  obtain ⟨i0, hi0, hz0, hz1, hz2⟩ := info_parts hi
  have hs' : Src Try.prog i0.size t x m news w := by rw [hz1]; exact hs
  have hnl : news.length = m := by have := hs.newsLen; omega
  have hle := h.le
  by_cases hp : m = 0
  · subst hp
    have e0 : news = [] := List.eq_nil_of_length_eq_zero hnl
    subst e0
    have hr := run_append_nothing (P := Try.prog) w t t ty e i0 hu hi0 a n cap hle x hs'
    exact ⟨a, cap, w, hr, by rw [List.append_nil]; exact h, Kp.refl _ _, fun y hy => .inl hy⟩
  have hold : (Builtin.firstCells i0.size n (.slice a n cap)).run Try.prog w.drew = .ok xs.toArray w.drew := by
    rcases h.2 with ⟨rfl, rfl, rfl⟩ | ⟨g, cur, rfl, h1, h2, h3, h4, h5, h6⟩
    · have : xs = [] := List.eq_nil_of_length_eq_zero h.1
      subst this
      exact run_firstCells_none w.drew i0.size 0 0 0
    · refine run_firstCells_some (P := Try.prog) w.drew i0.size n ⟨g, 0, none⟩ n cap xs (by rw [hz1, h.1]; omega) (fun j u hj => ?_)
      obtain ⟨g', e', hc⟩ := h.cell hj
      simp only [Option.some.injEq, Addr.mk.injEq, and_true] at e'
      subst e'
      rw [addr_add, Nat.zero_add]
      exact hc
  by_cases hroom : n + m ≤ cap
  · rcases h.2 with ⟨_, _, _⟩ | ⟨g, cur, rfl, h1, h2, h3, h4, h5, h6⟩
    · omega
    · have hst := run_storeCells_at Try.prog g n e news 0 cur w h2 (by omega) hs.one
      simp only [Nat.add_zero] at hst
      refine ⟨some ⟨g, 0, none⟩, cap, w.setRow g (cur.toList.take n ++ news ++ cur.toList.drop (n + news.length)).toArray, ?_, ⟨by rw [List.length_append, h.1, hnl], .inr ⟨g, _, rfl, h1, setRow_heap w g cur _ e _ h2, hroom, h4, ?_, ?_⟩⟩, ?_, fun y hy => .inl hy⟩
      · rcases hs'.kind with ⟨e', hk⟩ | hk <;> simp [Builtin.append_, run_underlying hu, sizeOf, typeInfo, hi0, hz1, hs.len, hroom, hs.cells, Addr.add_lit, hst]
      · simp only [List.size_toArray, List.length_append, List.length_take, List.length_drop, Array.length_toList]
        omega
      · rw [h6]
        have hll : n + m = (xs ++ news).length := by rw [List.length_append, h.1, hnl]
        rw [hll]
        exact List.take_left
      · exact ⟨rfl, rfl, rfl, by simp, fun k _ hn => setRow_other w g k _ (by simpa [ob] using hn)⟩
  · have hge := grownCap_ge w (n + m) cap e
    have hfit : Builtin.nextslicecap (n + m) cap * i0.bytes ≤ 281474976710656 := growslice_fits (by omega) (by rw [hz2]; omega)
    have hr := run_append_grow_src (P := Try.prog) w t t ty e i0 _ hu hi0 hz0 a n cap xs hold x m news hs' (by omega) (by omega) hfit
    refine ⟨_, _, _, hr, ⟨by rw [List.length_append, h.1, hnl], .inr ⟨w.heap.size, _, rfl, hB, heap_alloc_new w.drew _, hge, grownCap_le_maxLen w _ _ _ (by unfold maxLen; omega), ?_, ?_⟩⟩, (Kp.refl _ w).drew.alloc _, fun y hy => .inr (by simp [ob] at hy; omega)⟩
    · rw [Array.size_append, size_zeroCells, hz]
      simp only [List.size_toArray, List.length_append, h.1, hnl]
      omega
    · simp only [Array.toList_append]
      have hll : n + m = (xs ++ news).length := by rw [List.length_append, h.1, hnl]
      rw [hll]
      exact List.take_left
end

theorem wpList_prow {ops : Array Oper} {rest : List Oper} {o : Oper} {ac : Act} {w : World} {Q : Exit → Act → World → Prop} (hw : Region.wanted o (yielded ops ac.tmps) = true) (s x : Operand) (t : TypeId)
    (ho : o.op = .call { callee := .builtin .append, args := #[s, x], argTypes := #[t, t] }) {e : TypeId} {z : Value} (hu : Try.prog.underlying t = some (.slice e)) (hi : (Try.prog.info? e).map (fun i => (i.zero, i.size, i.bytes)) = some (some z, 1, 8)) (hz : z.cells.size = 1)
    {B : Nat} {a : Option Addr} {n cap : Nat} {xs : List Value} (h : PRow e B w a n cap xs) (hB : B ≤ w.heap.size) (xv : Value) (news : List Value) (m : Nat)
    (hs : ac.eval s = .slice a n cap) (hx : ac.eval x = xv) (hsrc : Src Try.prog 1 t xv m news w) (hm : n + m ≤ 100000) (N : Nat) (hN : n + m = N)
    (k : ∀ a' cap' w', Hid (PRow e B w' a' N cap' (xs ++ news)) → Hid (Kp (ob a) w w') → Hid (∀ x ∈ ob a', x ∈ ob a ∨ w.heap.size ≤ x) → wpList Try.prog ops Q rest (ac.put o.dst (.slice a' N cap')) w') : wpList Try.prog ops Q (o :: rest) ac w := by
  subst hN
  obtain ⟨a', cap', w', hr, h1, h2, h3⟩ := prow_app hu hi hz h hB o.type xv news m hsrc hm
  refine wpList_step fun K hK => ?_
  rw [if_pos hw]
  unfold Oper.wp execOp
  simp only [ho, resolve, invoke, builtin, Sem.run_bind, Sem.run_pure, Result.andThen_ok, List.map_toArray, List.map_cons, List.map_nil, hs, hx, hr]
  exact hK _ _ (k a' cap' w' h1 h2 h3)

theorem step_prow {ops : Array Oper} {o : Oper} {ac : Act} {w : World} {K : Act → World → Prop} {Q : Exit → Act → World → Prop} {E : Prop} (hw : Region.wanted o (yielded ops ac.tmps) = true) (s x : Operand) (t : TypeId)
    (ho : o.op = .call { callee := .builtin .append, args := #[s, x], argTypes := #[t, t] }) {e : TypeId} {z : Value} (hu : Try.prog.underlying t = some (.slice e)) (hi : (Try.prog.info? e).map (fun i => (i.zero, i.size, i.bytes)) = some (some z, 1, 8)) (hz : z.cells.size = 1)
    {B : Nat} {a : Option Addr} {n cap : Nat} {xs : List Value} (h : PRow e B w a n cap xs) (hB : B ≤ w.heap.size) (xv : Value) (news : List Value) (m : Nat)
    (hs : ac.eval s = .slice a n cap) (hx : ac.eval x = xv) (hsrc : Src Try.prog 1 t xv m news w) (hm : n + m ≤ 100000) (N : Nat) (hN : n + m = N)
    (k : ∀ a' cap' w', Hid (PRow e B w' a' N cap' (xs ++ news)) → Hid (Kp (ob a) w w') → Hid (∀ x ∈ ob a', x ∈ ob a ∨ w.heap.size ≤ x) → K (ac.put o.dst (.slice a' N cap')) w') :
    if Region.wanted o (yielded ops ac.tmps) = true then Oper.wp Try.prog o ac w K Q else E := by
  subst hN
  obtain ⟨a', cap', w', hr, h1, h2, h3⟩ := prow_app hu hi hz h hB o.type xv news m hsrc hm
  rw [if_pos hw]
  unfold Oper.wp execOp
  simp only [ho, resolve, invoke, builtin, Sem.run_bind, Sem.run_pure, Result.andThen_ok, List.map_toArray, List.map_cons, List.map_nil, hs, hx, hr]
  exact k a' cap' w' h1 h2 h3
end Go.Proofs.Ytehhpmfeaeabgac

/- Encode, by its contract. -/
namespace Go.Proofs.Ytehhpmfeaeabgac
open Go.RowKit
set_option maxRecDepth 20000
attribute [local go_sem ↓] Go.wp_at_zero Go.wp_at_succ

theorem pf_str {a : Int} {ps : List Ver} (h : pf a ps = 0) : ∀ k, k < ps.length → (vb ps k).size ≤ 12 := by
  induction ps generalizing a with
  | nil => intro k hk; simp at hk
  | cons p r ih =>
    obtain ⟨_, _, _, h4, h5⟩ := pf_cons h
    intro k hk
    cases k with
    | zero => simpa [vb] using (chk_zero h4).1
    | succ k => have := ih h5 k (by simpa using hk); simpa [vb] using this

theorem take_succ_ver {ps : List Ver} {k : Nat} (h : k < ps.length) : ps.take (k + 1) = ps.take k ++ [⟨va ps k, vt ps k, vb ps k⟩] := by
  have e : (⟨va ps k, vt ps k, vb ps k⟩ : Ver) = ps[k] := by simp [va, vt, vb, List.getD_eq_getElem?_getD, List.getElem?_eq_getElem h]
  rw [e, List.take_succ_eq_append_getElem h]
theorem pbs_take_succ {ps : List Ver} {k : Nat} (h : k < ps.length) : pbs (ps.take (k + 1)) = pbs (ps.take k) ++ pb ⟨va ps k, vt ps k, vb ps k⟩ := by
  rw [take_succ_ver h, pbs_append]
  simp [pbs]
theorem pbs_take_le (ps : List Ver) (k : Nat) : (pbs (ps.take k)).length ≤ (pbs ps).length := by
  have := congrArg (fun l => (pbs l).length) (List.take_append_drop k ps)
  simp only [pbs_append, List.length_append] at this
  omega

theorem Row.head {w0 w : World} {g cap : Nat} {u : UInt8} {bs : List UInt8} (h : Row w0 w g cap (u :: bs)) : w.cell? ⟨g, 0, none⟩ = some (.int .u8 u.toNat) ∧ w.frozen? ⟨g, 0, none⟩ = false := by
  refine ⟨by simpa [ub] using h.slu 0 (by simp), ?_⟩
  rcases h.own.2 with ⟨e, _⟩ | ⟨g2, c2, cur, e, q1, q2, q3, q4, q5, q6⟩
  · simp at e
  · simp only [Value.slice.injEq, Option.some.injEq, Addr.mk.injEq, and_true, true_and] at e
    obtain ⟨rfl, rfl⟩ := e
    exact frozen_of_block _ q2
theorem Row.set0 {w0 w : World} {g cap : Nat} {u : UInt8} {bs : List UInt8} (h : Row w0 w g cap (u :: bs)) (v : UInt8) (x : Int) (hx : x = (v.toNat : Int)) : Row w0 (w.setCell ⟨g, 0, none⟩ (.int .u8 x)) g cap (v :: bs) := by
  subst hx
  have hlt := h.lt
  refine ⟨⟨by simp [bcells_length], ?_⟩, h.kp.setCell (.inr hlt.1) _⟩
  rcases h.own.2 with ⟨e, _⟩ | ⟨g2, c2, cur, e, q1, q2, q3, q4, q5, q6⟩
  · simp at e
  · simp only [Value.slice.injEq, Option.some.injEq, Addr.mk.injEq, and_true, true_and] at e
    obtain ⟨rfl, rfl⟩ := e
    refine .inr ⟨g, cap, _, by simp, q1, heap_setCell_at 0 _ q2, by simpa using q3, q4, by simpa using q5, ?_⟩
    simp only [Nat.mul_one, List.length_cons] at q6 ⊢
    rw [Array.toList_setIfInBounds, List.take_set, q6]
    simp [bcells]

/-- At the head of a round: the bytes of the first k pairs, behind others. -/
structure EnI (w : World) (hd : List UInt8) (ps : List Ver) (k g cap n : Nat) (wr : World) : Prop where
  len : n = (hd ++ pbs (ps.take k)).length
  row : Row w wr g cap (hd ++ pbs (ps.take k))
theorem EnI.next {w wr : World} {hd : List UInt8} {ps : List Ver} {k g cap n : Nat} (hk : k < ps.length) (hn : n = (hd ++ pbs (ps.take k) ++ pb ⟨va ps k, vt ps k, vb ps k⟩).length) (hr : Row w wr g cap (hd ++ pbs (ps.take k) ++ pb ⟨va ps k, vt ps k, vb ps k⟩)) : EnI w hd ps (k + 1) g cap n wr := by
  rw [List.append_assoc, ← pbs_take_succ hk] at hn hr
  exact ⟨hn, hr⟩
theorem EnI.last {w wr : World} {hd : List UInt8} {ps : List Ver} {g cap n : Nat} (h : EnI w hd ps ps.length g cap n wr) : n = (hd ++ pbs ps).length ∧ Row w wr g cap (hd ++ pbs ps) := by
  obtain ⟨h1, h2⟩ := h
  rw [List.take_length] at h1 h2
  exact ⟨h1, h2⟩
theorem enI_start (w W : World) (hk : Kp [] w W) (ps : List Ver) (hd : List UInt8) (cs : Array Value) (hc : cs.toList = bcells hd) (hm : hd.length ≤ 1000) (g c : Nat) (hg : g = W.heap.size) (h2 : c = hd.length) : EnI w hd ps 0 g c c (W.alloc (.cells cs 5)) := by
  subst hg
  subst h2
  have := row_lit w W hk hd cs hc hm
  exact ⟨by simp [pbs], by simpa [pbs] using this⟩

def EncEnd (ps : List Ver) (w : World) (e : Ending) (w' : World) : Prop := ∃ g cap n, e = .returned (.tuple #[.slice (some ⟨g, 0, none⟩) n cap, .int .i64 0]) ∧ n = (enc ps).length ∧ Row w w' g cap (enc ps)
theorem encEnd_mk {ps : List Ver} {w W : World} {g cap n : Nat} {x : Int} (hx : x = (n : Int) % 256) (hr : n = ([0, b8 ps.length] ++ pbs ps).length ∧ Row w W g cap ([0, b8 ps.length] ++ pbs ps)) :
    EncEnd ps w (.returned (.tuple #[.slice (some ⟨g, 0, none⟩) n cap, .int .i64 0])) (W.setCell ⟨g, 0, none⟩ (.int .u8 x)) := by
  obtain ⟨h1, h2⟩ := hr
  refine ⟨g, cap, n, rfl, by rw [h1]; simp [enc], h2.set0 (b8 ((pbs ps).length + 2 : Nat)) x ?_⟩
  rw [hx, ← mod_b8, h1]
  simp; omega

set_option maxHeartbeats 1000000 in
theorem encode_ok (a : Option Addr) (c : Nat) (ps : List Ver) (w : World) (h : Prs w a ps) (hp : pf (-1) ps = 0) :
    Calls Try.prog 107 #[.slice a ps.length c] w fun e w' => EncEnd ps w e w' := by
  have h8 := pf_len8 hp
  have h112 := pbs_len112 hp
  have HP := hide h
  have HS := hide (pf_str hp)
  have HPF := hide hp
  clear h hp
  go_enter Try.func107, Try.ntmps107
  go_wp2_with fail
  refine (tcheck36 a c ps w (unhide HP) (by omega)).mono ?_
  rintro e w1 ⟨rfl, hk1⟩
  have HK1 := hide hk1
  clear hk1
  rw [unhide HPF]
  go_wp2_with fail
  go_loopw [5, 19] (fun b i wr => ∃ k g cap n : Nat, k ≤ ps.length ∧ b = .slice (some ⟨g, 0, none⟩) n cap ∧ i = .int .i64 k ∧ Hid (EnI w [0, b8 ps.length] ps k g cap n wr)) (fun _ i _ => ps.length - (intOf i).toNat)
  case atStart => exact ⟨0, w1.heap.size, 2, 2, by omega, rfl, rfl, enI_start w w1 (unhide HK1) ps [0, b8 ps.length] _ (by simp [bcells, ← mod_b8]; omega) (by simp) _ _ rfl rfl⟩
  case round =>
    obtain ⟨k, g, cap, n, hk, rfl, rfl, HE⟩ := hrel
    by_cases hlt : k < ps.length
    · obtain ⟨ga, o, rfl, hs⟩ := (unhide HP).mem (by omega)
      have hs2 := hs.kp (unhide HE).row.kp (by simp)
      have q0 := hs2.at0 k hlt
      have q1 := hs2.at1 k hlt
      have q2 := hs2.at2 k hlt
      have i0 : (0 : Int) ≤ (k : Int) := by omega
      have i1 : (k : Int) < (ps.length : Int) := by omega
      clear hs hs2
      go_wp2_with fail
      refine (appendPair17 (va ps k) (vt ps k) (vb ps k) ((unhide HE).row.kp0 ((Kp.refl [] _).alloc _)) (unhide HE).len (by have := pbs_take_le ps k; simp; omega) (by have := unhide HS k hlt; omega)).mono ?_
      rintro e w2 ⟨g2, c2, n2, rfl, hn2, hr2⟩
      have HE2 := hide (EnI.next hlt hn2 hr2)
      clear hn2 hr2
      go_wp2_with fail
      exact ⟨⟨k + 1, g2, c2, n2, by omega, rfl, by go_num, HE2⟩, by simp [intOf]; omega⟩
    · have e : k = ps.length := by omega
      subst e
      have hl := (unhide HE).last
      obtain ⟨y0, y1⟩ := Row.head hl.2
      have HLL := hide hl
      have hn0 : 0 < n := by rw [hl.1]; simp
      clear hl
      go_wp2_with fail
      go_ret2
      exact encEnd_mk rfl (unhide HLL)

theorem encode_bad (a : Option Addr) (c : Nat) (ps : List Ver) (w : World) (h : Prs w a ps) (hm : ps.length ≤ 1000) (hp : pf (-1) ps ≠ 0) :
    Calls Try.prog 107 #[.slice a ps.length c] w fun e w' => e = .returned (.tuple #[.slice none 0 0, .int .i64 (pf (-1) ps)]) ∧ Kp [] w w' := by
  have hc := tcheck36 a c ps w h (by omega)
  generalize pf (-1) ps = q at *
  have HC := hide hc
  clear h hc
  go_enter Try.func107, Try.ntmps107
  go_wp2_with fail
  refine (unhide HC).mono ?_
  rintro e w1 ⟨rfl, hk1⟩
  have HK1 := hide hk1
  clear hk1
  go_wp2_with fail
  go_ret2
  exact ⟨rfl, unhide HK1⟩
end Go.Proofs.Ytehhpmfeaeabgac

/- Parts of bytes, and as a string; readPair, by its contract. -/
namespace Go.Proofs.Ytehhpmfeaeabgac
open Go.RowKit
set_option maxRecDepth 20000
attribute [local go_sem ↓] Go.wp_at_zero Go.wp_at_succ

theorem elem_u8 : Try.prog.elem 55 = 5 := by simp [Program.elem, Try.underlying55]
theorem size_u8 (W : World) : (sizeOf 5).run Try.prog W = .ok 1 W := by
  obtain ⟨i0, hi0, hz0, hz1, hz2⟩ := info_parts Try.info5
  simp [sizeOf, typeInfo, hi0, hz1]
theorem under_u8 : Try.prog.underlying 55 = some (.slice (Try.prog.elem 55)) := by rw [elem_u8]; exact Try.underlying55

/-- The bytes of a part lie where the part does. -/
theorem sliced_byt {w : World} {a : Option Addr} {bs : List UInt8} (h : Byt w a bs) {l k c : Nat} (hlk : l ≤ k) (hk : k ≤ bs.length) (hc : bs.length ≤ c) : Byt w (if c = l then a else a.map (·.add (l * 1))) ((bs.take k).drop l) := by
  intro hp
  have hp' : l < k := by simp at hp; omega
  rw [if_neg (by omega)]
  obtain ⟨g, o, rfl, hs⟩ := h (by omega)
  exact ⟨g, o + l, by simp [addr_add], (hs.take k).drop l⟩

/-- 'b[l:k]'. -/
theorem part_lh {w : World} {a : Option Addr} {bs : List UInt8} (h : Byt w a bs) (l k c n : Nat) (hlk : l ≤ k) (hk : k ≤ bs.length) (hc : bs.length ≤ c) (x y : Int) (hx : x = l) (hy : y = k) :
    ∃ a', (∀ W, (Instr.slice 55 (.slice a n c) (some (.int .i64 x)) (some (.int .i64 y)) none).run Try.prog W = .ok (.slice a' (k - l) (c - l)) W) ∧ Byt w a' ((bs.take k).drop l) := by
  refine ⟨_, fun W => ?_, sliced_byt h hlk hk hc⟩
  subst hx hy
  rw [run_slice_lh W 55 a n c under_u8 .i64 .i64 _ _ (by omega) (by omega) (by omega), elem_u8, size_u8]
  simp [Result.andThen, sliced]
/-- 'b[l:]'. -/
theorem part_l {w : World} {a : Option Addr} {bs : List UInt8} (h : Byt w a bs) (l c n : Nat) (hn : n = bs.length) (hl : l ≤ bs.length) (hc : bs.length ≤ c) (x : Int) (hx : x = l) :
    ∃ a', (∀ W, (Instr.slice 55 (.slice a n c) (some (.int .i64 x)) none none).run Try.prog W = .ok (.slice a' (n - l) (c - l)) W) ∧ Byt w a' (bs.drop l) := by
  refine ⟨_, fun W => ?_, by have := sliced_byt h hl (Nat.le_refl _) hc; rwa [List.take_length] at this⟩
  subst hx
  rw [run_slice_l W 55 a n c under_u8 .i64 _ (by omega) (by omega), elem_u8, size_u8]
  simp [Result.andThen, sliced]
/-- 'b[:k]'. -/
theorem part_h {w : World} {a : Option Addr} {bs : List UInt8} (h : Byt w a bs) (k c n : Nat) (hk : k ≤ bs.length) (hc : bs.length ≤ c) (x : Int) (hx : x = k) :
    ∃ a', (∀ W, (Instr.slice 55 (.slice a n c) none (some (.int .i64 x)) none).run Try.prog W = .ok (.slice a' k c) W) ∧ Byt w a' (bs.take k) := by
  refine ⟨_, fun W => ?_, sliced_byt h (Nat.zero_le _) hk hc⟩
  subst hx
  rw [run_slice_h W 55 a n c under_u8 .i64 _ (by omega) (by omega), elem_u8, size_u8]
  simp [Result.andThen, sliced]

/-- 'string(b)'. -/
theorem str_of {w : World} {a : Option Addr} {bs : List UInt8} (h : Byt w a bs) (n c : Nat) (hn : n = bs.length) (W : World) (hk : Kp [] w W) : (convert 55 9 (.slice a n c)).run Try.prog W = .ok (.string ⟨bs.toArray⟩) W := by
  subst hn
  have hb := h.kp0 hk
  cases a with
  | none =>
    have e : bs = [] := by
      rcases Nat.eq_zero_or_pos bs.length with e | e
      · exact List.eq_nil_of_length_eq_zero e
      · obtain ⟨g, o, e2, _⟩ := h e
        cases e2
    subst e
    show (convert 55 9 (.slice none 0 c)).run Try.prog W = _
    rw [run_convert_bytes_string W 55 9 5 none 0 c Try.underlying55 Try.underlying5 Try.underlying9]
    rfl
  | some ad =>
    refine run_convert_bytes_back W 55 9 5 ad c bs Try.underlying55 Try.underlying5 Try.underlying9 (fun j hj => ?_)
    obtain ⟨g, o, e, hs⟩ := hb (by omega)
    cases e
    rw [addr_add, hs j hj]
    simp [ub, List.getD_eq_getElem?_getD, List.getElem?_eq_getElem hj]

/-- What readPair tells: the pair, how many bytes, whether it is one. -/
def rd1 (bs : List UInt8) : Ver × Nat × Bool :=
  if bs.length < 2 then (dv, 0, false)
  else if ub bs 1 = 255 then (⟨ub bs 0, false, ByteArray.empty⟩, 2, true)
  else if bs.length < 2 + ub bs 1 then (dv, 0, false)
  else (⟨ub bs 0, true, ⟨((bs.take (2 + ub bs 1)).drop 2).toArray⟩⟩, 2 + ub bs 1, true)

theorem kp_set3 {w W : World} {u0 u1 u2 : Value} (h : Kp [] w W) : Kp [] w (((W.setCell ⟨w.heap.size, 0, none⟩ u0).setCell ⟨w.heap.size, 1, none⟩ u1).setCell ⟨w.heap.size, 2, none⟩ u2) :=
  ((h.setCell (.inr (Nat.le_refl _)) _).setCell (.inr (Nat.le_refl _)) _).setCell (.inr (Nat.le_refl _)) _
def Rd1End (R : Ver × Nat × Bool) (w : World) (e : Ending) (w' : World) : Prop :=
  e = .returned (.tuple #[.agg #[.int .i64 R.1.a, .bool R.1.t, .string R.1.s], .int .i64 R.2.1, .bool R.2.2]) ∧ Kp [] w w'

set_option maxHeartbeats 1000000 in
theorem readPair23 (a : Option Addr) (n c : Nat) (bs : List UInt8) (w : World) (h : Byt w a bs) (hn : n = bs.length) (hc : n ≤ c) (hm : bs.length ≤ 10000) :
    Calls Try.prog 106 #[.slice a n c] w fun e w' => Rd1End (rd1 bs) w e w' := by
  by_cases h2 : bs.length < 2
  · have e1 : rd1 bs = (dv, 0, false) := by unfold rd1; rw [if_pos h2]
    rw [e1]
    have hn2 : n < 2 := by omega
    clear h e1 hn
    go_enter Try.func106, Try.ntmps106
    go_wp2_with fail
    exact bodyPost_ret (v := .tuple #[.agg #[.int .i64 0, .bool false, .string ByteArray.empty], .int .i64 0, .bool false]) (by simp [results, Try.results106, go_sem]; rfl) rfl ⟨rfl, (Kp.refl [] w).alloc _⟩
  · obtain ⟨g, o, rfl, hs⟩ := h (by omega)
    have q0 := hs 0 (by omega)
    have q1 := hs 1 (by omega)
    have hg : g < w.heap.size := World.block_lt_of_cell? w _ q0
    have u0 := ub_lt bs 0
    have u1 := ub_lt bs 1
    have HB := hide h
    have hn2 : ¬ n < 2 := by omega
    have i0 : (0 : Int) < (n : Int) := by omega
    have i1 : (1 : Int) < (n : Int) := by omega
    have j0 : 0 < n := by omega
    have j1 : 1 < n := by omega
    have HN := hide hn
    have HC := hide hc
    simp only [Nat.add_zero] at q0
    clear h hs hn hc
    by_cases h255 : ub bs 1 = 255
    · have e1 : rd1 bs = (⟨ub bs 0, false, ByteArray.empty⟩, 2, true) := by unfold rd1; rw [if_neg h2, if_pos h255]
      rw [e1]
      rw [h255] at q1
      clear e1 h255 u1
      generalize ub bs 0 = x at *
      go_enter Try.func106, Try.ntmps106
      go_wp2_with fail
      go_quiet (fail)
      go_wp2_with fail
      exact bodyPost_ret (v := .tuple #[.agg #[.int .i64 x, .bool false, .string ByteArray.empty], .int .i64 2, .bool true]) (by simp [results, Try.results106, go_sem]; rfl) rfl ⟨rfl, kp_set3 (((Kp.refl [] w).alloc _).drewN _)⟩
    · by_cases hl : bs.length < 2 + ub bs 1
      · have e1 : rd1 bs = (dv, 0, false) := by unfold rd1; rw [if_neg h2, if_neg h255, if_pos hl]
        rw [e1]
        have k0 : (n : Int) < 2 + (ub bs 1 : Nat) := by have := unhide HN; omega
        have k1 : ¬ ((ub bs 1 : Nat) : Int) = 255 := by omega
        clear e1 h255 hl
        generalize ub bs 0 = x at *
        generalize ub bs 1 = l at *
        go_enter Try.func106, Try.ntmps106
        go_wp2_with fail
        go_quiet (fail)
        go_wp2_with fail
        exact bodyPost_ret (v := .tuple #[.agg #[.int .i64 0, .bool false, .string ByteArray.empty], .int .i64 0, .bool false]) (by simp [results, Try.results106, go_sem]; rfl) rfl ⟨rfl, kp_set3 (((Kp.refl [] w).alloc _).drewN _)⟩
      · have e1 : rd1 bs = (⟨ub bs 0, true, ⟨((bs.take (2 + ub bs 1)).drop 2).toArray⟩⟩, 2 + ub bs 1, true) := by unfold rd1; rw [if_neg h2, if_neg h255, if_neg hl]
        rw [e1]
        have k0 : ¬ (n : Int) < 2 + (ub bs 1 : Nat) := by have := unhide HN; omega
        have k1 : ¬ ((ub bs 1 : Nat) : Int) = 255 := by omega
        have k2 : 2 + ub bs 1 ≤ c := by have := unhide HN; have := unhide HC; omega
        obtain ⟨a2, hsl, hb2⟩ := part_lh (unhide HB) 2 (2 + ub bs 1) c n (by omega) (by omega) (by have := unhide HN; have := unhide HC; omega) 2 (2 + (ub bs 1 : Nat)) rfl (by omega)
        have e2 : 2 + ub bs 1 - 2 = ub bs 1 := by omega
        rw [e2] at hsl
        have hl2 : ub bs 1 = ((bs.take (2 + ub bs 1)).drop 2).length := by simp; omega
        have hcv := fun m => str_of hb2 (ub bs 1) (c - 2) hl2 ((w.alloc (.cells #[.int .i64 0, .bool false, .string ⟨#[]⟩] 79)).drewN m) (((Kp.refl [] w).alloc _).drewN m)
        clear e1 e2 h255 hl hl2 hb2
        generalize (bs.take (2 + ub bs 1)).drop 2 = sb at *
        generalize ub bs 0 = x at *
        generalize ub bs 1 = l at *
        go_enter Try.func106, Try.ntmps106
        go_wp2_with fail
        go_quiet (fail)
        go_wp2_with fail
        exact bodyPost_ret (v := .tuple #[.agg #[.int .i64 x, .bool true, .string ⟨sb.toArray⟩], .int .i64 (2 + l : Nat), .bool true]) (by simp [results, Try.results106, go_sem]) rfl ⟨rfl, (kp_set3 (((Kp.refl [] w).alloc _).drewN _)).alloc _⟩
end Go.Proofs.Ytehhpmfeaeabgac

/- A log's memory; New, Len, Mend and Bytes of a log, by their contracts. -/
namespace Go.Proofs.Ytehhpmfeaeabgac
open Go.RowKit
set_option maxRecDepth 20000
attribute [local go_sem ↓] Go.wp_at_zero Go.wp_at_succ

/-- A log's memory: the box gb holds its bytes, how many of them are whole commits, and how many commits; F: all blocks that are the log's own. -/
structure LgL (B : Nat) (w : World) (gb : Nat) (F : List Nat) (a : Option Addr) (cap : Nat) (cs : List (List Ver)) (torn : List UInt8) : Prop where
  box : w.heap[gb]? = some (.cells #[.slice a (lb cs ++ torn).length cap, .int .i64 (lb cs).length, .int .i64 cs.length] 133 (0, 0))
  own : OwnU B w a cap (lb cs ++ torn)
  ne : gb ∉ ob a
  gF : gb ∈ F
  aF : ∀ x, x ∈ ob a → x ∈ F
  lo : ∀ x, x ∈ F → B ≤ x ∧ x < w.heap.size
  inv : LInv cs
  tl : torn.length ≤ 114
  hB : B ≤ w.heap.size
def Lg (B : Nat) (w : World) (gb : Nat) (F : List Nat) (cs : List (List Ver)) (torn : List UInt8) : Prop := ∃ a cap, LgL B w gb F a cap cs torn

section
variable {B : Nat} {w w' : World} {gb : Nat} {F S : List Nat} {a : Option Addr} {cap : Nat} {cs : List (List Ver)} {torn : List UInt8}
theorem LgL.kp (h : LgL B w gb F a cap cs torn) (hk : Kp S w w') (hS : ∀ x, x ∈ F → x ∉ S) : LgL B w' gb F a cap cs torn :=
  ⟨by rw [hk.block gb (h.lo gb h.gF).2 (hS _ h.gF)]; exact h.box, h.own.kp hk (fun x hx => hS x (h.aF x hx)), h.ne, h.gF, h.aF, fun x hx => ⟨(h.lo x hx).1, Nat.lt_of_lt_of_le (h.lo x hx).2 hk.size⟩, h.inv, h.tl, Nat.le_trans h.hB hk.size⟩
theorem Lg.kp (h : Lg B w gb F cs torn) (hk : Kp S w w') (hS : ∀ x, x ∈ F → x ∉ S) : Lg B w' gb F cs torn := by
  obtain ⟨a, cap, h⟩ := h
  exact ⟨a, cap, h.kp hk hS⟩
theorem Lg.kp0 (h : Lg B w gb F cs torn) (hk : Kp [] w w') : Lg B w' gb F cs torn := h.kp hk (fun _ _ => by simp)
theorem Lg.lo (h : Lg B w gb F cs torn) : ∀ x, x ∈ F → B ≤ x ∧ x < w.heap.size := by
  obtain ⟨a, cap, h⟩ := h
  exact h.lo
theorem Lg.inv (h : Lg B w gb F cs torn) : LInv cs := by
  obtain ⟨a, cap, h⟩ := h
  exact h.inv
theorem Lg.base {C : Nat} (h : Lg B w gb F cs torn) (hC : C ≤ B) : Lg C w gb F cs torn := by
  obtain ⟨a, cap, h⟩ := h
  exact ⟨a, cap, h.box, h.own.base hC, h.ne, h.gF, h.aF, fun x hx => ⟨Nat.le_trans hC (h.lo x hx).1, (h.lo x hx).2⟩, h.inv, h.tl, Nat.le_trans hC h.hB⟩
theorem LgL.c0 (h : LgL B w gb F a cap cs torn) : w.cell? ⟨gb, 0, none⟩ = some (.slice a (lb cs ++ torn).length cap) := cell_of_block h.box rfl
theorem LgL.c1 (h : LgL B w gb F a cap cs torn) : w.cell? ⟨gb, 1, none⟩ = some (.int .i64 (lb cs).length) := cell_of_block h.box rfl
theorem LgL.c2 (h : LgL B w gb F a cap cs torn) : w.cell? ⟨gb, 2, none⟩ = some (.int .i64 cs.length) := cell_of_block h.box rfl
theorem LgL.fz (h : LgL B w gb F a cap cs torn) (i : Nat) : w.frozen? ⟨gb, i, none⟩ = false := frozen_of_block i h.box
end

set_option maxHeartbeats 400000 in
theorem lnew (w : World) : Calls Try.prog 68 #[] w fun e w' => e = .returned (.pointer (some ⟨w.heap.size, 0, none⟩)) ∧ Lg w.heap.size w' w.heap.size [w.heap.size] [] [] ∧ Kp [] w w' := by
  go_enter Try.func68, Try.ntmps68
  go_wp2
  go_ret
  refine ⟨rfl, ⟨none, 0, ?_, ownU_nil _ _, by simp [ob], by simp, by simp [ob], fun x hx => ?_, linv_nil, by simp, by simp⟩, (Kp.refl [] w).alloc _⟩
  · exact heap_alloc_new w _
  · simp at hx; subst hx; simp

/-- 'b[:k]' of a row begins where it begins. -/
theorem own_part {B : Nat} {w : World} {a : Option Addr} {cap : Nat} {bs : List UInt8} (h : OwnU B w a cap bs) (k n : Nat) (hk : k ≤ bs.length) (x : Int) (hx : x = k) (W : World) :
    (Instr.slice 55 (.slice a n cap) none (some (.int .i64 x)) none).run Try.prog W = .ok (.slice a k cap) W := by
  subst hx
  have hc := h.le
  rw [run_slice_h W 55 a n cap under_u8 .i64 _ (by omega) (by omega), elem_u8, size_u8]
  rcases h.cases with ⟨rfl, rfl, rfl⟩ | ⟨g, rfl, _⟩
  · simp [Result.andThen, sliced]
  · simp [Result.andThen, sliced, addr_add]

theorem LgL.mend {B : Nat} {w : World} {gb : Nat} {F : List Nat} {a : Option Addr} {cap : Nat} {cs : List (List Ver)} {torn : List UInt8} (h : LgL B w gb F a cap cs torn) :
    LgL B (w.setCell ⟨gb, 0, none⟩ (.slice a (lb cs).length cap)) gb F a cap cs [] ∧ Kp F w (w.setCell ⟨gb, 0, none⟩ (.slice a (lb cs).length cap)) := by
  have hk : Kp [gb] w (w.setCell ⟨gb, 0, none⟩ (.slice a (lb cs).length cap)) := (Kp.refl [gb] w).setCell (.inl (by simp)) _
  refine ⟨⟨?_, ?_, h.ne, h.gF, h.aF, fun x hx => ⟨(h.lo x hx).1, Nat.lt_of_lt_of_le (h.lo x hx).2 hk.size⟩, h.inv, by simp, Nat.le_trans h.hB hk.size⟩, hk.mono (fun x hx => .inl (by rw [List.mem_singleton.1 hx]; exact h.gF))⟩
  · rw [heap_setCell_at 0 _ h.box, List.append_nil]
    rfl
  · have := (h.own.take (lb cs).length (by simp)).kp hk (fun x hx e => h.ne (by rw [← List.mem_singleton.1 e]; exact hx))
    rw [List.take_left] at this
    rw [List.append_nil]
    exact this

set_option maxHeartbeats 400000 in
theorem lmend {B gb : Nat} {F : List Nat} {cs : List (List Ver)} {torn : List UInt8} (w : World) (h : Lg B w gb F cs torn) :
    Calls Try.prog 71 #[.pointer (some ⟨gb, 0, none⟩)] w fun e w' => e = .returned (.int .i64 torn.length) ∧ Lg B w' gb F cs [] ∧ Kp F w w' := by
  obtain ⟨a, cap, h⟩ := h
  have q0 := h.c0
  have q1 := h.c1
  have f0 := h.fz 0
  have hsl := own_part h.own (lb cs).length (lb cs ++ torn).length (by simp) _ rfl
  have hb := h.inv.b3000
  have ht := h.tl
  have hl : (lb cs ++ torn).length = (lb cs).length + torn.length := by simp
  have HM : Hid (∀ W, Kp [] w W → Lg B (W.setCell ⟨gb, 0, none⟩ (.slice a (lb cs).length cap)) gb F cs [] ∧ Kp F w (W.setCell ⟨gb, 0, none⟩ (.slice a (lb cs).length cap))) := fun W hW => by
    obtain ⟨h1, h2⟩ := (h.kp hW (fun _ _ => by simp)).mend
    exact ⟨⟨a, cap, h1⟩, (hW.mono (fun x hx => by simp at hx)).trans h2 (fun x hx => .inl hx)⟩
  rw [hl] at q0 hsl
  clear h hl
  generalize (lb cs).length = n at *
  generalize hT : torn.length = t at *
  clear hT
  go_enter Try.func71, Try.ntmps71
  go_wp2_with fail
  go_quiet (fail)
  go_wp2_with fail
  go_region
  go_wp2_with fail
  go_ret
  obtain ⟨h1, h2⟩ := unhide HM _ ((Kp.refl [] w).drewN _).drew
  exact ⟨ret_int (by omega), h1, h2⟩

/-- A copy of bytes. -/
def BtEnd (bs : List UInt8) (w : World) (e : Ending) (w' : World) : Prop := ∃ a n cap, e = .returned (.slice a n cap) ∧ n = bs.length ∧ n ≤ cap ∧ Byt w' a bs ∧ Kp [] w w'

set_option maxHeartbeats 400000 in
theorem clone45 {B : Nat} {a : Option Addr} {cap : Nat} {bs : List UInt8} (w : World) (h : OwnU B w a cap bs) (hm : bs.length ≤ 10000) :
    Calls Try.prog 87 #[.slice a bs.length cap] w fun e w' => BtEnd bs w e w' := by
  have hnil := fun wx a n c n' c' => Lib.run_eql_slice_nil (P := Try.prog) wx 55 5 a n c n' c' Try.underlying55
  rcases h.cases with ⟨rfl, rfl, rfl⟩ | ⟨g, rfl, _, _, _⟩
  · clear h
    go_enter Try.func87, Try.ntmps87
    go_wp2
    go_ret
    exact ⟨none, 0, 0, rfl, rfl, by simp, byt_nil _ _, Kp.refl _ _⟩
  · have HB := hide (h.byt.kp0 ((Kp.refl [] w).alloc (.cells #[] 5)))
    clear h
    go_enter Try.func87, Try.ntmps87
    go_wp2_with (at_builtin; refine wpList_app0 (by rfl) (.tmp 5) (.tmp 6) 55 rfl _ (.slice (some ⟨g, 0, none⟩) bs.length cap) bs rfl rfl ((unhide HB).src cap) (by omega) ?_; intro a2 c2 n2 w2 hn2 hc2 hb2 hk2)
    go_ret
    exact ⟨a2, n2, c2, rfl, unhide hn2, unhide hc2, unhide hb2, ((Kp.refl [] w).alloc _).trans0 (unhide hk2)⟩

set_option maxHeartbeats 400000 in
theorem lbytes {B gb : Nat} {F : List Nat} {cs : List (List Ver)} {torn : List UInt8} (w : World) (h : Lg B w gb F cs torn) :
    Calls Try.prog 65 #[.pointer (some ⟨gb, 0, none⟩)] w fun e w' => BtEnd (lb cs ++ torn) w e w' := by
  obtain ⟨a, cap, h⟩ := h
  have q0 := h.c0
  have hl : (lb cs ++ torn).length ≤ 10000 := by have := h.inv.b3000; have := h.tl; simp; omega
  have HC := hide (clone45 w h.own hl)
  clear h
  generalize lb cs ++ torn = bs at *
  go_enter Try.func65, Try.ntmps65
  go_wp2_with fail
  refine (unhide HC).mono ?_
  rintro e w2 ⟨a2, n2, c2, rfl, hn2, hc2, hb2, hk2⟩
  have HE : Hid (BtEnd bs w (.returned (.slice a2 n2 c2)) w2) := ⟨a2, n2, c2, rfl, hn2, hc2, hb2, hk2⟩
  clear hn2 hc2 hb2 hk2
  go_wp2
  go_ret
  exact HE
end Go.Proofs.Ytehhpmfeaeabgac

/- The document's bytes of a commit, by their contract. -/
namespace Go.Proofs.Ytehhpmfeaeabgac
open Go.RowKit
set_option maxRecDepth 20000
attribute [local go_sem ↓] Go.wp_at_zero Go.wp_at_succ

theorem at12 {w w2 : World} {ga o k : Nat} {ps : List Ver} {t : Bool} (hs : SlA w ga o ps) (hk : Kp [] w w2) (hlt : k < ps.length) (ht : vt ps k = t) :
    w2.cell? ⟨ga, o + k * 3 + 1, none⟩ = some (.bool t) ∧ w2.cell? ⟨ga, o + k * 3 + 1 + 1, none⟩ = some (.string (vb ps k)) := by
  have h := hs.kp hk (by simp)
  subst ht
  exact ⟨h.at1 k hlt, h.at2 k hlt⟩
theorem Row.src {w0 w : World} {g cap n : Nat} {bs : List UInt8} (h : Row w0 w g cap bs) (hn : n = bs.length) : Src Try.prog 1 55 (.slice (some ⟨g, 0, none⟩) n cap) bs.length (bcells bs) w := by
  subst hn
  exact h.byt.src cap

/-- '[]byte(s)': the new row's bytes. -/
theorem conv_byt (w : World) (s : ByteArray) (cap : Nat) (fr : Nat × Nat) : Byt (w.drew.alloc (.cells (bytesRow s cap) 5 fr)) (some ⟨w.heap.size, 0, none⟩) s.data.toList := fun _ => by
  refine ⟨w.heap.size, 0, rfl, fun j hj => ?_⟩
  have hj' : j < s.data.size := by simpa using hj
  have := World.cell?_alloc_mark w.drew (bytesRow s cap) 5 fr j
  rw [bytesRow_at s cap j hj'] at this
  rw [Nat.zero_add]
  have e : s.data[j]? = some s.data[j] := Array.getElem?_eq_getElem hj'
  simpa [ub, List.getD_eq_getElem?_getD, e] using this
theorem conv_src (w : World) (s : ByteArray) (n cap c : Nat) (fr : Nat × Nat) (hn : n = s.size) : Src Try.prog 1 55 (.slice (some ⟨w.heap.size, 0, none⟩) n c) s.data.toList.length (bcells s.data.toList) (w.drew.alloc (.cells (bytesRow s cap) 5 fr)) := by
  subst hn
  have := (conv_byt w s cap fr).src c
  rw [bytes_size] at this ⊢
  exact this

set_option maxHeartbeats 1000000 in
theorem bytesOf11 (a : Option Addr) (c : Nat) (ps : List Ver) (w : World) (h : Prs w a ps) (hp : pf (-1) ps = 0) :
    Calls Try.prog 66 #[.slice a ps.length c] w fun e w' => ApEnd w (enc ps) e w' := by
  have hcv := fun (W : World) (s : ByteArray) => run_bytes_of_string (P := Try.prog) W 9 55 5 s Try.underlying9 Try.underlying55 Try.underlying5
  have h8 := pf_len8 hp
  have h112 := pbs_len112 hp
  have HP := hide h
  have HS := hide (pf_str hp)
  have HPF := hide hp
  clear h hp
  go_enter Try.func66, Try.ntmps66
  go_wp2_with fail
  go_loopw [3, 4] (fun b i wr => ∃ k g cap n : Nat, k ≤ ps.length ∧ b = .slice (some ⟨g, 0, none⟩) n cap ∧ i = .int .i64 k ∧ Hid (EnI w [b8 ps.length] ps k g cap n wr)) (fun _ i _ => ps.length - (intOf i).toNat)
  case atStart => exact ⟨0, w.heap.size, 1, 1, by omega, rfl, rfl, enI_start w w (Kp.refl _ _) ps [b8 ps.length] _ (by simp [bcells, ← mod_b8]; omega) (by simp) _ _ rfl rfl⟩
  case round =>
    obtain ⟨k, g, cap, n, hk, rfl, rfl, HE⟩ := hrel
    by_cases hlt : k < ps.length
    · obtain ⟨ga, o, rfl, hs⟩ := (unhide HP).mem (by omega)
      have hs2 := hs.kp (unhide HE).row.kp (by simp)
      have q0 := hs2.at0 k hlt
      have hbl : (vb ps k).size ≤ 12 := unhide HS k hlt
      have htl : (pbs (ps.take k)).length ≤ 112 := by have := pbs_take_le ps k; omega
      have i0 : (0 : Int) ≤ (k : Int) := by omega
      have i1 : (k : Int) < (ps.length : Int) := by omega
      have HS1 := hide hs
      clear hs hs2
      cases ht : vt ps k with
      | false =>
        have HT := hide ht
        clear ht
        go_wp2_with (first | (at_builtin; refine wpList_app (by rfl) (.tmp 15) (.tmp 22) 55 rfl ((unhide HE).row.kp0 ((Kp.refl [] _).alloc _)) n (unhide HE).len (.slice (some ⟨wr.heap.size, 0, none⟩) 1 1) [b8 (va ps k)] rfl rfl (one_src _ rfl (b8 (va ps k)) _ (mod_b8 (va ps k))) (by simp; omega) ?_; intro g2 c2 n2 w2 hn2 hr2 hk2 hg2; obtain ⟨r1, r2⟩ := at12 (unhide HS1) (unhide hr2).kp hlt (unhide HT)) | (at_builtin; refine wpList_app (by rfl) (.tmp 50) (.tmp 51) 55 rfl ((unhide hr2).kp0 ((Kp.refl [] _).alloc _)) n2 (unhide hn2) (.slice (some ⟨w2.heap.size, 0, none⟩) 1 1) [255] rfl rfl (one_src _ rfl 255 _ rfl) (by simp; omega) ?_; intro g3 c3 n3 w3 hn3 hr3 hk3 hg3; clear r1 r2))
        refine ⟨⟨k + 1, g3, c3, n3, by omega, rfl, by go_num, EnI.next hlt ?_ ?_⟩, by simp [intOf]; omega⟩
        · rw [unhide hn3]; simp [pb, unhide HT]
        · have := unhide hr3; simpa [pb, unhide HT] using this
      | true =>
        have HT := hide ht
        clear ht
        go_wp2_with (first | (at_builtin; refine wpList_app (by rfl) (.tmp 15) (.tmp 22) 55 rfl ((unhide HE).row.kp0 ((Kp.refl [] _).alloc _)) n (unhide HE).len (.slice (some ⟨wr.heap.size, 0, none⟩) 1 1) [b8 (va ps k)] rfl rfl (one_src _ rfl (b8 (va ps k)) _ (mod_b8 (va ps k))) (by simp; omega) ?_; intro g2 c2 n2 w2 hn2 hr2 hk2 hg2; obtain ⟨r1, r2⟩ := at12 (unhide HS1) (unhide hr2).kp hlt (unhide HT)) | (at_builtin; refine wpList_app (by rfl) (.tmp 30) (.tmp 39) 55 rfl ((unhide hr2).kp0 ((Kp.refl [] _).alloc _)) n2 (unhide hn2) (.slice (some ⟨w2.heap.size, 0, none⟩) 1 1) [b8 (vb ps k).size] rfl rfl (one_src _ rfl (b8 (vb ps k).size) _ (by rw [← mod_b8]; omega)) (by simp; omega) ?_; intro g3 c3 n3 w3 hn3 hr3 hk3 hg3; clear r1 r2; obtain ⟨_, r3⟩ := at12 (unhide HS1) (unhide hr3).kp hlt (unhide HT)) | (at_builtin; refine wpList_app (by rfl) (.tmp 41) (.tmp 48) 55 rfl ((unhide hr3).kp0 ((Kp.refl [] _).drew.alloc _)) n3 (unhide hn3) (.slice (some ⟨w3.heap.size, 0, none⟩) (vb ps k).size _) (vb ps k).data.toList rfl rfl (conv_src w3 (vb ps k) _ _ _ _ rfl) (by simp; omega) ?_; intro g4 c4 n4 w4 hn4 hr4 hk4 hg4; clear r3))
        refine ⟨⟨k + 1, g4, c4, n4, by omega, rfl, by go_num, EnI.next hlt ?_ ?_⟩, by simp [intOf]; omega⟩
        · rw [unhide hn4]; simp [pb, unhide HT]
        · have := unhide hr4; simpa [pb, unhide HT] using this
    · have e : k = ps.length := by omega
      subst e
      have hl := (unhide HE).last
      have hn0 : n ≤ 200 := by rw [hl.1]; simp; omega
      have HLL := hide hl
      clear hl
      go_wp2_with (at_builtin; refine wpList_app (by rfl) (.tmp 57) (.tmp 58) 55 rfl (row_lit w wr (unhide HLL).2.kp [b8 ((n : Int) + 1)] _ (by simp [bcells, ← mod_b8]; try omega) (by simp)) 1 rfl (.slice (some ⟨g, 0, none⟩) n cap) ([b8 ps.length] ++ pbs ps) rfl rfl (((unhide HLL).2.kp0 ((Kp.refl [] _).alloc _)).src (unhide HLL).1) (by simp; omega) ?_; intro g5 c5 n5 w5 hn5 hr5 hk5 hg5)
      go_ret
      have en : b8 ((n : Int) + 1) = b8 ((pbs ps).length + 2 : Nat) := by
        rw [(unhide HLL).1]; congr 1
      refine apEnd_mk ?_ ?_
      · rw [unhide hn5]; simp [enc]
      · have := unhide hr5
        rw [en] at this
        exact this
end Go.Proofs.Ytehhpmfeaeabgac

/- The document's roll of commits: its memory; Mend and Bytes, by their contracts. -/
namespace Go.Proofs.Ytehhpmfeaeabgac
open Go.RowKit
set_option maxRecDepth 20000
attribute [local go_sem ↓] Go.wp_at_zero Go.wp_at_succ

/-- A commit in memory: where its pairs lie, the room there, the pairs. -/
structure El where
  a : Option Addr
  c : Nat
  ps : List Ver
def eat (xs : List El) (k : Nat) : El := xs.getD k ⟨none, 0, []⟩
def ecells (xs : List El) : List Value := xs.map fun e => .slice e.a e.ps.length e.c
def cps (xs : List El) : List (List Ver) := xs.map El.ps
theorem ecells_length (xs : List El) : (ecells xs).length = xs.length := by simp [ecells]
theorem ecells_append (xs ys : List El) : ecells (xs ++ ys) = ecells xs ++ ecells ys := by simp [ecells]
theorem cps_length (xs : List El) : (cps xs).length = xs.length := by simp [cps]
theorem cps_append (xs ys : List El) : cps (xs ++ ys) = cps xs ++ cps ys := by simp [cps]
theorem ecells_at {xs : List El} {k : Nat} (h : k < xs.length) : (ecells xs)[k]? = some (.slice (eat xs k).a (eat xs k).ps.length (eat xs k).c) := by
  simp [ecells, eat, List.getD_eq_getElem?_getD, List.getElem?_eq_getElem h]
theorem eat_mem {xs : List El} {k : Nat} (h : k < xs.length) : eat xs k ∈ xs := by
  simp only [eat, List.getD_eq_getElem?_getD, List.getElem?_eq_getElem h, Option.getD_some]
  exact List.getElem_mem h
theorem cps_at {xs : List El} {k : Nat} (h : k < xs.length) : (cps xs).getD k [] = (eat xs k).ps := by
  simp [cps, eat, List.getD_eq_getElem?_getD, List.getElem?_eq_getElem h]

/-- A row of commits that a call owns since B. -/
def OwnE (B : Nat) (w : World) (a : Option Addr) (cap : Nat) (xs : List El) : Prop := w.ownsRow B 32 1 (.slice a xs.length cap) xs.length (ecells xs)
section
variable {B : Nat} {w w' : World} {a : Option Addr} {cap : Nat} {xs : List El}
theorem ownE_nil (B : Nat) (w : World) : OwnE B w none 0 [] := World.ownsRow_nil _ _ _ _
theorem OwnE.cases (h : OwnE B w a cap xs) : (a = none ∧ cap = 0 ∧ xs = []) ∨ ∃ g, a = some ⟨g, 0, none⟩ ∧ B ≤ g ∧ g < w.heap.size ∧ xs.length ≤ cap := by
  rcases h.2 with ⟨e, _⟩ | ⟨g, c, cur, e, h1, h2, h3, _⟩
  · simp only [Value.slice.injEq] at e
    exact .inl ⟨e.1, e.2.2, List.eq_nil_of_length_eq_zero e.2.1⟩
  · simp only [Value.slice.injEq, true_and] at e
    obtain ⟨rfl, rfl⟩ := e
    exact .inr ⟨g, rfl, h1, lt_of_block h2, h3⟩
theorem OwnE.lo (h : OwnE B w a cap xs) : ∀ x ∈ ob a, B ≤ x ∧ x < w.heap.size := by
  intro x hx
  rcases h.cases with ⟨rfl, _⟩ | ⟨g, rfl, h1, h2, _⟩
  · simp [ob] at hx
  · simp [ob] at hx; omega
theorem OwnE.own_block (h : OwnE B w a cap xs) {n : Nat} : ∀ g, (Value.slice a n cap).ownBlock = some g → g ∈ ob a := by
  intro g hg
  rcases h.cases with ⟨rfl, _⟩ | ⟨g', rfl, _⟩
  · simp [Value.ownBlock] at hg
  · have : g' = g := by simpa [Value.ownBlock] using hg
    subst this
    simp [ob]
theorem OwnE.kp {S : List Nat} (h : OwnE B w a cap xs) (hk : Kp S w w') (hS : ∀ x ∈ ob a, x ∉ S) : OwnE B w' a cap xs := own_kp h hk (fun g hg => hS g (h.own_block g hg))
theorem OwnE.kp0 (h : OwnE B w a cap xs) (hk : Kp [] w w') : OwnE B w' a cap xs := h.kp hk (fun _ _ => by simp)
theorem OwnE.base {C : Nat} (h : OwnE B w a cap xs) (hC : C ≤ B) : OwnE C w a cap xs := own_base h hC
theorem OwnE.le (h : OwnE B w a cap xs) : xs.length ≤ cap := by
  rcases h.cases with ⟨_, rfl, rfl⟩ | ⟨_, _, _, _, h⟩
  · simp
  · exact h
theorem OwnE.cell (h : OwnE B w a cap xs) {k : Nat} (hk : k < xs.length) : ∃ g, a = some ⟨g, 0, none⟩ ∧ w.cell? ⟨g, k, none⟩ = some (.slice (eat xs k).a (eat xs k).ps.length (eat xs k).c) := by
  rcases h.cases with ⟨_, _, rfl⟩ | ⟨g, rfl, _⟩
  · simp at hk
  · refine ⟨g, rfl, ?_⟩
    have := World.ownsRow.cellAt h k (by omega)
    rw [this, ecells_at hk]
theorem OwnE.take (h : OwnE B w a cap xs) (k : Nat) (hk : k ≤ xs.length) : OwnE B w a cap (xs.take k) := by
  have hl : (xs.take k).length = k := by simp; omega
  refine ⟨by rw [ecells_length]; omega, ?_⟩
  rcases h.2 with ⟨e, e2⟩ | ⟨g, c, cur, e, h1, h2, h3, h4, h5, h6⟩
  · have : k = 0 := by omega
    subst this
    simp only [Value.slice.injEq] at e
    exact .inl ⟨by simp [e.1, e.2.2], by simp⟩
  · simp only [Value.slice.injEq, true_and] at e
    obtain ⟨rfl, rfl⟩ := e
    refine .inr ⟨g, cap, cur, rfl, h1, h2, by omega, h4, h5, ?_⟩
    simp only [Nat.mul_one] at h6 ⊢
    have e2 : cur.toList.take k = (cur.toList.take xs.length).take k := by rw [List.take_take, Nat.min_eq_left hk]
    rw [hl, e2, h6]
    simp [ecells, List.map_take]
end

theorem slo_prs {w : World} {a : Option Addr} {ps : List Ver} (h : SlO w a ps) (hp : pf (-1) ps = 0) : Prs w a ps :=
  ⟨by have := pf_len8 hp; unfold maxLen; omega, fun k hk => by have := pf_str hp k hk; unfold maxLen; omega, h⟩
theorem SlO.kp {S : List Nat} {w w' : World} {a : Option Addr} {vs : List Ver} (h : SlO w a vs) (hk : Kp S w w') (hS : ∀ x ∈ ob a, x ∉ S) : SlO w' a vs := fun hp => by
  obtain ⟨g, o, rfl, hs⟩ := h hp
  exact ⟨g, o, rfl, hs.kp hk (hS g (by simp [ob]))⟩

/-- A roll's memory: the box rb holds the commits and what is torn; G: all blocks that are its own. -/
structure RlL (B : Nat) (w : World) (rb : Nat) (G : List Nat) (aL : Option Addr) (capL : Nat) (xs : List El) (aT : Option Addr) (cT : Nat) (torn : List UInt8) : Prop where
  box : w.heap[rb]? = some (.cells #[.slice aL xs.length capL, .slice aT torn.length cT] 57 (0, 0))
  own : OwnE B w aL capL xs
  els : ∀ e ∈ xs, SlO w e.a e.ps ∧ ∀ x ∈ ob e.a, x ∈ G ∧ x ≠ rb ∧ x ∉ ob aL
  tb : Byt w aT torn
  tn : torn = [] → aT = none ∧ cT = 0
  tG : ∀ x ∈ ob aT, x ∈ G ∧ x ≠ rb
  ne : rb ∉ ob aL
  rG : rb ∈ G
  aG : ∀ x ∈ ob aL, x ∈ G
  lo : ∀ x ∈ G, B ≤ x ∧ x < w.heap.size
  inv : LInv (cps xs)
  tl : torn.length ≤ 114
  hB : B ≤ w.heap.size
def Rl (B : Nat) (w : World) (rb : Nat) (G : List Nat) (cs : List (List Ver)) (torn : List UInt8) : Prop := ∃ aL capL xs aT cT, RlL B w rb G aL capL xs aT cT torn ∧ cs = cps xs

section
variable {B : Nat} {w w' : World} {rb : Nat} {G S : List Nat} {aL : Option Addr} {capL : Nat} {xs : List El} {aT : Option Addr} {cT : Nat} {torn : List UInt8} {cs : List (List Ver)}
theorem Byt.kpo {bs : List UInt8} {a : Option Addr} (h : Byt w a bs) (hk : Kp S w w') (hS : ∀ x ∈ ob a, x ∉ S) : Byt w' a bs := h.kp hk (fun g o e => hS g (by subst e; simp [ob]))
theorem RlL.kp (h : RlL B w rb G aL capL xs aT cT torn) (hk : Kp S w w') (hS : ∀ x, x ∈ G → x ∉ S) : RlL B w' rb G aL capL xs aT cT torn :=
  ⟨by rw [hk.block rb (h.lo rb h.rG).2 (hS _ h.rG)]; exact h.box, h.own.kp hk (fun x hx => hS x (h.aG x hx)), fun e he => ⟨(h.els e he).1.kp hk (fun x hx => hS x ((h.els e he).2 x hx).1), (h.els e he).2⟩, h.tb.kpo hk (fun x hx => hS x (h.tG x hx).1), h.tn, h.tG, h.ne, h.rG, h.aG, fun x hx => ⟨(h.lo x hx).1, Nat.lt_of_lt_of_le (h.lo x hx).2 hk.size⟩, h.inv, h.tl, Nat.le_trans h.hB hk.size⟩
theorem Rl.kp (h : Rl B w rb G cs torn) (hk : Kp S w w') (hS : ∀ x, x ∈ G → x ∉ S) : Rl B w' rb G cs torn := by
  obtain ⟨aL, capL, xs, aT, cT, h, e⟩ := h
  exact ⟨aL, capL, xs, aT, cT, h.kp hk hS, e⟩
theorem Rl.kp0 (h : Rl B w rb G cs torn) (hk : Kp [] w w') : Rl B w' rb G cs torn := h.kp hk (fun _ _ => by simp)
theorem Rl.lo (h : Rl B w rb G cs torn) : ∀ x, x ∈ G → B ≤ x ∧ x < w.heap.size := by
  obtain ⟨aL, capL, xs, aT, cT, h, e⟩ := h
  exact h.lo
theorem Rl.inv (h : Rl B w rb G cs torn) : LInv cs := by
  obtain ⟨aL, capL, xs, aT, cT, h, e⟩ := h
  subst e
  exact h.inv
theorem Rl.base {C : Nat} (h : Rl B w rb G cs torn) (hC : C ≤ B) : Rl C w rb G cs torn := by
  obtain ⟨aL, capL, xs, aT, cT, h, e⟩ := h
  exact ⟨aL, capL, xs, aT, cT, ⟨h.box, h.own.base hC, h.els, h.tb, h.tn, h.tG, h.ne, h.rG, h.aG, fun x hx => ⟨Nat.le_trans hC (h.lo x hx).1, (h.lo x hx).2⟩, h.inv, h.tl, Nat.le_trans hC h.hB⟩, e⟩
theorem RlL.c0 (h : RlL B w rb G aL capL xs aT cT torn) : w.cell? ⟨rb, 0, none⟩ = some (.slice aL xs.length capL) := cell_of_block h.box rfl
theorem RlL.c1 (h : RlL B w rb G aL capL xs aT cT torn) : w.cell? ⟨rb, 1, none⟩ = some (.slice aT torn.length cT) := cell_of_block h.box rfl
theorem RlL.fz (h : RlL B w rb G aL capL xs aT cT torn) (i : Nat) : w.frozen? ⟨rb, i, none⟩ = false := frozen_of_block i h.box
end

/-- A roll just laid. -/
theorem rl_new (w : World) : Rl w.heap.size (w.alloc (.cells #[.slice none 0 0, .slice none 0 0] 57)) w.heap.size [w.heap.size] [] [] := by
  refine ⟨none, 0, [], none, 0, ⟨heap_alloc_new w _, ownE_nil _ _, fun e he => by simp at he, byt_nil _ _, fun _ => ⟨rfl, rfl⟩, by simp [ob], by simp [ob], by simp, by simp [ob], fun x hx => ?_, linv_nil, by simp, by simp⟩, rfl⟩
  simp at hx; subst hx; simp

theorem RlL.mend {B : Nat} {w : World} {rb : Nat} {G : List Nat} {aL : Option Addr} {capL : Nat} {xs : List El} {aT : Option Addr} {cT : Nat} {torn : List UInt8} (h : RlL B w rb G aL capL xs aT cT torn) :
    RlL B (w.setCell ⟨rb, 1, none⟩ (.slice none 0 0)) rb G aL capL xs none 0 [] ∧ Kp G w (w.setCell ⟨rb, 1, none⟩ (.slice none 0 0)) := by
  have hk : Kp [rb] w (w.setCell ⟨rb, 1, none⟩ (.slice none 0 0)) := (Kp.refl [rb] w).setCell (.inl (by simp)) _
  refine ⟨⟨?_, ?_, fun e he => ⟨?_, (h.els e he).2⟩, byt_nil _ _, fun _ => ⟨rfl, rfl⟩, by simp [ob], h.ne, h.rG, h.aG, fun x hx => ⟨(h.lo x hx).1, Nat.lt_of_lt_of_le (h.lo x hx).2 hk.size⟩, h.inv, by simp, Nat.le_trans h.hB hk.size⟩, hk.mono (fun x hx => .inl (by rw [List.mem_singleton.1 hx]; exact h.rG))⟩
  · rw [heap_setCell_at 1 _ h.box]; rfl
  · exact h.own.kp hk (fun x hx e => h.ne (by rw [← List.mem_singleton.1 e]; exact hx))
  · exact (h.els e he).1.kp hk (fun x hx e2 => ((h.els e he).2 x hx).2.1 (List.mem_singleton.1 e2))

set_option maxHeartbeats 400000 in
theorem rmend44 {B rb : Nat} {G : List Nat} {cs : List (List Ver)} {torn : List UInt8} (w : World) (h : Rl B w rb G cs torn) :
    Calls Try.prog 81 #[.pointer (some ⟨rb, 0, none⟩)] w fun e w' => e = .returned (.int .i64 torn.length) ∧ Rl B w' rb G cs [] ∧ Kp G w w' := by
  obtain ⟨aL, capL, xs, aT, cT, h, e⟩ := h
  have q1 := h.c1
  have f1 := h.fz 1
  have HM := hide h.mend
  have hT := h.tl
  have HE := hide e
  clear h e
  generalize torn.length = t at *
  go_enter Try.func81, Try.ntmps81
  go_wp2_with fail
  go_ret
  exact ⟨rfl, ⟨aL, capL, xs, none, 0, (unhide HM).1, unhide HE⟩, (unhide HM).2⟩

/-- At the head of a round of Bytes: the bytes of the first k commits. -/
structure RbI (w : World) (cs : List (List Ver)) (k : Nat) (a : Option Addr) (cap n : Nat) (wr : World) : Prop where
  len : n = (lb (cs.take k)).length
  own : OwnU w.heap.size wr a cap (lb (cs.take k))
  kp : Kp [] w wr
theorem RbI.next {w wr w2 w3 : World} {cs : List (List Ver)} {k : Nat} {a a3 : Option Addr} {cap n cap3 n3 : Nat} (h : RbI w cs k a cap n wr) (hk : k < cs.length) (hk2 : Kp [] wr w2) (hn : n3 = (lb (cs.take k) ++ enc (cs.getD k [])).length) (ho : OwnU w.heap.size w3 a3 cap3 (lb (cs.take k) ++ enc (cs.getD k [])))
    (hk3 : Kp (ob a) w2 w3) : RbI w cs (k + 1) a3 cap3 n3 w3 := by
  rw [← lb_take_succ hk] at hn ho
  exact ⟨hn, ho, (h.kp.trans0 hk2).trans hk3 (fun x hx => .inr (h.own.lo x hx).1)⟩

set_option maxHeartbeats 1000000 in
theorem rbytes24 {B rb : Nat} {G : List Nat} {cs : List (List Ver)} {torn : List UInt8} (w : World) (h : Rl B w rb G cs torn) :
    Calls Try.prog 33 #[.pointer (some ⟨rb, 0, none⟩)] w fun e w' => BtEnd (lb cs ++ torn) w e w' := by
  obtain ⟨aL, capL, xs, aT, cT, h, e⟩ := h
  have hlen : cs.length = xs.length := by rw [e, cps_length]
  have hn40 := h.inv.n40
  have hb3 := h.inv.b3000
  rw [← e] at hn40 hb3
  have htl := h.tl
  have HI := hide h.inv
  rw [← e] at HI
  have HE := hide e
  have HL := hide h
  have hx40 : xs.length ≤ 40 := by omega
  clear h e
  go_enter Try.func33, Try.ntmps33
  go_wp2_with fail
  go_loopw [3, 4] (fun o i wr => ∃ (k : Nat) (a : Option Addr) (cap n : Nat), k ≤ xs.length ∧ o = .slice a n cap ∧ i = .int .i64 k ∧ Hid (RbI w cs k a cap n wr)) (fun _ i _ => xs.length - (intOf i).toNat)
  case atStart => exact ⟨0, none, 0, 0, by omega, rfl, rfl, ⟨by simp [lb], by simpa [lb] using ownU_nil _ _, Kp.refl _ _⟩⟩
  case round =>
    obtain ⟨k, a, cap, n, hk, rfl, rfl, HR⟩ := hrel
    have q0 : wr.cell? ⟨rb, 0, none⟩ = some (.slice aL xs.length capL) := (unhide HR).kp.cell (by simp) (unhide HL).c0
    by_cases hlt : k < xs.length
    · obtain ⟨gL, rfl, hc⟩ := (unhide HL).own.cell hlt
      have q1 : wr.cell? ⟨gL, k, none⟩ = some (.slice (eat xs k).a (eat xs k).ps.length (eat xs k).c) := (unhide HR).kp.cell (by simp) hc
      have q1' : wr.cell? ⟨gL, 0 + k, none⟩ = some (.slice (eat xs k).a (eat xs k).ps.length (eat xs k).c) := by rw [Nat.zero_add]; exact q1
      have i0 : (0 : Int) ≤ (k : Int) := by omega
      have i1 : (k : Int) < (xs.length : Int) := by omega
      have hcs : cs.getD k [] = (eat xs k).ps := by rw [unhide HE, cps_at hlt]
      have hpf : pf (-1) (eat xs k).ps = 0 := by rw [← hcs]; exact (unhide HI).at_ (by omega)
      have hpr := slo_prs (((unhide HL).els _ (eat_mem hlt)).1.kp0 (unhide HR).kp) hpf
      have HB := hide (bytesOf11 (eat xs k).a (eat xs k).c (eat xs k).ps wr hpr hpf)
      have hel := enc_le hpf
      have HC := hide hcs
      have htk := lb_take_le cs k
      clear hc hcs hpf hpr
      go_wp2_with fail
      refine (unhide HB).mono ?_
      rintro e w2 ⟨g2, c2, n2, rfl, hn2, hr2⟩
      have HN2 := hide hn2
      have HR2 := hide hr2
      clear hn2 hr2 q0 q1 q1' HB
      go_wp2_with (at_builtin; refine wpList_appx (by rfl) (.tmp 14) (.tmp 22) 55 rfl ((unhide HR).own.kp0 (unhide HR2).kp) (Nat.le_trans (unhide HR).kp.size (unhide HR2).kp.size) n (unhide HR).len (.slice (some ⟨g2, 0, none⟩) n2 c2) (enc (eat xs k).ps) rfl rfl ((unhide HR2).src (unhide HN2)) (by omega) ?_; intro a3 c3 n3 w3 hn3 ho3 hk3 hx3)
      rw [← unhide HC] at hn3 ho3
      exact ⟨⟨k + 1, a3, c3, n3, by omega, rfl, by go_num, (unhide HR).next (by omega) (unhide HR2).kp (unhide hn3) (unhide ho3) (unhide hk3)⟩, by simp [intOf]; omega⟩
    · have e : k = cs.length := by omega
      have r1 : wr.cell? ⟨rb, 1, none⟩ = some (.slice aT torn.length cT) := (unhide HR).kp.cell (by simp) (unhide HL).c1
      have hA : n = (lb cs).length ∧ OwnU w.heap.size wr a cap (lb cs) := by
        have h1 := (unhide HR).len
        have h2 := (unhide HR).own
        rw [e, List.take_length] at h1 h2
        exact ⟨h1, h2⟩
      have HA := hide hA
      clear hA e
      go_wp2_with (at_builtin; refine wpList_appx (by rfl) (.tmp 24) (.tmp 28) 55 rfl (unhide HA).2 (unhide HR).kp.size n (unhide HA).1 (.slice aT torn.length cT) torn rfl rfl (((unhide HL).tb.kp0 (unhide HR).kp).src cT) (by omega) ?_; intro a3 c3 n3 w3 hn3 ho3 hk3 hx3)
      go_ret
      exact ⟨a3, n3, c3, rfl, unhide hn3, by rw [unhide hn3]; exact (unhide ho3).le, (unhide ho3).byt, (unhide HR).kp.trans (unhide hk3) (fun x hx => .inr ((unhide HA).2.lo x hx).1)⟩
end Go.Proofs.Ytehhpmfeaeabgac

/- Put and Tear of the document's roll, by their contracts. -/
namespace Go.Proofs.Ytehhpmfeaeabgac
open Go.RowKit
set_option maxRecDepth 20000
attribute [local go_sem ↓] Go.wp_at_zero Go.wp_at_succ

theorem Try.info32 : (Try.prog.info? 32).map (fun i => (i.zero, i.size, i.bytes)) = some (some (.slice none 0 0), 1, 24) := by kernel_rfl

/-- 'append(own, w...)' of no pairs and pairs. -/
theorem run_pairs_nil {w : World} {a2 : Option Addr} {ps : List Ver} (h : SlO w a2 ps) (hm : ps.length ≤ 1000) (c2 : Nat) (ty : TypeId) :
    ∃ a' c' w', (Builtin.append_ #[32, 32] ty #[.slice none 0 0, .slice a2 ps.length c2]).run Try.prog w = .ok (.slice a' ps.length c') w' ∧ SlO w' a' ps ∧ (∀ x ∈ ob a', w.heap.size ≤ x ∧ x < w'.heap.size) ∧ Kp [] w w' := by
  obtain ⟨i0, hi0, hz0, hz1, hz2⟩ := info_parts Try.info79
  by_cases hp : 0 < ps.length
  · obtain ⟨g, o, rfl, hs⟩ := h hp
    obtain ⟨g', cap', w', hr, h2, h3, h4, h5⟩ := run_append_lies (P := Try.prog) w 32 ty w.heap.size 79 i0 _ 3 32 Try.underlying32 hi0 hz0 hz1 hz2 rfl (by omega) (.slice none 0 0) 0 [] (World.ownsRow_nil _ _ _ _) ⟨g, o, none⟩ ps.length c2 (vcells ps) (vcells_length ps) hs.news (vcells_one ps) hp (by unfold maxLen; omega) (by omega) (Nat.le_refl _) _ rfl
    rw [Nat.zero_add] at hr
    rw [Nat.zero_add, List.nil_append] at h2
    refine ⟨_, _, w', hr, slo_own h2 rfl, fun x hx => ?_, (Kp.refl [] w).grown h3 (fun k hk => by simp [Value.ownBlock] at hk)⟩
    have e : x = g' := by simpa [ob] using hx
    subst e
    exact h2.lt x rfl
  · have e : ps = [] := List.eq_nil_of_length_eq_zero (by omega)
    subst e
    have hsrc : Src Try.prog i0.size 32 (.slice a2 0 c2) 0 [] w := by
      cases a2 with
      | none => exact Src.ofNil w Try.underlying32 c2
      | some ad => exact Src.ofSlice w Try.underlying32 ad 0 c2 [] (by simp) (by simp) (by simp)
    have hr := run_append_nothing (P := Try.prog) w 32 32 ty 79 i0 Try.underlying32 hi0 none 0 0 (Nat.le_refl _) (.slice a2 0 c2) hsrc
    exact ⟨none, 0, w, hr, fun h => by simp at h, by simp [ob], Kp.refl _ _⟩

theorem step_pairs_nil {ops : Array Oper} {o : Oper} {ac : Act} {w : World} {K : Act → World → Prop} {Q : Exit → Act → World → Prop} {E : Prop} (hgd : o.guard = none) (s x : Operand)
    (ho : o.op = .call { callee := .builtin .append, args := #[s, x], argTypes := #[32, 32] }) {a2 : Option Addr} {ps : List Ver} (c2 : Nat) (h : SlO w a2 ps) (hm : ps.length ≤ 1000)
    (hs : ac.eval s = .slice none 0 0) (hx : ac.eval x = .slice a2 ps.length c2)
    (k : ∀ a' c' w', Hid (SlO w' a' ps) → Hid (∀ x ∈ ob a', w.heap.size ≤ x ∧ x < w'.heap.size) → Hid (Kp [] w w') → K (ac.put o.dst (.slice a' ps.length c')) w') :
    if Region.wanted o (yielded ops ac.tmps) = true then Oper.wp Try.prog o ac w K Q else E := by
  have hw : Region.wanted o (yielded ops ac.tmps) = true := by simp [Region.wanted, hgd]
  obtain ⟨a', c', w', hr, h1, h2, h3⟩ := run_pairs_nil h hm c2 o.type
  rw [if_pos hw]
  unfold Oper.wp execOp
  simp only [ho, resolve, invoke, builtin, Sem.run_bind, Sem.run_pure, Result.andThen_ok, List.map_toArray, List.map_cons, List.map_nil, hs, hx, hr]
  exact k a' c' w' h1 h2 h3

/-- 'append(r.L, l)'. -/
theorem run_appe {B : Nat} {w : World} {a : Option Addr} {cap : Nat} {xs : List El} (h : OwnE B w a cap xs) (hB : B ≤ w.heap.size) (e : El) (b : Nat) (hb : w.heap[b]? = some (.cells #[.slice e.a e.ps.length e.c] 32 (0, 0))) (hm : xs.length ≤ 1000) (ty : TypeId) :
    ∃ a' cap' w', (Builtin.append_ #[54, 54] ty #[.slice a xs.length cap, .slice (some ⟨b, 0, none⟩) 1 1]).run Try.prog w = .ok (.slice a' (xs.length + 1) cap') w' ∧
      OwnE B w' a' cap' (xs ++ [e]) ∧ Kp (ob a) w w' ∧ (∀ x ∈ ob a', x ∈ ob a ∨ w.heap.size ≤ x) := by
  obtain ⟨i0, hi0, hz0, hz1, hz2⟩ := info_parts Try.info32
  obtain ⟨g', cap', w', hr, h2, h3, h4, h5⟩ := run_append_lies (P := Try.prog) w 54 ty B 32 i0 _ 1 24 Try.underlying54 hi0 hz0 hz1 hz2 rfl (by omega) (.slice a xs.length cap) xs.length (ecells xs) h ⟨b, 0, none⟩ 1 1 [.slice e.a e.ps.length e.c] rfl (World.news_of_block hb) (by simp [Value.oneCell']) (by omega) (by unfold maxLen; omega) (by omega) hB _ rfl
  refine ⟨_, _, w', hr, ?_, (Kp.refl (ob a) w).grown h3 (fun k hk => .inl (h.own_block k hk)), fun x hx => ?_⟩
  · unfold OwnE
    rw [ecells_append, List.length_append]
    exact h2
  · have e2 : x = g' := by simpa [ob] using hx
    subst e2
    rcases h4 with q | q
    · exact .inl (h.own_block x q)
    · exact .inr (by omega)
theorem step_appe {ops : Array Oper} {o : Oper} {ac : Act} {w : World} {K : Act → World → Prop} {Q : Exit → Act → World → Prop} {E : Prop} (hgd : o.guard = none) (s x : Operand)
    (ho : o.op = .call { callee := .builtin .append, args := #[s, x], argTypes := #[54, 54] }) {B : Nat} {a : Option Addr} {cap : Nat} {xs : List El} (h : OwnE B w a cap xs) (hB : B ≤ w.heap.size) (e : El) (b : Nat) (hb : w.heap[b]? = some (.cells #[.slice e.a e.ps.length e.c] 32 (0, 0))) (hm : xs.length ≤ 1000)
    (hs : ac.eval s = .slice a xs.length cap) (hx : ac.eval x = .slice (some ⟨b, 0, none⟩) 1 1)
    (k : ∀ a' cap' w', Hid (OwnE B w' a' cap' (xs ++ [e])) → Hid (Kp (ob a) w w') → Hid (∀ x ∈ ob a', x ∈ ob a ∨ w.heap.size ≤ x) → K (ac.put o.dst (.slice a' (xs.length + 1) cap')) w') :
    if Region.wanted o (yielded ops ac.tmps) = true then Oper.wp Try.prog o ac w K Q else E := by
  have hw : Region.wanted o (yielded ops ac.tmps) = true := by simp [Region.wanted, hgd]
  obtain ⟨a', c', w', hr, h1, h2, h3⟩ := run_appe h hB e b hb hm o.type
  rw [if_pos hw]
  unfold Oper.wp execOp
  simp only [ho, resolve, invoke, builtin, Sem.run_bind, Sem.run_pure, Result.andThen_ok, List.map_toArray, List.map_cons, List.map_nil, hs, hx, hr]
  exact k a' c' w' h1 h2 h3

/-- What a call that changes a roll leaves. -/
def RlTo (B : Nat) (w : World) (rb : Nat) (G : List Nat) (cs : List (List Ver)) (torn : List UInt8) (w' : World) : Prop := ∃ G', Rl B w' rb G' cs torn ∧ Kp G w w' ∧ ∀ x, x ∈ G' → x ∈ G ∨ w.heap.size ≤ x
theorem rlTo_same {B : Nat} {w w' : World} {rb : Nat} {G : List Nat} {cs : List (List Ver)} {torn : List UInt8} (h : Rl B w rb G cs torn) (hk : Kp [] w w') : RlTo B w rb G cs torn w' :=
  ⟨G, h.kp0 hk, hk.mono (fun x hx => by simp at hx), fun x hx => .inl hx⟩
theorem RlTo.trans {B : Nat} {w w1 w2 : World} {rb : Nat} {G : List Nat} {cs cs' : List (List Ver)} {torn torn' : List UInt8} (h : RlTo B w rb G cs torn w1) (k : ∀ G', Rl B w1 rb G' cs torn → RlTo B w1 rb G' cs' torn' w2) : RlTo B w rb G cs' torn' w2 := by
  obtain ⟨G1, h1, h2, h3⟩ := h
  obtain ⟨G2, k1, k2, k3⟩ := k G1 h1
  refine ⟨G2, k1, h2.trans k2 h3, fun x hx => ?_⟩
  rcases k3 x hx with e | e
  · exact h3 x e
  · exact .inr (Nat.le_trans h2.size e)

section
variable {B : Nat} {w W w4 : World} {rb : Nat} {G : List Nat} {aL a' : Option Addr} {capL cap' : Nat} {xs : List El} {aT : Option Addr} {cT : Nat}
theorem RlL.far (h : RlL B w rb G aL capL xs aT cT []) (hW : Kp [] w W) (hk : Kp (ob aL) W w4) :
    w4.heap[rb]? = some (.cells #[.slice aL xs.length capL, .slice aT ([] : List UInt8).length cT] 57 (0, 0)) := by
  rw [hk.block rb (Nat.lt_of_lt_of_le (h.lo rb h.rG).2 hW.size) h.ne, hW.block rb (h.lo rb h.rG).2 (by simp)]
  exact h.box
theorem RlL.far_cells (h : RlL B w rb G aL capL xs aT cT []) (hW : Kp [] w W) (hk : Kp (ob aL) W w4) : w4.cell? ⟨rb, 0, none⟩ = some (.slice aL xs.length capL) ∧ w4.frozen? ⟨rb, 0, none⟩ = false ∧ rb < w4.heap.size := by
  have hb := h.far hW hk
  exact ⟨cell_of_block hb rfl, frozen_of_block _ hb, lt_of_block hb⟩

theorem RlL.put (h : RlL B w rb G aL capL xs aT cT []) (hW : Kp [] w W) (e : El) (he : SlO W e.a e.ps) (hen : ∀ x ∈ ob e.a, w.heap.size ≤ x ∧ x < W.heap.size) (hk : Kp (ob aL) W w4) (ho : OwnE B w4 a' cap' (xs ++ [e])) (hn : ∀ x ∈ ob a', x ∈ ob aL ∨ W.heap.size ≤ x)
    (hc : lcode (cps xs) e.ps = 0) : RlTo B w rb G (cps xs ++ [e.ps]) [] (w4.setCell ⟨rb, 0, none⟩ (.slice a' (xs.length + 1) cap')) := by
  obtain ⟨rfl, rfl⟩ := h.tn rfl
  have hgl := (h.lo rb h.rG).2
  have hWs := hW.size
  have hk3 : Kp [rb] w4 (w4.setCell ⟨rb, 0, none⟩ (.slice a' (xs.length + 1) cap')) := (Kp.refl [rb] w4).setCell (.inl (by simp)) _
  have hne : rb ∉ ob a' := fun hm => by
    rcases hn rb hm with q | q
    · exact h.ne q
    · omega
  have hKG : Kp G w (w4.setCell ⟨rb, 0, none⟩ (.slice a' (xs.length + 1) cap')) := by
    have k1 : Kp G w w4 := (hW.mono (fun x hx => by simp at hx)).trans hk (fun x hx => .inl (h.aG x hx))
    exact k1.trans hk3 (fun x hx => .inl (by rw [List.mem_singleton.1 hx]; exact h.rG))
  refine ⟨G ++ ob e.a ++ ob a', ⟨a', cap', xs ++ [e], none, 0, ⟨?_, ?_, fun e0 he0 => ?_, byt_nil _ _, fun _ => ⟨rfl, rfl⟩, by simp [ob], hne, by simp [h.rG], fun x hx => by simp [hx], fun x hx => ?_, ?_, by simp, Nat.le_trans h.hB hKG.size⟩, ?_⟩, hKG, fun x hx => ?_⟩
  · rw [heap_setCell_at 0 _ (h.far hW hk)]
    simp
  · exact ho.kp hk3 (fun x hx q => hne (by rw [← List.mem_singleton.1 q]; exact hx))
  · rcases List.mem_append.1 he0 with q | q
    · obtain ⟨s1, s2⟩ := h.els e0 q
      refine ⟨((s1.kp0 hW).kp hk (fun x hx => (s2 x hx).2.2)).kp hk3 (fun x hx q2 => (s2 x hx).2.1 (List.mem_singleton.1 q2)), fun x hx => ⟨by simp [(s2 x hx).1], (s2 x hx).2.1, fun q2 => ?_⟩⟩
      rcases hn x q2 with q3 | q3
      · exact (s2 x hx).2.2 q3
      · have := (h.lo x (s2 x hx).1).2; omega
    · rw [List.mem_singleton.1 q]
      have haL : ∀ x ∈ ob e.a, x ∉ ob aL := fun x hx q2 => by
        have h1 := (hen x hx).1
        have h2 := (h.lo x (h.aG x q2)).2
        omega
      have hrb : ∀ x ∈ ob e.a, x ≠ rb := fun x hx q2 => by
        have h1 := (hen x hx).1
        omega
      refine ⟨(he.kp hk haL).kp hk3 (fun x hx q2 => hrb x hx (List.mem_singleton.1 q2)), fun x hx => ⟨by simp [hx], hrb x hx, fun q2 => ?_⟩⟩
      rcases hn x q2 with q3 | q3
      · exact haL x hx q3
      · have := (hen x hx).2; omega
  · have hs4 : W.heap.size ≤ (w4.setCell ⟨rb, 0, none⟩ (.slice a' (xs.length + 1) cap')).heap.size := Nat.le_trans hk.size hk3.size
    rcases List.mem_append.1 hx with q | q
    · rcases List.mem_append.1 q with q | q
      · exact ⟨(h.lo x q).1, Nat.lt_of_lt_of_le (h.lo x q).2 hKG.size⟩
      · have h1 := hen x q
        have := h.hB
        exact ⟨by omega, by omega⟩
    · have h1 := ho.lo x q
      exact ⟨h1.1, Nat.lt_of_lt_of_le h1.2 hk3.size⟩
  · rw [cps_append]
    exact h.inv.snoc hc
  · rw [cps_append]; rfl
  · rcases List.mem_append.1 hx with q | q
    · rcases List.mem_append.1 q with q | q
      · exact .inl q
      · exact .inr (hen x q).1
    · rcases hn x q with q3 | q3
      · exact .inl (h.aG x q3)
      · exact .inr (by omega)
end

set_option maxHeartbeats 2000000 in
theorem rput42 {B rb : Nat} {G : List Nat} {cs : List (List Ver)} (a2 : Option Addr) (c : Nat) (ps : List Ver) (w : World) (h : Rl B w rb G cs []) (hp : Prs w a2 ps) (hm : ps.length ≤ 1000) :
    Calls Try.prog 85 #[.pointer (some ⟨rb, 0, none⟩), .slice a2 ps.length c] w fun e w' => e = .returned (.int .i64 (lcode cs ps)) ∧ RlTo B w rb G (lput cs ps) [] w' := by
  have hinv := h.inv
  have hn40 := hinv.n40
  have hb3000 := hinv.b3000
  have HS := hide (fun w' (hk : Kp [] w w') => rlTo_same h hk)
  have HBY := hide (fun w' (hk : Kp [] w w') => rbytes24 w' (h.kp0 hk))
  obtain ⟨aL, capL, xs, aT, cT, h, e⟩ := h
  have hlen : cs.length = xs.length := by rw [e, cps_length]
  have HP := hide hp
  have HF := hide (pfault37 a2 c ps w hp hm)
  have HB := hide h
  have HE := hide e
  clear h hp e hinv
  by_cases hpf : pf (-1) ps = 0
  · have hel := enc_le hpf
    have HBO := hide (fun w' (hk : Kp [] w w') => bytesOf11 a2 c ps w' ((unhide HP).kp0 hk) hpf)
    have HPF := hide hpf
    by_cases h40 : 40 ≤ cs.length
    · have hc := lcode_full (cs := cs) hpf (.inl h40)
      rw [hc, show lput cs ps = cs by unfold lput; rw [hc]; simp]
      rw [hlen] at h40
      clear hc hpf
      go_enter Try.func85, Try.ntmps85
      go_wp2_with fail
      refine (unhide HF).mono ?_
      rintro e w1 ⟨rfl, hk1⟩
      rw [unhide HPF]
      have r0 : w1.cell? ⟨rb, 0, none⟩ = some (.slice aL xs.length capL) := hk1.cell (by simp) (unhide HB).c0
      have HK := hide hk1
      clear hk1
      generalize xs.length = C at *
      go_wp2_with fail
      go_ret
      exact ⟨rfl, unhide HS _ (unhide HK)⟩
    · by_cases hfull : 3000 < (lb cs).length + (enc ps).length
      · have hc := lcode_full (cs := cs) hpf (.inr hfull)
        rw [hc, show lput cs ps = cs by unfold lput; rw [hc]; simp]
        rw [hlen] at h40
        clear hc hpf
        go_enter Try.func85, Try.ntmps85
        go_wp2_with fail
        refine (unhide HF).mono ?_
        rintro e w1 ⟨rfl, hk1⟩
        rw [unhide HPF]
        have r0 : w1.cell? ⟨rb, 0, none⟩ = some (.slice aL xs.length capL) := hk1.cell (by simp) (unhide HB).c0
        have HK := hide hk1
        clear hk1
        generalize xs.length = C at *
        have f1 : ¬ (40 : Int) ≤ (C : Int) := by omega
        go_wp2_with fail
        refine (unhide HBY _ (unhide HK)).mono ?_
        rintro e w2 ⟨a3, n3, c3, rfl, hn3, hc3, hb3, hk3⟩
        have HK2 := hide ((unhide HK).trans0 hk3)
        rw [List.append_nil] at hn3
        rw [← hn3] at hfull hb3000
        clear hn3 hc3 hb3 hk3
        go_wp2_with fail
        refine (unhide HBO _ (unhide HK2)).mono ?_
        rintro e w3 ⟨g4, c4, n4, rfl, hn4, hr4⟩
        have HK3 := hide ((unhide HK2).trans0 hr4.kp)
        rw [← hn4] at hfull hel
        clear hn4 hr4
        have f2 : (3000 : Int) < (n3 : Int) + (n4 : Int) := by omega
        go_wp2_with fail
        go_ret
        exact ⟨rfl, unhide HS _ (unhide HK3)⟩
      · have hc := lcode_ok (cs := cs) hpf (fun q => q.elim h40 hfull)
        rw [hc, show lput cs ps = cs ++ [ps] by unfold lput; rw [hc]; simp]
        rw [hlen] at h40
        have HC := hide hc
        clear hc hpf
        go_enter Try.func85, Try.ntmps85
        go_wp2_with fail
        refine (unhide HF).mono ?_
        rintro e w1 ⟨rfl, hk1⟩
        rw [unhide HPF]
        have r0 : w1.cell? ⟨rb, 0, none⟩ = some (.slice aL xs.length capL) := hk1.cell (by simp) (unhide HB).c0
        have HK := hide hk1
        clear hk1
        obtain ⟨C, hC⟩ : ∃ C, xs.length = C := ⟨_, rfl⟩
        rw [hC] at h40 r0
        have f1 : ¬ (40 : Int) ≤ (C : Int) := by omega
        have HCC := hide hC
        clear hC hlen
        go_wp2_with fail
        refine (unhide HBY _ (unhide HK)).mono ?_
        rintro e w2 ⟨a3, n3, c3, rfl, hn3, hc3, hb3, hk3⟩
        have HK2 := hide ((unhide HK).trans0 hk3)
        rw [List.append_nil] at hn3
        rw [← hn3] at hfull hb3000
        clear hn3 hc3 hb3 hk3
        go_wp2_with fail
        refine (unhide HBO _ (unhide HK2)).mono ?_
        rintro e w3 ⟨g4, c4, n4, rfl, hn4, hr4⟩
        have HK3 := hide ((unhide HK2).trans0 hr4.kp)
        rw [← hn4] at hfull hel
        clear hn4 hr4 r0
        have f2 : ¬ (3000 : Int) < (n3 : Int) + (n4 : Int) := by omega
        have r0 : w3.cell? ⟨rb, 0, none⟩ = some (.slice aL C capL) := by rw [← unhide HCC]; exact (unhide HK3).cell (by simp) (unhide HB).c0
        have hB3 : B ≤ w3.heap.size := Nat.le_trans (unhide HB).hB (unhide HK3).size
        go_wp2_with fail
        go_region_law (first | (refine step_pairs_nil (by rfl) (.tmp 33) (.tmp 34) (by rfl) c (((unhide HP).kp0 (unhide HK3)).kp0 (Kp.refl [] _).drew).mem (by omega) (by rfl) (by rfl) ?_; intro a5 c5 w5 hs5 hx5 hk5; obtain ⟨t0, t1, t2⟩ := (unhide HB).far_cells (((unhide HK3).drew).trans0 (unhide hk5)) (Kp.refl _ _); rw [unhide HCC] at t0) | (refine step_appe (by rfl) (.tmp 32) (.tmp 36) (by rfl) (xs := xs) (((((unhide HB).own.kp0 (unhide HK3)).kp0 (Kp.refl [] _).drew).kp0 (unhide hk5)).kp0 ((Kp.refl [] _).alloc _)) (by have := (unhide hk5).size; simp at this; simp; omega) ⟨a5, c5, ps⟩ w5.heap.size (heap_alloc_new w5 _) (by have := unhide HCC; omega) (by rw [unhide HCC]; rfl) (by rfl) ?_; intro a6 c6 w6 ho6 hk6 hx6; obtain ⟨u0, u1, u2⟩ := (unhide HB).far_cells ((((unhide HK3).drew).trans0 (unhide hk5)).alloc _) (unhide hk6); rw [unhide HCC] at u0; rw [unhide HCC]))
        all_goals
          go_wp2_with fail
          go_ret
          refine ⟨rfl, ?_⟩
          have hput := (unhide HB).put ((((unhide HK3).drew).trans0 (unhide hk5)).alloc _) ⟨a5, c5, ps⟩ ((unhide hs5).kp0 ((Kp.refl [] _).alloc _)) (fun x hx => by have h1 := unhide hx5 x hx; have h2 := (unhide HK3).size; simp at h1; simp; omega) (unhide hk6) (unhide ho6) (unhide hx6) (by rw [← unhide HE]; exact unhide HC)
          rw [← unhide HE, unhide HCC] at hput
          exact hput
  · have hc := lcode_bad (cs := cs) hpf
    rw [hc, show lput cs ps = cs by unfold lput; rw [hc, if_neg hpf]]
    clear hc HB HE hlen HBY HP
    generalize pf (-1) ps = z at *
    go_enter Try.func85, Try.ntmps85
    go_wp2_with fail
    refine (unhide HF).mono ?_
    rintro e w1 ⟨rfl, hk1⟩
    have HK := hide (unhide HS _ hk1)
    clear hk1 HS HF
    go_wp2_with fail
    go_ret
    exact ⟨rfl, unhide HK⟩
end Go.Proofs.Ytehhpmfeaeabgac
