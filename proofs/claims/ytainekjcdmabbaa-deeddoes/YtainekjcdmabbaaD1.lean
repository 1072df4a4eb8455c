/- A deed's memory; New, Mode, At, Get and Put of a deed, by their contracts. -/
import Derived.Test.YtainekjcdmabbaaD0
namespace Go.Proofs.Ytainekjcdmabbaa
open Go.RowKit
set_option maxRecDepth 20000
attribute [local go_sem ↓] Go.wp_at_zero Go.wp_at_succ

/-- A deed's memory: its box. -/
def Ded (w : World) (db : Nat) (md y : Int) (rs : List Int) (ws : List Ver) : Prop := w.heap[db]? = some (.cells (dcells md y (ncell rs ws)) 118 (0, 0))

section
variable {w w' : World} {db : Nat} {md y : Int} {rs : List Int} {ws : List Ver}
theorem Ded.lt (h : Ded w db md y rs ws) : db < w.heap.size := lt_of_block h
theorem Ded.kp {S : List Nat} (h : Ded w db md y rs ws) (hk : Kp S w w') (hS : db ∉ S) : Ded w' db md y rs ws := by
  unfold Ded at h ⊢
  rw [hk.block db (lt_of_block h) hS]; exact h
theorem Ded.kp0 (h : Ded w db md y rs ws) (hk : Kp [] w w') : Ded w' db md y rs ws := h.kp hk (by simp)
theorem Ded.mcell (h : Ded w db md y rs ws) : w.cell? ⟨db, 0, none⟩ = some (.int .i64 md) := cell_of_block h rfl
theorem Ded.ycell (h : Ded w db md y rs ws) : w.cell? ⟨db, 1, none⟩ = some (.int .i64 y) := cell_of_block h rfl
theorem Ded.ncell0 (h : Ded w db md y rs ws) {k : Nat} (hk : k < 8) : w.cell? ⟨db, 2 + k * 4, none⟩ = some (.bool (decide ((k : Int) ∈ rs))) := cell_of_block h (dcells_at (i := 0) _ _ _ hk (by omega))
theorem Ded.ncell1 (h : Ded w db md y rs ws) {k : Nat} (hk : k < 8) : w.cell? ⟨db, 2 + k * 4 + 1, none⟩ = some (.bool (lwr ws k).isSome) := cell_of_block h (dcells_at (i := 1) _ _ _ hk (by omega))
theorem Ded.ncell2 (h : Ded w db md y rs ws) {k : Nat} (hk : k < 8) : w.cell? ⟨db, 2 + k * 4 + 2, none⟩ = some (.bool ((lwr ws k).getD dv).t) := cell_of_block h (dcells_at (i := 2) _ _ _ hk (by omega))
theorem Ded.ncell3 (h : Ded w db md y rs ws) {k : Nat} (hk : k < 8) : w.cell? ⟨db, 2 + k * 4 + 2 + 1, none⟩ = some (.string ((lwr ws k).getD dv).s) := cell_of_block h (dcells_at (i := 3) _ _ _ hk (by omega))
theorem Ded.frozen (h : Ded w db md y rs ws) (i : Nat) : w.frozen? ⟨db, i, none⟩ = false := frozen_of_block i h
theorem Ded.read (h : Ded w db md y rs ws) {k : Nat} (hk : k < 8) : Ded (w.setCell ⟨db, 2 + k * 4, none⟩ (.bool true)) db md y (rs ++ [(k : Int)]) ws := by
  unfold Ded at h ⊢
  rw [heap_setCell_at _ _ h, show 2 + k * 4 = 2 + k * 4 + 0 from rfl, dcells_set _ _ _ hk (by omega)]
  congr 2
  exact dcells_congr (fun j i _ hi => ncell_read j i hi)
theorem Ded.write (h : Ded w db md y rs ws) {k : Nat} (hk : k < 8) (t : Bool) (s : ByteArray) :
    Ded (((w.setCell ⟨db, 2 + k * 4 + 1, none⟩ (.bool true)).setCell ⟨db, 2 + k * 4 + 2, none⟩ (.bool t)).setCell ⟨db, 2 + k * 4 + 2 + 1, none⟩ (.string s)) db md y rs (ws ++ [⟨(k : Int), t, s⟩]) := by
  unfold Ded at h ⊢
  rw [heap_setCell_at _ _ (heap_setCell_at _ _ (heap_setCell_at _ _ h)), show 2 + k * 4 + 2 + 1 = 2 + k * 4 + 3 from rfl, dcells_set _ _ _ hk (by omega), dcells_set _ _ _ hk (by omega), dcells_set _ _ _ hk (by omega)]
  congr 2
  exact dcells_congr (fun j i _ hi => ncell_write t s j i hi)
end

def deedNil : Array Value := dcells 0 0 (ncell [] [])
/-- What New tells. -/
def DnEnd (md y : Int) (w : World) (e : Ending) (w' : World) : Prop :=
  (1 ≤ md ∧ md ≤ 3 ∧ e = .returned (.pointer (some ⟨w.heap.size, 0, none⟩)) ∧ Ded w' w.heap.size md y [] [] ∧ Kp [] w w') ∨ (¬ (1 ≤ md ∧ md ≤ 3) ∧ e = .returned (.pointer none) ∧ w' = w)

theorem ded_new (w : World) (md y : Int) : Ded (w.alloc (.cells #[.int .i64 md, .int .i64 y, .bool false, .bool false, .bool false, .string ⟨#[]⟩, .bool false, .bool false, .bool false, .string ⟨#[]⟩, .bool false, .bool false, .bool false, .string ⟨#[]⟩, .bool false, .bool false, .bool false, .string ⟨#[]⟩, .bool false, .bool false, .bool false, .string ⟨#[]⟩, .bool false, .bool false, .bool false, .string ⟨#[]⟩, .bool false, .bool false, .bool false, .string ⟨#[]⟩, .bool false, .bool false, .bool false, .string ⟨#[]⟩] 118)) w.heap.size md y [] [] := by
  unfold Ded
  rw [heap_alloc_new]
  rfl

set_option maxHeartbeats 400000 in
theorem dnew54 (md y : Int) (w : World) : Calls Try.prog 54 #[.int .i64 md, .int .i64 y] w fun e w' => DnEnd md y w e w' := by
  by_cases h1 : md = 1
  · subst h1
    go_enter Try.func54, Try.ntmps54
    go_wp2
    go_ret
    exact .inl ⟨by omega, by omega, rfl, ded_new w _ _, (Kp.refl [] w).alloc _⟩
  · by_cases h2 : md = 2
    · subst h2
      go_enter Try.func54, Try.ntmps54
      go_wp2
      go_ret
      exact .inl ⟨by omega, by omega, rfl, ded_new w _ _, (Kp.refl [] w).alloc _⟩
    · by_cases h3 : md = 3
      · subst h3
        go_enter Try.func54, Try.ntmps54
        go_wp2
        go_ret
        exact .inl ⟨by omega, by omega, rfl, ded_new w _ _, (Kp.refl [] w).alloc _⟩
      · have e1 : (md == 1) = false := beq_eq_false_iff_ne.2 h1
        have e2 : (md == 2) = false := beq_eq_false_iff_ne.2 h2
        have e3 : (md == 3) = false := beq_eq_false_iff_ne.2 h3
        go_enter Try.func54, Try.ntmps54
        go_wp2
        go_ret
        exact .inr ⟨by omega, rfl, rfl⟩

theorem dmode70 {db : Nat} {md y : Int} {rs : List Int} {ws : List Ver} (w : World) (h : Ded w db md y rs ws) : Calls Try.prog 70 #[.pointer (some ⟨db, 0, none⟩)] w fun e w' => e = .returned (.int .i64 md) ∧ w' = w := by
  have q := h.mcell
  clear h
  go_enter Try.func70, Try.ntmps70
  go_wp2
  go_ret
  exact ⟨rfl, rfl⟩
theorem dat71 {db : Nat} {md y : Int} {rs : List Int} {ws : List Ver} (w : World) (h : Ded w db md y rs ws) : Calls Try.prog 71 #[.pointer (some ⟨db, 0, none⟩)] w fun e w' => e = .returned (.int .i64 y) ∧ w' = w := by
  have q := h.ycell
  clear h
  go_enter Try.func71, Try.ntmps71
  go_wp2
  go_ret
  exact ⟨rfl, rfl⟩

theorem dg_out {f : Nat → List Ver} {n : Nat} {y : Int} {ws : List Ver} {k : Int} (h : keyB k = false) : dg f n y ws k = ⟨1, false, ByteArray.empty⟩ := by unfold dg; rw [if_neg (by simp [h])]
theorem dr_out {f : Nat → List Ver} {n : Nat} {y : Int} {rs : List Int} {ws : List Ver} {k : Int} (h : keyB k = false) : dr f n y rs ws k = rs := by unfold dr; rw [if_neg (by simp [h])]
theorem dg_own {f : Nat → List Ver} {n : Nat} {y : Int} {ws : List Ver} {k : Int} {v : Ver} (h : keyB k = true) (hv : lwr ws k = some v) : dg f n y ws k = ⟨0, v.t, v.s⟩ := by unfold dg; rw [if_pos h, hv]
theorem dr_own {f : Nat → List Ver} {n : Nat} {y : Int} {rs : List Int} {ws : List Ver} {k : Int} {v : Ver} (hv : lwr ws k = some v) : dr f n y rs ws k = rs := by unfold dr; rw [if_neg (by simp [hv])]
theorem dg_tbl {f : Nat → List Ver} {n : Nat} {y : Int} {ws : List Ver} {k : Int} (h : keyB k = true) (hv : lwr ws k = none) : dg f n y ws k = tr f n k y := by unfold dg; rw [if_pos h, hv]
theorem dr_tbl {f : Nat → List Ver} {n : Nat} {y : Int} {rs : List Int} {ws : List Ver} {k : Int} (h : keyB k = true) (hv : lwr ws k = none) (h0 : (tr f n k y).a = 0) : dr f n y rs ws k = rs ++ [k] := by unfold dr; rw [if_pos ⟨h, hv, h0⟩]
theorem dr_code {f : Nat → List Ver} {n : Nat} {y : Int} {rs : List Int} {ws : List Ver} {k : Int} (h0 : ¬ (tr f n k y).a = 0) : dr f n y rs ws k = rs := by unfold dr; rw [if_neg (fun h => h0 h.2.2)]
/-- A code of Read comes with no value. -/
theorem tr_code {f : Nat → List Ver} {n : Nat} {k y : Int} (h : ¬ (tr f n k y).a = 0) : (tr f n k y).t = false ∧ (tr f n k y).s = ByteArray.empty := by
  unfold tr at h ⊢
  split
  · rename_i hc
    rw [if_pos hc] at h
    unfold rd3 at h ⊢
    split
    · exact ⟨rfl, rfl⟩
    · rename_i h1
      rw [if_neg h1] at h
      split
      · exact ⟨rfl, rfl⟩
      · rename_i h2
        rw [if_neg h2] at h
        exact absurd rfl h
  · exact ⟨rfl, rfl⟩

set_option maxHeartbeats 1000000 in
theorem dget55 {B tb n db : Nat} {F : List Nat} {f : Nat → List Ver} {md y : Int} {rs : List Int} {ws : List Ver} (k : Int) (w : World) (h : Tbl B w tb F f n) (hd : Ded w db md y rs ws) :
    Calls Try.prog 55 #[.pointer (some ⟨db, 0, none⟩), .pointer (some ⟨tb, 0, none⟩), .int .i64 k] w fun e w' => e = .returned (.tuple #[.agg #[.bool (dg f n y ws k).t, .string (dg f n y ws k).s], .int .i64 (dg f n y ws k).a]) ∧
      Ded w' db md y (dr f n y rs ws k) ws ∧ Kp [db] w w' := by
  have HT := hide h
  have HD := hide hd
  have hlt := hd.lt
  clear h hd
  by_cases hk : keyB k = true
  · obtain ⟨j, hj, rfl⟩ := keyB_nat hk
    have i0 : (0 : Int) ≤ (j : Int) := by omega
    have i1 : (j : Int) < 8 := by omega
    have q1 := (unhide HD).ncell1 hj
    cases hv : lwr ws j with
    | some v =>
      rw [dg_own hk hv, dr_own hv]
      have q2 := (unhide HD).ncell2 hj
      have q3 := (unhide HD).ncell3 hj
      rw [hv] at q1 q2 q3
      simp only [Option.isSome_some, Option.getD_some] at q1 q2 q3
      clear hv
      go_enter Try.func55, Try.ntmps55
      go_wp2_with fail
      refine (key11 _ _).mono ?_
      rintro e w' ⟨rfl, rfl⟩
      rw [hk]
      clear hk
      go_wp2
      refine bodyPost_ret (v := .tuple #[.agg #[.bool v.t, .string v.s], .int .i64 0]) (by simp [results, Try.results55, go_sem]) rfl ⟨rfl, ?_⟩
      have hkp := (Kp.refl [] w).alloc (.cells #[.bool v.t, .string v.s] 24)
      exact ⟨(unhide HD).kp0 hkp, hkp.mono (by simp)⟩
    | none =>
      rw [dg_tbl hk hv]
      have HV := hide hv
      have qy := (unhide HD).ycell
      have q0 := (unhide HD).ncell0 hj
      rw [hv] at q1
      simp only [Option.isSome_none] at q1
      clear hv
      by_cases h0 : (tr f n j y).a = 0
      · rw [dr_tbl hk (unhide HV) h0, h0]
        have H0 := hide h0
        clear h0
        go_enter Try.func55, Try.ntmps55
        go_wp2_with fail
        refine (key11 _ _).mono ?_
        rintro e w' ⟨rfl, rfl⟩
        rw [hk]
        clear hk
        go_wp2_with fail
        refine (tread32 j y _ ((unhide HT).kp0 ((Kp.refl [] w).alloc _))).mono ?_
        rintro e w1 ⟨rfl, hkp⟩
        have p0 : w1.cell? ⟨w.heap.size, 0, none⟩ = some (.bool false) := hkp.cell (by simp) (by simp)
        have p1 : w1.cell? ⟨w.heap.size, 1, none⟩ = some (.string ⟨#[]⟩) := hkp.cell (by simp) (by simp)
        have p2 : w1.frozen? ⟨w.heap.size, 0, none⟩ = false := by rw [hkp.frozen (by simp) (by simp)]; simp
        have p3 : w1.frozen? ⟨w.heap.size, 1, none⟩ = false := by rw [hkp.frozen (by simp) (by simp)]; simp
        have hkp1 := ((Kp.refl [] w).alloc (.cells #[.bool false, .string ⟨#[]⟩] 24)).trans0 hkp
        have hd1 := (unhide HD).kp0 hkp1
        have r0 := hd1.ncell0 hj
        have r1 := hd1.frozen (2 + j * 4)
        have hlt1 := hd1.lt
        have hsz := hkp1.size
        have hRs : w.heap.size < w1.heap.size := by have := hkp.size; simp at this; omega
        have hne : db ≠ w.heap.size := by omega
        have hne2 : db ≠ w1.heap.size := by omega
        have hne3 : w.heap.size ≠ w1.heap.size := by omega
        have HD1 := hide hd1
        have HK1 := hide hkp1
        clear hkp hkp1 hd1 q0 q1 qy
        rw [unhide H0]
        generalize hvv : tr f n j y = v at *
        have HVV := hide hvv
        clear hvv
        go_wp2
        refine bodyPost_ret (v := .tuple #[.agg #[.bool v.t, .string v.s], .int .i64 0]) (by simp [results, Try.results55, go_sem, p0, p1, hRs]) rfl ⟨by rw [unhide HVV], ?_⟩
        have hB := ((unhide HK1).mono (T := [db]) (by simp)).setCell (p := ⟨db, 2 + j * 4, none⟩) (.inl (by simp)) (.bool true)
        have hC := ((hB.setCell (p := ⟨w.heap.size, 0, none⟩) (.inr (Nat.le_refl _)) (.bool v.t)).setCell (p := ⟨w.heap.size, 1, none⟩) (.inr (Nat.le_refl _)) (.string v.s)).alloc (.cells #[.bool v.t, .string v.s] 24)
        refine ⟨?_, hC⟩
        refine ((unhide HD1).read hj).kp (S := [w.heap.size]) ((((Kp.refl _ _).setCell (.inl (by simp)) _).setCell (.inl (by simp)) _).alloc _) (by simp; omega)
      · obtain ⟨e1, e2⟩ := tr_code h0
        rw [dr_code h0, e1, e2]
        go_enter Try.func55, Try.ntmps55
        go_wp2_with fail
        refine (key11 _ _).mono ?_
        rintro e w' ⟨rfl, rfl⟩
        rw [hk]
        clear hk
        go_wp2_with fail
        refine (tread32 j y _ ((unhide HT).kp0 ((Kp.refl [] w).alloc _))).mono ?_
        rintro e w1 ⟨rfl, hkp⟩
        have p0 : w1.cell? ⟨w.heap.size, 0, none⟩ = some (.bool false) := hkp.cell (by simp) (by simp)
        have p1 : w1.cell? ⟨w.heap.size, 1, none⟩ = some (.string ⟨#[]⟩) := hkp.cell (by simp) (by simp)
        have p2 : w1.frozen? ⟨w.heap.size, 0, none⟩ = false := by rw [hkp.frozen (by simp) (by simp)]; simp
        have p3 : w1.frozen? ⟨w.heap.size, 1, none⟩ = false := by rw [hkp.frozen (by simp) (by simp)]; simp
        have hkp1 := ((Kp.refl [] w).alloc (.cells #[.bool false, .string ⟨#[]⟩] 24)).trans0 hkp
        have hd1 := (unhide HD).kp0 hkp1
        have r0 := hd1.ncell0 hj
        have r1 := hd1.frozen (2 + j * 4)
        have hlt1 := hd1.lt
        have hsz := hkp1.size
        have hRs : w.heap.size < w1.heap.size := by have := hkp.size; simp at this; omega
        have hne : db ≠ w.heap.size := by omega
        have hne2 : db ≠ w1.heap.size := by omega
        have hne3 : w.heap.size ≠ w1.heap.size := by omega
        have HD1 := hide hd1
        have HK1 := hide hkp1
        clear hkp hkp1 hd1 q0 q1 qy
        have HN := hide h0
        rw [e1, e2]
        generalize hvv : (tr f n j y).a = c at *
        have HVV := hide hvv
        clear hvv
        go_wp2
        refine bodyPost_ret (v := .tuple #[.agg #[.bool false, .string ByteArray.empty], .int .i64 c]) (by simp [results, Try.results55, go_sem, p0, p1, hRs]; rfl) rfl ⟨by rw [unhide HVV], ?_⟩
        have hA := ((((unhide HK1).setCell (p := ⟨w.heap.size, 0, none⟩) (.inr (Nat.le_refl _)) (.bool false)).setCell (p := ⟨w.heap.size, 1, none⟩) (.inr (Nat.le_refl _)) (.string ⟨#[]⟩)).alloc (.cells #[.bool false, .string ByteArray.empty] 24))
        exact ⟨(unhide HD).kp0 hA, hA.mono (by simp)⟩
  · have hk2 : keyB k = false := by simpa using hk
    rw [dg_out hk2, dr_out hk2]
    clear hk
    go_enter Try.func55, Try.ntmps55
    go_wp2_with fail
    refine (key11 _ _).mono ?_
    rintro e w' ⟨rfl, rfl⟩
    rw [hk2]
    clear hk2
    go_wp2
    refine bodyPost_ret (v := .tuple #[.agg #[.bool false, .string ByteArray.empty], .int .i64 1]) (by simp [results, Try.results55, go_sem]; rfl) rfl ⟨rfl, ?_⟩
    have hkp := ((Kp.refl [] w).alloc (.cells #[.bool false, .string ⟨#[]⟩] 24))
    first
    | exact ⟨(unhide HD).kp0 hkp, hkp.mono (by simp)⟩
    | (have hkp := ((((Kp.refl [] w).alloc (.cells #[.bool false, .string ⟨#[]⟩] 24)).setCell (p := ⟨w.heap.size, 0, none⟩) (.inr (Nat.le_refl _)) (.bool false)).setCell (p := ⟨w.heap.size, 1, none⟩) (.inr (Nat.le_refl _)) (.string ⟨#[]⟩))
       exact ⟨(unhide HD).kp0 hkp, hkp.mono (by simp)⟩)
end Go.Proofs.Ytainekjcdmabbaa
