/- First and Clear of a table, by their contracts. -/
import Derived.Test.YtainekjcdmabbaaT1
namespace Go.Proofs.Ytainekjcdmabbaa
open Go.RowKit
set_option maxRecDepth 20000
attribute [local go_sem ↓] Go.wp_at_zero Go.wp_at_succ

theorem run_index_arr (w : World) (cs : Array Value) (k : Nat) (v : Value) (hk : k < 8) (hv : cs[k]? = some v) :
    (Instr.index 111 (.agg cs) (.int .i64 (k : Int))).run Try.prog w = .ok v w := by
  have hn : (k : Int) < 8 := by omega
  simp [Instr.index, run_underlying Try.underlying111, asIntOf, hk, hv, go_sem]

theorem parr_ex (b : Nat → Nat) : ∃ A : Array Value, #[Value.pointer (some ⟨b 0, 0, none⟩), Value.pointer (some ⟨b 1, 0, none⟩), Value.pointer (some ⟨b 2, 0, none⟩), Value.pointer (some ⟨b 3, 0, none⟩), Value.pointer (some ⟨b 4, 0, none⟩), Value.pointer (some ⟨b 5, 0, none⟩), Value.pointer (some ⟨b 6, 0, none⟩), Value.pointer (some ⟨b 7, 0, none⟩)] = A ∧ A.size = 8 ∧ ∀ k, k < 8 → A[k]? = some (Value.pointer (some ⟨b k, 0, none⟩)) := by
  refine ⟨_, rfl, rfl, fun k hk => ?_⟩
  rcases lt8 hk with rfl | rfl | rfl | rfl | rfl | rfl | rfl | rfl <;> rfl

set_option maxHeartbeats 400000 in
theorem tfirst42 {B tb n : Nat} {F : List Nat} {f : Nat → List Ver} (w : World) (h : Tbl B w tb F f n) :
    Calls Try.prog 46 #[.pointer (some ⟨tb, 0, none⟩)] w fun e w' => e = .returned (.int .i64 (fmx f 8)) ∧ w' = w := by
  obtain ⟨b, g, cap, h⟩ := h
  have q0 := h.kcell (k := 0) (by omega)
  have q1 := h.kcell (k := 1) (by omega)
  have q2 := h.kcell (k := 2) (by omega)
  have q3 := h.kcell (k := 3) (by omega)
  have q4 := h.kcell (k := 4) (by omega)
  have q5 := h.kcell (k := 5) (by omega)
  have q6 := h.kcell (k := 6) (by omega)
  have q7 := h.kcell (k := 7) (by omega)
  have H := hide h
  clear h
  go_enter Try.func46, Try.ntmps46
  go_wp2_with fail
  obtain ⟨A, hA, hA8, hAk⟩ := parr_ex b
  rw [hA]
  clear hA q0 q1 q2 q3 q4 q5 q6 q7
  go_loop [3, 10] (fun x i => ∃ k : Nat, k ≤ 8 ∧ x = .int .i64 (fmx f k) ∧ i = .int .i64 k) (fun _ i => 8 - (intOf i).toNat)
  case atStart => exact ⟨0, by omega, rfl, rfl⟩
  case round =>
    obtain ⟨k, hk, rfl, rfl⟩ := hrel
    by_cases hlt : k < 8
    · have i0 : (0 : Int) ≤ (k : Int) := by omega
      have i1 : (k : Int) < 8 := by omega
      have hx := fun w => run_index_arr w A k _ hlt (hAk k hlt)
      go_wp2_with fail
      refine (first17 _ ((unhide H).chn k hlt)).mono ?_
      rintro e w' ⟨rfl, rfl⟩
      go_wp2_with fail
      exact ⟨⟨k + 1, by omega, rfl, by go_num⟩, by simp [intOf]; omega⟩
    · have e : k = 8 := by omega
      subst e
      go_wp2
      go_ret
      exact ⟨rfl, rfl⟩

/-- One chain turned: the table with it. -/
theorem TblL.step {B : Nat} {w w' : World} {tb : Nat} {F : List Nat} {b g cap : Nat → Nat} {f : Nat → List Ver} {n k g' cap' : Nat} {vs : List Ver} (h : TblL B w tb F b g cap f n) (hk : k < 8)
    (hc : Chn B w' (b k) g' cap' vs) (hg : g' = g k ∨ w.heap.size ≤ g') (hkp : Kp [b k, g k] w w') (hi : Inv (upd f k vs) n) :
    TblL B w' tb (g' :: F) b (upd g k g') (upd cap k cap') (upd f k vs) n ∧ Kp F w w' ∧ ∀ x, x ∈ g' :: F → x ∈ F ∨ w.heap.size ≤ x := by
  have hlo := h.lo
  have far : ∀ x, x ∈ F → x ≠ g k → x ≠ g' := by
    intro x hx hne e
    rcases hg with e2 | e2
    · omega
    · have := (hlo x hx).2; omega
  have htn := h.tne k hk
  refine ⟨⟨?_, fun j hj => ?_, h.bb, fun j i hj hi8 hne => ?_, fun j i hj hi8 => ?_, fun j hj => ?_, List.mem_cons_of_mem _ h.tF, fun j hj => List.mem_cons_of_mem _ (h.bF j hj), fun j hj => ?_, fun x hx => ?_, hi, Nat.le_trans h.hB hkp.size⟩, ?_, ?_⟩
  · rw [hkp.block tb (hlo tb h.tF).2 (by simp; exact ⟨htn.1, htn.2⟩)]; exact h.box
  · by_cases e : j = k
    · subst e; rw [upd_same, upd_same, upd_same]; exact hc
    · rw [upd_other _ _ _ e, upd_other _ _ _ e, upd_other _ _ _ e]
      exact (h.chn j hj).kp hkp (by simp; exact ⟨h.bb j k hj hk e, h.bg j k hj hk⟩) (by simp; exact ⟨fun e2 => h.bg k j hk hj e2.symm, h.gg j k hj hk e⟩)
  · by_cases e : j = k
    · subst e
      rw [upd_same, upd_other _ _ _ (Ne.symm hne)]
      exact (far _ (h.gF i hi8) (h.gg i j hi8 hj (Ne.symm hne))).symm
    · rw [upd_other _ _ _ e]
      by_cases e2 : i = k
      · subst e2
        rw [upd_same]
        exact far _ (h.gF j hj) (h.gg j i hj hi8 hne)
      · rw [upd_other _ _ _ e2]; exact h.gg j i hj hi8 hne
  · by_cases e : i = k
    · subst e; rw [upd_same]; exact far _ (h.bF j hj) (h.bg j i hj hi8)
    · rw [upd_other _ _ _ e]; exact h.bg j i hj hi8
  · refine ⟨(h.tne j hj).1, ?_⟩
    by_cases e : j = k
    · subst e; rw [upd_same]; exact far _ h.tF htn.2
    · rw [upd_other _ _ _ e]; exact (h.tne j hj).2
  · by_cases e : j = k
    · subst e; rw [upd_same]; exact List.mem_cons_self
    · rw [upd_other _ _ _ e]; exact List.mem_cons_of_mem _ (h.gF j hj)
  · rcases List.mem_cons.1 hx with e | e
    · subst e; exact hc.hg
    · exact ⟨(hlo x e).1, Nat.lt_of_lt_of_le (hlo x e).2 hkp.size⟩
  · exact hkp.mono (by simp; exact ⟨.inl (h.bF k hk), .inl (h.gF k hk)⟩)
  · intro x hx
    rcases List.mem_cons.1 hx with e | e
    · subst e
      rcases hg with e2 | e2
      · rw [e2]; exact .inl (h.gF k hk)
      · exact .inr e2
    · exact .inl e

/-- The table at the head of a round of Clear, the first k chains cleared. -/
def ClrI (B : Nat) (w : World) (tb : Nat) (F : List Nat) (b : Nat → Nat) (f : Nat → List Ver) (n : Nat) (y : Int) (k : Nat) (wr : World) : Prop :=
  ∃ g cap Fk, TblL B wr tb Fk b g cap (clm f y k) n ∧ Kp F w wr ∧ ∀ x, x ∈ Fk → x ∈ F ∨ w.heap.size ≤ x

theorem clr_step {B tb n k : Nat} {w wr : World} {F : List Nat} {b : Nat → Nat} {f : Nat → List Ver} {y : Int} (h : ClrI B w tb F b f n y k wr) (hi : Inv f n) (hk : k < 8) :
    Calls Try.prog 31 #[.pointer (some ⟨b k, 0, none⟩), .int .i64 y] wr fun e w' => e = .returned (.int .i64 (cd (f k) y : Nat)) ∧ Hid (ClrI B w tb F b f n y (k + 1) w') := by
  obtain ⟨g, cap, Fk, ht, hkp, hF⟩ := h
  have hc := ht.chn k hk
  rw [clm_at] at hc
  refine (clear22 y wr hc (hi.rise k hk) (by have := hi.len41 hk; omega) ht.hB).mono ?_
  rintro e w' ⟨c, hcn, rfl, g', cap', h1, h2, h3⟩
  have e1 := hcn.eqf (hi.rise k hk)
  subst e1
  refine ⟨rfl, ?_⟩
  have hinv := hi.clm y (k + 1) (by omega)
  rw [clm_succ] at hinv
  obtain ⟨z1, z2, z3⟩ := ht.step hk h1 h2 (h3.mono (by simp)) hinv
  refine ⟨upd g k g', upd cap k cap', g' :: Fk, by rw [clm_succ]; exact z1, hkp.trans z2 hF, fun x hx => ?_⟩
  rcases z3 x hx with e | e
  · exact hF x e
  · right; have := hkp.size; omega

set_option maxHeartbeats 400000 in
theorem tclear46 {B tb n : Nat} {F : List Nat} {f : Nat → List Ver} (y : Int) (w : World) (h : Tbl B w tb F f n) :
    Calls Try.prog 50 #[.pointer (some ⟨tb, 0, none⟩), .int .i64 y] w fun e w' => e = .returned (.int .i64 (cln f y 8 : Nat)) ∧ ∃ F', Tbl B w' tb F' (clm f y 8) n ∧ Kp F w w' ∧ ∀ x, x ∈ F' → x ∈ F ∨ w.heap.size ≤ x := by
  obtain ⟨b, g, cap, h⟩ := h
  have q0 := h.kcell (k := 0) (by omega)
  have q1 := h.kcell (k := 1) (by omega)
  have q2 := h.kcell (k := 2) (by omega)
  have q3 := h.kcell (k := 3) (by omega)
  have q4 := h.kcell (k := 4) (by omega)
  have q5 := h.kcell (k := 5) (by omega)
  have q6 := h.kcell (k := 6) (by omega)
  have q7 := h.kcell (k := 7) (by omega)
  have HI := hide h.inv
  have H0 : Hid (ClrI B w tb F b f n y 0 w) := ⟨g, cap, F, by rw [clm_zero]; exact h, Kp.refl _ _, fun x hx => .inl hx⟩
  clear h
  go_enter Try.func50, Try.ntmps50
  go_wp2_with fail
  obtain ⟨A, hA, hA8, hAk⟩ := parr_ex b
  rw [hA]
  clear hA q0 q1 q2 q3 q4 q5 q6 q7
  go_loopw [5, 12] (fun x i wr => ∃ k : Nat, k ≤ 8 ∧ x = .int .i64 (cln f y k : Nat) ∧ i = .int .i64 k ∧ Hid (ClrI B w tb F b f n y k wr)) (fun _ i _ => 8 - (intOf i).toNat)
  case atStart => exact ⟨0, by omega, rfl, rfl, H0⟩
  case round =>
    obtain ⟨k, hk, rfl, rfl, HC⟩ := hrel
    by_cases hlt : k < 8
    · have i0 : (0 : Int) ≤ (k : Int) := by omega
      have i1 : (k : Int) < 8 := by omega
      have hx := fun w => run_index_arr w A k _ hlt (hAk k hlt)
      have l1 := cln_le (unhide HI) y k hk
      have l2 := cln_le (unhide HI) y (k + 1) (by omega)
      have l3 : cln f y (k + 1) = cln f y k + cd (f k) y := rfl
      go_wp2_with fail
      refine (clr_step (unhide HC) (unhide HI) hlt).mono ?_
      rintro e w' ⟨rfl, HC2⟩
      go_wp2_with fail
      exact ⟨⟨k + 1, by omega, by rw [l3]; go_num, by go_num, HC2⟩, by simp [intOf]; omega⟩
    · have e : k = 8 := by omega
      subst e
      go_wp2
      go_ret
      obtain ⟨g, cap, Fk, ht, hkp, hF⟩ := unhide HC
      exact ⟨rfl, Fk, ⟨_, _, _, ht⟩, hkp, hF⟩
end Go.Proofs.Ytainekjcdmabbaa
