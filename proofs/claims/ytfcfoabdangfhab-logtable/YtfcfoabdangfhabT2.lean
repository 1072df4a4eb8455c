/- First and Clear of a table, by their contracts. -/
import Derived.Test.YtfcfoabdangfhabT1
namespace Go.Proofs.Ytfcfoabdangfhab
open Go.RowKit
set_option maxRecDepth 20000
attribute [local go_sem ↓] Go.wp_at_zero Go.wp_at_succ

theorem run_index_arr (w : World) (cs : Array Value) (k : Nat) (v : Value) (hk : k < 8) (hv : cs[k]? = some v) :
    (Instr.index 86 (.agg cs) (.int .i64 (k : Int))).run Try.prog w = .ok v w := by
  have hn : (k : Int) < 8 := by omega
  simp [Instr.index, run_underlying Try.underlying86, asIntOf, hk, hv, go_sem]

theorem parr_ex (b : Nat → Nat) : ∃ A : Array Value, #[Value.pointer (some ⟨b 0, 0, none⟩), Value.pointer (some ⟨b 1, 0, none⟩), Value.pointer (some ⟨b 2, 0, none⟩), Value.pointer (some ⟨b 3, 0, none⟩), Value.pointer (some ⟨b 4, 0, none⟩), Value.pointer (some ⟨b 5, 0, none⟩), Value.pointer (some ⟨b 6, 0, none⟩), Value.pointer (some ⟨b 7, 0, none⟩)] = A ∧ A.size = 8 ∧ ∀ k, k < 8 → A[k]? = some (Value.pointer (some ⟨b k, 0, none⟩)) := by
  refine ⟨_, rfl, rfl, fun k hk => ?_⟩
  rcases lt8 hk with rfl | rfl | rfl | rfl | rfl | rfl | rfl | rfl <;> rfl

/-- One chain turned: the table with it. -/
theorem TblL.step {B : Nat} {w w' : World} {tb : Nat} {F : List Nat} {b g cap : Nat → Nat} {f : Nat → List Ver} {n k g' cap' : Nat} {vs : List Ver} (h : TblL B w tb F b g cap f n) (hk : k < 8)
    (hc : Chn B w' (b k) g' cap' vs) (hg : g' = g k ∨ w.heap.size ≤ g') (hkp : Kp [b k, g k] w w') (hi : Inv (upd f k vs) n) :
    TblL B w' tb (g' :: F) b (upd g k g') (upd cap k cap') (upd f k vs) n ∧ Kp F w w' ∧ ∀ x, x ∈ g' :: F → x ∈ F ∨ w.heap.size ≤ x := by
  have hlo := h.lo
  have far : ∀ x, x ∈ F → x ≠ g k → x ≠ g' := by
    intro x hx hne e
    rcases hg with e2 | e2
    · omega
    · have := (hlo x hx).2; omega
  have htn := h.tne k hk
  refine ⟨⟨?_, fun j hj => ?_, h.bb, fun j i hj hi8 hne => ?_, fun j i hj hi8 => ?_, fun j hj => ?_, List.mem_cons_of_mem _ h.tF, fun j hj => List.mem_cons_of_mem _ (h.bF j hj), fun j hj => ?_, fun x hx => ?_, hi, Nat.le_trans h.hB hkp.size⟩, ?_, ?_⟩
  · rw [hkp.block tb (hlo tb h.tF).2 (by simp; exact ⟨htn.1, htn.2⟩)]; exact h.box
  · by_cases e : j = k
    · subst e; rw [upd_same, upd_same, upd_same]; exact hc
    · rw [upd_other _ _ _ e, upd_other _ _ _ e, upd_other _ _ _ e]
      exact (h.chn j hj).kp hkp (by simp; exact ⟨h.bb j k hj hk e, h.bg j k hj hk⟩) (by simp; exact ⟨fun e2 => h.bg k j hk hj e2.symm, h.gg j k hj hk e⟩)
  · by_cases e : j = k
    · subst e
      rw [upd_same, upd_other _ _ _ (Ne.symm hne)]
      exact (far _ (h.gF i hi8) (h.gg i j hi8 hj (Ne.symm hne))).symm
    · rw [upd_other _ _ _ e]
      by_cases e2 : i = k
      · subst e2
        rw [upd_same]
        exact far _ (h.gF j hj) (h.gg j i hj hi8 hne)
      · rw [upd_other _ _ _ e2]; exact h.gg j i hj hi8 hne
  · by_cases e : i = k
    · subst e; rw [upd_same]; exact far _ (h.bF j hj) (h.bg j i hj hi8)
    · rw [upd_other _ _ _ e]; exact h.bg j i hj hi8
  · refine ⟨(h.tne j hj).1, ?_⟩
    by_cases e : j = k
    · subst e; rw [upd_same]; exact far _ h.tF htn.2
    · rw [upd_other _ _ _ e]; exact (h.tne j hj).2
  · by_cases e : j = k
    · subst e; rw [upd_same]; exact List.mem_cons_self
    · rw [upd_other _ _ _ e]; exact List.mem_cons_of_mem _ (h.gF j hj)
  · rcases List.mem_cons.1 hx with e | e
    · subst e; exact hc.hg
    · exact ⟨(hlo x e).1, Nat.lt_of_lt_of_le (hlo x e).2 hkp.size⟩
  · exact hkp.mono (by simp; exact ⟨.inl (h.bF k hk), .inl (h.gF k hk)⟩)
  · intro x hx
    rcases List.mem_cons.1 hx with e | e
    · subst e
      rcases hg with e2 | e2
      · rw [e2]; exact .inl (h.gF k hk)
      · exact .inr e2
    · exact .inl e

/-- The table at the head of a round of Clear, the first k chains cleared. -/
def ClrI (B : Nat) (w : World) (tb : Nat) (F : List Nat) (b : Nat → Nat) (f : Nat → List Ver) (n : Nat) (y : Int) (k : Nat) (wr : World) : Prop :=
  ∃ g cap Fk, TblL B wr tb Fk b g cap (clm f y k) n ∧ Kp F w wr ∧ ∀ x, x ∈ Fk → x ∈ F ∨ w.heap.size ≤ x

end Go.Proofs.Ytfcfoabdangfhab
