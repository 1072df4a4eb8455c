/- New of a table, by its contract. -/
import Derived.Test.YtfcfoabdangfhabT4
import Derived.Test.YtfcfoabdangfhabT2
namespace Go.Proofs.Ytfcfoabdangfhab
open Go.RowKit
set_option maxRecDepth 20000
attribute [local go_sem ↓] Go.wp_at_zero Go.wp_at_succ

theorem riseD : Rise [dv] := by
  intro i j h1 h2
  simp at h2
  omega
theorem invD : Inv (fun _ => [dv]) 0 := ⟨fun _ _ => riseD, fun _ _ => by simp, fun _ _ => by simp [va, dv], fun _ _ => by simp [va, dv], by omega⟩

/-- A table under way: the first k chains are there. -/
structure NewL (B : Nat) (w : World) (tb k : Nat) (wr : World) (b g cap : Nat → Nat) : Prop where
  box : wr.heap[tb]? = some (.cells (tcells (fun j => if j < k then .pointer (some ⟨b j, 0, none⟩) else .pointer none) 0) 88 (0, 0))
  chn : ∀ j, j < k → Chn B wr (b j) (g j) (cap j) [dv]
  ab : ∀ j, j < k → tb < b j ∧ tb < g j
  far : ∀ j i, j < k → i < k → j ≠ i → b j ≠ b i ∧ g j ≠ g i ∧ b j ≠ g i
  kp : Kp [] w wr
  hB : B = w.heap.size
  ht : B ≤ tb
def NewI (B : Nat) (w : World) (tb k : Nat) (wr : World) : Prop := ∃ b g cap, NewL B w tb k wr b g cap

theorem NewL.kp0 {B : Nat} {w : World} {tb k : Nat} {wr wr' : World} {b g cap : Nat → Nat} (h : NewL B w tb k wr b g cap) (hk : Kp [] wr wr') : NewL B w tb k wr' b g cap :=
  ⟨by rw [hk.block tb (lt_of_block h.box) (by simp)]; exact h.box, fun j hj => (h.chn j hj).kp hk (by simp) (by simp), h.ab, h.far, h.kp.trans0 hk, h.hB, h.ht⟩

theorem new_step {B tb k : Nat} {w wr : World} (W : World) (h : NewI B w tb k wr) (hW : Kp [] wr W) (hk : k < 8) :
    Calls Try.prog 55 #[] W fun e w1 => ∃ b', e = .returned (.pointer (some ⟨b', 0, none⟩)) ∧ w1.cell? ⟨tb, k, none⟩ = some (.pointer none) ∧ w1.frozen? ⟨tb, k, none⟩ = false ∧
      Hid (NewI B w tb (k + 1) (w1.setCell ⟨tb, k, none⟩ (.pointer (some ⟨b', 0, none⟩)))) := by
  obtain ⟨b, g, cap, h⟩ := h
  have h0 := h.kp0 hW
  refine (new23 W).mono ?_
  rintro e w1 ⟨rfl, hc, hkp⟩
  have h1 := h0.kp0 hkp
  have hlt := lt_of_block h0.box
  have hsz := h0.kp.size
  have hBe := h.hB
  have hold : ∀ j, j < k → b j < W.heap.size ∧ g j < W.heap.size := fun j hj => ⟨(h0.chn j hj).blt, (h0.chn j hj).hg.2⟩
  have kS : Kp [tb] w1 (w1.setCell ⟨tb, k, none⟩ (.pointer (some ⟨W.heap.size + 1, 0, none⟩))) := (Kp.refl [tb] w1).setCell (.inl (by simp)) _
  refine ⟨_, rfl, cell_of_block h1.box (by rw [tcells_at _ _ hk]; simp), frozen_of_block _ h1.box, upd b k (W.heap.size + 1), upd g k W.heap.size, upd cap k 1, ?_, fun j hj => ?_, fun j hj => ?_, fun j i hj hi hne => ?_, ?_, h.hB, h.ht⟩
  · rw [heap_setCell_at k _ h1.box, tcells_set _ _ hk]
    congr 2
    refine tcells_congr _ (fun j _ => ?_)
    by_cases e : j = k
    · subst e; simp [upd]
    · rw [upd_other _ _ _ e, upd_other _ _ _ e]
      by_cases e2 : j < k
      · rw [if_pos e2, if_pos (by omega)]
      · rw [if_neg e2, if_neg (by omega)]
  · by_cases e : j = k
    · subst e
      rw [upd_same, upd_same, upd_same]
      have hc2 : Chn B w1 (W.heap.size + 1) W.heap.size 1 [dv] := by
        refine ⟨?_, hc.box, hc.ne, by omega, hc.pos⟩
        refine ⟨hc.own.1, ?_⟩
        rcases hc.own.2 with ⟨e, _⟩ | ⟨g2, c2, cur, e, q1, q2⟩
        · simp at e
        · exact .inr ⟨g2, c2, cur, e, by omega, q2⟩
      exact hc2.kp kS (by simp; omega) (by simp; omega)
    · rw [upd_other _ _ _ e, upd_other _ _ _ e, upd_other _ _ _ e]
      have := h.ab j (by omega)
      exact (h1.chn j (by omega)).kp kS (by simp; omega) (by simp; omega)
  · by_cases e : j = k
    · subst e; rw [upd_same, upd_same]; omega
    · rw [upd_other _ _ _ e, upd_other _ _ _ e]; exact h.ab j (by omega)
  · by_cases e : j = k
    · subst e
      have := hold i (by omega)
      rw [upd_same, upd_same, upd_other _ _ _ (Ne.symm hne), upd_other _ _ _ (Ne.symm hne)]; omega
    · have q := hold j (by omega)
      rw [upd_other _ _ _ e, upd_other _ _ _ e]
      by_cases e2 : i = k
      · subst e2; rw [upd_same, upd_same]; omega
      · rw [upd_other _ _ _ e2, upd_other _ _ _ e2]; exact h.far j i (by omega) (by omega) hne
  · have := h.ht
    exact h1.kp.setCell (.inr (by show w.heap.size ≤ tb; omega)) _

theorem new_end {B tb : Nat} {w wr : World} (h : NewI B w tb 8 wr) : ∃ F, Tbl B wr tb F (fun _ => [dv]) 0 := by
  obtain ⟨b, g, cap, h⟩ := h
  have hin : ∀ k, k < 8 → k ∈ List.range 8 := fun k hk => List.mem_range.2 hk
  refine ⟨tb :: (List.range 8).flatMap (fun k => [b k, g k]), b, g, cap, ?_, h.chn, fun j k hj hk hne => (h.far j k hj hk hne).1, fun j k hj hk hne => (h.far j k hj hk hne).2.1, fun j k hj hk => ?_, fun k hk => ?_, by simp, fun k hk => ?_, fun k hk => ?_, fun x hx => ?_, invD, by rw [h.hB]; exact h.kp.size⟩
  · rw [h.box]
    congr 2
  · by_cases e : j = k
    · subst e; exact (h.chn j hj).ne
    · exact (h.far j k hj hk e).2.2
  · have := h.ab k hk
    omega
  · exact List.mem_cons_of_mem _ (List.mem_flatMap.2 ⟨k, hin k hk, by simp⟩)
  · exact List.mem_cons_of_mem _ (List.mem_flatMap.2 ⟨k, hin k hk, by simp⟩)
  · rcases List.mem_cons.1 hx with e | e
    · subst e; exact ⟨h.ht, lt_of_block h.box⟩
    · obtain ⟨k, hk, hx2⟩ := List.mem_flatMap.1 e
      have hk8 := List.mem_range.1 hk
      have hc := h.chn k hk8
      rcases List.mem_cons.1 hx2 with e2 | e2
      · subst e2; exact ⟨hc.hb, hc.blt⟩
      · have : x = g k := by simpa using e2
        subst this; exact hc.hg

theorem new_start (w : World) : NewI w.heap.size w w.heap.size 0 (w.alloc (.cells #[.pointer none, .pointer none, .pointer none, .pointer none, .pointer none, .pointer none, .pointer none, .pointer none, .int .i64 0] 88)) := by
  refine ⟨fun _ => 0, fun _ => 0, fun _ => 0, ?_, fun j hj => by omega, fun j hj => by omega, fun j i hj => by omega, (Kp.refl [] w).alloc _, rfl, Nat.le_refl _⟩
  have := heap_alloc_new w (.cells #[.pointer none, .pointer none, .pointer none, .pointer none, .pointer none, .pointer none, .pointer none, .pointer none, .int .i64 0] 88)
  rw [this]
  rfl

set_option maxHeartbeats 1000000 in
theorem tnew47 (w : World) :
    Calls Try.prog 46 #[] w fun e w' => e = .returned (.pointer (some ⟨w.heap.size, 0, none⟩)) ∧ (∃ F, Tbl w.heap.size w' w.heap.size F (fun _ => [dv]) 0) ∧ Kp [] w w' := by
  have H0 := hide (new_start w)
  go_enter Try.func46, Try.ntmps46
  go_wp2_with fail
  generalize htb : w.heap.size = tb at *
  have HTB := hide htb
  clear htb
  go_loopw [5] (fun i wr => ∃ k : Nat, k ≤ 8 ∧ i = .int .i64 k ∧ Hid (NewI tb w tb k wr)) (fun i _ => 8 - (intOf i).toNat)
  case atStart => exact ⟨0, by omega, rfl, H0⟩
  case round =>
    obtain ⟨k, hk, rfl, HN⟩ := hrel
    by_cases hlt : k < 8
    · have i0 : (0 : Int) ≤ (k : Int) := by omega
      have i1 : (k : Int) < 8 := by omega
      go_wp2_with fail
      go_region_with (go_at_call 55; refine (new_step _ (unhide HN) (Kp.refl [] _).drew hlt).mono ?_; rintro e w1 ⟨b', rfl, y1, y2, HN2⟩)
      all_goals
        go_wp2_with fail
        exact ⟨⟨k + 1, by omega, by go_num, HN2⟩, by simp [intOf]; omega⟩
    · have e : k = 8 := by omega
      subst e
      go_wp2
      go_ret
      obtain ⟨b, g, cap, hN⟩ := unhide HN
      rw [unhide HTB]
      exact ⟨rfl, new_end (unhide HN), hN.kp⟩
end Go.Proofs.Ytfcfoabdangfhab
