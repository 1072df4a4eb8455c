/- What DeedReads holds of a deed: which key was read first, which was written first; what Reads and Writes list. -/
import Derived.Test.YtainekjcdmabbaaY1
namespace Go.Proofs.Ytainekjcdmabbaa
open Go.RowKit

theorem ig_append_left (l m : List Int) {i : Nat} (h : i < l.length) : ig (l ++ m) i = ig l i := by
  simp only [ig, List.getD_eq_getElem?_getD]
  rw [List.getElem?_append_left h]
theorem ig_concat (l : List Int) (x : Int) : ig (l ++ [x]) l.length = x := by
  simp only [ig, List.getD_eq_getElem?_getD]
  rw [List.getElem?_concat_length]; rfl

/-- Of the list of what was read: keys, each once, rising. -/
theorem rk_props (rs : List Int) : ∀ m, (∀ i, i < (rk rs m).length → 0 ≤ ig (rk rs m) i ∧ ig (rk rs m) i < m ∧ ig (rk rs m) i ∈ rs) ∧ (∀ i, i + 1 < (rk rs m).length → ig (rk rs m) i < ig (rk rs m) (i + 1)) := by
  intro m
  induction m with
  | zero => exact ⟨fun i hi => by simp [rk] at hi, fun i hi => by simp [rk] at hi⟩
  | succ m ih =>
    obtain ⟨h1, h2⟩ := ih
    by_cases hm : (m : Int) ∈ rs
    · have e : rk rs (m + 1) = rk rs m ++ [(m : Int)] := by simp only [rk]; rw [if_pos hm]
      rw [e]
      refine ⟨fun i hi => ?_, fun i hi => ?_⟩
      · simp only [List.length_append, List.length_cons, List.length_nil] at hi
        by_cases hl : i < (rk rs m).length
        · rw [ig_append_left _ _ hl]
          have := h1 i hl
          exact ⟨this.1, by push_cast; omega, this.2.2⟩
        · have : i = (rk rs m).length := by omega
          subst this
          rw [ig_concat]
          exact ⟨by omega, by push_cast; omega, hm⟩
      · simp only [List.length_append, List.length_cons, List.length_nil] at hi
        by_cases hl : i + 1 < (rk rs m).length
        · rw [ig_append_left _ _ hl, ig_append_left _ _ (by omega)]
          exact h2 i hl
        · have e2 : i + 1 = (rk rs m).length := by omega
          rw [e2, ig_concat, ig_append_left _ _ (by omega)]
          exact (h1 i (by omega)).2.1
    · have e : rk rs (m + 1) = rk rs m := by simp only [rk]; rw [if_neg hm]
      rw [e]
      exact ⟨fun i hi => ⟨(h1 i hi).1, by have := (h1 i hi).2.1; push_cast; omega, (h1 i hi).2.2⟩, h2⟩
theorem rk_mem {rs : List Int} {k : Nat} : ∀ m, k < m → (k : Int) ∈ rs → (k : Int) ∈ rk rs m := by
  intro m
  induction m with
  | zero => intro h; omega
  | succ m ih =>
    intro h hr
    simp only [rk]
    by_cases e : k = m
    · subst e; rw [if_pos hr]; simp
    · have := ih (by omega) hr
      split
      · simp [this]
      · exact this
theorem mem_rk {rs : List Int} {x : Int} : ∀ m, x ∈ rk rs m → x ∈ rs := by
  intro m
  induction m with
  | zero => intro h; simp [rk] at h
  | succ m ih =>
    intro h
    simp only [rk] at h
    split at h
    · rename_i hm
      rcases List.mem_append.1 h with q | q
      · exact ih q
      · have : x = (m : Int) := by simpa using q
        rw [this]; exact hm
    · exact ih h

theorem wk_props (ws : List Ver) : ∀ m, (∀ i, i < (wk ws m).length → ∃ j : Nat, j < m ∧ va (wk ws m) i = (j : Int) ∧ ∃ v, lwr ws j = some v ∧ vt (wk ws m) i = v.t ∧ vb (wk ws m) i = v.s) ∧ (∀ i, i + 1 < (wk ws m).length → va (wk ws m) i < va (wk ws m) (i + 1)) := by
  intro m
  induction m with
  | zero => exact ⟨fun i hi => by simp [wk] at hi, fun i hi => by simp [wk] at hi⟩
  | succ m ih =>
    obtain ⟨h1, h2⟩ := ih
    cases hm : lwr ws m with
    | some v =>
      have e : wk ws (m + 1) = wk ws m ++ [⟨(m : Int), v.t, v.s⟩] := wk_yes hm
      rw [e]
      refine ⟨fun i hi => ?_, fun i hi => ?_⟩
      · simp only [List.length_append, List.length_cons, List.length_nil] at hi
        by_cases hl : i < (wk ws m).length
        · rw [va_append_left _ _ hl, vt_append_left _ _ hl, vb_append_left _ _ hl]
          obtain ⟨j, hj, q⟩ := h1 i hl
          exact ⟨j, by omega, q⟩
        · have : i = (wk ws m).length := by omega
          subst this
          rw [va_concat, vt_concat, vb_concat]
          exact ⟨m, by omega, rfl, v, hm, rfl, rfl⟩
      · simp only [List.length_append, List.length_cons, List.length_nil] at hi
        by_cases hl : i + 1 < (wk ws m).length
        · rw [va_append_left _ _ hl, va_append_left _ _ (by omega)]
          exact h2 i hl
        · have e2 : i + 1 = (wk ws m).length := by omega
          rw [e2, va_concat, va_append_left _ _ (by omega)]
          obtain ⟨j, hj, q, _⟩ := h1 i (by omega)
          rw [q]
          show (j : Int) < (m : Int)
          omega
    | none =>
      have e : wk ws (m + 1) = wk ws m := wk_no hm
      rw [e]
      exact ⟨fun i hi => by obtain ⟨j, hj, q⟩ := h1 i hi; exact ⟨j, by omega, q⟩, h2⟩
theorem wk_nil : ∀ m, wk [] m = [] := by
  intro m
  induction m with
  | zero => rfl
  | succ m ih => rw [wk_no (lwr_nil _)]; exact ih

/-- u: 1 a key that was read first, 2 one that was written first, 0 neither. -/
structure Fir (rs : List Int) (ws : List Ver) (u : Nat → Int) (md : Int) : Prop where
  r : ∀ k : Nat, k < 8 → ((k : Int) ∈ rs ↔ u k = 1)
  z : ∀ k : Nat, k < 8 → u k = 0 → lwr ws k = none
  w : ∀ k : Nat, k < 8 → u k ≠ 0 → u k ≠ 1 → ∃ v, lwr ws k = some v
  l : md = 3 → ws = []

theorem fir_nil (md : Int) : Fir [] [] (fun _ => 0) md := ⟨fun k _ => by simp, fun _ _ _ => rfl, fun k _ h => absurd rfl h, fun _ => rfl⟩

section
variable {f : Nat → List Ver} {n : Nat} {y md : Int} {rs : List Int} {ws : List Ver} {u : Nat → Int} {j : Nat}
theorem Fir.getNew (h : Fir rs ws u md) (hj : j < 8) (h0 : (dg f n y ws j).a = 0) (hu : u j = 0) : Fir (dr f n y rs ws j) ws (upd u j 1) md := by
  have hk : keyB (j : Int) = true := by simp [keyB]; omega
  have hl := h.z j hj hu
  rw [dg_tbl hk hl] at h0
  rw [dr_tbl hk hl h0]
  refine ⟨fun k hk8 => ?_, fun k hk8 hz => ?_, fun k hk8 h1 h2 => ?_, h.l⟩
  · by_cases e : k = j
    · subst e; simp [upd]
    · rw [upd_other _ _ _ e]
      have : ¬ ((k : Int) = (j : Int)) := by omega
      simp only [List.mem_append, List.mem_singleton, this, or_false]
      exact h.r k hk8
  · by_cases e : k = j
    · subst e; simp [upd] at hz
    · rw [upd_other _ _ _ e] at hz; exact h.z k hk8 hz
  · by_cases e : k = j
    · subst e; simp [upd] at h2
    · rw [upd_other _ _ _ e] at h1 h2; exact h.w k hk8 h1 h2
theorem Fir.getOld (h : Fir rs ws u md) (hj : j < 8) (hu : u j ≠ 0) : Fir (dr f n y rs ws j) ws u md := by
  by_cases hd : keyB (j : Int) = true ∧ lwr ws j = none ∧ (tr f n j y).a = 0
  · rw [dr_tbl hd.1 hd.2.1 hd.2.2]
    refine ⟨fun k hk8 => ?_, h.z, h.w, h.l⟩
    by_cases e : k = j
    · subst e
      have hu1 : u k = 1 := by
        by_cases h1 : u k = 1
        · exact h1
        · obtain ⟨v, hv⟩ := h.w k hk8 hu h1
          rw [hd.2.1] at hv; cases hv
      simp [hu1]
    · have : ¬ ((k : Int) = (j : Int)) := by omega
      simp only [List.mem_append, List.mem_singleton, this, or_false]
      exact h.r k hk8
  · have e : dr f n y rs ws j = rs := by unfold dr; rw [if_neg hd]
    rw [e]; exact h
theorem Fir.getCode (h : Fir rs ws u md) (h0 : ¬ (dg f n y ws j).a = 0) : Fir (dr f n y rs ws j) ws u md := by
  have e : dr f n y rs ws j = rs := by
    unfold dr
    rw [if_neg (fun hc => h0 ?_)]
    rw [dg_tbl hc.1 hc.2.1]; exact hc.2.2
  rw [e]; exact h
theorem dpc_zero {k : Int} {t : Bool} {s : ByteArray} (h : dpc md k t s = 0) : keyB k = true ∧ md ≠ 3 := by
  unfold dpc at h
  split at h
  · split at h
    · simp at h
    · exact ⟨by assumption, by assumption⟩
  · simp at h
theorem Fir.putNew {t : Bool} {s : ByteArray} (h : Fir rs ws u md) (hj : j < 8) (hm : md ≠ 3) (hu : u j = 0) : Fir rs (ws ++ [⟨(j : Int), t, s⟩]) (upd u j 2) md := by
  refine ⟨fun k hk8 => ?_, fun k hk8 hz => ?_, fun k hk8 h1 h2 => ?_, fun e => absurd e hm⟩
  · by_cases e : k = j
    · subst e
      have := h.r k hk8
      rw [hu] at this
      simp [upd, this]
    · rw [upd_other _ _ _ e]; exact h.r k hk8
  · by_cases e : k = j
    · subst e; simp [upd] at hz
    · rw [upd_other _ _ _ e] at hz
      rw [lwr_put, if_neg (by show ¬ ((j : Int) = (k : Int)); omega)]; exact h.z k hk8 hz
  · rw [lwr_put]
    by_cases e : k = j
    · subst e; rw [if_pos rfl]; exact ⟨_, rfl⟩
    · rw [upd_other _ _ _ e] at h1 h2
      rw [if_neg (by show ¬ ((j : Int) = (k : Int)); omega)]; exact h.w k hk8 h1 h2
theorem Fir.putOld {t : Bool} {s : ByteArray} (h : Fir rs ws u md) (hm : md ≠ 3) (hu : u j ≠ 0) : Fir rs (ws ++ [⟨(j : Int), t, s⟩]) u md := by
  refine ⟨h.r, fun k hk8 hz => ?_, fun k hk8 h1 h2 => ?_, fun e => absurd e hm⟩
  · rw [lwr_put, if_neg (fun e => by have e' : (j : Int) = (k : Int) := e
                                     have : j = k := by omega
                                     subst this; exact hu hz)]
    exact h.z k hk8 hz
  · rw [lwr_put]
    by_cases e : (j : Int) = (k : Int)
    · rw [if_pos e]; exact ⟨_, rfl⟩
    · rw [if_neg e]; exact h.w k hk8 h1 h2
end

/-- The array first: its cells. -/
def farr (u : Nat → Int) : Array Value := #[.int .i64 (u 0), .int .i64 (u 1), .int .i64 (u 2), .int .i64 (u 3), .int .i64 (u 4), .int .i64 (u 5), .int .i64 (u 6), .int .i64 (u 7)]
theorem farr_at (u : Nat → Int) {k : Nat} (hk : k < 8) : (farr u)[k]? = some (.int .i64 (u k)) := by
  rcases lt8 hk with rfl | rfl | rfl | rfl | rfl | rfl | rfl | rfl <;> rfl
theorem farr_set (u : Nat → Int) {k : Nat} (hk : k < 8) (x : Int) : (farr u).setIfInBounds k (.int .i64 x) = farr (upd u k x) := by
  rcases lt8 hk with rfl | rfl | rfl | rfl | rfl | rfl | rfl | rfl <;> rfl

/-- A table, a deed, and the array first. -/
structure Drd (w0 w : World) (tb db fb : Nat) (f : Nat → List Ver) (n : Nat) (md : Int) (rs : List Int) (ws : List Ver) (u : Nat → Int) : Prop where
  t : Tdx w0 w tb db f n md n rs ws [fb]
  a : w.heap[fb]? = some (.cells (farr u) 103 (0, 0))

section
variable {w0 w w' W : World} {tb db fb : Nat} {f : Nat → List Ver} {n : Nat} {md : Int} {rs : List Int} {ws : List Ver} {u : Nat → Int}
theorem Drd.kp0 (h : Drd w0 w tb db fb f n md rs ws u) (hk : Kp [] w w') : Drd w0 w' tb db fb f n md rs ws u :=
  ⟨h.t.kp0 hk, by rw [hk.block fb (lt_of_block h.a) (by simp)]; exact h.a⟩
theorem Drd.cell (h : Drd w0 w tb db fb f n md rs ws u) {k : Nat} (hk : k < 8) : w.cell? ⟨fb, k, none⟩ = some (.int .i64 (u k)) := cell_of_block h.a (farr_at u hk)
theorem Drd.frozen (h : Drd w0 w tb db fb f n md rs ws u) (k : Nat) : w.frozen? ⟨fb, k, none⟩ = false := frozen_of_block k h.a
theorem Drd.lt (h : Drd w0 w tb db fb f n md rs ws u) : fb < w.heap.size := lt_of_block h.a
theorem Drd.set (h : Drd w0 w tb db fb f n md rs ws u) {k : Nat} (hk : k < 8) (x : Int) : Drd w0 (w.setCell ⟨fb, k, none⟩ (.int .i64 x)) tb db fb f n md rs ws (upd u k x) :=
  ⟨h.t.set (S := [fb]) ((Kp.refl _ _).setCell (.inl (by simp)) _) (by simp), by rw [heap_setCell_at k _ h.a, farr_set u hk x]⟩
theorem Drd.near (h : Drd w0 w tb db fb f n md rs ws u) : fb ∉ [db] := fun hm => h.t.x (by simp at hm; simp [hm])
theorem drd_get (k : Int) (h : Drd w0 w tb db fb f n md rs ws u) :
    Calls Try.prog 55 #[.pointer (some ⟨db, 0, none⟩), .pointer (some ⟨tb, 0, none⟩), .int .i64 k] w fun e w' => e = .returned (.tuple #[.agg #[.bool (dg f n n ws k).t, .string (dg f n n ws k).s], .int .i64 (dg f n n ws k).a]) ∧
      Hid (Drd w0 w' tb db fb f n md (dr f n n rs ws k) ws u) ∧ Hid (Kp [db] w w') := by
  refine (tdx_get k h.t).mono ?_
  rintro e w' ⟨rfl, h1, h2⟩
  exact ⟨rfl, ⟨unhide h1, by rw [(unhide h2).block fb (lt_of_block h.a) h.near]; exact h.a⟩, h2⟩
theorem drd_put (k : Int) (t : Bool) (s : ByteArray) (h : Drd w0 w tb db fb f n md rs ws u) (hs : s.size ≤ maxLen) :
    Calls Try.prog 57 #[.pointer (some ⟨db, 0, none⟩), .int .i64 k, .agg #[.bool t, .string s]] w fun e w' => e = .returned (.int .i64 (dpc md k t s)) ∧ Hid (Drd w0 w' tb db fb f n md rs (dpw md ws k t s) u) ∧ Hid (Kp [db] w w') := by
  refine (tdx_put k t s h.t hs).mono ?_
  rintro e w' ⟨rfl, h1, h2⟩
  exact ⟨rfl, ⟨unhide h1, by rw [(unhide h2).block fb (lt_of_block h.a) h.near]; exact h.a⟩, h2⟩
end
end Go.Proofs.Ytainekjcdmabbaa
