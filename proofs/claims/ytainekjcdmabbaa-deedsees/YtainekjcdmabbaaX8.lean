/- What DeedSees holds of a deed: what it wants at each key is what a Get tells. -/
import Derived.Test.YtainekjcdmabbaaY1
import Derived.Test.YtainekjcdmabbaaX4
namespace Go.Proofs.Ytainekjcdmabbaa
open Go.RowKit

/-- v: what a Get of each key tells, without a code. -/
structure Seen (f : Nat → List Ver) (m n : Nat) (ws : List Ver) (v : Nat → Ver) : Prop where
  c : ∀ k : Nat, k < 8 → (dg f m n ws k).a = 0
  t : ∀ k : Nat, k < 8 → (dg f m n ws k).t = (v k).t
  s : ∀ k : Nat, k < 8 → (dg f m n ws k).s = (v k).s
  le : n ≤ m

theorem keyB_of {k : Nat} (h : k < 8) : keyB (k : Int) = true := by simp [keyB]; omega
theorem dg_congr {f g : Nat → List Ver} {m m' : Nat} {y : Int} {ws : List Ver} {k : Nat} (hk : k < 8) (h : tr g m' k y = tr f m k y) : dg g m' y ws k = dg f m y ws k := by
  cases hv : lwr ws k with
  | some v => rw [dg_own (keyB_of hk) hv, dg_own (keyB_of hk) hv]
  | none => rw [dg_tbl (keyB_of hk) hv, dg_tbl (keyB_of hk) hv, h]
theorem Seen.congr {f g : Nat → List Ver} {m m' n : Nat} {ws : List Ver} {v : Nat → Ver} (h : Seen f m n ws v) (hm : m ≤ m') (he : ∀ k : Nat, k < 8 → tr g m' k n = tr f m k n) : Seen g m' n ws v :=
  ⟨fun k hk => by rw [dg_congr hk (he k hk)]; exact h.c k hk, fun k hk => by rw [dg_congr hk (he k hk)]; exact h.t k hk, fun k hk => by rw [dg_congr hk (he k hk)]; exact h.s k hk, by have := h.le; omega⟩
theorem seen_start {f : Nat → List Ver} {n : Nat} (h : Inv f n) : Seen f n n [] (shw f n n 8) :=
  ⟨fun k hk => by rw [dg_tbl (keyB_of hk) (lwr_nil _), tr_last h hk], fun k hk => by rw [dg_tbl (keyB_of hk) (lwr_nil _)]; simp [shw, hk], fun k hk => by rw [dg_tbl (keyB_of hk) (lwr_nil _)]; simp [shw, hk], Nat.le_refl _⟩
theorem Seen.put {f : Nat → List Ver} {m n : Nat} {ws : List Ver} {v : Nat → Ver} {j : Nat} (t : Bool) (s : ByteArray) (h : Seen f m n ws v) (_hj : j < 8) : Seen f m n (ws ++ [⟨(j : Int), t, s⟩]) (upd v j ⟨0, t, s⟩) := by
  have key : ∀ k : Nat, k < 8 → dg f m n (ws ++ [⟨(j : Int), t, s⟩]) k = if k = j then ⟨0, t, s⟩ else dg f m n ws k := by
    intro k hk
    by_cases e : k = j
    · subst e
      rw [if_pos rfl, dg_own (v := ⟨(k : Int), t, s⟩) (keyB_of hk) (by rw [lwr_put, if_pos rfl])]
    · rw [if_neg e]
      have he : lwr (ws ++ [⟨(j : Int), t, s⟩]) k = lwr ws k := by rw [lwr_put, if_neg (by show ¬ ((j : Int) = (k : Int)); omega)]
      unfold dg
      rw [he]
  refine ⟨fun k hk => ?_, fun k hk => ?_, fun k hk => ?_, h.le⟩
  all_goals
    rw [key k hk]
    by_cases e : k = j
    · subst e; simp [upd]
    · rw [if_neg e]
      first | exact h.c k hk | (rw [upd_other _ _ _ e]; exact h.t k hk) | (rw [upd_other _ _ _ e]; exact h.s k hk)

/-- A table, a deed, and the array of what is wanted. -/
structure Sees (w0 w : World) (tb db vb : Nat) (f : Nat → List Ver) (m : Nat) (md : Int) (n : Nat) (rs : List Int) (ws : List Ver) (v : Nat → Ver) : Prop where
  t : Tdx w0 w tb db f m md n rs ws [vb]
  a : w.heap[vb]? = some (.cells (wagg v) 66 (0, 0))
  i : Seen f m n ws v

section
variable {w0 w w' : World} {tb db vb : Nat} {f : Nat → List Ver} {m : Nat} {md : Int} {n : Nat} {rs : List Int} {ws : List Ver} {v : Nat → Ver}
theorem Sees.kp0 (h : Sees w0 w tb db vb f m md n rs ws v) (hk : Kp [] w w') : Sees w0 w' tb db vb f m md n rs ws v :=
  ⟨h.t.kp0 hk, by rw [hk.block vb (lt_of_block h.a) (by simp)]; exact h.a, h.i⟩
theorem Sees.near (h : Sees w0 w tb db vb f m md n rs ws v) : vb ∉ [db] := fun hm => h.t.x (by simp at hm; simp [hm])
theorem Sees.lt (h : Sees w0 w tb db vb f m md n rs ws v) : vb < w.heap.size := lt_of_block h.a
theorem Sees.c0 (h : Sees w0 w tb db vb f m md n rs ws v) {k : Nat} (hk : k < 8) : w.cell? ⟨vb, k * 2, none⟩ = some (.bool (v k).t) := cell_of_block h.a (wagg_at0 v hk)
theorem Sees.c1 (h : Sees w0 w tb db vb f m md n rs ws v) {k : Nat} (hk : k < 8) : w.cell? ⟨vb, k * 2 + 1, none⟩ = some (.string (v k).s) := cell_of_block h.a (wagg_at1 v hk)
theorem Sees.fz (h : Sees w0 w tb db vb f m md n rs ws v) (i : Nat) : w.frozen? ⟨vb, i, none⟩ = false := frozen_of_block i h.a
theorem sees_get {k : Nat} (hk : k < 8) (h : Sees w0 w tb db vb f m md n rs ws v) :
    Calls Try.prog 55 #[.pointer (some ⟨db, 0, none⟩), .pointer (some ⟨tb, 0, none⟩), .int .i64 k] w fun e w' => e = .returned (.tuple #[.agg #[.bool (v k).t, .string (v k).s], .int .i64 0]) ∧ ∃ rs', Hid (Sees w0 w' tb db vb f m md n rs' ws v) := by
  refine (tdx_get (k : Int) h.t).mono ?_
  rintro e w' ⟨rfl, h1, h2⟩
  exact ⟨by rw [h.i.c k hk, h.i.t k hk, h.i.s k hk], _, unhide h1, by rw [(unhide h2).block vb (lt_of_block h.a) h.near]; exact h.a, h.i⟩
/-- Put with a code leaves all; without one the array is one store behind. -/
theorem sees_put (k : Int) (t : Bool) (s : ByteArray) (h : Sees w0 w tb db vb f m md n rs ws v) (hs : s.size ≤ maxLen) :
    Calls Try.prog 57 #[.pointer (some ⟨db, 0, none⟩), .int .i64 k, .agg #[.bool t, .string s]] w fun e w' => e = .returned (.int .i64 (dpc md k t s)) ∧ Hid (Tdx w0 w' tb db f m md n rs (dpw md ws k t s) [vb]) ∧ Hid (w'.heap[vb]? = some (.cells (wagg v) 66 (0, 0))) ∧ Hid (Kp [db] w w') := by
  refine (tdx_put k t s h.t hs).mono ?_
  rintro e w' ⟨rfl, h1, h2⟩
  exact ⟨rfl, h1, by show w'.heap[vb]? = _; rw [(unhide h2).block vb (lt_of_block h.a) h.near]; exact h.a, h2⟩
theorem sees_store {j : Nat} {t : Bool} {s : ByteArray} (hj : j < 8) (h1 : Tdx w0 w' tb db f m md n rs (ws ++ [⟨(j : Int), t, s⟩]) [vb]) (h2 : w'.heap[vb]? = some (.cells (wagg v) 66 (0, 0))) (h3 : Seen f m n ws v) :
    Sees w0 ((w'.setCell ⟨vb, j * 2, none⟩ (.bool t)).setCell ⟨vb, j * 2 + 1, none⟩ (.string s)) tb db vb f m md n rs (ws ++ [⟨(j : Int), t, s⟩]) (upd v j ⟨0, t, s⟩) := by
  refine ⟨h1.set (S := [vb]) (((Kp.refl _ _).setCell (.inl (by simp)) _).setCell (.inl (by simp)) _) (by simp), ?_, h3.put t s hj⟩
  rw [heap_setCell_at _ _ (heap_setCell_at _ _ h2), wagg_set v hj ⟨0, t, s⟩]
theorem sees_write (a : Option Addr) (c : Nat) (ps : List Ver) (h : Sees w0 w tb db vb f m md n rs ws v) (hp0 : Prs w0 a ps) (hm : ps.length ≤ 1000) :
    Calls Try.prog 49 #[.pointer (some ⟨tb, 0, none⟩), .slice a ps.length c] w fun e w' => ∃ x y, e = .returned (.tuple #[.int .i64 x, .int .i64 y]) ∧ ∃ f' m', Hid (Sees w0 w' tb db vb f' m' md n rs ws v) := by
  refine (tdx_write a c ps h.t (hp0.kp0 h.t.kp) hm (inside_of hp0 _)).mono ?_
  rintro e w' ⟨rfl, h1, h2⟩
  refine ⟨_, _, rfl, _, _, unhide h1, ((unhide h2) vb (by simp)).trans h.a, h.i.congr ?_ (fun k hk => tr_later h.t.t.inv ps (by have := h.i.le; omega) hk)⟩
  unfold wn; split <;> omega
theorem sees_clear (h : Sees w0 w tb db vb f m md n rs ws v) :
    Calls Try.prog 50 #[.pointer (some ⟨tb, 0, none⟩), .int .i64 n] w fun e w' => ∃ x, e = .returned (.int .i64 x) ∧ ∃ f', Hid (Sees w0 w' tb db vb f' m md n rs ws v) := by
  refine (tdx_clear (n : Int) h.t).mono ?_
  rintro e w' ⟨rfl, h1, h2⟩
  exact ⟨_, rfl, _, unhide h1, ((unhide h2) vb (by simp)).trans h.a, h.i.congr (Nat.le_refl _) (fun k hk => tr_clm h.t.t.inv (Int.le_refl _) hk)⟩
end
end Go.Proofs.Ytainekjcdmabbaa
