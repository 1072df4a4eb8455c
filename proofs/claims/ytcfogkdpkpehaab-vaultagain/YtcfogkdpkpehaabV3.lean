/- What the laws of torn and crashed vaults meet: all keys' values in variables, beside a vault. -/
import Derived.Test.YtcfogkdpkpehaabV2
import Derived.Test.YtcfogkdpkpehaabM6
import Derived.Test.YtcfogkdpkpehaabE5
namespace Go.Proofs.Ytcfogkdpkpehaab
open Go.RowKit
set_option maxRecDepth 20000

/-- Two operations may come up next. -/
theorem wpAnyH_two {P : Program} {md : Region.Mode} {l r1 r2 : List Oper} {Q : Exit → Act → World → Prop} {S : World → Prop} {i j : Nat} {oi oj : Oper} {fuel : Nat} {listed : Array Bool} {a : Act} {w : World} (hi : l.drop i = oi :: r1) (hj : l.drop j = oj :: r2) (hr : Region.ready md l.toArray listed = [i, j])
    (h1 : ∀ K' : Act → World → Prop, Shut (∀ a w, S w → (S w → wpAnyH P md l.toArray Q S fuel (listed.setIfInBounds i true) a w) → K' a w) → if Region.wanted oi (yielded l.toArray a.tmps) = true then Oper.wp P oi a w K' Q else K' (a.put oi.dst undef) w)
    (h2 : ∀ K' : Act → World → Prop, Shut (∀ a w, S w → (S w → wpAnyH P md l.toArray Q S fuel (listed.setIfInBounds j true) a w) → K' a w) → if Region.wanted oj (yielded l.toArray a.tmps) = true then Oper.wp P oj a w K' Q else K' (a.put oj.dst undef) w) :
    wpAnyH P md l.toArray Q S (fuel + 1) listed a w := wpAnyH_ready hr (by simp) (AllReadyH.cons (drop_at hi) h1 (AllReadyH.cons (drop_at hj) h2 AllReadyH.nil))

section
variable {w0 w : World} {vb tb gb : Nat} {f : Nat → List Ver} {n : Nat} {cs : List (List Ver)} {r : List Thing} {D : Nat} {md y : Int} {rs : List Int} {ws : List Ver} {V X : Thing}
theorem l_sheet {y : Int} (hk : ShK f n y 8) (v : Nat → Ver) (hv : wagg (shw f n y 8) = wagg v) (hz : Zoo w0 w (VltT vb tb gb f n cs [] :: r)) :
    Calls Try.prog 46 #[.pointer (some ⟨tb, 0, none⟩), .int .i64 y] w fun e w' => e = .returned (.tuple #[.agg (wagg v), .bool true]) ∧ Hid (Zoo w0 w' (VltT vb tb gb f n cs [] :: r)) := by
  obtain ⟨F1, ⟨Ft, Fg, k1⟩, _⟩ := zoo_at0 hz
  refine (sheet44 y w k1.t).mono ?_
  rintro e w' ⟨k, h1, rfl, h2⟩
  have e8 := h1.uniq hk
  subst e8
  exact ⟨by rw [hv]; simp, hz.kp0 h2⟩
theorem l_writes (hz : Zoo w0 w (V :: BoxT D (dcells md y (ncell rs ws)) 145 :: r)) :
    Calls Try.prog 51 #[.pointer (some ⟨D, 0, none⟩)] w fun e w' => ∃ a cap, e = .returned (.slice a (wk ws 8).length cap) ∧ Hid (Zoo w0 w' (V :: BoxT D (dcells md y (ncell rs ws)) 145 :: r)) := by
  obtain ⟨F, ⟨h1, h2, h3⟩, k2⟩ := zoo_at1 hz
  refine (dwrites66 w h1).mono ?_
  rintro e w' ⟨a, cap, rfl, _, hk⟩
  exact ⟨a, cap, rfl, hz.kp0 hk⟩
theorem l_put (k : Int) (t : Bool) (s : ByteArray) (hs : s.size ≤ maxLen) (z : Int) (hc : dpc md k t s = z) (hz : Zoo w0 w (V :: BoxT D (dcells md y (ncell rs ws)) 145 :: r)) :
    Calls Try.prog 49 #[.pointer (some ⟨D, 0, none⟩), .int .i64 k, .agg #[.bool t, .string s]] w fun e w' => e = .returned (.int .i64 z) ∧ Hid (Zoo w0 w' (V :: BoxT D (dcells md y (ncell rs (dpw md ws k t s))) 145 :: r)) := by
  obtain ⟨F, ⟨h1, h2, h3⟩, k2⟩ := zoo_at1 hz
  subst hc
  exact (dput57 k t s w h1 hs).mono (fun e w' ⟨he, hd, hk⟩ => ⟨he, k2 _ _ ⟨F, ⟨hd, h2, h3⟩, by rw [h2]; exact hk, fun x hx => .inl hx⟩⟩)
theorem b_tear (keep : Int) (hv : VI f n cs) (hd : Ded w D md y rs ws) (hw : WOk ws) (hz : Zoo w0 w (VltT vb tb gb f n cs [] :: r)) :
    Calls Try.prog 52 #[.pointer (some ⟨vb, 0, none⟩), .pointer (some ⟨D, 0, none⟩), .int .i64 keep] w fun e w' => e = .returned (.tuple #[.int .i64 (tnum f cs md y rs ws keep), .int .i64 (vcode f cs md y rs ws)]) ∧ ∃ tb', Hid (Zoo w0 w' (VltT vb tb' gb (wal0 (tcs f cs md y rs ws keep)) (tcs f cs md y rs ws keep).length (tcs f cs md y rs ws keep) [] :: r)) := by
  obtain ⟨F, ⟨Ft, Fg, k⟩, k2⟩ := zoo_at0 hz
  exact (vtear keep w k hv hd hw).mono (fun e w' ⟨he, tb', hc⟩ => ⟨he, tb', k2 _ _ hc⟩)
/-- All keys' values in a variable: the value of one key is set. -/
theorem zoo_setw {p j : Nat} {v : Nat → Ver} (hz : Zoo w0 w (V :: X :: BoxT p (wagg v) 89 :: r)) (hj : j < 8) (t : Bool) (s : ByteArray) :
    (∃ x, w.cell? ⟨p, j * 2, none⟩ = some x) ∧ (∃ x, w.cell? ⟨p, j * 2 + 1, none⟩ = some x) ∧ w.frozen? ⟨p, j * 2, none⟩ = false ∧ w.frozen? ⟨p, j * 2 + 1, none⟩ = false ∧
      Hid (Zoo w0 ((w.setCell ⟨p, j * 2, none⟩ (.bool t)).setCell ⟨p, j * 2 + 1, none⟩ (.string s)) (V :: X :: BoxT p (wagg (upd v j ⟨0, t, s⟩)) 89 :: r)) := by
  obtain ⟨F, ⟨hb, h2, h3⟩, k2⟩ := zoo_at2 hz
  refine ⟨⟨_, cell_of_block hb (wagg_at0 _ hj)⟩, ⟨_, cell_of_block hb (wagg_at1 _ hj)⟩, frozen_of_block _ hb, frozen_of_block _ hb, k2 _ _ ⟨F, ⟨?_, h2, h3⟩, ?_, fun x hx => .inl hx⟩⟩
  · rw [heap_setCell_at _ _ (heap_setCell_at _ _ hb)]
    rw [wagg_set v hj ⟨0, t, s⟩]
  · rw [h2]
    exact ((Kp.refl [p] w).setCell (.inl (by simp)) _).setCell (.inl (by simp)) _
/-- All keys' values in a variable, set whole. -/
theorem zoo_setr {p : Nat} {c c' : Array Value} (hz : Zoo w0 w (V :: BoxT p c 89 :: r)) : Zoo w0 (w.setRow p c') (V :: BoxT p c' 89 :: r) := by
  obtain ⟨F, ⟨hb, h2, h3⟩, k2⟩ := zoo_at1 hz
  obtain ⟨z1, z2⟩ := setRow_kp (cs := c') hb
  exact k2 _ _ ⟨F, ⟨z1, h2, h3⟩, by rw [h2]; exact z2, fun x hx => .inl hx⟩
theorem zoo_new1 (hz : Zoo w0 w (V :: r)) (c : Array Value) : Zoo w0 (w.alloc (.cells c 89)) (V :: BoxT w.heap.size c 89 :: r) := zoo_swap (hz.box c 89)
theorem zoo_new2 (hz : Zoo w0 w (V :: X :: r)) (c : Array Value) : Zoo w0 (w.alloc (.cells c 89)) (V :: X :: BoxT w.heap.size c 89 :: r) := zoo_in2 (hz.box c 89)
theorem zoo_var1 {p : Nat} {c : Array Value} {T : TypeId} (hz : Zoo w0 w (V :: BoxT p c T :: r)) : w.heap[p]? = some (.cells c T (0, 0)) := by
  obtain ⟨F, h1, _⟩ := zoo_at1 hz
  exact h1.1
end
theorem zoo_varm {w0 w : World} {os : List Thing} {p : Nat} {c : Array Value} {T : TypeId} (hz : Zoo w0 w os) (hm : BoxT p c T ∈ os) : w.heap[p]? = some (.cells c T (0, 0)) := by
  obtain ⟨F, h1, _⟩ := zoo_mem hz hm
  exact h1
theorem zeros_eq : wagg (fun _ => dv) = #[.bool false, .string ⟨#[]⟩, .bool false, .string ⟨#[]⟩, .bool false, .string ⟨#[]⟩, .bool false, .string ⟨#[]⟩, .bool false, .string ⟨#[]⟩, .bool false, .string ⟨#[]⟩, .bool false, .string ⟨#[]⟩, .bool false, .string ⟨#[]⟩] := rfl

/-- What is so behind a torn commit. -/
theorem tears_end {f : Nat → List Ver} {n : Nat} {cs : List (List Ver)} {ws : List Ver} {md y keep : Int} {rs : List Int} (hv : VI f n cs) (hf : Inv f n) (hl : LInv cs) (hw : WOk ws) :
    (tcs f cs md y rs ws keep = cs ∧ tnum f cs md y rs ws keep = 0 ∧ cs.length = n ∧ shw (wal0 cs) n n 8 = shw f n n 8 ∧ (vcode f cs md y rs ws ≠ 0 ∨ (wk ws 8).length = 0 ∨ keep < 200)) ∨
    (∃ m, m = n + 1 ∧ tnum f cs md y rs ws keep = m ∧ vcode f cs md y rs ws = 0 ∧ 0 < (wk ws 8).length ∧ (tcs f cs md y rs ws keep).length = m ∧ wagg (shw (wal0 (tcs f cs md y rs ws keep)) m m 8) = wagg (lay (shw f n n 8) ws)) := by
  have hn := hv.len
  by_cases hs : tcs f cs md y rs ws keep = cs
  · refine .inl ⟨hs, tnum_same hs, hn.symm, crash_shw hv hl (fmx_le hf 8 (Nat.le_refl _)).2, ?_⟩
    by_cases hc : vcode f cs md y rs ws = 0
    · by_cases hk : (wk ws 8).length = 0
      · exact .inr (.inl hk)
      · refine .inr (.inr ?_)
        have hm : dm f md y rs ws = 0 := Decidable.byContradiction (fun q => q ((v_may (cs := cs) q).1.symm.trans hc))
        rw [t_tear hm hk] at hs
        have hlc : lcode cs (wk ws 8) = 0 := Decidable.byContradiction (fun q => q ((v_full (cs := cs) hm hk q).1.symm.trans hc))
        unfold ltear at hs
        have he := enc_le hw.pf
        by_cases hq : lcode cs (wk ws 8) = 0 ∧ ((enc (wk ws 8)).length : Int) ≤ keep
        · rw [if_pos hq] at hs
          have := congrArg List.length hs
          simp at this
        · have : ¬ ((enc (wk ws 8)).length : Int) ≤ keep := fun q => hq ⟨hlc, q⟩
          omega
    · exact .inl hc
  · rcases tcs_cases (f := f) (cs := cs) (md := md) (y := y) (rs := rs) (ws := ws) (keep := keep) with e | ⟨e, h1, _, h3, h4⟩
    · exact absurd e hs
    · refine .inr ⟨n + 1, rfl, ?_, h1, by omega, by rw [e, hn]; simp, ?_⟩
      · rw [tnum_more e, hn]; push_cast; rfl
      · rw [e]
        exact (tears_now hv hf hl hw h4 rfl).symm
theorem tears_all {f : Nat → List Ver} {n : Nat} {cs : List (List Ver)} {ws : List Ver} {md y keep : Int} {rs : List Int} {v : Nat → Ver} (hv : VI f n cs) (hf : Inv f n) (hl : LInv cs) (hw : WOk ws) (he : shw f n n 8 = v) :
    ∃ f' n' cs' u num code L, tcs f cs md y rs ws keep = cs' ∧ wal0 cs' = f' ∧ cs'.length = n' ∧ tnum f cs md y rs ws keep = num ∧ vcode f cs md y rs ws = code ∧ (wk ws 8).length = L ∧ wagg (shw f' n' n' 8) = wagg u ∧ Inv f' n' ∧
      ((num = 0 ∧ n' = n ∧ u = v ∧ (code ≠ 0 ∨ (code = 0 ∧ L = 0) ∨ (code = 0 ∧ 0 < L ∧ keep < 200))) ∨ (num = n' ∧ n' = n + 1 ∧ u = lay v ws ∧ code = 0 ∧ 0 < L)) := by
  have hi := inv_wal0 (LInv.tcs (f := f) (md := md) (y := y) (rs := rs) (ws := ws) (keep := keep) hl)
  rcases tears_end (md := md) (y := y) (rs := rs) (keep := keep) hv hf hl hw with ⟨h1, h2, h3, h4, h5⟩ | ⟨m, h1, h2, h3, h4, h5, h6⟩
  · rw [h1, h3] at hi
    refine ⟨_, _, _, v, _, _, _, h1, rfl, h3, h2, rfl, rfl, by rw [h4, he], hi, .inl ⟨rfl, rfl, rfl, ?_⟩⟩
    rcases Decidable.em (vcode f cs md y rs ws = 0) with q | q
    · rcases Nat.eq_zero_or_pos (wk ws 8).length with q2 | q2
      · exact .inr (.inl ⟨q, q2⟩)
      · rcases h5 with h5 | h5 | h5
        · exact absurd q h5
        · omega
        · exact .inr (.inr ⟨q, q2, h5⟩)
    · exact .inl q
  · rw [h5] at hi
    rw [he] at h6
    exact ⟨_, m, _, _, _, _, _, rfl, rfl, h5, h2, rfl, rfl, h6, hi, .inr ⟨rfl, h1, rfl, h3, h4⟩⟩
theorem dpc_vals {k : Int} {t : Bool} {s : ByteArray} (h : ¬ dpc 2 k t s = 0) : dpc 2 k t s = 1 ∨ dpc 2 k t s = 2 ∨ dpc 2 k t s = 4 := by
  unfold dpc chk at h ⊢
  split
  · rename_i hk
    rw [if_pos hk, if_neg (by omega)] at h
    rw [if_neg (by omega)]
    split
    · exact .inr (.inl rfl)
    · rename_i q
      rw [if_neg q] at h
      split
      · exact .inr (.inr rfl)
      · rename_i q2
        rw [if_neg q2] at h
        exact absurd rfl h
  · exact .inl rfl
theorem dpc_key {k : Int} {t : Bool} {s : ByteArray} (h : dpc 2 k t s = 0) : keyB k = true ∧ ∃ j : Nat, j < 8 ∧ k = (j : Int) := by
  unfold dpc at h
  split at h
  · rename_i hk
    refine ⟨hk, k.toNat, ?_⟩
    simp only [keyB, decide_eq_true_eq] at hk
    omega
  · simp at h
end Go.Proofs.Ytcfogkdpkpehaab
