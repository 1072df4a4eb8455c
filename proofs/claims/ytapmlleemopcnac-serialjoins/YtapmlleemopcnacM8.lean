/- Vb, Lz, V3, Si, Sj, Ha, Sk, Sl, Hb, Hc, Hd, Hi, Hi2, Hi3, Hi4: bound together for a claim. -/
import Derived.Test.YtapmlleemopcnacM7
/- vaultBegun answers true. -/
namespace Go.Proofs.Ytapmlleemopcnac
open Go.RowKit
set_option maxRecDepth 20000
attribute [local go_sem ↓] Go.wp_at_zero Go.wp_at_succ

def vx : ByteArray := ⟨#[120]⟩
def vy : ByteArray := ⟨#[121]⟩
def vw1 : List Ver := [⟨1, true, vx⟩]
def vw2 : List Ver := [⟨1, true, vy⟩]
def vf0 : Nat → List Ver := fun _ => [dv]
def vf1 : Nat → List Ver := wst vf0 0 vw1
theorem vx_le : vx.size ≤ maxLen := by unfold maxLen; decide
theorem vy_le : vy.size ≤ maxLen := by unfold maxLen; decide
theorem vb_b1 : bcode vf0 0 1 9 = 0 := by decide
theorem vb_a1 : bat 0 1 9 = 0 := by decide
theorem vb_b2 : bcode vf0 0 2 0 = 0 := by decide
theorem vb_a2 : bat 0 2 0 = 0 := by decide
theorem vb_p1 : dpc 1 1 true vx = 0 := by decide
theorem vb_q1 : dpw 1 [] 1 true vx = vw1 := by rfl
theorem vb_p2 : dpc 2 1 true vy = 0 := by decide
theorem vb_q2 : dpw 2 [] 1 true vy = vw2 := by rfl
theorem vb_wk : wk vw1 8 = vw1 := by rfl
theorem vb_ok1 : WOk vw1 := fun p hp => by rw [List.mem_singleton.1 hp]; decide
theorem vb_ok2 : WOk vw2 := fun p hp => by rw [List.mem_singleton.1 hp]; decide
theorem vb_dm1 : dm vf0 1 0 [] vw1 = 0 := by rfl
theorem vb_lc : lcode [] vw1 = 0 := by decide
theorem vb_c1 : vcode vf0 [] 1 0 [] vw1 = 0 ∧ vdone vf0 [] 1 0 [] vw1 = true := v_yes vb_dm1 (by rw [vb_wk]; decide) (by rw [vb_wk]; exact vb_lc)
theorem vb_f1 : vf vf0 0 [] 1 0 [] vw1 = vf1 ∧ vn vf0 0 [] 1 0 [] vw1 = 1 ∧ vcs vf0 [] 1 0 [] vw1 = [vw1] ∧ vnum vf0 0 [] 1 0 [] vw1 = 1 := by
  obtain ⟨h1, h2, h3, h4⟩ := v_did (n := 0) vb_c1.2
  rw [vb_wk] at h1 h3
  exact ⟨h1, h2, h3, by rw [h4]; rfl⟩
theorem vb_dm2 : dm vf1 2 0 [] vw2 = 10 := by rfl
theorem vb_c2 : vcode vf1 [vw1] 2 0 [] vw2 = 10 ∧ vdone vf1 [vw1] 2 0 [] vw2 = false := by
  have h : ¬ dm vf1 2 0 [] vw2 = 0 := by rw [vb_dm2]; decide
  obtain ⟨h1, h2⟩ := v_may (cs := [vw1]) h
  exact ⟨by rw [h1, vb_dm2], h2⟩
theorem vb_f2 : vf vf1 1 [vw1] 2 0 [] vw2 = vf1 ∧ vn vf1 1 [vw1] 2 0 [] vw2 = 1 ∧ vcs vf1 [vw1] 2 0 [] vw2 = [vw1] ∧ vnum vf1 1 [vw1] 2 0 [] vw2 = 0 := v_not (n := 1) vb_c2.2
theorem vb_b3 : bcode vf1 1 3 2 = 1 := by decide
theorem vb_vi0 : VI vf0 0 [] := vi_new
theorem vb_vi1 : VI vf1 1 [vw1] := by
  have := vi_new.commit vw1
  exact this
theorem vb_rd : tr (wal0 [vw1]) 1 1 1 = ⟨0, true, ⟨#[120]⟩⟩ := by rfl
theorem vb_len : (lb [vw1] ++ []).length = 5 := by decide

section
variable {w0 w : World} {vb tb gb : Nat} {f : Nat → List Ver} {n : Nat} {cs : List (List Ver)} {r : List Thing} {D D2 : Nat} {md y md2 y2 : Int} {rs rs2 : List Int} {ws ws2 : List Ver}
theorem b_begin {md at_ : Int} (hb : bcode f n md at_ = 0) (hz : Zoo w0 w (VltT vb tb gb f n cs [] :: r)) :
    Calls Try.prog 99 #[.pointer (some ⟨vb, 0, none⟩), .int .i64 md, .int .i64 at_] w fun e w' => ∃ D, e = .returned (.tuple #[.pointer (some ⟨D, 0, none⟩), .int .i64 0]) ∧ Hid (Zoo w0 w' (VltT vb tb gb f n cs [] :: BoxT D (dcells md (bat n md at_) (ncell [] [])) 126 :: r)) := by
  obtain ⟨F, ⟨Ft, Fg, k⟩, _⟩ := zoo_at0 hz
  refine (vbegin md at_ w k).mono ?_
  rintro e w' (⟨_, D, rfl, hD, hd, hk⟩ | ⟨h, _⟩)
  · exact ⟨D, rfl, Zoo.put_ (l1 := [VltT vb tb gb f n cs []]) hz (F := [D]) ⟨hd, rfl, hD⟩ hk⟩
  · exact absurd hb h
theorem b_none {md at_ z : Int} (hb : bcode f n md at_ = z) (h0 : z ≠ 0) (hz : Zoo w0 w (VltT vb tb gb f n cs [] :: r)) :
    Calls Try.prog 99 #[.pointer (some ⟨vb, 0, none⟩), .int .i64 md, .int .i64 at_] w fun e w' => e = .returned (.tuple #[.pointer none, .int .i64 z]) ∧ Hid (Zoo w0 w' (VltT vb tb gb f n cs [] :: r)) := by
  obtain ⟨F, ⟨Ft, Fg, k⟩, _⟩ := zoo_at0 hz
  refine (vbegin md at_ w k).mono ?_
  rintro e w' (⟨h, _⟩ | ⟨_, rfl, hk⟩)
  · exact absurd (hb.symm.trans h) h0
  · exact ⟨by rw [hb], hz.kp0 hk⟩
theorem b_put1 (k : Int) (t : Bool) (s : ByteArray) (hs : s.size ≤ maxLen) (hz : Zoo w0 w (VltT vb tb gb f n cs [] :: BoxT D (dcells md y (ncell rs ws)) 126 :: r)) :
    Calls Try.prog 102 #[.pointer (some ⟨D, 0, none⟩), .int .i64 k, .agg #[.bool t, .string s]] w fun e w' => e = .returned (.int .i64 (dpc md k t s)) ∧ Hid (Zoo w0 w' (VltT vb tb gb f n cs [] :: BoxT D (dcells md y (ncell rs (dpw md ws k t s))) 126 :: r)) := by
  obtain ⟨F, ⟨h1, h2, h3⟩, k2⟩ := zoo_at1 hz
  exact (dput57 k t s w h1 hs).mono (fun e w' ⟨he, hd, hk⟩ => ⟨he, k2 _ _ ⟨F, ⟨hd, h2, h3⟩, by rw [h2]; exact hk, fun x hx => .inl hx⟩⟩)
theorem b_put2 {o : Thing} (k : Int) (t : Bool) (s : ByteArray) (hs : s.size ≤ maxLen) (hz : Zoo w0 w (VltT vb tb gb f n cs [] :: o :: BoxT D (dcells md y (ncell rs ws)) 126 :: r)) :
    Calls Try.prog 102 #[.pointer (some ⟨D, 0, none⟩), .int .i64 k, .agg #[.bool t, .string s]] w fun e w' => e = .returned (.int .i64 (dpc md k t s)) ∧ Hid (Zoo w0 w' (VltT vb tb gb f n cs [] :: o :: BoxT D (dcells md y (ncell rs (dpw md ws k t s))) 126 :: r)) := by
  obtain ⟨F, ⟨h1, h2, h3⟩, k2⟩ := zoo_at2 hz
  exact (dput57 k t s w h1 hs).mono (fun e w' ⟨he, hd, hk⟩ => ⟨he, k2 _ _ ⟨F, ⟨hd, h2, h3⟩, by rw [h2]; exact hk, fun x hx => .inl hx⟩⟩)
theorem b_commit (hv : VI f n cs) (hd : Ded w D md y rs ws) (hw : WOk ws) (hz : Zoo w0 w (VltT vb tb gb f n cs [] :: r)) :
    Calls Try.prog 104 #[.pointer (some ⟨vb, 0, none⟩), .pointer (some ⟨D, 0, none⟩)] w fun e w' => e = .returned (.tuple #[.int .i64 (vnum f n cs md y rs ws), .int .i64 (vcode f cs md y rs ws)]) ∧ Hid (Zoo w0 w' (VltT vb tb gb (vf f n cs md y rs ws) (vn f n cs md y rs ws) (vcs f cs md y rs ws) [] :: r)) := by
  obtain ⟨F, ⟨Ft, Fg, k⟩, k2⟩ := zoo_at0 hz
  exact (vcommit w k hv hd hw).mono (fun e w' ⟨he, hc⟩ => ⟨he, k2 _ _ hc⟩)
theorem b_crash (hz : Zoo w0 w (VltT vb tb gb f n cs [] :: r)) :
    Calls Try.prog 53 #[.pointer (some ⟨vb, 0, none⟩)] w fun e w' => e = .returned (.tuple #[]) ∧ ∃ tb', w'.cell? ⟨vb, 0, none⟩ = some (.pointer (some ⟨tb', 0, none⟩)) ∧ Hid (Zoo w0 w' (VltT vb tb' gb (wal0 cs) cs.length cs [] :: r)) := by
  obtain ⟨F, ⟨Ft, Fg, k⟩, k2⟩ := zoo_at0 hz
  refine (vcrash w k).mono ?_
  rintro e w' ⟨rfl, tb', hc⟩
  have hz' := k2 _ _ hc
  obtain ⟨F', ⟨Ft', Fg', k'⟩, _⟩ := zoo_at0 hz'
  exact ⟨rfl, tb', k'.c0, hz'⟩
theorem b_read (k y : Int) (v : Ver) (hv : tr f n k y = v) (hz : Zoo w0 w (VltT vb tb gb f n cs [] :: r)) :
    Calls Try.prog 31 #[.pointer (some ⟨tb, 0, none⟩), .int .i64 k, .int .i64 y] w fun e w' => e = .returned (.tuple #[.agg #[.bool v.t, .string v.s], .int .i64 v.a]) ∧ Hid (Zoo w0 w' (VltT vb tb gb f n cs [] :: r)) := by
  obtain ⟨F, ⟨Ft, Fg, h⟩, _⟩ := zoo_at0 hz
  subst hv
  exact (tread32 k y w h.t).mono (fun e w' ⟨he, hk⟩ => ⟨he, hz.kp0 hk⟩)
end

end Go.Proofs.Ytapmlleemopcnac

/- A vault at the head of a list of things: its contracts, and plain words of deeds that only read. -/
namespace Go.Proofs.Ytapmlleemopcnac
open Go.RowKit
set_option maxRecDepth 20000

theorem zoo_mem {w0 w : World} {o : Thing} {os : List Thing} (h : Zoo w0 w os) (hm : o ∈ os) : ∃ F, o.holds w0.heap.size w F := by
  obtain ⟨l1, l2, rfl⟩ := List.append_of_mem hm
  obtain ⟨F, h1, _⟩ := h.at_
  exact ⟨F, h1⟩
theorem zoo_swap {w0 w : World} {A V : Thing} {r : List Thing} (hz : Zoo w0 w (A :: V :: r)) : Zoo w0 w (V :: A :: r) := hz.perm (List.Perm.swap V A r)
theorem zoo_in2 {w0 w : World} {B V D : Thing} {r : List Thing} (hz : Zoo w0 w (B :: V :: D :: r)) : Zoo w0 w (V :: D :: B :: r) := hz.perm (List.perm_middle (l₁ := [V, D])).symm
theorem zoo_var2 {w0 w : World} {V D : Thing} {r : List Thing} {p : Nat} {cs : Array Value} {T : TypeId} (hz : Zoo w0 w (V :: D :: BoxT p cs T :: r)) : w.heap[p]? = some (.cells cs T (0, 0)) := by
  obtain ⟨F, h1, _⟩ := zoo_at2 hz
  exact h1.1
theorem zoo_var3 {w0 w : World} {V D E : Thing} {r : List Thing} {p : Nat} {cs : Array Value} {T : TypeId} (hz : Zoo w0 w (V :: D :: E :: BoxT p cs T :: r)) : w.heap[p]? = some (.cells cs T (0, 0)) := by
  obtain ⟨F, h1, _⟩ := zoo_at3 hz
  exact h1.1
section
variable {w0 w : World} {vb tb gb : Nat} {f : Nat → List Ver} {n : Nat} {cs : List (List Ver)} {r : List Thing} {D : Nat} {md y : Int} {rs : List Int} {ws : List Ver}
theorem l_get (k : Int) (hz : Zoo w0 w (VltT vb tb gb f n cs [] :: BoxT D (dcells md y (ncell rs ws)) 126 :: r)) :
    Calls Try.prog 101 #[.pointer (some ⟨D, 0, none⟩), .pointer (some ⟨tb, 0, none⟩), .int .i64 k] w fun e w' => e = .returned (.tuple #[.agg #[.bool (dg f n y ws k).t, .string (dg f n y ws k).s], .int .i64 (dg f n y ws k).a]) ∧
      Hid (Zoo w0 w' (VltT vb tb gb f n cs [] :: BoxT D (dcells md y (ncell (dr f n y rs ws k) ws)) 126 :: r)) := by
  obtain ⟨F1, ⟨Ft, Fg, k1⟩, _⟩ := zoo_at0 hz
  obtain ⟨F, ⟨h1, h2, h3⟩, k2⟩ := zoo_at1 hz
  exact (dget55 k w k1.t h1).mono (fun e w' ⟨he, hd, hk⟩ => ⟨he, k2 _ _ ⟨F, ⟨hd, h2, h3⟩, by rw [h2]; exact hk, fun x hx => .inl hx⟩⟩)
theorem l_ded (hz : Zoo w0 w (VltT vb tb gb f n cs [] :: BoxT D (dcells md y (ncell rs ws)) 126 :: r)) : Ded w D md y rs ws := by
  obtain ⟨F, ⟨h1, h2, h3⟩, k2⟩ := zoo_at1 hz
  exact h1
theorem l_last (hz : Zoo w0 w (VltT vb tb gb f n cs [] :: r)) : Calls Try.prog 20 #[.pointer (some ⟨tb, 0, none⟩)] w fun e w' => e = .returned (.int .i64 n) ∧ w' = w := by
  obtain ⟨F1, ⟨Ft, Fg, k1⟩, _⟩ := zoo_at0 hz
  exact tlast38 w k1.t
theorem l_first (hz : Zoo w0 w (VltT vb tb gb f n cs [] :: r)) : Calls Try.prog 21 #[.pointer (some ⟨tb, 0, none⟩)] w fun e w' => e = .returned (.int .i64 (fmx f 8)) ∧ w' = w := by
  obtain ⟨F1, ⟨Ft, Fg, k1⟩, _⟩ := zoo_at0 hz
  exact tfirst42 w k1.t
theorem l_inv (hz : Zoo w0 w (VltT vb tb gb f n cs [] :: r)) : Inv f n ∧ LInv cs := by
  obtain ⟨F1, ⟨Ft, Fg, k1⟩, _⟩ := zoo_at0 hz
  exact ⟨k1.t.inv, k1.g.inv⟩
end
theorem dg_nil (f : Nat → List Ver) (n : Nat) (y k : Int) : dg f n y [] k = tr f n k y := by
  unfold dg
  rw [lwr_nil]
  split
  · rfl
  · rename_i h
    unfold tr
    rw [if_neg (fun q => h q.1)]
theorem cls_nil (f : Nat → List Ver) (y : Int) : ∀ m, cls f y [] m = false := by
  intro m
  induction m with
  | zero => rfl
  | succ m ih => rw [cls_no (lwr_nil _)]; exact ih
theorem dm_look (f : Nat → List Ver) (y : Int) (rs : List Int) : dm f 3 y rs [] = 0 := by
  unfold dm
  rw [cls_nil]
  simp
theorem v_look (f : Nat → List Ver) (n : Nat) (cs : List (List Ver)) (y : Int) (rs : List Int) : vcode f cs 3 y rs [] = 0 ∧ vnum f n cs 3 y rs [] = 0 ∧ vf f n cs 3 y rs [] = f ∧ vn f n cs 3 y rs [] = n ∧ vcs f cs 3 y rs [] = cs := by
  obtain ⟨h1, h2⟩ := v_none (cs := cs) (dm_look f y rs) (show (wk [] 8).length = 0 from rfl)
  obtain ⟨h3, h4, h5, h6⟩ := v_not (n := n) h2
  exact ⟨h1, h6, h3, h4, h5⟩
theorem put_look (k : Int) : ∃ z, dpc 3 k true vx = z ∧ ¬ z = 0 ∧ dpw 3 [] k true vx = [] := by
  have h : ¬ dpc 3 k true vx = 0 := by
    unfold dpc
    split
    · rw [if_pos rfl]; decide
    · decide
  exact ⟨_, rfl, h, by unfold dpw; rw [if_neg h]⟩
end Go.Proofs.Ytapmlleemopcnac

/- What the laws of torn and crashed vaults meet: all keys' values in variables, beside a vault. -/
namespace Go.Proofs.Ytapmlleemopcnac
open Go.RowKit
set_option maxRecDepth 20000

/-- Two operations may come up next. -/
theorem wpAnyH_two {P : Program} {md : Region.Mode} {l r1 r2 : List Oper} {Q : Exit → Act → World → Prop} {S : World → Prop} {i j : Nat} {oi oj : Oper} {fuel : Nat} {listed : Array Bool} {a : Act} {w : World} (hi : l.drop i = oi :: r1) (hj : l.drop j = oj :: r2) (hr : Region.ready md l.toArray listed = [i, j])
    (h1 : ∀ K' : Act → World → Prop, Shut (∀ a w, S w → (S w → wpAnyH P md l.toArray Q S fuel (listed.setIfInBounds i true) a w) → K' a w) → if Region.wanted oi (yielded l.toArray a.tmps) = true then Oper.wp P oi a w K' Q else K' (a.put oi.dst undef) w)
    (h2 : ∀ K' : Act → World → Prop, Shut (∀ a w, S w → (S w → wpAnyH P md l.toArray Q S fuel (listed.setIfInBounds j true) a w) → K' a w) → if Region.wanted oj (yielded l.toArray a.tmps) = true then Oper.wp P oj a w K' Q else K' (a.put oj.dst undef) w) :
    wpAnyH P md l.toArray Q S (fuel + 1) listed a w := wpAnyH_ready hr (by simp) (AllReadyH.cons (drop_at hi) h1 (AllReadyH.cons (drop_at hj) h2 AllReadyH.nil))

section
variable {w0 w : World} {vb tb gb : Nat} {f : Nat → List Ver} {n : Nat} {cs : List (List Ver)} {r : List Thing} {D : Nat} {md y : Int} {rs : List Int} {ws : List Ver} {V X : Thing}
theorem l_sheet {y : Int} (hk : ShK f n y 8) (v : Nat → Ver) (hv : wagg (shw f n y 8) = wagg v) (hz : Zoo w0 w (VltT vb tb gb f n cs [] :: r)) :
    Calls Try.prog 37 #[.pointer (some ⟨tb, 0, none⟩), .int .i64 y] w fun e w' => e = .returned (.tuple #[.agg (wagg v), .bool true]) ∧ Hid (Zoo w0 w' (VltT vb tb gb f n cs [] :: r)) := by
  obtain ⟨F1, ⟨Ft, Fg, k1⟩, _⟩ := zoo_at0 hz
  refine (sheet44 y w k1.t).mono ?_
  rintro e w' ⟨k, h1, rfl, h2⟩
  have e8 := h1.uniq hk
  subst e8
  exact ⟨by rw [hv]; simp, hz.kp0 h2⟩
theorem l_writes (hz : Zoo w0 w (V :: BoxT D (dcells md y (ncell rs ws)) 126 :: r)) :
    Calls Try.prog 41 #[.pointer (some ⟨D, 0, none⟩)] w fun e w' => ∃ a cap, e = .returned (.slice a (wk ws 8).length cap) ∧ Hid (Zoo w0 w' (V :: BoxT D (dcells md y (ncell rs ws)) 126 :: r)) := by
  obtain ⟨F, ⟨h1, h2, h3⟩, k2⟩ := zoo_at1 hz
  refine (dwrites66 w h1).mono ?_
  rintro e w' ⟨a, cap, rfl, _, hk⟩
  exact ⟨a, cap, rfl, hz.kp0 hk⟩
theorem l_put (k : Int) (t : Bool) (s : ByteArray) (hs : s.size ≤ maxLen) (z : Int) (hc : dpc md k t s = z) (hz : Zoo w0 w (V :: BoxT D (dcells md y (ncell rs ws)) 126 :: r)) :
    Calls Try.prog 102 #[.pointer (some ⟨D, 0, none⟩), .int .i64 k, .agg #[.bool t, .string s]] w fun e w' => e = .returned (.int .i64 z) ∧ Hid (Zoo w0 w' (V :: BoxT D (dcells md y (ncell rs (dpw md ws k t s))) 126 :: r)) := by
  obtain ⟨F, ⟨h1, h2, h3⟩, k2⟩ := zoo_at1 hz
  subst hc
  exact (dput57 k t s w h1 hs).mono (fun e w' ⟨he, hd, hk⟩ => ⟨he, k2 _ _ ⟨F, ⟨hd, h2, h3⟩, by rw [h2]; exact hk, fun x hx => .inl hx⟩⟩)
theorem b_tear (keep : Int) (hv : VI f n cs) (hd : Ded w D md y rs ws) (hw : WOk ws) (hz : Zoo w0 w (VltT vb tb gb f n cs [] :: r)) :
    Calls Try.prog 105 #[.pointer (some ⟨vb, 0, none⟩), .pointer (some ⟨D, 0, none⟩), .int .i64 keep] w fun e w' => e = .returned (.tuple #[.int .i64 (tnum f cs md y rs ws keep), .int .i64 (vcode f cs md y rs ws)]) ∧ ∃ tb', Hid (Zoo w0 w' (VltT vb tb' gb (wal0 (tcs f cs md y rs ws keep)) (tcs f cs md y rs ws keep).length (tcs f cs md y rs ws keep) [] :: r)) := by
  obtain ⟨F, ⟨Ft, Fg, k⟩, k2⟩ := zoo_at0 hz
  exact (vtear keep w k hv hd hw).mono (fun e w' ⟨he, tb', hc⟩ => ⟨he, tb', k2 _ _ hc⟩)
/-- All keys' values in a variable: the value of one key is set. -/
theorem zoo_setw {p j : Nat} {v : Nat → Ver} (hz : Zoo w0 w (V :: X :: BoxT p (wagg v) 72 :: r)) (hj : j < 8) (t : Bool) (s : ByteArray) :
    (∃ x, w.cell? ⟨p, j * 2, none⟩ = some x) ∧ (∃ x, w.cell? ⟨p, j * 2 + 1, none⟩ = some x) ∧ w.frozen? ⟨p, j * 2, none⟩ = false ∧ w.frozen? ⟨p, j * 2 + 1, none⟩ = false ∧
      Hid (Zoo w0 ((w.setCell ⟨p, j * 2, none⟩ (.bool t)).setCell ⟨p, j * 2 + 1, none⟩ (.string s)) (V :: X :: BoxT p (wagg (upd v j ⟨0, t, s⟩)) 72 :: r)) := by
  obtain ⟨F, ⟨hb, h2, h3⟩, k2⟩ := zoo_at2 hz
  refine ⟨⟨_, cell_of_block hb (wagg_at0 _ hj)⟩, ⟨_, cell_of_block hb (wagg_at1 _ hj)⟩, frozen_of_block _ hb, frozen_of_block _ hb, k2 _ _ ⟨F, ⟨?_, h2, h3⟩, ?_, fun x hx => .inl hx⟩⟩
  · rw [heap_setCell_at _ _ (heap_setCell_at _ _ hb)]
    rw [wagg_set v hj ⟨0, t, s⟩]
  · rw [h2]
    exact ((Kp.refl [p] w).setCell (.inl (by simp)) _).setCell (.inl (by simp)) _
/-- All keys' values in a variable, set whole. -/
theorem zoo_setr {p : Nat} {c c' : Array Value} (hz : Zoo w0 w (V :: BoxT p c 72 :: r)) : Zoo w0 (w.setRow p c') (V :: BoxT p c' 72 :: r) := by
  obtain ⟨F, ⟨hb, h2, h3⟩, k2⟩ := zoo_at1 hz
  obtain ⟨z1, z2⟩ := setRow_kp (cs := c') hb
  exact k2 _ _ ⟨F, ⟨z1, h2, h3⟩, by rw [h2]; exact z2, fun x hx => .inl hx⟩
theorem zoo_new1 (hz : Zoo w0 w (V :: r)) (c : Array Value) : Zoo w0 (w.alloc (.cells c 72)) (V :: BoxT w.heap.size c 72 :: r) := zoo_swap (hz.box c 72)
theorem zoo_new2 (hz : Zoo w0 w (V :: X :: r)) (c : Array Value) : Zoo w0 (w.alloc (.cells c 72)) (V :: X :: BoxT w.heap.size c 72 :: r) := zoo_in2 (hz.box c 72)
theorem zoo_var1 {p : Nat} {c : Array Value} {T : TypeId} (hz : Zoo w0 w (V :: BoxT p c T :: r)) : w.heap[p]? = some (.cells c T (0, 0)) := by
  obtain ⟨F, h1, _⟩ := zoo_at1 hz
  exact h1.1
end
theorem zoo_varm {w0 w : World} {os : List Thing} {p : Nat} {c : Array Value} {T : TypeId} (hz : Zoo w0 w os) (hm : BoxT p c T ∈ os) : w.heap[p]? = some (.cells c T (0, 0)) := by
  obtain ⟨F, h1, _⟩ := zoo_mem hz hm
  exact h1
theorem zeros_eq : wagg (fun _ => dv) = #[.bool false, .string ⟨#[]⟩, .bool false, .string ⟨#[]⟩, .bool false, .string ⟨#[]⟩, .bool false, .string ⟨#[]⟩, .bool false, .string ⟨#[]⟩, .bool false, .string ⟨#[]⟩, .bool false, .string ⟨#[]⟩, .bool false, .string ⟨#[]⟩] := rfl

/-- What is so behind a torn commit. -/
theorem tears_end {f : Nat → List Ver} {n : Nat} {cs : List (List Ver)} {ws : List Ver} {md y keep : Int} {rs : List Int} (hv : VI f n cs) (hf : Inv f n) (hl : LInv cs) (hw : WOk ws) :
    (tcs f cs md y rs ws keep = cs ∧ tnum f cs md y rs ws keep = 0 ∧ cs.length = n ∧ shw (wal0 cs) n n 8 = shw f n n 8 ∧ (vcode f cs md y rs ws ≠ 0 ∨ (wk ws 8).length = 0 ∨ keep < 200)) ∨
    (∃ m, m = n + 1 ∧ tnum f cs md y rs ws keep = m ∧ vcode f cs md y rs ws = 0 ∧ 0 < (wk ws 8).length ∧ (tcs f cs md y rs ws keep).length = m ∧ wagg (shw (wal0 (tcs f cs md y rs ws keep)) m m 8) = wagg (lay (shw f n n 8) ws)) := by
  have hn := hv.len
  by_cases hs : tcs f cs md y rs ws keep = cs
  · refine .inl ⟨hs, tnum_same hs, hn.symm, crash_shw hv hl (fmx_le hf 8 (Nat.le_refl _)).2, ?_⟩
    by_cases hc : vcode f cs md y rs ws = 0
    · by_cases hk : (wk ws 8).length = 0
      · exact .inr (.inl hk)
      · refine .inr (.inr ?_)
        have hm : dm f md y rs ws = 0 := Decidable.byContradiction (fun q => q ((v_may (cs := cs) q).1.symm.trans hc))
        rw [t_tear hm hk] at hs
        have hlc : lcode cs (wk ws 8) = 0 := Decidable.byContradiction (fun q => q ((v_full (cs := cs) hm hk q).1.symm.trans hc))
        unfold ltear at hs
        have he := enc_le hw.pf
        by_cases hq : lcode cs (wk ws 8) = 0 ∧ ((enc (wk ws 8)).length : Int) ≤ keep
        · rw [if_pos hq] at hs
          have := congrArg List.length hs
          simp at this
        · have : ¬ ((enc (wk ws 8)).length : Int) ≤ keep := fun q => hq ⟨hlc, q⟩
          omega
    · exact .inl hc
  · rcases tcs_cases (f := f) (cs := cs) (md := md) (y := y) (rs := rs) (ws := ws) (keep := keep) with e | ⟨e, h1, _, h3, h4⟩
    · exact absurd e hs
    · refine .inr ⟨n + 1, rfl, ?_, h1, by omega, by rw [e, hn]; simp, ?_⟩
      · rw [tnum_more e, hn]; push_cast; rfl
      · rw [e]
        exact (tears_now hv hf hl hw h4 rfl).symm
theorem tears_all {f : Nat → List Ver} {n : Nat} {cs : List (List Ver)} {ws : List Ver} {md y keep : Int} {rs : List Int} {v : Nat → Ver} (hv : VI f n cs) (hf : Inv f n) (hl : LInv cs) (hw : WOk ws) (he : shw f n n 8 = v) :
    ∃ f' n' cs' u num code L, tcs f cs md y rs ws keep = cs' ∧ wal0 cs' = f' ∧ cs'.length = n' ∧ tnum f cs md y rs ws keep = num ∧ vcode f cs md y rs ws = code ∧ (wk ws 8).length = L ∧ wagg (shw f' n' n' 8) = wagg u ∧ Inv f' n' ∧
      ((num = 0 ∧ n' = n ∧ u = v ∧ (code ≠ 0 ∨ (code = 0 ∧ L = 0) ∨ (code = 0 ∧ 0 < L ∧ keep < 200))) ∨ (num = n' ∧ n' = n + 1 ∧ u = lay v ws ∧ code = 0 ∧ 0 < L)) := by
  have hi := inv_wal0 (LInv.tcs (f := f) (md := md) (y := y) (rs := rs) (ws := ws) (keep := keep) hl)
  rcases tears_end (md := md) (y := y) (rs := rs) (keep := keep) hv hf hl hw with ⟨h1, h2, h3, h4, h5⟩ | ⟨m, h1, h2, h3, h4, h5, h6⟩
  · rw [h1, h3] at hi
    refine ⟨_, _, _, v, _, _, _, h1, rfl, h3, h2, rfl, rfl, by rw [h4, he], hi, .inl ⟨rfl, rfl, rfl, ?_⟩⟩
    rcases Decidable.em (vcode f cs md y rs ws = 0) with q | q
    · rcases Nat.eq_zero_or_pos (wk ws 8).length with q2 | q2
      · exact .inr (.inl ⟨q, q2⟩)
      · rcases h5 with h5 | h5 | h5
        · exact absurd q h5
        · omega
        · exact .inr (.inr ⟨q, q2, h5⟩)
    · exact .inl q
  · rw [h5] at hi
    rw [he] at h6
    exact ⟨_, m, _, _, _, _, _, rfl, rfl, h5, h2, rfl, rfl, h6, hi, .inr ⟨rfl, h1, rfl, h3, h4⟩⟩
theorem dpc_vals {k : Int} {t : Bool} {s : ByteArray} (h : ¬ dpc 2 k t s = 0) : dpc 2 k t s = 1 ∨ dpc 2 k t s = 2 ∨ dpc 2 k t s = 4 := by
  unfold dpc chk at h ⊢
  split
  · rename_i hk
    rw [if_pos hk, if_neg (by omega)] at h
    rw [if_neg (by omega)]
    split
    · exact .inr (.inl rfl)
    · rename_i q
      rw [if_neg q] at h
      split
      · exact .inr (.inr rfl)
      · rename_i q2
        rw [if_neg q2] at h
        exact absurd rfl h
  · exact .inl rfl
theorem dpc_key {k : Int} {t : Bool} {s : ByteArray} (h : dpc 2 k t s = 0) : keyB k = true ∧ ∃ j : Nat, j < 8 ∧ k = (j : Int) := by
  unfold dpc at h
  split at h
  · rename_i hk
    refine ⟨hk, k.toNat, ?_⟩
    simp only [keyB, decide_eq_true_eq] at hk
    omega
  · simp at h
end Go.Proofs.Ytapmlleemopcnac

/- Deeds that were done, in memory; those that are wanted of them (pick), by its contract; rows of them as things. -/
namespace Go.Proofs.Ytapmlleemopcnac
open Go.RowKit Srt
set_option maxRecDepth 20000
attribute [local go_sem ↓] Go.wp_at_zero Go.wp_at_succ

theorem Try.info90 : (Try.prog.info? 90).map (fun i => (i.zero, i.size, i.bytes)) = some (some (.agg #[.int .i64 0, .int .i64 0, .int .i64 0, .slice none 0 0]), 4, 48) := by kernel_rfl
/-- A deed that was done lies in block b from o on. -/
structure DnAt (w : World) (b o : Nat) (x : Dn) : Prop where
  c0 : w.cell? ⟨b, o, none⟩ = some (.int .i64 x.n)
  c1 : w.cell? ⟨b, o + 1, none⟩ = some (.int .i64 x.at_)
  c2 : w.cell? ⟨b, o + 2, none⟩ = some (.int .i64 x.md)
  cp : ∃ la lc, w.cell? ⟨b, o + 3, none⟩ = some (.slice la x.acts.length lc) ∧ x.acts.length ≤ lc
  ls : ∃ la lc, w.cell? ⟨b, o + 3, none⟩ = some (.slice la x.acts.length lc) ∧ ActsIn w la x.acts
theorem DnAt.kp0 {w w' : World} {b o : Nat} {x : Dn} (h : DnAt w b o x) (hk : Kp [] w w') : DnAt w' b o x := by
  obtain ⟨la, lc, h1, h2⟩ := h.ls
  obtain ⟨la', lc', h1', h2'⟩ := h.cp
  exact ⟨hk.cell (by simp) h.c0, hk.cell (by simp) h.c1, hk.cell (by simp) h.c2, ⟨la', lc', hk.cell (by simp) h1', h2'⟩, la, lc, hk.cell (by simp) h1, h2.kp0 hk⟩
/-- Deeds lie behind a slice's address. -/
def DnsIn (w : World) (a : Option Addr) (l : List Dn) : Prop := 0 < l.length → ∃ b o, a = some ⟨b, o, none⟩ ∧ ∀ i x, l[i]? = some x → DnAt w b (o + i * 4) x
theorem DnsIn.kp0 {w w' : World} {a : Option Addr} {l : List Dn} (h : DnsIn w a l) (hk : Kp [] w w') : DnsIn w' a l := fun hp => by
  obtain ⟨b, o, e, h1⟩ := h hp
  exact ⟨b, o, e, fun i x hx => (h1 i x hx).kp0 hk⟩
def DnsOk (l : List Dn) : Prop := l.length ≤ 1000 ∧ ∀ x, x ∈ l → ActsOk x.acts

/-- A closure that tells whether a deed is wanted. -/
structure Prd (f : Nat) (p : Dn → Bool) : Prop where
  enters : ∀ args w, (callFunc f args).run Try.prog w = .ok (.enter f args) w
  calls : ∀ x w, Calls Try.prog f #[dxv x] w fun e w' => e = .returned (.bool (p x.d)) ∧ Kp [] w w'
theorem prd_n : Prd 81 (fun d => decide (0 < d.n)) := by
  refine ⟨enters_fn Try.func81 (by kernel_rfl) rfl, fun x w => ?_⟩
  have hk : Kp [] w (w.alloc (.cells (dxc x).toArray 90)) := (Kp.refl [] w).alloc _
  obtain ⟨⟨n, at_, md, acts⟩, a, c⟩ := x
  dsimp only [dxv, dxc] at *
  generalize acts.length = l at *
  go_enter Try.func81, Try.ntmps81
  go_wp2_with fail
  go_ret
  exact ⟨rfl, hk⟩
theorem prd_a : Prd 85 (fun d => decide (d.n = 0 ∧ 0 ≤ d.at_)) := by
  refine ⟨enters_fn Try.func85 (by kernel_rfl) rfl, fun x w => ?_⟩
  have hk : Kp [] w (w.alloc (.cells (dxc x).toArray 90)) := (Kp.refl [] w).alloc _
  obtain ⟨⟨n, at_, md, acts⟩, a, c⟩ := x
  dsimp only [dxv, dxc] at *
  generalize acts.length = l at *
  by_cases h1 : n = 0
  · subst h1
    by_cases h2 : 0 ≤ at_
    · go_enter Try.func85, Try.ntmps85
      go_wp2_with fail
      go_ret
      exact ⟨by simp [h2], hk⟩
    · go_enter Try.func85, Try.ntmps85
      go_wp2_with fail
      go_ret
      exact ⟨by simp [h2], hk⟩
  · go_enter Try.func85, Try.ntmps85
    go_wp2_with fail
    go_ret
    exact ⟨by simp [h1], hk⟩

/-- The cells of deeds, one behind the other. -/
def dxcs (xs : List Dx) : List Value := xs.flatMap dxc
theorem dxcs_app (xs ys : List Dx) : dxcs (xs ++ ys) = dxcs xs ++ dxcs ys := by simp [dxcs]
theorem dxcs_at : ∀ {xs : List Dx} {i : Nat} {x : Dx}, xs[i]? = some x → (dxcs xs)[i * 4]? = some (.int .i64 x.d.n) ∧ (dxcs xs)[i * 4 + 1]? = some (.int .i64 x.d.at_) ∧ (dxcs xs)[i * 4 + 2]? = some (.int .i64 x.d.md) ∧ (dxcs xs)[i * 4 + 3]? = some (.slice x.a x.d.acts.length x.c) := by
  intro xs
  induction xs with
  | nil => intro i x h; simp at h
  | cons y r ih =>
    intro i x h
    have e : dxcs (y :: r) = dxc y ++ dxcs r := rfl
    cases i with
    | zero =>
      simp at h
      subst h
      rw [e]
      exact ⟨rfl, rfl, rfl, rfl⟩
    | succ i =>
      simp at h
      obtain ⟨h0, h1, h2, h3⟩ := ih h
      have hl : (dxc y).length = 4 := rfl
      rw [e]
      refine ⟨?_, ?_, ?_, ?_⟩
      · rw [List.getElem?_append_right (by rw [hl]; omega), hl, show (i + 1) * 4 - 4 = i * 4 by omega]; exact h0
      · rw [List.getElem?_append_right (by rw [hl]; omega), hl, show (i + 1) * 4 + 1 - 4 = i * 4 + 1 by omega]; exact h1
      · rw [List.getElem?_append_right (by rw [hl]; omega), hl, show (i + 1) * 4 + 2 - 4 = i * 4 + 2 by omega]; exact h2
      · rw [List.getElem?_append_right (by rw [hl]; omega), hl, show (i + 1) * 4 + 3 - 4 = i * 4 + 3 by omega]; exact h3
/-- What pick tells: the deeds that are wanted, in a row of their own. -/
def PkEnd (p : Dn → Bool) (ds : List Dn) (wb w : World) (e : Ending) (w' : World) : Prop := ∃ a cap xs, e = .returned (.slice a xs.length cap) ∧ xs.map Dx.d = ds.filter p ∧ (∀ x, x ∈ xs → ActsIn wb x.a x.d.acts) ∧ KRow 90 4 w.heap.size w' a xs.length cap (dxcs xs) ∧ Kp [] w w'
structure PkI (p : Dn → Bool) (ds : List Dn) (wb w wr : World) (a : Option Addr) (cap n k : Nat) (xs : List Dx) : Prop where
  nl : n = xs.length
  map : xs.map Dx.d = (ds.take k).filter p
  acts : ∀ x, x ∈ xs → ActsIn wb x.a x.d.acts
  zoo : Zoo w wr [KwT 90 4 a n cap (dxcs xs)]
  le : xs.length ≤ k
set_option maxHeartbeats 1000000 in
theorem pick {f : Nat} {p : Dn → Bool} (hp : Prd f p) (a : Option Addr) (c : Nat) (ds : List Dn) (wb w : World) (hwb : Kp [] wb w) (h : DnsIn wb a ds) (hm : ds.length ≤ 1000) :
    Calls Try.prog 80 #[.slice a ds.length c, .func (.func f) #[] #[]] w fun e w' => PkEnd p ds wb w e w' := by
  have hu := Try.underlying85
  have HC := hide hp
  have eg := hp.enters
  have HD := hide h
  have HKB := hide hwb
  clear h hp hwb
  obtain ⟨m, hmm⟩ : ∃ m, ds.length = m := ⟨_, rfl⟩
  rw [hmm]
  rw [hmm] at hm
  have HM := hide hmm
  clear hmm
  go_enter Try.func80, Try.ntmps80
  go_wp2_with fail
  go_loopw [5, 7, 10] (fun x _ y wr => ∃ (k : Nat) (a' : Option Addr) (cap n : Nat), k ≤ m ∧ x = .slice a' n cap ∧ y = .int .i64 k ∧ Hid (∃ xs, PkI p ds wb w wr a' cap n k xs)) (fun _ _ y _ => m - (intOf y).toNat)
  case atStart => exact ⟨0, none, 0, 0, Nat.zero_le _, rfl, rfl, [], rfl, by simp, fun x hx => by simp at hx, kw_nil _ 4 (zoo_nil (Kp.refl [] w)), by simp⟩
  case round =>
    obtain ⟨k, a', cap, n, hk, rfl, rfl, HI⟩ := hrel
    obtain ⟨xs, hi⟩ := unhide HI
    have HP := hide hi
    have hnk : n ≤ k := by rw [hi.nl]; exact hi.le
    clear hi HI
    by_cases hlt : k < m
    · have i1 : (k : Int) < (m : Int) := by omega
      have i0 : (0 : Int) ≤ (k : Int) := by omega
      have hln : k < ds.length := by have := unhide HM; omega
      obtain ⟨b, o, rfl, hb⟩ := (unhide HD) (by omega)
      obtain ⟨x, hx⟩ : ∃ x, ds[k]? = some x := ⟨_, List.getElem?_eq_getElem hln⟩
      have htk : ds.take (k + 1) = ds.take k ++ [x] := by rw [List.take_add_one, hx]; rfl
      have HT := hide htk
      have hat := hb k x hx
      have hkw := (unhide HKB).trans0 (unhide HP).zoo.kp
      obtain ⟨la, lc, z3, hls⟩ := hat.ls
      have HLS := hide hls
      have q0 := (hat.kp0 hkw).c0
      have q1 := (hat.kp0 hkw).c1
      have q2 : wr.cell? ⟨b, o + k * 4 + 1 + 1, none⟩ = _ := (hat.kp0 hkw).c2
      have q3 : wr.cell? ⟨b, o + k * 4 + 1 + 1 + 1, none⟩ = _ := hkw.cell (by simp) z3
      clear hat hb hx hls z3 hkw htk
      obtain ⟨xn, xa, xm, xacts⟩ := x
      dsimp only at q0 q1 q2 q3 HLS
      have HCC : Hid (∀ W, Calls Try.prog f #[.agg #[.int .i64 xn, .int .i64 xa, .int .i64 xm, .slice la xacts.length lc]] W fun e w' => e = .returned (.bool (p ⟨xn, xa, xm, xacts⟩)) ∧ Kp [] W w') := fun W => (unhide HC).calls ⟨⟨xn, xa, xm, xacts⟩, la, lc⟩ W
      obtain ⟨ln, hlen⟩ : ∃ ln, xacts.length = ln := ⟨_, rfl⟩
      rw [hlen] at q3 HCC
      have HLN := hide hlen
      clear hlen
      obtain ⟨pb, hpb⟩ : ∃ pb, p ⟨xn, xa, xm, xacts⟩ = pb := ⟨_, rfl⟩
      rw [hpb] at HCC
      have HPB := hide hpb
      clear hpb
      have HZ1 := hide ((unhide HP).zoo.box #[.int .i64 xn, .int .i64 xa, .int .i64 xm, .slice la ln lc] 90)
      go_wp2_with fail
      refine ((unhide HCC) _).mono ?_
      rintro e w2 ⟨rfl, hk2⟩
      have HZ2 := hide ((unhide HZ1).kp0 hk2)
      clear hk2 HZ1
      generalize wr.heap.size = g at *
      have hbx := Zoo.var (unhide HZ2)
      have b0 : w2.cell? ⟨g, 0, none⟩ = some (.int .i64 xn) := cell_of_block hbx rfl
      have b1 : w2.cell? ⟨g, 1, none⟩ = some (.int .i64 xa) := cell_of_block hbx rfl
      have b2 : w2.cell? ⟨g, 2, none⟩ = some (.int .i64 xm) := cell_of_block hbx rfl
      have b3 : w2.cell? ⟨g, 3, none⟩ = some (.slice la ln lc) := cell_of_block hbx rfl
      have hgl := lt_of_block hbx
      have hBw := Zoo.base (unhide HZ2)
      clear hbx q0 q1 q2 q3
      cases pb with
      | true =>
        have HZA := hide ((unhide HZ2).box #[.int .i64 xn, .int .i64 xa, .int .i64 xm, .slice la ln lc] 90)
        have HBX := hide (Zoo.var (unhide HZA))
        go_wp2_with (at_builtin; refine wpList_krow (by rfl) (.tmp 17) (.tmp 19) 85 (by rfl) hu Try.info90 rfl (by omega) (kw_row (l1 := [BoxT w2.heap.size #[.int .i64 xn, .int .i64 xa, .int .i64 xm, .slice la ln lc] 90, BoxT g #[.int .i64 xn, .int .i64 xa, .int .i64 xm, .slice la ln lc] 90]) (unhide HZA)) (by simp; omega) (.slice (some ⟨w2.heap.size, 0, none⟩) 1 1) [.int .i64 xn, .int .i64 xa, .int .i64 xm, .slice la ln lc] 1 (by rfl) (by rfl) (src_built hu (unhide HBX) rfl (by simp [Value.oneCell'])) (by omega) (n + 1) rfl ?_; intro a2 cap2 w3 g1 g2 g3)
        have HZ3 := hide (Zoo.tail (Zoo.tail (kw_app (l1 := [BoxT w2.heap.size #[.int .i64 xn, .int .i64 xa, .int .i64 xm, .slice la ln lc] 90, BoxT g #[.int .i64 xn, .int .i64 xa, .int .i64 xm, .slice la ln lc] 90]) (unhide HZA) (unhide g1) (unhide g2) (unhide g3))))
        refine ⟨⟨k + 1, a2, cap2, n + 1, by omega, rfl, by go_num, xs ++ [⟨⟨xn, xa, xm, xacts⟩, la, lc⟩], ?_, ?_, fun y hy => ?_, ?_, ?_⟩, by simp [intOf]; omega⟩
        · rw [List.length_append, (unhide HP).nl]; rfl
        · rw [List.map_append, (unhide HP).map, unhide HT, List.filter_append, List.filter_cons_of_pos (unhide HPB)]
          rfl
        · rcases List.mem_append.1 hy with e | e
          · exact (unhide HP).acts y e
          · rw [List.mem_singleton.1 e]; exact unhide HLS
        · rw [dxcs_app, show dxcs [⟨⟨xn, xa, xm, xacts⟩, la, lc⟩] = [.int .i64 xn, .int .i64 xa, .int .i64 xm, .slice la ln lc] from by rw [← unhide HLN]; rfl]
          exact unhide HZ3
        · have := (unhide HP).le; rw [List.length_append]; simp; omega
      | false =>
        go_wp2_with fail
        refine ⟨⟨k + 1, a', cap, n, by omega, rfl, by go_num, xs, (unhide HP).nl, ?_, (unhide HP).acts, (unhide HZ2).tail, ?_⟩, by simp [intOf]; omega⟩
        · rw [(unhide HP).map, unhide HT, List.filter_append, List.filter_cons_of_neg (by rw [unhide HPB]; simp), List.filter_nil, List.append_nil]
        · have := (unhide HP).le; omega
    · have i1 : ¬ (k : Int) < (m : Int) := by omega
      go_wp2_with fail
      go_ret
      have hn := (unhide HP).nl
      have hz := (unhide HP).zoo
      have hmp := (unhide HP).map
      rw [List.take_of_length_le (by have := unhide HM; omega)] at hmp
      rw [hn] at hz
      exact ⟨a', cap, xs, congrArg (fun z => Ending.returned (Value.slice a' z cap)) hn, hmp, (unhide HP).acts, kw_row (l1 := []) hz, hz.kp⟩
end Go.Proofs.Ytapmlleemopcnac

/- What is looked at between two commits: the closure, by its contract. -/
namespace Go.Proofs.Ytapmlleemopcnac
open Go.RowKit Srt
set_option maxRecDepth 20000
attribute [local go_sem ↓] Go.wp_at_zero Go.wp_at_succ

/-- A deed's cells, from o on. -/
structure DxAt (w : World) (g o : Nat) (x : Dx) : Prop where
  c0 : w.cell? ⟨g, o, none⟩ = some (.int .i64 x.d.n)
  c1 : w.cell? ⟨g, o + 1, none⟩ = some (.int .i64 x.d.at_)
  c2 : w.cell? ⟨g, o + 2, none⟩ = some (.int .i64 x.d.md)
  c3 : w.cell? ⟨g, o + 3, none⟩ = some (.slice x.a x.d.acts.length x.c)
def DxIn (w : World) (a : Option Addr) (L : List Dx) : Prop := 0 < L.length → ∃ g o, a = some ⟨g, o, none⟩ ∧ ∀ i x, L[i]? = some x → DxAt w g (o + i * 4) x
theorem DxAt.kp {S : List Nat} {w w' : World} {g o : Nat} {x : Dx} (h : DxAt w g o x) (hk : Kp S w w') (hg : g ∉ S) : DxAt w' g o x := ⟨hk.cell hg h.c0, hk.cell hg h.c1, hk.cell hg h.c2, hk.cell hg h.c3⟩
theorem DxIn.kp {S : List Nat} {w w' : World} {a : Option Addr} {L : List Dx} (h : DxIn w a L) (hk : Kp S w w') (hg : 0 < L.length → ∀ x, x ∈ obd a → x ∉ S) : DxIn w' a L := fun hp => by
  obtain ⟨g, o, e, h1⟩ := h hp
  exact ⟨g, o, e, fun i x hx => (h1 i x hx).kp hk (hg hp g (by rw [e]; simp [obd]))⟩
/-- The variable that holds what is still to be looked at, and those deeds. -/
def LkT (pb : Nat) (L : List Dx) : Thing where
  holds B w F := ∃ a c, w.heap[pb]? = some (.cells #[.slice a L.length c] 85 (0, 0)) ∧ DxIn w a L ∧ F = pb :: (if L.length = 0 then [] else obd a) ∧ (∀ x, x ∈ F → B ≤ x ∧ x < w.heap.size) ∧ (0 < L.length → pb ∉ obd a) ∧ L.length ≤ c
  kp := fun ⟨a, c, h1, h2, h3, h4, h5, h6⟩ hk hS => ⟨a, c, by rw [hk.block pb (lt_of_block h1) (hS pb (by rw [h3]; simp))]; exact h1, h2.kp hk (fun hp x hx => hS x (by rw [h3, if_neg (by omega)]; simp [hx])), h3, fun x hx => ⟨(h4 x hx).1, Nat.lt_of_lt_of_le (h4 x hx).2 hk.size⟩, h5, h6⟩
  lo := fun ⟨_, _, _, _, _, h4, _, _⟩ => h4
  base := fun ⟨a, c, h1, h2, h3, h4, h5, h6⟩ hC => ⟨a, c, h1, h2, h3, fun x hx => ⟨Nat.le_trans hC (h4 x hx).1, (h4 x hx).2⟩, h5, h6⟩
theorem lk_next {B pb g o c c' : Nat} {w : World} {F : List Nat} {x : Dx} {L : List Dx} {a' : Option Addr} (h : (LkT pb (x :: L)).holds B w F) (hc : w.cell? ⟨pb, 0, none⟩ = some (.slice (some ⟨g, o, none⟩) (L.length + 1) c)) (ha : 0 < L.length → a' = some ⟨g, o + 4, none⟩) (hl : L.length ≤ c') : Ch (LkT pb L) B w F (w.setCell ⟨pb, 0, none⟩ (.slice a' L.length c')) := by
  obtain ⟨a, c1, h1, h2, h3, h4, h5, h6⟩ := h
  have hp : 0 < (x :: L).length := by simp
  have e0 := cell_of_block (i := 0) h1 rfl
  rw [hc] at e0
  simp only [Option.some.injEq] at e0
  obtain ⟨rfl, _, rfl⟩ := Value.slice.inj e0
  obtain ⟨g', o', e, hx⟩ := h2 hp
  simp only [Option.some.injEq, Addr.mk.injEq, and_true] at e
  obtain ⟨rfl, rfl⟩ := e
  have hne : pb ≠ g := fun q => h5 hp (by rw [q]; simp [obd])
  have hk : Kp [pb] w (w.setCell ⟨pb, 0, none⟩ (.slice a' L.length c')) := (Kp.refl [pb] w).setCell (.inl (by simp)) _
  have hpF : pb ∈ F := by rw [h3]; simp
  have hgF : g ∈ F := by rw [h3, if_neg (by omega)]; simp [obd]
  refine ⟨pb :: (if L.length = 0 then [] else obd a'), ⟨a', c', ?_, fun hq => ⟨g, o + 4, ha hq, fun i y hy => ?_⟩, rfl, fun y hy => ?_, fun hq => ?_, hl⟩, hk.mono (fun y hy => .inl (by rw [List.mem_singleton.1 hy]; exact hpF)), fun y hy => ?_⟩
  · rw [heap_setCell_at _ _ h1]; rfl
  · have := (hx (i + 1) y (by simpa using hy)).kp hk (by simp; exact fun q => hne q.symm)
    rwa [show o + (i + 1) * 4 = o + 4 + i * 4 by omega] at this
  · rcases List.mem_cons.1 hy with q | q
    · rw [q]; exact ⟨(h4 pb hpF).1, Nat.lt_of_lt_of_le (h4 pb hpF).2 hk.size⟩
    · split at q
      · simp at q
      · rw [ha (by omega)] at q
        simp [obd] at q
        rw [q]; exact ⟨(h4 g hgF).1, Nat.lt_of_lt_of_le (h4 g hgF).2 hk.size⟩
  · rw [ha hq]; simp [obd]; exact hne
  · rcases List.mem_cons.1 hy with q | q
    · rw [q]; exact .inl hpF
    · split at q
      · simp at q
      · rw [ha (by omega)] at q
        simp [obd] at q
        rw [q]; exact .inl hgF
theorem s3_kp {w w' : World} {p0 p1 : Addr} {x0 x1 : Value} {q : Nat} {cs : List Value} (h : w.cell? p0 = some x0 ∧ w.cell? p1 = some x1 ∧ w.rangeAt q 0 cs) (hk : Kp [] w w') : w'.cell? p0 = some x0 ∧ w'.cell? p1 = some x1 ∧ w'.rangeAt q 0 cs :=
  ⟨hk.cell (by simp) h.1, hk.cell (by simp) h.2.1, fun j u hu => hk.cell (by simp) (h.2.2 j u hu)⟩
theorem rangeAt_var {w : World} {p : Nat} {u : Nat → Ver} {T : TypeId} (h : w.heap[p]? = some (.cells (wagg u) T (0, 0))) : w.rangeAt p 0 (wagg u).toList := fun j v hv => by
  rw [Nat.zero_add]
  exact cell_of_block h (by simpa using hv)
def BtEnd5 (v : Nat → Ver) (u : Int) (L : List Dx) (w0 : World) (pb : Nat) (r : List Thing) (e : Ending) (w' : World) : Prop := ∃ L', e = .returned (.bool (btw v u (L.map Dx.d)).1) ∧ L'.map Dx.d = (btw v u (L.map Dx.d)).2 ∧ (∀ x, x ∈ L' → x ∈ L) ∧ L'.length ≤ L.length ∧ Zoo w0 w' (LkT pb L' :: r)
theorem lk_fz {w0 w : World} {pb : Nat} {L : List Dx} {r : List Thing} (h : Zoo w0 w (LkT pb L :: r)) : w.frozen? ⟨pb, 0, none⟩ = false := by
  obtain ⟨F, ⟨a, c, h1, _⟩, _⟩ := zoo_at0 h
  exact frozen_of_block 0 h1
theorem lk_step {w0 w : World} {pb g o c c' : Nat} {x : Dx} {L : List Dx} {a' : Option Addr} {r : List Thing} (h : Zoo w0 w (LkT pb (x :: L) :: r)) (hc : w.cell? ⟨pb, 0, none⟩ = some (.slice (some ⟨g, o, none⟩) (L.length + 1) c)) (ha : 0 < L.length → a' = some ⟨g, o + 4, none⟩) (hl : L.length ≤ c') : Zoo w0 (w.setCell ⟨pb, 0, none⟩ (.slice a' L.length c')) (LkT pb L :: r) := by
  obtain ⟨F, h1, h2⟩ := zoo_at0 h
  exact h2 _ _ (lk_next h1 hc ha hl)
theorem lk_cell {w0 w : World} {pb : Nat} {L : List Dx} {r : List Thing} (h : Zoo w0 w (LkT pb L :: r)) : ∃ a c, w.cell? ⟨pb, 0, none⟩ = some (.slice a L.length c) ∧ DxIn w a L ∧ L.length ≤ c := by
  obtain ⟨F, ⟨a, c, h1, h2, _, _, _, h6⟩, _⟩ := zoo_at0 h
  exact ⟨a, c, cell_of_block h1 rfl, h2, h6⟩
theorem zoo_drop1 {w0 w : World} {A B : Thing} {r : List Thing} (h : Zoo w0 w (A :: B :: r)) : Zoo w0 w (A :: r) := (zoo_swap h).tail
set_option maxHeartbeats 2000000 in
theorem between5 (v : Nat → Ver) (u : Int) (pb : Nat) (L : List Dx) (w0 w : World) (r : List Thing) (hz : Zoo w0 w (LkT pb L :: r)) (ha : ∀ x, x ∈ L → (∀ W, Kp [] w0 W → ActsIn W x.a x.d.acts) ∧ ActsOk x.d.acts) :
    Calls Try.prog 88 #[.agg (wagg v), .int .i64 u, .pointer (some ⟨pb, 0, none⟩)] w fun e w' => BtEnd5 v u L w0 pb r e w' := by
  have HA := hide ha
  have HZ0 := hide (zoo_swap (hz.box (wagg v) 97))
  clear hz ha
  go_enter Try.func88, Try.ntmps88
  go_wp2_with fail
  generalize w.heap.size = q at *
  go_loopw [6, 7] (fun _ _ wr => Hid (∃ L' : List Dx, btw v u (L'.map Dx.d) = btw v u (L.map Dx.d) ∧ (∀ x, x ∈ L' → x ∈ L) ∧ L'.length ≤ L.length ∧ Zoo w0 wr (LkT pb L' :: BoxT q (wagg v) 97 :: r))) (fun _ _ wr => match wr.cell? ⟨pb, 0, none⟩ with | some (.slice _ n _) => n | _ => 0)
  case atStart => exact ⟨L, rfl, fun _ hx => hx, Nat.le_refl _, unhide HZ0⟩
  case round =>
    obtain ⟨L1, m1, m2, m3, hz⟩ := unhide hrel
    have HZ := hide hz
    have HM := hide (And.intro m1 (And.intro m2 m3))
    obtain ⟨a, c, hcell, hdx, hlec⟩ := lk_cell hz
    have hqv := Zoo.var (zoo_swap hz)
    clear hz hrel m1 m2 m3 HZ0
    cases L1 with
    | nil =>
      dsimp only [List.length_nil] at hcell
      go_wp2_with fail
      go_ret
      refine ⟨[], ?_, ?_, fun x hx => by simp at hx, by simp, zoo_drop1 (unhide HZ)⟩
      · rw [← (unhide HM).1]; rfl
      · rw [← (unhide HM).1]; rfl
    | cons x L' =>
      obtain ⟨g, o, rfl, hx⟩ := hdx (by simp)
      have h0 := hx 0 x (by simp)
      simp only [Nat.zero_mul, Nat.add_zero] at h0
      have c1 := h0.c1
      have c3 : wr.cell? ⟨g, o + 3, none⟩ = _ := h0.c3
      clear hx h0
      have hac := unhide HA x ((unhide HM).2.1 x (by simp))
      obtain ⟨⟨xn, xa, xm, xacts⟩, xp, xc⟩ := x
      dsimp only at c1 c3 hac
      have HAC := hide (hac.1 _ (unhide HZ).kp)
      have hok := hac.2
      clear hac
      obtain ⟨lx, hlx⟩ : ∃ lx, xacts.length = lx := ⟨_, rfl⟩
      rw [hlx] at c3
      have HLX := hide hlx
      clear hlx
      obtain ⟨n, hn⟩ : ∃ n, (⟨⟨xn, xa, xm, xacts⟩, xp, xc⟩ :: L').length = n := ⟨_, rfl⟩
      rw [hn] at hcell hlec
      have hn1 : 0 < n := by rw [← hn]; simp
      have hnl : L'.length + 1 = n := by rw [← hn]; simp
      have HN := hide hnl.symm
      have hlc : L'.length ≤ c - 1 := by omega
      have j1 : (0 : Int) < (n : Int) := by omega
      have hnl' : n - 1 = L'.length := by omega
      clear hn
      by_cases hau : xa ≤ u
      · have hau' : xa ≤ u := hau
        have HG := hide (And.intro hcell (And.intro c3 (rangeAt_var hqv)))
        go_wp2_with fail
        clear hqv
        refine wp_region_held_drew (S := fun w' => w'.cell? ⟨pb, 0, none⟩ = some (.slice (some ⟨g, o, none⟩) n c) ∧ w'.cell? ⟨g, o + 3, none⟩ = some (.slice xp lx xc) ∧ w'.rangeAt q 0 (wagg v).toList) (by kernel_rfl) (s3_kp (unhide HG) (Kp.refl [] wr).drew) (fun hHeld => ?_)
        have HKD := hide ((Kp.refl [] wr).drew)
        generalize World.drew _ = WD at HKD hHeld ⊢
        refine wpAnyH_tk (i := 0) rfl (by kernel_rfl) (by kernel_rfl) (by kernel_rfl) (fun _ _ _ h => h) (yields_s (by rfl) _ rfl q 0 rfl v (fun _ h => h.2.2)) hHeld ?_
        try simp only [Act.put, List.setIfInBounds_toArray, List.set_cons_zero, List.set_cons_succ]
        refine wpAnyH_tk (i := 1) (v := ?_) rfl (by kernel_rfl) (by kernel_rfl) (by kernel_rfl) (fun _ _ _ h => h) (Or.inl ⟨by rfl, ?_⟩) hHeld ?_
        rotate_left
        · intro w hSw
          try dsimp only at hSw
          go_simp
          try with_reducible rfl
        try simp only [Act.put, List.setIfInBounds_toArray, List.set_cons_zero, List.set_cons_succ]
        refine wpAnyH_tk (i := 2) (v := ?_) rfl (by kernel_rfl) (by kernel_rfl) (by kernel_rfl) (fun _ _ _ h => h) (Or.inl ⟨by rfl, ?_⟩) hHeld ?_
        rotate_left
        · intro w hSw
          try dsimp only at hSw
          go_simp
          try with_reducible rfl
        try simp only [Act.put, List.setIfInBounds_toArray, List.set_cons_zero, List.set_cons_succ]
        refine wpAnyH_tk (i := 3) (v := ?_) rfl (by kernel_rfl) (by kernel_rfl) (by kernel_rfl) (fun _ _ _ h => h) (Or.inl ⟨by rfl, ?_⟩) hHeld ?_
        rotate_left
        · intro w hSw
          try dsimp only at hSw
          go_simp
          try with_reducible rfl
        try simp only [Act.put, List.setIfInBounds_toArray, List.set_cons_zero, List.set_cons_succ]
        refine wpAnyH_tk (i := 4) (v := ?_) rfl (by kernel_rfl) (by kernel_rfl) (by kernel_rfl) (fun _ _ _ h => h) (Or.inl ⟨by rfl, ?_⟩) hHeld ?_
        rotate_left
        · intro w hSw
          try dsimp only at hSw
          go_simp
          try with_reducible rfl
        try simp only [Act.put, List.setIfInBounds_toArray, List.set_cons_zero, List.set_cons_succ]
        refine wpAnyH_two (i := 5) (j := 9) rfl rfl (by kernel_rfl) (fun K hK => ?_) (fun K hK => ?_)
        · go_simp
          rw [← unhide HLX]
          refine (replay v xp xc xacts _ ((unhide HAC).kp0 (unhide HKD)) hok).mono ?_
          rintro e w3 ⟨rfl, hk3⟩
          have HK3 := hide ((unhide HKD).trans0 hk3)
          clear hk3
          rw [unhide HLX]
          go_wp2_with fail
          refine hK.out _ _ (s3_kp (unhide HG) (unhide HK3)) (fun hHeld2 => ?_)
          clear hK K hHeld
          have hHeld := hHeld2
          clear hHeld2
          try simp only [Act.put, List.setIfInBounds_toArray, List.set_cons_zero, List.set_cons_succ]
          refine wpAnyH_tk (i := 6) (v := ?_) rfl (by kernel_rfl) (by kernel_rfl) (by kernel_rfl) (fun _ _ _ h => h) (Or.inl ⟨by rfl, ?_⟩) hHeld ?_
          rotate_left
          · intro w hSw
            try dsimp only at hSw
            go_simp
            try with_reducible rfl
          try simp only [Act.put, List.setIfInBounds_toArray, List.set_cons_zero, List.set_cons_succ]
          refine wpAnyH_tk (i := 7) (v := ?_) rfl (by kernel_rfl) (by kernel_rfl) (by kernel_rfl) (fun _ _ _ h => h) (Or.inl ⟨by rfl, ?_⟩) hHeld ?_
          rotate_left
          · intro w hSw
            try dsimp only at hSw
            go_simp
            try with_reducible rfl
          try simp only [Act.put, List.setIfInBounds_toArray, List.set_cons_zero, List.set_cons_succ]
          refine wpAnyH_tk (i := 8) (v := ?_) rfl (by kernel_rfl) (by kernel_rfl) (by kernel_rfl) (fun _ _ _ h => h) (Or.inl ⟨by rfl, ?_⟩) hHeld ?_
          rotate_left
          · intro w hSw
            try dsimp only at hSw
            go_simp
            try with_reducible rfl
          try simp only [Act.put, List.setIfInBounds_toArray, List.set_cons_zero, List.set_cons_succ]
          refine wpAnyH_only (i := 9) rfl (by kernel_rfl) (fun K hK => ?_)
          go_simp
          have HKA := hide ((unhide HK3).alloc (.cells (wagg (fun _ => dv)) 97))
          have HB3 := hide (heap_alloc_new w3 (.cells (wagg (fun _ => dv)) 97))
          have SS := s3_kp (unhide HG) (unhide HKA)
          rw [zeros_eq] at HKA HB3 SS
          have hp3 := (unhide HK3).size
          refine hK.out _ _ (SS) (fun hHeld2 => ?_)
          clear hK K hHeld
          have hHeld := hHeld2
          clear hHeld2
          try simp only [Act.put, List.setIfInBounds_toArray, List.set_cons_zero, List.set_cons_succ]
          clear SS
          generalize hp3e : w3.heap.size = p3 at *
          clear hp3e
          refine wpAnyH_only (i := 10) rfl (by kernel_rfl) (fun K hK => ?_)
          rw [if_pos (by rfl)]
          refine wp_store_row 97 _ _ rfl p3 (wagg (rpw v xacts)) rfl rfl 97 _ (unhide HB3) Try.size97 rfl (wagg_one _) ?_
          have HKE := hide ((unhide HKA).trans (setRow_kp (cs := wagg (rpw v xacts)) (unhide HB3)).2 (fun x hx => .inr (by rw [List.mem_singleton.1 hx]; exact hp3)))
          refine hK.out _ _ (s3_kp (unhide HG) (unhide HKE)) (fun hHeld2 => ?_)
          clear hK K hHeld
          have hHeld := hHeld2
          clear hHeld2
          simp only [Act.put]
          refine wpAnyH_tk (i := 11) (v := ?_) rfl (by kernel_rfl) (by kernel_rfl) (by kernel_rfl) (fun _ _ _ h => h) (Or.inl ⟨by rfl, ?_⟩) hHeld ?_
          rotate_left
          · intro w hSw
            try dsimp only at hSw
            go_simp
            try with_reducible rfl
          try simp only [Act.put, List.setIfInBounds_toArray, List.set_cons_zero, List.set_cons_succ]
          refine wpAnyH_done (by kernel_rfl) ?_ _
          generalize World.setRow _ _ _ = W12 at HKE ⊢
          clear hHeld
          have HZ2 := hide ((unhide HZ).kp0 (unhide HKE))
          cases hro : rpo v xacts with
          | false =>
            have HRO := hide hro
            clear hro
            go_wp2_with fail
            go_ret
            refine ⟨⟨⟨xn, xa, xm, xacts⟩, xp, xc⟩ :: L', ?_, ?_, (unhide HM).2.1, (unhide HM).2.2, zoo_drop1 (unhide HZ2)⟩
            · rw [← (unhide HM).1]; simp [btw, hau', unhide HRO]
            · rw [← (unhide HM).1]; simp [btw, hau', unhide HRO]
          | true =>
            have HRO := hide hro
            clear hro
            have hc2 : W12.cell? ⟨pb, 0, none⟩ = some (.slice (some ⟨g, o, none⟩) n c) := (unhide HKE).cell (by simp) (unhide HG).1
            have hf2 := lk_fz (unhide HZ2)
            go_wp2_with fail
            have HZ3 := hide (lk_step (c' := c - 1) (a' := if c = 1 then some ⟨g, o, none⟩ else some ⟨g, o + 4, none⟩) (unhide HZ2) (by rw [← unhide HN]; exact hc2) (fun q => if_neg (by omega)) hlc)
            obtain ⟨a9, c9, e9, _⟩ := lk_cell (unhide HZ3)
            exact ⟨⟨L', by rw [← (unhide HM).1]; simp [btw, hau', unhide HRO], fun y hy => (unhide HM).2.1 y (by simp [hy]), by have := (unhide HM).2.2; simp at this; omega, unhide HZ3⟩, by rw [e9, hcell]; dsimp only; omega⟩
          
        · go_simp
          have HKA := hide ((unhide HKD).alloc (.cells (wagg (fun _ => dv)) 97))
          have HB3 := hide (heap_alloc_new WD (.cells (wagg (fun _ => dv)) 97))
          have SS := s3_kp (unhide HG) (unhide HKA)
          rw [zeros_eq] at HKA HB3 SS
          have hp3 := (unhide HKD).size
          refine hK.out _ _ (SS) (fun hHeld2 => ?_)
          clear hK K hHeld
          have hHeld := hHeld2
          clear hHeld2
          try simp only [Act.put, List.setIfInBounds_toArray, List.set_cons_zero, List.set_cons_succ]
          clear SS
          generalize hp3e : WD.heap.size = p3 at *
          clear hp3e
          have HB4 := HB3
          refine wpAnyH_only (i := 5) rfl (by kernel_rfl) (fun K hK => ?_)
          go_simp
          rw [← unhide HLX]
          refine (replay v xp xc xacts _ ((unhide HAC).kp0 (unhide HKA)) hok).mono ?_
          rintro e w3 ⟨rfl, hk3⟩; have HKR := hide hk3
          have HK3 := hide ((unhide HKA).trans0 hk3)
          clear hk3
          rw [unhide HLX]
          go_wp2_with fail
          refine hK.out _ _ (s3_kp (unhide HG) (unhide HK3)) (fun hHeld2 => ?_)
          clear hK K hHeld
          have hHeld := hHeld2
          clear hHeld2
          try simp only [Act.put, List.setIfInBounds_toArray, List.set_cons_zero, List.set_cons_succ]
          refine wpAnyH_tk (i := 6) (v := ?_) rfl (by kernel_rfl) (by kernel_rfl) (by kernel_rfl) (fun _ _ _ h => h) (Or.inl ⟨by rfl, ?_⟩) hHeld ?_
          rotate_left
          · intro w hSw
            try dsimp only at hSw
            go_simp
            try with_reducible rfl
          try simp only [Act.put, List.setIfInBounds_toArray, List.set_cons_zero, List.set_cons_succ]
          refine wpAnyH_tk (i := 7) (v := ?_) rfl (by kernel_rfl) (by kernel_rfl) (by kernel_rfl) (fun _ _ _ h => h) (Or.inl ⟨by rfl, ?_⟩) hHeld ?_
          rotate_left
          · intro w hSw
            try dsimp only at hSw
            go_simp
            try with_reducible rfl
          try simp only [Act.put, List.setIfInBounds_toArray, List.set_cons_zero, List.set_cons_succ]
          refine wpAnyH_tk (i := 8) (v := ?_) rfl (by kernel_rfl) (by kernel_rfl) (by kernel_rfl) (fun _ _ _ h => h) (Or.inl ⟨by rfl, ?_⟩) hHeld ?_
          rotate_left
          · intro w hSw
            try dsimp only at hSw
            go_simp
            try with_reducible rfl
          try simp only [Act.put, List.setIfInBounds_toArray, List.set_cons_zero, List.set_cons_succ]
          have HB5 := hide (((unhide HKR).block p3 (lt_of_block (unhide HB3)) (by simp)).trans (unhide HB3))
          refine wpAnyH_only (i := 10) rfl (by kernel_rfl) (fun K hK => ?_)
          rw [if_pos (by rfl)]
          refine wp_store_row 97 _ _ rfl p3 (wagg (rpw v xacts)) rfl rfl 97 _ (unhide HB5) Try.size97 rfl (wagg_one _) ?_
          have HKE := hide ((unhide HK3).trans (setRow_kp (cs := wagg (rpw v xacts)) (unhide HB5)).2 (fun x hx => .inr (by rw [List.mem_singleton.1 hx]; exact hp3)))
          refine hK.out _ _ (s3_kp (unhide HG) (unhide HKE)) (fun hHeld2 => ?_)
          clear hK K hHeld
          have hHeld := hHeld2
          clear hHeld2
          simp only [Act.put]
          refine wpAnyH_tk (i := 11) (v := ?_) rfl (by kernel_rfl) (by kernel_rfl) (by kernel_rfl) (fun _ _ _ h => h) (Or.inl ⟨by rfl, ?_⟩) hHeld ?_
          rotate_left
          · intro w hSw
            try dsimp only at hSw
            go_simp
            try with_reducible rfl
          try simp only [Act.put, List.setIfInBounds_toArray, List.set_cons_zero, List.set_cons_succ]
          refine wpAnyH_done (by kernel_rfl) ?_ _
          generalize World.setRow _ _ _ = W12 at HKE ⊢
          clear hHeld
          have HZ2 := hide ((unhide HZ).kp0 (unhide HKE))
          cases hro : rpo v xacts with
          | false =>
            have HRO := hide hro
            clear hro
            go_wp2_with fail
            go_ret
            refine ⟨⟨⟨xn, xa, xm, xacts⟩, xp, xc⟩ :: L', ?_, ?_, (unhide HM).2.1, (unhide HM).2.2, zoo_drop1 (unhide HZ2)⟩
            · rw [← (unhide HM).1]; simp [btw, hau', unhide HRO]
            · rw [← (unhide HM).1]; simp [btw, hau', unhide HRO]
          | true =>
            have HRO := hide hro
            clear hro
            have hc2 : W12.cell? ⟨pb, 0, none⟩ = some (.slice (some ⟨g, o, none⟩) n c) := (unhide HKE).cell (by simp) (unhide HG).1
            have hf2 := lk_fz (unhide HZ2)
            go_wp2_with fail
            have HZ3 := hide (lk_step (c' := c - 1) (a' := if c = 1 then some ⟨g, o, none⟩ else some ⟨g, o + 4, none⟩) (unhide HZ2) (by rw [← unhide HN]; exact hc2) (fun q => if_neg (by omega)) hlc)
            obtain ⟨a9, c9, e9, _⟩ := lk_cell (unhide HZ3)
            exact ⟨⟨L', by rw [← (unhide HM).1]; simp [btw, hau', unhide HRO], fun y hy => (unhide HM).2.1 y (by simp [hy]), by have := (unhide HM).2.2; simp at this; omega, unhide HZ3⟩, by rw [e9, hcell]; dsimp only; omega⟩
          
      · have hau' : ¬ xa ≤ u := hau
        go_wp2_with fail
        go_ret
        refine ⟨⟨⟨xn, xa, xm, xacts⟩, xp, xc⟩ :: L', ?_, ?_, (unhide HM).2.1, (unhide HM).2.2, zoo_drop1 (unhide HZ)⟩
        · rw [← (unhide HM).1]; simp only [List.map_cons, btw]; rw [if_neg (by omega)]; rfl
        · rw [← (unhide HM).1]; simp only [List.map_cons, btw]; rw [if_neg (by omega)]
end Go.Proofs.Ytapmlleemopcnac

/- A hall's memory as one thing: its box, its vault, its seats' deeds. -/
namespace Go.Proofs.Ytapmlleemopcnac
open Go.RowKit
set_option maxRecDepth 20000

/-- Things as one thing. -/
def ManyT (os : List Thing) : Thing where
  holds B w F := ZooF B w os F
  kp := fun h hk hS => ZooF.kp hk h hS
  lo := fun h => h.lo
  base := fun h hC => ZooF.base hC h
theorem zoof_app {B : Nat} {w : World} : ∀ {us vs : List Thing} {X : List Nat}, ZooF B w (us ++ vs) X → ∃ F Y, ZooF B w us F ∧ ZooF B w vs Y ∧ (∀ x, x ∈ F → x ∉ Y) ∧ X = F ++ Y
  | [], vs, X, h => ⟨[], X, rfl, h, fun _ hx => by simp at hx, rfl⟩
  | o :: us, vs, X, ⟨F, Y, h1, h2, h3, e⟩ => by
    obtain ⟨F1, Y1, k1, k2, k3, rfl⟩ := zoof_app h2
    refine ⟨F ++ F1, Y1, ⟨F, F1, h1, k1, fun x hx hy => h3 x hx (by simp [hy]), rfl⟩, k2, fun x hx hy => ?_, by rw [e, List.append_assoc]⟩
    rcases List.mem_append.1 hx with q | q
    · exact h3 x q (by simp [hy])
    · exact k3 x q hy
theorem zoof_join {B : Nat} {w : World} : ∀ {us vs : List Thing} {F Y : List Nat}, ZooF B w us F → ZooF B w vs Y → (∀ x, x ∈ F → x ∉ Y) → ZooF B w (us ++ vs) (F ++ Y)
  | [], vs, F, Y, h1, h2, _ => by rw [show F = [] from h1]; exact h2
  | o :: us, vs, F, Y, ⟨F1, F2, h1, h2, h3, e⟩, k, hd => by
    subst e
    refine ⟨F1, F2 ++ Y, h1, zoof_join h2 k (fun x hx => hd x (by simp [hx])), fun x hx hy => ?_, by rw [List.append_assoc]⟩
    rcases List.mem_append.1 hy with q | q
    · exact h3 x hx q
    · exact hd x (by simp [hx]) q
section
variable {w0 w w' : World} {os us r : List Thing}
theorem many_open (h : Zoo w0 w (ManyT os :: r)) : Zoo w0 w (os ++ r) := by
  obtain ⟨X, ⟨F, Y, h1, h2, h3, rfl⟩, hk⟩ := h
  exact ⟨F ++ Y, zoof_join h1 h2 h3, hk⟩
theorem many_close (h : Zoo w0 w (os ++ r)) : Zoo w0 w (ManyT os :: r) := by
  obtain ⟨X, h1, hk⟩ := h
  obtain ⟨F, Y, k1, k2, k3, rfl⟩ := zoof_app h1
  exact ⟨F ++ Y, ⟨F, Y, k1, k2, k3, rfl⟩, hk⟩
end

/-- A seat's deed in memory: its block, and what it is; none. -/
abbrev Sd := Option (Nat × Dp)
def OptT : Sd → Thing
  | none => ManyT []
  | some x => BoxT x.1 (dcells x.2.md x.2.y (ncell x.2.rs x.2.ws)) 126
def sp (o : Sd) : Value := .pointer (o.map fun x => ⟨x.1, 0, none⟩)
def hcells (vb : Nat) (st : Nat → Sd) : Array Value := #[.pointer (some ⟨vb, 0, none⟩), sp (st 0), sp (st 1), sp (st 2), sp (st 3), sp (st 4)]
def seats (st : Nat → Sd) : List Thing := [OptT (st 0), OptT (st 1), OptT (st 2), OptT (st 3), OptT (st 4)]
def Sts (st : Nat → Sd) (seat : Nat → Option Dp) : Prop := ∀ s, (st s).map Prod.snd = seat s
/-- The things of a hall. -/
def hth (hb vb tb gb : Nat) (h : HSt) (st : Nat → Sd) : List Thing := BoxT hb (hcells vb st) 43 :: VltT vb tb gb h.f h.n h.cs [] :: seats st
def HalT (hb : Nat) (h : HSt) : Thing where
  holds B w F := ∃ vb tb gb st, Sts st h.seat ∧ HInv h ∧ ZooF B w (hth hb vb tb gb h st) F
  kp := fun ⟨vb, tb, gb, st, h1, h2, h3⟩ hk hS => ⟨vb, tb, gb, st, h1, h2, ZooF.kp hk h3 hS⟩
  lo := fun ⟨_, _, _, _, _, _, h⟩ => h.lo
  base := fun ⟨vb, tb, gb, st, h1, h2, h3⟩ hC => ⟨vb, tb, gb, st, h1, h2, ZooF.base hC h3⟩
/-- A hall among things, its parts known. -/
def Hall (w0 w : World) (hb vb tb gb : Nat) (h : HSt) (st : Nat → Sd) (r : List Thing) : Prop := Zoo w0 w (BoxT hb (hcells vb st) 43 :: VltT vb tb gb h.f h.n h.cs [] :: (seats st ++ r))

section
variable {w0 w w' : World} {hb vb tb gb : Nat} {h h' : HSt} {st : Nat → Sd} {r : List Thing}
theorem hal_open (hz : Zoo w0 w (HalT hb h :: r)) : ∃ vb tb gb st, Sts st h.seat ∧ HInv h ∧ Hall w0 w hb vb tb gb h st r := by
  obtain ⟨X, ⟨F, Y, ⟨vb, tb, gb, st, h1, h2, k⟩, h4, h5, rfl⟩, hk⟩ := hz
  exact ⟨vb, tb, gb, st, h1, h2, F ++ Y, zoof_join k h4 h5, hk⟩
theorem hal_close (hs : Sts st h.seat) (hi : HInv h) (hz : Hall w0 w hb vb tb gb h st r) : Zoo w0 w (HalT hb h :: r) := by
  obtain ⟨X, h1, hk⟩ := hz
  obtain ⟨F, Y, k1, k2, k3, rfl⟩ := zoof_app (us := hth hb vb tb gb h st) (vs := r) h1
  exact ⟨F ++ Y, ⟨F, Y, ⟨vb, tb, gb, st, hs, hi, k1⟩, k2, k3, rfl⟩, hk⟩
theorem Hall.kp0 (hz : Hall w0 w hb vb tb gb h st r) (hk : Kp [] w w') : Hall w0 w' hb vb tb gb h st r := Zoo.kp0 hz hk
theorem Hall.vlt (hz : Hall w0 w hb vb tb gb h st r) : Zoo w0 w (VltT vb tb gb h.f h.n h.cs [] :: BoxT hb (hcells vb st) 43 :: (seats st ++ r)) := zoo_swap hz
theorem Hall.of_vlt {vb : Nat} {f : Nat → List Ver} {n : Nat} {cs : List (List Ver)} {seat : Nat → Option Dp} (hz : Zoo w0 w (VltT vb tb gb f n cs [] :: BoxT hb (hcells vb st) 43 :: (seats st ++ r))) : Hall w0 w hb vb tb gb ⟨f, n, cs, seat⟩ st r := zoo_swap hz
theorem Hall.box (hz : Hall w0 w hb vb tb gb h st r) : w.heap[hb]? = some (.cells (hcells vb st) 43 (0, 0)) := Zoo.var hz
theorem Hall.c0 (hz : Hall w0 w hb vb tb gb h st r) : w.cell? ⟨hb, 0, none⟩ = some (.pointer (some ⟨vb, 0, none⟩)) := cell_of_block hz.box rfl
theorem hcells_at (vb : Nat) (st : Nat → Sd) {s : Nat} (hs : s < 5) : (hcells vb st)[1 + s]? = some (sp (st s)) := by
  rcases (show s = 0 ∨ s = 1 ∨ s = 2 ∨ s = 3 ∨ s = 4 by omega) with e | e | e | e | e <;> subst e <;> rfl
theorem Hall.cs_ (hz : Hall w0 w hb vb tb gb h st r) {s : Nat} (hs : s < 5) : w.cell? ⟨hb, 1 + s, none⟩ = some (sp (st s)) := cell_of_block hz.box (hcells_at vb st hs)
theorem Hall.fz (hz : Hall w0 w hb vb tb gb h st r) (i : Nat) : w.frozen? ⟨hb, i, none⟩ = false := frozen_of_block i hz.box
theorem Hall.lt (hz : Hall w0 w hb vb tb gb h st r) : hb < w.heap.size := lt_of_block hz.box
theorem Hall.v0 (hz : Hall w0 w hb vb tb gb h st r) : w.cell? ⟨vb, 0, none⟩ = some (.pointer (some ⟨tb, 0, none⟩)) := by
  obtain ⟨F, ⟨Ft, Fg, k⟩, _⟩ := zoo_at1 hz
  exact k.c0
theorem Hall.vlt_ (hz : Hall w0 w hb vb tb gb h st r) : vb < w.heap.size := by
  obtain ⟨F, ⟨Ft, Fg, k⟩, _⟩ := zoo_at1 hz
  exact (k.lo vb k.vF).2
theorem Hall.base (hz : Hall w0 w hb vb tb gb h st r) : w0.heap.size ≤ w.heap.size := Zoo.base hz
/-- The seats' things, one of them at its place. -/
theorem seats_at (st : Nat → Sd) {s : Nat} (hs : s < 5) : ∃ l1 l2, seats st = l1 ++ OptT (st s) :: l2 ∧ ∀ d, seats (upd st s d) = l1 ++ OptT d :: l2 := by
  rcases (show s = 0 ∨ s = 1 ∨ s = 2 ∨ s = 3 ∨ s = 4 by omega) with e | e | e | e | e <;> subst e
  · exact ⟨[], [OptT (st 1), OptT (st 2), OptT (st 3), OptT (st 4)], rfl, fun d => by simp [seats, upd]⟩
  · exact ⟨[OptT (st 0)], [OptT (st 2), OptT (st 3), OptT (st 4)], rfl, fun d => by simp [seats, upd]⟩
  · exact ⟨[OptT (st 0), OptT (st 1)], [OptT (st 3), OptT (st 4)], rfl, fun d => by simp [seats, upd]⟩
  · exact ⟨[OptT (st 0), OptT (st 1), OptT (st 2)], [OptT (st 4)], rfl, fun d => by simp [seats, upd]⟩
  · exact ⟨[OptT (st 0), OptT (st 1), OptT (st 2), OptT (st 3)], [], rfl, fun d => by simp [seats, upd]⟩
/-- A seat's deed, moved to the head: behind the vault; and back, another one in its place, the box as it was. -/
theorem Hall.out (hz : Hall w0 w hb vb tb gb h st r) {s : Nat} (hs : s < 5) : ∃ rest, Zoo w0 w (VltT vb tb gb h.f h.n h.cs [] :: OptT (st s) :: rest) ∧
    ∀ (w' : World) (tb' : Nat) (f : Nat → List Ver) (n : Nat) (cs : List (List Ver)) (d : Sd) (seat : Nat → Option Dp), sp d = sp (st s) → Zoo w0 w' (VltT vb tb' gb f n cs [] :: OptT d :: rest) → Hall w0 w' hb vb tb' gb ⟨f, n, cs, seat⟩ (upd st s d) r := by
  obtain ⟨l1, l2, e1, e2⟩ := seats_at st hs
  have hc : ∀ d, sp d = sp (st s) → hcells vb (upd st s d) = hcells vb st := fun d hd => by
    rcases (show s = 0 ∨ s = 1 ∨ s = 2 ∨ s = 3 ∨ s = 4 by omega) with e | e | e | e | e <;> subst e <;> simp [hcells, upd, hd]
  refine ⟨BoxT hb (hcells vb st) 43 :: (l1 ++ (l2 ++ r)), ?_, fun w' tb' f n cs d seat hd hz' => ?_⟩
  · have h1 := Hall.vlt hz
    rw [e1, List.append_assoc] at h1
    refine h1.perm (List.Perm.cons _ ?_)
    exact (List.perm_middle (l₁ := BoxT hb (hcells vb st) 43 :: l1))
  · refine Hall.of_vlt ?_
    rw [e2, hc d hd, List.append_assoc]
    refine hz'.perm (List.Perm.cons _ ?_)
    exact (List.perm_middle (l₁ := BoxT hb (hcells vb st) 43 :: l1)).symm
theorem Hall.out2 (hz : Hall w0 w hb vb tb gb h st r) {s : Nat} (hs : s < 5) : ∃ rest, Zoo w0 w (VltT vb tb gb h.f h.n h.cs [] :: OptT (st s) :: rest) ∧
    ∀ (w' : World) (tb' : Nat) (f : Nat → List Ver) (n : Nat) (cs : List (List Ver)) (d : Sd) (P : Thing) (seat : Nat → Option Dp), sp d = sp (st s) → Zoo w0 w' (VltT vb tb' gb f n cs [] :: OptT d :: P :: rest) → Hall w0 w' hb vb tb' gb ⟨f, n, cs, seat⟩ (upd st s d) (P :: r) := by
  obtain ⟨l1, l2, e1, e2⟩ := seats_at st hs
  have hc : ∀ d, sp d = sp (st s) → hcells vb (upd st s d) = hcells vb st := fun d hd => by
    rcases (show s = 0 ∨ s = 1 ∨ s = 2 ∨ s = 3 ∨ s = 4 by omega) with e | e | e | e | e <;> subst e <;> simp [hcells, upd, hd]
  refine ⟨BoxT hb (hcells vb st) 43 :: (l1 ++ (l2 ++ r)), ?_, fun w' tb' f n cs d P seat hd hz' => ?_⟩
  · have h1 := Hall.vlt hz
    rw [e1, List.append_assoc] at h1
    refine h1.perm (List.Perm.cons _ ?_)
    exact (List.perm_middle (l₁ := BoxT hb (hcells vb st) 43 :: l1))
  · refine Hall.of_vlt ?_
    rw [e2, hc d hd, List.append_assoc]
    refine hz'.perm (List.Perm.cons _ ?_)
    have p1 := (List.perm_middle (l₁ := BoxT hb (hcells vb st) 43 :: l1) (a := OptT d) (l₂ := l2 ++ (P :: r))).symm
    refine List.Perm.trans (List.Perm.cons _ ?_) p1
    have p2 := (List.perm_middle (l₁ := BoxT hb (hcells vb st) 43 :: (l1 ++ l2)) (a := P) (l₂ := r)).symm
    have e3 : ∀ q : List Thing, BoxT hb (hcells vb st) 43 :: (l1 ++ (l2 ++ q)) = (BoxT hb (hcells vb st) 43 :: (l1 ++ l2)) ++ q := fun q => by simp
    show (P :: BoxT hb (hcells vb st) 43 :: (l1 ++ (l2 ++ r))).Perm (BoxT hb (hcells vb st) 43 :: (l1 ++ (l2 ++ (P :: r))))
    rw [e3, e3]
    exact p2
/-- A seat's cell is set, the deed that it had is let go. -/
theorem hcells_set (vb : Nat) (st : Nat → Sd) {s : Nat} (hs : s < 5) (d : Sd) : (hcells vb st).setIfInBounds (1 + s) (sp d) = hcells vb (upd st s d) := by
  rcases (show s = 0 ∨ s = 1 ∨ s = 2 ∨ s = 3 ∨ s = 4 by omega) with e | e | e | e | e <;> subst e <;> simp [hcells, upd]
theorem Hall.sit {s : Nat} (hs : s < 5) (d : Sd) (k : Zoo w0 w (BoxT hb (hcells vb st) 43 :: VltT vb tb gb h.f h.n h.cs [] :: (seats (upd st s d) ++ r))) :
    Hall w0 (w.setCell ⟨hb, 1 + s, none⟩ (sp d)) hb vb tb gb h (upd st s d) r := by
  obtain ⟨F, ⟨hbx, h2, h3⟩, k2⟩ := zoo_at0 k
  refine k2 _ _ ⟨F, ⟨?_, h2, h3⟩, ?_, fun x hx => .inl hx⟩
  · rw [heap_setCell_at _ _ hbx, hcells_set vb st hs d]
  · rw [h2]
    exact (Kp.refl [hb] w).setCell (.inl (by simp)) _
theorem opt_none (hz : Zoo w0 w r) : Zoo w0 w (OptT none :: r) := many_close (os := []) hz
theorem Hall.leave (hz : Hall w0 w hb vb tb gb h st r) {s : Nat} (hs : s < 5) : Hall w0 (w.setCell ⟨hb, 1 + s, none⟩ (.pointer none)) hb vb tb gb h (upd st s none) (OptT (st s) :: r) := by
  obtain ⟨l1, l2, e1, e2⟩ := seats_at st hs
  generalize hA : BoxT hb (hcells vb st) 43 :: VltT vb tb gb h.f h.n h.cs [] :: l1 = A
  have h1 : Zoo w0 w (A ++ OptT (st s) :: (l2 ++ r)) := by
    have := hz
    unfold Hall at this
    rw [e1, List.append_assoc] at this
    rw [← hA]
    exact this
  have h2 := (opt_none h1).perm ((List.Perm.cons _ List.perm_middle).trans (List.Perm.swap _ _ _))
  have h3 := h2.perm (List.Perm.cons _ (List.perm_middle (l₁ := A)).symm)
  have h4 : Zoo w0 w (OptT (st s) :: ((A ++ OptT none :: l2) ++ r)) := by rw [List.append_assoc]; exact h3
  have h5 := h4.perm (List.perm_middle (l₁ := A ++ OptT none :: l2)).symm
  have h6 : Zoo w0 w (BoxT hb (hcells vb st) 43 :: VltT vb tb gb h.f h.n h.cs [] :: (seats (upd st s none) ++ (OptT (st s) :: r))) := by
    rw [e2]
    rw [← hA] at h5
    exact h5
  exact Hall.sit hs none h6
/-- A new deed at an empty seat: it lies at the head of the others. -/
theorem Hall.join {d : Sd} (hz : Zoo w0 w (VltT vb tb gb h.f h.n h.cs [] :: OptT d :: BoxT hb (hcells vb st) 43 :: (seats st ++ r))) {s : Nat} (hs : s < 5) (hn : st s = none) : Hall w0 (w.setCell ⟨hb, 1 + s, none⟩ (sp d)) hb vb tb gb h (upd st s d) r := by
  obtain ⟨l1, l2, e1, e2⟩ := seats_at st hs
  refine Hall.sit (h := h) (st := st) hs d ?_
  rw [e1, hn, List.append_assoc] at hz
  have h1 : Zoo w0 w ((VltT vb tb gb h.f h.n h.cs [] :: OptT d :: BoxT hb (hcells vb st) 43 :: l1) ++ OptT none :: (l2 ++ r)) := hz
  have h2 := h1.drop_
  rw [e2, List.append_assoc]
  refine h2.perm ?_
  have p1 : (VltT vb tb gb h.f h.n h.cs [] :: OptT d :: BoxT hb (hcells vb st) 43 :: (l1 ++ (l2 ++ r))).Perm (BoxT hb (hcells vb st) 43 :: VltT vb tb gb h.f h.n h.cs [] :: OptT d :: (l1 ++ (l2 ++ r))) := List.perm_middle (l₁ := [VltT vb tb gb h.f h.n h.cs [], OptT d])
  exact p1.trans (List.Perm.cons _ (List.Perm.cons _ List.perm_middle.symm))
/-- All deeds are let go. -/
theorem Hall.leaveAll (hz : Hall w0 w hb vb tb gb h st r) (hb' : w'.heap[hb]? = some (.cells (hcells vb (fun _ => none)) 43 (0, 0))) (hk : Kp [hb] w w') : Hall w0 w' hb vb tb gb ⟨h.f, h.n, h.cs, fun _ => none⟩ (fun _ => none) r := by
  have h1 : Zoo w0 w ((BoxT hb (hcells vb st) 43 :: VltT vb tb gb h.f h.n h.cs [] :: seats st) ++ r) := hz
  have h2 : Zoo w0 w (BoxT hb (hcells vb st) 43 :: VltT vb tb gb h.f h.n h.cs [] :: r) := by
    have h5 : Zoo w0 w (seats st ++ (BoxT hb (hcells vb st) 43 :: VltT vb tb gb h.f h.n h.cs [] :: r)) := by
      refine h1.perm ?_
      have p : ((BoxT hb (hcells vb st) 43 :: VltT vb tb gb h.f h.n h.cs [] :: seats st) ++ r).Perm ((seats st ++ [BoxT hb (hcells vb st) 43, VltT vb tb gb h.f h.n h.cs []]) ++ r) := (List.perm_append_comm (l₁ := [BoxT hb (hcells vb st) 43, VltT vb tb gb h.f h.n h.cs []]) (l₂ := seats st)).append_right r
      rw [List.append_assoc] at p
      exact p
    exact (many_close h5).tail
  obtain ⟨F, ⟨hbx, e2, e3⟩, k2⟩ := zoo_at0 h2
  have h4 : Zoo w0 w' (BoxT hb (hcells vb (fun _ => none)) 43 :: VltT vb tb gb h.f h.n h.cs [] :: r) := k2 _ _ ⟨F, ⟨hb', e2, e3⟩, by rw [e2]; exact hk, fun x hx => .inl hx⟩
  have h6 := opt_none (opt_none (opt_none (opt_none (opt_none h4))))
  exact h6.perm ((List.perm_append_comm (l₁ := seats (fun _ => none)) (l₂ := [BoxT hb (hcells vb (fun _ => none)) 43, VltT vb tb gb h.f h.n h.cs []])).append_right r)
/-- A seat's deed. -/
theorem Hall.ded (hz : Hall w0 w hb vb tb gb h st r) {s D : Nat} {d : Dp} (hs : s < 5) (hd : st s = some (D, d)) : Ded w D d.md d.y d.rs d.ws := by
  obtain ⟨rest, h1, _⟩ := hz.out hs
  rw [hd] at h1
  obtain ⟨F, h2, _⟩ := zoo_at1 h1
  exact h2.1
/-- Variables beside a hall. -/
theorem Hall.new (hz : Hall w0 w hb vb tb gb h st r) (c : Array Value) (T : TypeId) : Hall w0 (w.alloc (.cells c T)) hb vb tb gb h st (BoxT w.heap.size c T :: r) := by
  have h1 := Zoo.box hz c T
  exact h1.perm (List.perm_middle (l₁ := BoxT hb (hcells vb st) 43 :: VltT vb tb gb h.f h.n h.cs [] :: seats st)).symm
theorem Hall.two (hz : Hall w0 w hb vb tb gb h st r) (c : Array Value) (T : TypeId) (c2 : Array Value) (T2 : TypeId) : Hall w0 ((w.alloc (.cells c T)).alloc (.cells c2 T2)) hb vb tb gb h st (BoxT (w.heap.size + 1) c2 T2 :: BoxT w.heap.size c T :: r) := by
  have h1 := (hz.new c T).new c2 T2
  rw [show (w.alloc (.cells c T)).heap.size = w.heap.size + 1 by simp] at h1
  exact h1
theorem Hall.perm {r' : List Thing} (hz : Hall w0 w hb vb tb gb h st r) (hp : r.Perm r') : Hall w0 w hb vb tb gb h st r' := Zoo.perm hz (List.Perm.cons _ (List.Perm.cons _ (List.Perm.append_left _ hp)))
theorem Hall.var {p : Nat} {c : Array Value} {T : TypeId} (hz : Hall w0 w hb vb tb gb h st r) (hm : BoxT p c T ∈ r) : w.heap[p]? = some (.cells c T (0, 0)) := zoo_varm hz (by simp [hm])
/-- A thing beside a hall, and what a call on it may do. -/
theorem Hall.at_ {l1 l2 : List Thing} {o : Thing} (hz : Hall w0 w hb vb tb gb h st (l1 ++ o :: l2)) : ∃ F, o.holds w0.heap.size w F ∧ ∀ (o' : Thing) (w' : World), Ch o' w0.heap.size w F w' → Hall w0 w' hb vb tb gb h st (l1 ++ o' :: l2) := by
  have hz' : Zoo w0 w ((BoxT hb (hcells vb st) 43 :: VltT vb tb gb h.f h.n h.cs [] :: (seats st ++ l1)) ++ o :: l2) := by
    have := hz
    unfold Hall at this
    rw [← List.append_assoc] at this
    exact this
  obtain ⟨F, h1, h2⟩ := hz'.at_
  refine ⟨F, h1, fun o' w' hc => ?_⟩
  have := h2 o' w' hc
  unfold Hall
  rw [← List.append_assoc]
  exact this
theorem Hall.drop {l1 l2 : List Thing} {o : Thing} (hz : Hall w0 w hb vb tb gb h st (l1 ++ o :: l2)) : Hall w0 w hb vb tb gb h st (l1 ++ l2) := by
  have h1 : Hall w0 w hb vb tb gb h st (o :: (l1 ++ l2)) := hz.perm List.perm_middle
  exact Zoo.drop_ (l1 := BoxT hb (hcells vb st) 43 :: VltT vb tb gb h.f h.n h.cs [] :: seats st) h1
theorem Hall.tail {o : Thing} (hz : Hall w0 w hb vb tb gb h st (o :: r)) : Hall w0 w hb vb tb gb h st r := Hall.drop (l1 := []) hz
theorem Hall.setAt {l1 l2 : List Thing} {p : Nat} {c : Array Value} {T : TypeId} (hz : Hall w0 w hb vb tb gb h st (l1 ++ BoxT p c T :: l2)) (i : Nat) (v : Value) : Hall w0 (w.setCell ⟨p, i, none⟩ v) hb vb tb gb h st (l1 ++ BoxT p (c.setIfInBounds i v) T :: l2) := by
  obtain ⟨F, ⟨hbx, h2, h3⟩, k2⟩ := hz.at_
  exact k2 _ _ ⟨F, ⟨heap_setCell_at _ _ hbx, h2, h3⟩, by rw [h2]; exact (Kp.refl [p] w).setCell (.inl (by simp)) _, fun x hx => .inl hx⟩
theorem Hall.set0 {p : Nat} {c : Array Value} {T : TypeId} (hz : Hall w0 w hb vb tb gb h st (BoxT p c T :: r)) (i : Nat) (v : Value) : Hall w0 (w.setCell ⟨p, i, none⟩ v) hb vb tb gb h st (BoxT p (c.setIfInBounds i v) T :: r) := Hall.setAt (l1 := []) hz i v
theorem Hall.set1 {o : Thing} {p : Nat} {c : Array Value} {T : TypeId} (hz : Hall w0 w hb vb tb gb h st (o :: BoxT p c T :: r)) (i : Nat) (v : Value) : Hall w0 (w.setCell ⟨p, i, none⟩ v) hb vb tb gb h st (o :: BoxT p (c.setIfInBounds i v) T :: r) := Hall.setAt (l1 := [o]) hz i v
/-- Two variables beside a hall are two. -/
theorem Hall.ne2 {p p2 : Nat} {c c2 : Array Value} {T T2 : TypeId} (hz : Hall w0 w hb vb tb gb h st (BoxT p c T :: BoxT p2 c2 T2 :: r)) : p ≠ p2 := by
  obtain ⟨X, ⟨F0, Y0, _, ⟨F1, Y1, _, k, _, _⟩, _, _⟩, _⟩ := hz
  obtain ⟨F, Y, k1, ⟨F2, Y2, h2, ⟨F3, Y3, h3, k3, _, e3⟩, hd, e2⟩, _, _⟩ := zoof_app k
  intro e
  subst e
  exact hd p (by rw [h2.2.1]; simp) (by rw [e3, h3.2.1]; simp)
end
end Go.Proofs.Ytapmlleemopcnac

/- Serial of deeds, by its contract. -/
namespace Go.Proofs.Ytapmlleemopcnac
open Go.RowKit Srt
set_option maxRecDepth 20000
attribute [local go_sem ↓] Go.wp_at_zero Go.wp_at_succ

theorem ob_obd (a : Option Addr) : ob a = obd a := by cases a <;> rfl
/-- A row of deeds of one's own, by their places; and as a list that stays. -/
def SlDT (a : Option Addr) (n : Nat) (d : Nat → Dx) : Thing where
  holds B w F := SlD w a n d ∧ F = obd a ∧ ∀ x, x ∈ F → B ≤ x ∧ x < w.heap.size
  kp := fun ⟨h1, h2, h3⟩ hk hS => ⟨h1.kp hk (fun x hx => hS x (by rw [h2]; exact hx)), h2, fun x hx => ⟨(h3 x hx).1, Nat.lt_of_lt_of_le (h3 x hx).2 hk.size⟩⟩
  lo := fun ⟨_, _, h3⟩ => h3
  base := fun ⟨h1, h2, h3⟩ hC => ⟨h1, h2, fun x hx => ⟨Nat.le_trans hC (h3 x hx).1, (h3 x hx).2⟩⟩
def CmT (a : Option Addr) (C : List Dx) : Thing where
  holds B w F := DxIn w a C ∧ F = obd a ∧ ∀ x, x ∈ F → B ≤ x ∧ x < w.heap.size
  kp := fun ⟨h1, h2, h3⟩ hk hS => ⟨h1.kp hk (fun _ x hx => hS x (by rw [h2]; exact hx)), h2, fun x hx => ⟨(h3 x hx).1, Nat.lt_of_lt_of_le (h3 x hx).2 hk.size⟩⟩
  lo := fun ⟨_, _, h3⟩ => h3
  base := fun ⟨h1, h2, h3⟩ hC => ⟨h1, h2, fun x hx => ⟨Nat.le_trans hC (h3 x hx).1, (h3 x hx).2⟩⟩
def dx0 : Dx := ⟨⟨0, 0, 0, []⟩, none, 0⟩
def dfn (xs : List Dx) (i : Nat) : Dx := xs.getD i dx0
theorem dfn_at {xs : List Dx} {i : Nat} (h : i < xs.length) : xs[i]? = some (dfn xs i) := by
  rw [List.getElem?_eq_getElem h]
  simp [dfn, List.getD_eq_getElem?_getD, List.getElem?_eq_getElem h]
theorem sg_dfn (xs : List Dx) : sg (dfn xs) 0 xs.length = xs := by
  apply List.ext_getElem?
  intro i
  by_cases h : i < xs.length
  · rw [sg_at _ _ _ _ h, dfn_at h, Nat.zero_add]
  · rw [List.getElem?_eq_none (by rw [sg_len]; omega), List.getElem?_eq_none (by omega)]
theorem krow_sld {B : Nat} {w : World} {a : Option Addr} {n cap : Nat} {xs : List Dx} (h : KRow 90 4 B w a n cap (dxcs xs)) (hn : n = xs.length) : SlD w a n (dfn xs) := by
  intro hp
  rcases h.2 with ⟨_, e, _⟩ | ⟨g, cur, e, h1, h2, h3, h4, h5, h6⟩
  · omega
  · refine ⟨g, e, cur, h2, fun i hi => ?_⟩
    obtain ⟨c0, c1, c2, c3⟩ := dxcs_at (dfn_at (xs := xs) (i := i) (by omega))
    have key : ∀ {j : Nat} {v : Value}, (dxcs xs)[j]? = some v → cur[j]? = some v := fun {j v} hv => by
      rw [← h6, List.getElem?_take] at hv
      split at hv
      · simpa using hv
      · cases hv
    exact ⟨key c0, key c1, key c2, key c3⟩
section
variable {w0 w w' : World} {l1 r : List Thing} {a : Option Addr} {n cap : Nat} {d : Nat → Dx} {xs : List Dx}
theorem kw_sld (hz : Zoo w0 w (l1 ++ KwT 90 4 a n cap (dxcs xs) :: r)) (hn : n = xs.length) : Zoo w0 w (l1 ++ SlDT a n (dfn xs) :: r) := by
  obtain ⟨F, ⟨h1, h2⟩, k2⟩ := hz.at_
  have hl := h1.lo
  exact k2 _ _ ⟨F, ⟨krow_sld h1 hn, by rw [h2, ob_obd], fun x hx => hl x (by rw [← h2]; exact hx)⟩, Kp.refl _ _, fun x hx => .inl hx⟩
theorem sld_cm (hz : Zoo w0 w (l1 ++ SlDT a n d :: r)) : Zoo w0 w (l1 ++ CmT a (sg d 0 n) :: r) := by
  obtain ⟨F, ⟨h1, h2, h3⟩, k2⟩ := hz.at_
  refine k2 _ _ ⟨F, ⟨fun hp => ?_, h2, h3⟩, Kp.refl _ _, fun x hx => .inl hx⟩
  rw [sg_len] at hp
  obtain ⟨g, e, hr⟩ := h1 hp
  refine ⟨g, 0, e, fun i x hx => ?_⟩
  have hi : i < n := by have := (List.getElem?_eq_some_iff.1 hx).1; rw [sg_len] at this; exact this
  rw [sg_at _ _ _ _ hi, Nat.zero_add] at hx
  cases hx
  obtain ⟨c0, c1, c2, c3⟩ := hr.cells hi
  rw [Nat.zero_add]
  exact ⟨c0, c1, c2, c3⟩
theorem zoo_sort {f : Nat} {key : Dx → Int} (hc : Cmp f key) (hz : Zoo w0 w (l1 ++ SlDT a n d :: r)) (hn : n ≤ 100000) :
    Calls Try.prog 82 #[.slice a n cap, .func (.func f) #[] #[]] w fun e w' => e = .returned (.tuple #[]) ∧ ∃ d', Hid (Stb key 0 n d d' ∧ SrtOn key d' 0 n) ∧ Hid (Zoo w0 w' (l1 ++ SlDT a n d' :: r)) := by
  obtain ⟨F, ⟨h1, h2, h3⟩, k2⟩ := hz.at_
  refine (sortstable hc a n cap d w h1 hn).mono ?_
  rintro e w' ⟨rfl, d', g1, g2, g3, g4⟩
  exact ⟨rfl, d', ⟨g3, g4⟩, k2 _ _ ⟨F, ⟨g1, h2, fun x hx => ⟨(h3 x hx).1, Nat.lt_of_lt_of_le (h3 x hx).2 g2.size⟩⟩, by rw [h2]; exact g2, fun x hx => .inl hx⟩⟩
/-- The row goes into the variable that a closure holds. -/
theorem lk_make {pb c : Nat} {L : List Dx} (hz : Zoo w0 w (BoxT pb #[.slice a L.length c] 85 :: CmT a L :: r)) (hl : L.length ≤ c) : Zoo w0 w (LkT pb L :: r) := by
  have h2 : Zoo w0 w ([BoxT pb #[.slice a L.length c] 85, CmT a L] ++ r) := hz
  obtain ⟨F, h3, k2⟩ := zoo_at0 (many_close h2)
  obtain ⟨F1, Y1, ⟨b1, b2, b3⟩, ⟨F2, Y2, ⟨c1, c2, c3⟩, e2, _, e3⟩, d1, e1⟩ := h3
  have eY : Y1 = F2 := by rw [e3, show Y2 = [] from e2, List.append_nil]
  refine k2 _ _ ⟨pb :: (if L.length = 0 then [] else obd a), ⟨a, c, b1, c1, rfl, fun x hx => ?_, fun hp hm => ?_, hl⟩, Kp.refl _ _, fun x hx => .inl ?_⟩
  · rcases List.mem_cons.1 hx with q | q
    · rw [q]; exact ⟨b3, lt_of_block b1⟩
    · split at q
      · simp at q
      · exact c3 x (by rw [c2]; exact q)
  · exact d1 pb (by rw [b2]; simp) (by rw [eY, c2]; exact hm)
  · rw [e1, b2, eY, c2]
    rcases List.mem_cons.1 hx with q | q
    · rw [q]; simp
    · split at q
      · simp at q
      · simp [q]
theorem zoo_setrL {p : Nat} {c c' : Array Value} {T : TypeId} (hz : Zoo w0 w (l1 ++ BoxT p c T :: r)) : Zoo w0 (w.setRow p c') (l1 ++ BoxT p c' T :: r) := by
  obtain ⟨F, ⟨hb, h2, h3⟩, k2⟩ := hz.at_
  obtain ⟨z1, z2⟩ := setRow_kp (cs := c') hb
  exact k2 _ _ ⟨F, ⟨z1, h2, h3⟩, by rw [h2]; exact z2, fun x hx => .inl hx⟩
theorem cm_mem {C : List Dx} (hz : Zoo w0 w (l1 ++ CmT a C :: r)) : DxIn w a C := by
  obtain ⟨F, h1, _⟩ := hz.at_
  exact h1.1
end
set_option maxHeartbeats 2000000 in
theorem replayall (pb : Nat) (C L : List Dx) (aC : Option Addr) (cC : Nat) (w0 w : World) (hz : Zoo w0 w [LkT pb L, CmT aC C]) (hC : ∀ x, x ∈ C → ((∀ W, Kp [] w0 W → ActsIn W x.a x.d.acts) ∧ ActsOk x.d.acts) ∧ 0 < x.d.n ∧ x.d.n ≤ 1000) (hL : ∀ x, x ∈ L → (∀ W, Kp [] w0 W → ActsIn W x.a x.d.acts) ∧ ActsOk x.d.acts) (hm : C.length ≤ 1000) :
    Calls Try.prog 87 #[.slice aC C.length cC, .func (.func 88) #[] #[.pointer (some ⟨pb, 0, none⟩)]] w fun e w' => e = .returned (.bool (rall (fun _ => dv) 0 (C.map Dx.d) (L.map Dx.d))) ∧ Kp [] w0 w' := by
  have HC := hide hC
  have HL := hide hL
  obtain ⟨R, hR⟩ : ∃ R, rall (fun _ => dv) 0 (C.map Dx.d) (L.map Dx.d) = R := ⟨_, rfl⟩
  rw [hR]
  have HR := hide hR
  have HZ0 := hide ((hz.box (wagg (fun _ => dv)) 97).perm (List.Perm.trans (List.Perm.swap _ _ _) (List.Perm.cons _ (List.Perm.swap _ _ _))))
  clear hz hC hL hR
  obtain ⟨m, hmm⟩ : ∃ m, C.length = m := ⟨_, rfl⟩
  rw [hmm]
  rw [hmm] at hm
  have HM := hide hmm
  clear hmm
  rw [zeros_eq] at HZ0
  go_enter Try.func87, Try.ntmps87
  go_wp2_with fail
  generalize w.heap.size = q at *
  go_loopw [6, 8, 9, 12] (fun x _ _ y wr => ∃ (k : Nat) (gr : Int), k ≤ m ∧ x = .int .i64 gr ∧ y = .int .i64 k ∧ Hid (∃ vk L', Zoo w0 wr [LkT pb L', CmT aC C, BoxT q (wagg vk) 97] ∧ rall vk gr ((C.drop k).map Dx.d) (L'.map Dx.d) = R ∧ ∀ x, x ∈ L' → x ∈ L)) (fun _ _ _ y _ => m - (intOf y).toNat)
  case atStart => exact ⟨0, 0, Nat.zero_le _, rfl, rfl, fun _ => dv, L, unhide HZ0, unhide HR, fun _ hx => hx⟩
  case round =>
    obtain ⟨k, gr, hk, rfl, rfl, HI⟩ := hrel
    obtain ⟨vk, L', hz, hr, hs⟩ := unhide HI
    have HZ := hide hz
    have HRR := hide hr
    have HS := hide hs
    clear hz hr hs HI HZ0
    have hqv := zoo_varm (unhide HZ) (List.Mem.tail _ (List.Mem.tail _ (List.Mem.head _)))
    by_cases hlt : k < m
    · have i1 : (k : Int) < (m : Int) := by omega
      have i0 : (0 : Int) ≤ (k : Int) := by omega
      have hln : k < C.length := by have := unhide HM; omega
      obtain ⟨b, o, rfl, hb⟩ := cm_mem (l1 := [LkT pb L']) (unhide HZ) (by omega)
      obtain ⟨x, hx⟩ : ∃ x, C[k]? = some x := ⟨_, List.getElem?_eq_getElem hln⟩
      have hdr : C.drop k = x :: C.drop (k + 1) := by
        rw [List.drop_eq_getElem_cons hln]
        rw [List.getElem?_eq_getElem hln] at hx
        rw [Option.some.inj hx]
      have HDR := hide hdr
      have hat := hb k x hx
      have hcx := unhide HC x (List.mem_of_getElem? hx)
      have q0 := hat.c0
      have q1 := hat.c1
      have q2 : wr.cell? ⟨b, o + k * 4 + 1 + 1, none⟩ = _ := hat.c2
      have q3 : wr.cell? ⟨b, o + k * 4 + 1 + 1 + 1, none⟩ = _ := hat.c3
      clear hat hb hx hdr
      obtain ⟨⟨xn, xa, xm, xacts⟩, xp, xc⟩ := x
      dsimp only at q0 q1 q2 q3 hcx
      have HCX := hide hcx.1.1
      have hok := hcx.1.2
      have n0 := hcx.2.1
      have n1 := hcx.2.2
      clear hcx
      obtain ⟨lx, hlx⟩ : ∃ lx, xacts.length = lx := ⟨_, rfl⟩
      rw [hlx] at q3
      have HLX := hide hlx
      clear hlx
      have HZ1 := hide ((((unhide HZ).box #[.int .i64 xn, .int .i64 xa, .int .i64 xm, .slice xp lx xc] 90).perm (List.Perm.swap _ _ _)))
      have hqv1 : (wr.alloc (.cells #[.int .i64 xn, .int .i64 xa, .int .i64 xm, .slice xp lx xc] 90)).heap[q]? = some (.cells (wagg vk) 97 (0, 0)) := zoo_varm (unhide HZ1) (List.Mem.tail _ (List.Mem.tail _ (List.Mem.tail _ (List.Mem.head _))))
      have e1 : IntKind.i64.wrap (xn - 1) = xn - 1 := wrap_i64_id _ (by omega) (by omega)
      go_wp2_with (refine wpList_load_row rfl 97 _ rfl q rfl 97 _ (0, 0) _ hqv1 Try.underlying97 rfl Try.size97 ?_)
      refine (between5 vk (xn - 1) pb L' w0 _ _ (unhide HZ1) (fun x hx => unhide HL x (unhide HS x hx))).mono ?_
      rintro e w2 ⟨L2, rfl, hb2, hb3, hb4, hz2⟩
      have HB2 := hide (And.intro hb2 hb3)
      have HZ2 := hide hz2
      clear hb2 hb3 hb4 hz2 HZ1 hqv1 hqv q0 q1 q2 q3
      generalize wr.heap.size = g at *
      have hrl : rall vk gr ((C.drop k).map Dx.d) (L'.map Dx.d) = ((btw vk (xn - 1) (L'.map Dx.d)).1 && ((rpo vk xacts || decide (xm ≠ 2)) && rall (rpw vk xacts) xn ((C.drop (k + 1)).map Dx.d) (L2.map Dx.d))) := by
        rw [unhide HDR, (unhide HB2).1]
        rfl
      rw [unhide HRR] at hrl
      have HRL := hide hrl
      clear hrl
      generalize (btw vk (xn - 1) (L'.map Dx.d)).1 = b1 at *
      have hbx := zoo_varm (unhide HZ2) (List.Mem.tail _ (List.Mem.head _))
      have hqv := zoo_varm (unhide HZ2) (List.Mem.tail _ (List.Mem.tail _ (List.Mem.tail _ (List.Mem.head _))))
      have b0' : w2.cell? ⟨g, 0, none⟩ = some (.int .i64 xn) := cell_of_block hbx rfl
      have b2' : w2.cell? ⟨g, 2, none⟩ = some (.int .i64 xm) := cell_of_block hbx rfl
      have b3' : w2.cell? ⟨g, 3, none⟩ = some (.slice xp lx xc) := cell_of_block hbx rfl
      cases b1 with
      | false =>
        go_wp2_with fail
        go_ret
        exact ⟨by rw [unhide HRL]; rfl, (unhide HZ2).kp⟩
      | true =>
        go_wp2_with (refine wpList_load_row rfl 97 _ rfl q rfl 97 _ (0, 0) _ hqv Try.underlying97 rfl Try.size97 ?_)
        rw [← unhide HLX]
        refine (replay vk xp xc xacts _ (unhide HCX _ (unhide HZ2).kp) hok).mono ?_
        rintro e w3 ⟨rfl, hk3⟩
        rw [unhide HLX]
        have HZ3 := hide ((unhide HZ2).kp0 hk3)
        clear hk3 hqv hbx b0' b2' b3'
        have hqv := zoo_varm (unhide HZ3) (List.Mem.tail _ (List.Mem.tail _ (List.Mem.tail _ (List.Mem.head _))))
        have HZ4 := hide (zoo_setrL (l1 := [LkT pb L2, BoxT g #[.int .i64 xn, .int .i64 xa, .int .i64 xm, .slice xp lx xc] 90, CmT (some ⟨b, o, none⟩) C]) (c' := wagg (rpw vk xacts)) (unhide HZ3))
        have hbx4 := zoo_varm (unhide HZ4) (List.Mem.tail _ (List.Mem.head _))
        have b0 : (w3.setRow q (wagg (rpw vk xacts))).cell? ⟨g, 0, none⟩ = some (.int .i64 xn) := cell_of_block hbx4 rfl
        have b2 : (w3.setRow q (wagg (rpw vk xacts))).cell? ⟨g, 2, none⟩ = some (.int .i64 xm) := cell_of_block hbx4 rfl
        clear hbx4
        cases hro : rpo vk xacts with
        | true =>
          have HRO := hide hro
          clear hro
          go_wp2_with (refine wpList_store_row rfl 97 _ _ rfl q (wagg (rpw vk xacts)) rfl rfl 97 _ hqv Try.size97 rfl (wagg_one _) ?_)
          refine ⟨⟨k + 1, xn, by omega, rfl, by go_num, rpw vk xacts, L2, zoo_drop1 (unhide HZ4), ?_, fun x hx => unhide HS x ((unhide HB2).2 x hx)⟩, by simp [intOf]; omega⟩
          rw [unhide HRL, unhide HRO]
          simp
        | false =>
          have HRO := hide hro
          clear hro
          by_cases hmd : xm = 2
          · subst hmd
            go_wp2_with (refine wpList_store_row rfl 97 _ _ rfl q (wagg (rpw vk xacts)) rfl rfl 97 _ hqv Try.size97 rfl (wagg_one _) ?_)
            go_ret
            exact ⟨by rw [unhide HRL, unhide HRO]; rfl, (unhide HZ4).kp⟩
          · go_wp2_with (refine wpList_store_row rfl 97 _ _ rfl q (wagg (rpw vk xacts)) rfl rfl 97 _ hqv Try.size97 rfl (wagg_one _) ?_)
            refine ⟨⟨k + 1, xn, by omega, rfl, by go_num, rpw vk xacts, L2, zoo_drop1 (unhide HZ4), ?_, fun x hx => unhide HS x ((unhide HB2).2 x hx)⟩, by simp [intOf]; omega⟩
            rw [unhide HRL, unhide HRO]
            simp [hmd]
    · have i1 : ¬ (k : Int) < (m : Int) := by omega
      go_wp2_with (refine wpList_load_row rfl 97 _ rfl q rfl 97 _ (0, 0) _ hqv Try.underlying97 rfl Try.size97 ?_)
      refine (between5 vk gr pb L' w0 _ _ (unhide HZ) (fun x hx => unhide HL x (unhide HS x hx))).mono ?_
      rintro e w2 ⟨L2, rfl, hb2, hb3, hb4, hz2⟩
      have hr := unhide HRR
      rw [List.drop_eq_nil_of_le (by have := unhide HM; omega)] at hr
      simp only [List.map_nil, rall] at hr
      rw [hr]
      have HK := hide hz2.kp
      clear hb2 hb3 hb4 hz2 hr
      go_wp2_with fail
      go_ret
      exact ⟨rfl, unhide HK⟩
end Go.Proofs.Ytapmlleemopcnac

/- Serial, by its contract: whatever deeds. -/
namespace Go.Proofs.Ytapmlleemopcnac
open Go.RowKit Srt
set_option maxRecDepth 20000
attribute [local go_sem ↓] Go.wp_at_zero Go.wp_at_succ

theorem kf_map (key : Dn → Int) (k : Int) (ys : List Dx) : kf key k (ys.map Dx.d) = (kf (fun x => key x.d) k ys).map Dx.d := by
  unfold kf
  rw [List.filter_map]
  rfl
theorem srtL_map (key : Dn → Int) {ys : List Dx} (h : SrtL (fun x => key x.d) ys) : SrtL key (ys.map Dx.d) := by
  unfold SrtL at *
  rw [List.pairwise_map]
  exact h
/-- What a sorted row is, against the row that it was. -/
theorem sorted_row {key : Dn → Int} {xs : List Dx} {n : Nat} {d' : Nat → Dx} (hn : n = xs.length) (h1 : Stb (fun x : Dx => key x.d) 0 n (dfn xs) d') (h2 : SrtOn (fun x : Dx => key x.d) d' 0 n) {ds : List Dn} (hm : xs.map Dx.d = ds) :
    SrtL key ((sg d' 0 n).map Dx.d) ∧ (∀ k, kf key k ((sg d' 0 n).map Dx.d) = kf key k ds) ∧ ∀ x, x ∈ sg d' 0 n → x ∈ xs := by
  have ho : ∀ k, kf (fun x : Dx => key x.d) k (sg d' 0 n) = kf (fun x : Dx => key x.d) k xs := fun k => by
    have := h1.ord k
    rw [Nat.sub_zero] at this
    rw [this]
    subst hn
    rw [sg_dfn]
  refine ⟨srtL_map key (srtL_sg n 0 (by rw [Nat.zero_add]; exact h2)), fun k => ?_, fun x hx => kf_mem ho hx⟩
  rw [kf_map, ho, ← hm, kf_map]
set_option maxHeartbeats 2000000 in
theorem serial46 (a : Option Addr) (c : Nat) (ds : List Dn) (w : World) (h : DnsIn w a ds) (hok : DnsOk ds) (hn : ∀ d, d ∈ ds → d.n ≤ 1000) :
    Calls Try.prog 46 #[.slice a ds.length c] w fun e w' => e = .returned (.bool (ser ds)) ∧ Kp [] w w' := by
  have hmf : ∀ (fn : Fn) (first cap : Array Value) (w : World), (Instr.makeFunc fn first cap).run Try.prog w = .ok (.func fn first cap) w := fun _ _ _ _ => rfl
  have HD := hide h
  have HO := hide hok
  have HN := hide hn
  have hm := hok.1
  clear h hok hn
  obtain ⟨m, hmm⟩ : ∃ m, ds.length = m := ⟨_, rfl⟩
  have HP1 := hide (pick prd_n a c ds w w (Kp.refl [] w) (unhide HD) hm)
  rw [hmm] at HP1
  rw [hmm]
  have HM := hide hmm
  rw [hmm] at hm
  clear hmm
  go_enter Try.func46, Try.ntmps46
  go_wp2_with fail
  refine (unhide HP1).mono ?_
  rintro e w1 ⟨a1, c1, xs, rfl, x1, x2, x3, x4⟩
  have HX := hide (And.intro x1 x2)
  have hn1 : xs.length ≤ 1000 := by
    have h1 := congrArg List.length x1
    rw [List.length_map] at h1
    have h2 := List.length_filter_le (fun d : Dn => decide (0 < d.n)) ds
    have := unhide HM
    omega
  have HZ1 := hide (kw_sld (l1 := []) ((zoo_nil (Kp.refl [] w)).cons (o := KwT 90 4 a1 xs.length c1 (dxcs xs)) (F := ob a1) ⟨x3, rfl⟩ x4) rfl)
  clear x1 x2 x3 x4 HP1
  obtain ⟨n1, hnn1⟩ : ∃ n1, n1 = xs.length := ⟨_, rfl⟩
  rw [← hnn1] at HZ1 hn1 ⊢
  have HN1 := hide hnn1
  clear hnn1
  go_wp2_with fail
  refine (zoo_sort (l1 := []) (cap := c1) cmp_n (unhide HZ1) (by omega)).mono ?_
  rintro e w2 ⟨rfl, d1, HS1, HZ2⟩
  clear HZ1
  have HP2 := hide (pick prd_a a c ds w w2 (unhide HZ2).kp (unhide HD) (by have := unhide HM; omega))
  rw [unhide HM] at HP2
  go_wp2_with fail
  refine (unhide HP2).mono ?_
  rintro e w3 ⟨a3, c3, ys, rfl, y1, y2, y3, y4⟩
  have HY := hide (And.intro y1 y2)
  have hn3 : ys.length ≤ 1000 := by
    have h1 := congrArg List.length y1
    rw [List.length_map] at h1
    have h2 := List.length_filter_le (fun d : Dn => decide (d.n = 0 ∧ 0 ≤ d.at_)) ds
    have := unhide HM
    omega
  have hle3 := y3.le
  have HZ3 := hide (kw_sld (l1 := []) ((unhide HZ2).cons (o := KwT 90 4 a3 ys.length c3 (dxcs ys)) (F := ob a3) ⟨y3, rfl⟩ y4) rfl)
  clear y1 y2 y3 y4 HP2 HZ2
  obtain ⟨n3, hnn3⟩ : ∃ n3, n3 = ys.length := ⟨_, rfl⟩
  rw [← hnn3] at HZ3 hn3 hle3 ⊢
  have HN3 := hide hnn3
  clear hnn3
  have HZ4 := hide ((unhide HZ3).box #[.slice a3 n3 c3] 85)
  clear HZ3
  go_wp2_with fail
  generalize w3.heap.size = pb at *
  generalize w3.alloc (.cells #[.slice a3 n3 c3] 85) = w4 at *
  refine (zoo_sort (l1 := [BoxT pb #[.slice a3 n3 c3] 85]) (cap := c3) cmp_a (unhide HZ4) (by omega)).mono ?_
  rintro e w5 ⟨rfl, d3, HS3, HZ5⟩
  clear HZ4
  have hl3 : (sg d3 0 n3).length = n3 := sg_len d3 n3 0
  have hl1 : (sg d1 0 n1).length = n1 := sg_len d1 n1 0
  have hz6 := sld_cm (l1 := [BoxT pb #[.slice a3 n3 c3] 85]) (unhide HZ5)
  have hz7 : Zoo w w5 (BoxT pb #[.slice a3 (sg d3 0 n3).length c3] 85 :: CmT a3 (sg d3 0 n3) :: [SlDT a1 n1 d1]) := by rw [hl3]; exact hz6
  have hz8 := lk_make hz7 (by omega)
  have HZ9 := hide (sld_cm (l1 := [LkT pb (sg d3 0 n3)]) hz8)
  clear hz6 hz7 hz8 HZ5
  have hs1 := sorted_row (key := Dn.n) (unhide HN1) (unhide HS1).1 (unhide HS1).2 (unhide HX).1
  have hs3 := sorted_row (key := Dn.at_) (unhide HN3) (unhide HS3).1 (unhide HS3).2 (unhide HY).1
  have memX : ∀ x, x ∈ xs → x.d ∈ ds ∧ 0 < x.d.n := fun x hx => by
    have h1 : x.d ∈ xs.map Dx.d := List.mem_map_of_mem hx
    rw [(unhide HX).1] at h1
    have h2 := List.mem_filter.1 h1
    exact ⟨h2.1, by simpa using h2.2⟩
  have memY : ∀ x, x ∈ ys → x.d ∈ ds := fun x hx => by
    have h1 : x.d ∈ ys.map Dx.d := List.mem_map_of_mem hx
    rw [(unhide HY).1] at h1
    exact (List.mem_filter.1 h1).1
  have hcall := replayall pb (sg d1 0 n1) (sg d3 0 n3) a1 c1 w w5 (unhide HZ9)
    (fun x hx => ⟨⟨fun W hW => ((unhide HX).2 x (hs1.2.2 x hx)).kp0 hW, (unhide HO).2 _ (memX x (hs1.2.2 x hx)).1⟩, (memX x (hs1.2.2 x hx)).2, unhide HN _ (memX x (hs1.2.2 x hx)).1⟩)
    (fun x hx => ⟨fun W hW => ((unhide HY).2 x (hs3.2.2 x hx)).kp0 hW, (unhide HO).2 _ (memY x (hs3.2.2 x hx))⟩) (by omega)
  rw [ser_rall (ds := ds) hs1.1 hs3.1 hs1.2.1 hs3.2.1, hl1] at hcall
  have HCL := hide hcall
  have hpc := lk_cell (unhide HZ9)
  clear hcall hs1 hs3 memX memY hpc
  go_wp2_with fail
  refine (unhide HCL).mono ?_
  rintro e w6 ⟨rfl, hk6⟩
  have HK6 := hide hk6
  clear hk6
  go_wp2_with fail
  go_ret
  exact ⟨rfl, unhide HK6⟩
end Go.Proofs.Ytapmlleemopcnac

/- A hall's small functions, by their contracts: Seat, Deed, Busy, find, leaveAll, Least, New. -/
namespace Go.Proofs.Ytapmlleemopcnac
open Go.RowKit
set_option maxRecDepth 20000
attribute [local go_sem ↓] Go.wp_at_zero Go.wp_at_succ

set_option maxHeartbeats 400000 in
theorem hseat (k : Int) (w : World) : Calls Try.prog 25 #[.int .i64 k] w fun e w' => e = .returned (.bool (seatB k)) ∧ w' = w := by
  go_enter Try.func25, Try.ntmps25
  go_wp2
  all_goals
    go_ret
    exact ⟨ret_bool (by simp [seatB]; omega), rfl⟩

/-- A seat's deed; none where there is no such seat. -/
def dat (st : Nat → Sd) (s : Int) : Sd := if 0 ≤ s ∧ s < 5 then st s.toNat else none
theorem dat_in {st : Nat → Sd} {j : Nat} (hj : j < 5) : dat st (j : Int) = st j := by unfold dat; rw [if_pos (by omega), Int.toNat_natCast]
theorem dat_out {st : Nat → Sd} {s : Int} (hs : ¬ (0 ≤ s ∧ s < 5)) : dat st s = none := if_neg hs
theorem seat_in {s : Int} (hs : 0 ≤ s ∧ s < 5) : ∃ j : Nat, s = (j : Int) ∧ j < 5 := ⟨s.toNat, by omega, by omega⟩

section
variable {w0 w : World} {hb vb tb gb : Nat} {h : HSt} {st : Nat → Sd} {r : List Thing}
set_option maxHeartbeats 400000 in
theorem h_deed (s : Int) (hz : Hall w0 w hb vb tb gb h st r) : Calls Try.prog 27 #[.pointer (some ⟨hb, 0, none⟩), .int .i64 s] w fun e w' => e = .returned (sp (dat st s)) ∧ w' = w := by
  by_cases hs : 0 ≤ s ∧ s < 5
  · obtain ⟨j, rfl, hj⟩ := seat_in hs
    have hsb : seatB (j : Int) = true := decide_eq_true hs
    have i0 : (0 : Int) ≤ (j : Int) := by omega
    have i5 : (j : Int) < 5 := by omega
    have c1 := hz.cs_ hj
    rw [dat_in hj]
    clear hz
    generalize sp (st j) = o at *
    go_enter Try.func27, Try.ntmps27
    go_wp2_with fail
    refine (hseat (j : Int) _).mono ?_
    rintro e w' ⟨rfl, hw'⟩
    subst w'
    rw [hsb]
    go_wp2_with fail
    go_ret
    exact ⟨rfl, rfl⟩
  · have hsb : seatB s = false := decide_eq_false hs
    rw [dat_out hs]
    clear hz
    go_enter Try.func27, Try.ntmps27
    go_wp2_with fail
    refine (hseat s _).mono ?_
    rintro e w' ⟨rfl, hw'⟩
    subst w'
    rw [hsb]
    go_wp2_with fail
    go_ret
    exact ⟨rfl, rfl⟩
set_option maxHeartbeats 400000 in
theorem h_busy (s : Int) (hz : Hall w0 w hb vb tb gb h st r) : Calls Try.prog 28 #[.pointer (some ⟨hb, 0, none⟩), .int .i64 s] w fun e w' => e = .returned (.bool (dat st s).isSome) ∧ w' = w := by
  have HD := hide (h_deed s hz)
  clear hz
  cases ho : dat st s with
  | none =>
    rw [ho] at HD
    go_enter Try.func28, Try.ntmps28
    go_wp2_with fail
    refine (unhide HD).mono ?_
    rintro e w' ⟨rfl, hw'⟩
    subst w'
    rw [show sp none = .pointer none from rfl]
    go_wp2_with fail
    go_ret
    exact ⟨rfl, rfl⟩
  | some x =>
    rw [ho] at HD
    go_enter Try.func28, Try.ntmps28
    go_wp2_with fail
    refine (unhide HD).mono ?_
    rintro e w' ⟨rfl, hw'⟩
    subst w'
    rw [show sp (some x) = .pointer (some ⟨x.1, 0, none⟩) from rfl]
    go_wp2_with fail
    go_ret
    exact ⟨rfl, rfl⟩
/-- find: the seat's deed, or why there is none. -/
def fcode (st : Nat → Sd) (s : Int) : Int := if 0 ≤ s ∧ s < 5 then (if (st s.toNat).isSome = true then 0 else 7) else 1
set_option maxHeartbeats 400000 in
theorem h_find (s : Int) (hz : Hall w0 w hb vb tb gb h st r) : Calls Try.prog 100 #[.pointer (some ⟨hb, 0, none⟩), .int .i64 s] w fun e w' => e = .returned (.tuple #[sp (dat st s), .int .i64 (fcode st s)]) ∧ w' = w := by
  have HB := hide (h_busy s hz)
  by_cases hs : 0 ≤ s ∧ s < 5
  · obtain ⟨j, rfl, hj⟩ := seat_in hs
    have hsb : seatB (j : Int) = true := decide_eq_true hs
    have i0 : (0 : Int) ≤ (j : Int) := by omega
    have i5 : (j : Int) < 5 := by omega
    have c1 := hz.cs_ hj
    rw [dat_in hj] at HB ⊢
    have hf : fcode st (j : Int) = if (st j).isSome = true then 0 else 7 := by unfold fcode; rw [if_pos hs, Int.toNat_natCast]
    rw [hf]
    clear hz hf
    generalize st j = o at *
    cases o with
    | none =>
      go_enter Try.func100, Try.ntmps100
      go_wp2_with fail
      refine (hseat (j : Int) _).mono ?_
      rintro e w' ⟨rfl, hw'⟩
      subst w'
      rw [hsb]
      go_wp2_with fail
      refine (unhide HB).mono ?_
      rintro e w' ⟨rfl, hw'⟩
      subst w'
      rw [show Option.isSome (none : Sd) = false from rfl]
      go_wp2_with fail
      go_ret2
      exact ⟨rfl, rfl⟩
    | some x =>
      go_enter Try.func100, Try.ntmps100
      go_wp2_with fail
      refine (hseat (j : Int) _).mono ?_
      rintro e w' ⟨rfl, hw'⟩
      subst w'
      rw [hsb]
      go_wp2_with fail
      refine (unhide HB).mono ?_
      rintro e w' ⟨rfl, hw'⟩
      subst w'
      rw [show Option.isSome (some x) = true from rfl]
      go_wp2_with fail
      go_ret2
      exact ⟨rfl, rfl⟩
  · have hsb : seatB s = false := decide_eq_false hs
    have hf : fcode st s = 1 := by unfold fcode; rw [if_neg hs]
    rw [dat_out hs, hf]
    clear hz HB hf
    go_enter Try.func100, Try.ntmps100
    go_wp2_with fail
    refine (hseat s _).mono ?_
    rintro e w' ⟨rfl, hw'⟩
    subst w'
    rw [hsb]
    go_wp2_with fail
    go_ret2
    exact ⟨rfl, rfl⟩
set_option maxHeartbeats 400000 in
theorem h_leaveAll (hz : Hall w0 w hb vb tb gb h st r) : Calls Try.prog 54 #[.pointer (some ⟨hb, 0, none⟩)] w fun e w' => e = .returned (.tuple #[]) ∧ Hid (Hall w0 w' hb vb tb gb ⟨h.f, h.n, h.cs, fun _ => none⟩ (fun _ => none) r) := by
  have hbx := hz.box
  have c1 := hz.cs_ (s := 0) (by omega)
  have c2 := hz.cs_ (s := 1) (by omega)
  have c3 := hz.cs_ (s := 2) (by omega)
  have c4 := hz.cs_ (s := 3) (by omega)
  have c5 := hz.cs_ (s := 4) (by omega)
  have f1 := hz.fz 1
  have f2 := hz.fz 2
  have f3 := hz.fz 3
  have f4 := hz.fz 4
  have f5 := hz.fz 5
  have HZ := hide hz
  clear hz
  go_enter Try.func54, Try.ntmps54
  go_wp2_with fail
  go_end0
  refine ⟨rfl, (unhide HZ).leaveAll ?_ ?_⟩
  · rw [heap_setCell_at _ _ (heap_setCell_at _ _ (heap_setCell_at _ _ (heap_setCell_at _ _ (heap_setCell_at _ _ hbx))))]
    rfl
  · exact (((((Kp.refl [hb] w).setCell (.inl (by simp)) _).setCell (.inl (by simp)) _).setCell (.inl (by simp)) _).setCell (.inl (by simp)) _).setCell (.inl (by simp)) _
theorem run_index5 (w : World) (cs : Array Value) (k : Nat) (v : Value) (hk : k < 5) (hv : cs[k]? = some v) :
    (Instr.index 41 (.agg cs) (.int .i64 (k : Int))).run Try.prog w = .ok v w := by
  have hn : (k : Int) < 5 := by omega
  simp [Instr.index, run_underlying Try.underlying41, asIntOf, hk, hv, go_sem]
theorem parr5 (st : Nat → Sd) : ∃ A : Array Value, #[sp (st 0), sp (st 1), sp (st 2), sp (st 3), sp (st 4)] = A ∧ ∀ k, k < 5 → A[k]? = some (sp (st k)) := by
  refine ⟨_, rfl, fun k hk => ?_⟩
  rcases (show k = 0 ∨ k = 1 ∨ k = 2 ∨ k = 3 ∨ k = 4 by omega) with e | e | e | e | e <;> subst e <;> rfl
set_option maxHeartbeats 1000000 in
theorem h_least (hs : Sts st h.seat) (hz : Hall w0 w hb vb tb gb h st r) : Calls Try.prog 23 #[.pointer (some ⟨hb, 0, none⟩)] w fun e w' => e = .returned (.int .i64 (least h.n h.seat 5)) ∧ w' = w := by
  have c0 := hz.c0
  have v0 := hz.v0
  have c1 := hz.cs_ (s := 0) (by omega)
  have c2 := hz.cs_ (s := 1) (by omega)
  have c3 := hz.cs_ (s := 2) (by omega)
  have c4 := hz.cs_ (s := 3) (by omega)
  have c5 := hz.cs_ (s := 4) (by omega)
  have HZ := hide hz
  clear hz
  go_enter Try.func23, Try.ntmps23
  go_wp2_with fail
  refine (l_last (unhide HZ).vlt).mono ?_
  rintro e w' ⟨rfl, hw'⟩
  subst w'
  go_wp2_with fail
  obtain ⟨A, hA, hAk⟩ := parr5 st
  rw [hA]
  clear hA c0 v0 c1 c2 c3 c4 c5
  go_loop [3, 18] (fun x i => ∃ k : Nat, k ≤ 5 ∧ x = .int .i64 (least h.n h.seat k) ∧ i = .int .i64 k) (fun _ i => 5 - (intOf i).toNat)
  case atStart => exact ⟨0, by omega, rfl, rfl⟩
  case round =>
    obtain ⟨k, hk, rfl, rfl⟩ := hrel
    by_cases hlt : k < 5
    · have i0 : (0 : Int) ≤ (k : Int) := by omega
      have i1 : (k : Int) < 5 := by omega
      have hk1 := hs k
      have HD := hide (fun D d (hd : st k = some (D, d)) => (unhide HZ).ded hlt hd)
      have hx0 := hAk k hlt
      have hls : least h.n h.seat (k + 1) = match h.seat k with | some d => if d.y < least h.n h.seat k then d.y else least h.n h.seat k | none => least h.n h.seat k := rfl
      have HLS := hide hls
      clear hls
      cases ho : st k with
      | none =>
        rw [ho] at hx0 hk1
        have hx := fun w => run_index5 w A k _ hlt hx0
        rw [show sp none = .pointer none from rfl] at hx
        have e1 : least h.n h.seat (k + 1) = least h.n h.seat k := by rw [unhide HLS, ← hk1]; rfl
        have E1 := hide e1
        clear e1 HLS hk1
        go_wp2_with fail
        exact ⟨⟨k + 1, by omega, by rw [unhide E1], by go_num⟩, by simp [intOf]; omega⟩
      | some xx =>
        obtain ⟨D, d⟩ := xx
        rw [ho] at hx0 hk1
        have hx := fun w => run_index5 w A k _ hlt hx0
        rw [show sp (some (D, d)) = .pointer (some ⟨D, 0, none⟩) from rfl] at hx
        have e1 : least h.n h.seat (k + 1) = if d.y < least h.n h.seat k then d.y else least h.n h.seat k := by rw [unhide HLS, ← hk1]; rfl
        have E1 := hide e1
        have HD1 := hide (unhide HD D d ho)
        clear e1 HLS hk1 HD
        generalize least h.n h.seat k = z at *
        go_wp2_with fail
        refine (dat71 _ (unhide HD1)).mono ?_
        rintro e w' ⟨rfl, hw'⟩
        subst w'
        by_cases hlt2 : d.y < z
        · rw [if_pos hlt2] at E1
          go_wp2_with fail
          exact ⟨⟨k + 1, by omega, by rw [unhide E1], by go_num⟩, by simp [intOf]; omega⟩
        · rw [if_neg hlt2] at E1
          go_wp2_with fail
          exact ⟨⟨k + 1, by omega, by rw [unhide E1], by go_num⟩, by simp [intOf]; omega⟩
    · have e : k = 5 := by omega
      subst e
      go_wp2
      go_ret
      exact ⟨rfl, rfl⟩
end
set_option maxHeartbeats 1000000 in
theorem h_new (w : World) : Calls Try.prog 15 #[] w fun e w' => ∃ hb, e = .returned (.pointer (some ⟨hb, 0, none⟩)) ∧ ∃ F, (HalT hb ⟨fun _ => [dv], 0, [], fun _ => none⟩).holds w.heap.size w' F ∧ Kp [] w w' := by
  go_enter Try.func15, Try.ntmps15
  go_wp2_with fail
  refine (vnew w).mono ?_
  rintro e w1 ⟨vb, tb, gb, F, rfl, h1, k1⟩
  go_wp2_with fail
  go_ret
  have hz0 : Zoo w w1 [VltT vb tb gb (fun _ => [dv]) 0 [] []] := (zoo_nil (Kp.refl [] w)).cons h1 k1
  have hz1 := opt_none (opt_none (opt_none (opt_none (opt_none (hz0.box (hcells vb (fun _ => none)) 43)))))
  have hz2 : Hall w _ w1.heap.size vb tb gb ⟨fun _ => [dv], 0, [], fun _ => none⟩ (fun _ => none) [] := hz1.perm ((List.perm_append_comm (l₁ := seats (fun _ => none)) (l₂ := [BoxT w1.heap.size (hcells vb (fun _ => none)) 43, VltT vb tb gb (fun _ => [dv]) 0 [] []])).append_right [])
  have hz3 := hal_close (fun _ => rfl) hinv_new hz2
  obtain ⟨F', h5, _⟩ := zoo_at0 hz3
  exact ⟨_, rfl, F', h5, hz3.kp⟩
end Go.Proofs.Ytapmlleemopcnac

/- A row of pairs as a thing; the calls of a seat's deed, in a hall. -/
namespace Go.Proofs.Ytapmlleemopcnac
open Go.RowKit
set_option maxRecDepth 20000

/-- A row of pairs of one's own. -/
def PsT (a : Option Addr) (cap : Nat) (L : List Ver) : Thing where
  holds B w F := w.ownsRow B 79 3 (.slice a L.length cap) L.length (vcells L) ∧ F = ob a
  kp := fun ⟨h1, h2⟩ hk hS => ⟨own_kp h1 hk (fun g hg => hS g (by
    rw [h2]
    cases a with
    | none => simp [Value.ownBlock] at hg
    | some ad => simp [Value.ownBlock] at hg; simp [ob, hg])), h2⟩
  lo := fun ⟨h1, h2⟩ x hx => by
    rw [h2] at hx
    rcases h1.2 with ⟨hn, _⟩ | ⟨g, cap', cur, hv, h3, h4, h5⟩
    · simp only [Value.slice.injEq] at hn
      rw [hn.1] at hx
      simp [ob] at hx
    · simp only [Value.slice.injEq] at hv
      rw [hv.1] at hx
      simp [ob] at hx
      subst hx
      exact ⟨h3, lt_of_block h4⟩
  base := fun ⟨h1, h2⟩ hC => ⟨own_base h1 hC, h2⟩
theorem ps_nil {w0 w : World} {r : List Thing} (hz : Zoo w0 w r) : Zoo w0 w (PsT none 0 [] :: r) := by
  obtain ⟨X, h1, hk⟩ := hz
  exact ⟨X, ⟨[], X, ⟨World.ownsRow_nil _ _ _ _, rfl⟩, h1, fun _ hx => by simp at hx, rfl⟩, hk⟩

section
variable {w0 w : World} {vb tb gb : Nat} {f : Nat → List Ver} {n : Nat} {cs : List (List Ver)} {r : List Thing} {D : Nat} {md y : Int} {rs : List Int} {ws : List Ver}
theorem l_list (fr to_ : Int) (hz : Zoo w0 w (VltT vb tb gb f n cs [] :: BoxT D (dcells md y (ncell rs ws)) 126 :: r)) :
    Calls Try.prog 103 #[.pointer (some ⟨D, 0, none⟩), .pointer (some ⟨tb, 0, none⟩), .int .i64 fr, .int .i64 to_] w fun e w' => ∃ a cap, e = .returned (.tuple #[.slice a (dls f n y ws rs fr to_).1.length cap, .int .i64 (dls f n y ws rs fr to_).2.1]) ∧ Hid (Zoo w0 w' (VltT vb tb gb f n cs [] :: BoxT D (dcells md y (ncell (dls f n y ws rs fr to_).2.2 ws)) 126 :: PsT a cap (dls f n y ws rs fr to_).1 :: r)) := by
  have hz' := hz
  obtain ⟨X, ⟨Fv, Y, ⟨Ft, Fg, k1⟩, ⟨F, Z, ⟨h1, h2, h3⟩, _, _, e2⟩, hd, _⟩, _⟩ := hz'
  have hF : D ∉ Ft := fun hm => hd D (k1.tF D hm) (by rw [e2, h2]; simp)
  obtain ⟨F, ⟨h1, h2, h3⟩, k2⟩ := zoo_at1 hz
  refine (dlist59 fr to_ w k1.t h1 hF).mono ?_
  rintro e w' ⟨a, cap, rfl, ho, hd2, hk⟩
  refine ⟨a, cap, rfl, ?_⟩
  have hB : w0.heap.size ≤ w.heap.size := hz.kp.size
  have hlo : ∀ x ∈ ob a, w.heap.size ≤ x := fun x hx => by
    cases a with
    | none => simp [ob] at hx
    | some ad =>
      simp only [ob, List.mem_singleton] at hx
      subst hx
      exact own_ge ho rfl
  have h5 := k2 (ManyT [BoxT D (dcells md y (ncell (dls f n y ws rs fr to_).2.2 ws)) 126, PsT a cap (dls f n y ws rs fr to_).1]) w' ⟨F ++ (ob a ++ []), ⟨F, ob a ++ [], ⟨hd2, h2, h3⟩, ⟨ob a, [], ⟨own_base ho hB, rfl⟩, rfl, fun _ _ hy => by simp at hy, rfl⟩, fun x hx hy => ?_, rfl⟩, by rw [h2]; exact hk, fun x hx => ?_⟩
  · have h6 := h5.perm (List.Perm.swap _ _ _)
    have h7 := many_open h6
    exact h7.perm (List.perm_middle (l₁ := [BoxT D (dcells md y (ncell (dls f n y ws rs fr to_).2.2 ws)) 126, PsT a cap (dls f n y ws rs fr to_).1]))
  · rw [List.append_nil] at hy
    have := hlo x hy
    rw [h2] at hx
    rw [List.mem_singleton.1 hx] at this
    have := lt_of_block h1
    omega
  · rcases List.mem_append.1 hx with q | q
    · exact .inl q
    · rw [List.append_nil] at q
      exact .inr (hlo x q)
end

section
variable {w0 w : World} {hb vb tb gb : Nat} {h : HSt} {st : Nat → Sd} {r : List Thing} {s D : Nat} {d : Dp}
theorem h_get (k : Int) (hs : s < 5) (hd : st s = some (D, d)) (hz : Hall w0 w hb vb tb gb h st r) :
    Calls Try.prog 101 #[.pointer (some ⟨D, 0, none⟩), .pointer (some ⟨tb, 0, none⟩), .int .i64 k] w fun e w' => e = .returned (.tuple #[.agg #[.bool (dg h.f h.n d.y d.ws k).t, .string (dg h.f h.n d.y d.ws k).s], .int .i64 (dg h.f h.n d.y d.ws k).a]) ∧ Hid (Hall w0 w' hb vb tb gb h (upd st s (some (D, { d with rs := dr h.f h.n d.y d.rs d.ws k }))) r) := by
  obtain ⟨rest, h1, h2⟩ := hz.out hs
  rw [hd] at h1 h2
  refine (l_get k h1).mono ?_
  rintro e w' ⟨rfl, HZ⟩
  exact ⟨rfl, h2 w' tb h.f h.n h.cs (some (D, { d with rs := dr h.f h.n d.y d.rs d.ws k })) h.seat rfl (unhide HZ)⟩
theorem h_put (k : Int) (t : Bool) (b : ByteArray) (hsz : b.size ≤ maxLen) (hs : s < 5) (hd : st s = some (D, d)) (hz : Hall w0 w hb vb tb gb h st r) :
    Calls Try.prog 102 #[.pointer (some ⟨D, 0, none⟩), .int .i64 k, .agg #[.bool t, .string b]] w fun e w' => e = .returned (.int .i64 (dpc d.md k t b)) ∧ Hid (Hall w0 w' hb vb tb gb h (upd st s (some (D, { d with ws := dpw d.md d.ws k t b }))) r) := by
  obtain ⟨rest, h1, h2⟩ := hz.out hs
  rw [hd] at h1 h2
  refine (b_put1 k t b hsz h1).mono ?_
  rintro e w' ⟨rfl, HZ⟩
  exact ⟨rfl, h2 w' tb h.f h.n h.cs (some (D, { d with ws := dpw d.md d.ws k t b })) h.seat rfl (unhide HZ)⟩
theorem h_list (fr to_ : Int) (hs : s < 5) (hd : st s = some (D, d)) (hz : Hall w0 w hb vb tb gb h st r) :
    Calls Try.prog 103 #[.pointer (some ⟨D, 0, none⟩), .pointer (some ⟨tb, 0, none⟩), .int .i64 fr, .int .i64 to_] w fun e w' => ∃ a cap, e = .returned (.tuple #[.slice a (dls h.f h.n d.y d.ws d.rs fr to_).1.length cap, .int .i64 (dls h.f h.n d.y d.ws d.rs fr to_).2.1]) ∧ Hid (Hall w0 w' hb vb tb gb h (upd st s (some (D, { d with rs := (dls h.f h.n d.y d.ws d.rs fr to_).2.2 }))) (PsT a cap (dls h.f h.n d.y d.ws d.rs fr to_).1 :: r)) := by
  obtain ⟨rest, h1, h2⟩ := hz.out2 hs
  rw [hd] at h1 h2
  refine (l_list fr to_ h1).mono ?_
  rintro e w' ⟨a, cap, rfl, HZ⟩
  exact ⟨a, cap, rfl, h2 w' tb h.f h.n h.cs (some (D, { d with rs := (dls h.f h.n d.y d.ws d.rs fr to_).2.2 })) (PsT a cap (dls h.f h.n d.y d.ws d.rs fr to_).1) h.seat rfl (unhide HZ)⟩
theorem Hall.dedr (hz : Hall w0 w hb vb tb gb h st r) (hm : OptT (some (D, d)) ∈ r) : Ded w D d.md d.y d.rs d.ws := zoo_varm (p := D) hz (List.Mem.tail _ (List.Mem.tail _ (List.mem_append_right _ hm)))
theorem h_commit (hi : HInv h) (hw : WOk d.ws) (hm : OptT (some (D, d)) ∈ r) (hz : Hall w0 w hb vb tb gb h st r) :
    Calls Try.prog 104 #[.pointer (some ⟨vb, 0, none⟩), .pointer (some ⟨D, 0, none⟩)] w fun e w' => e = .returned (.tuple #[.int .i64 (vnum h.f h.n h.cs d.md d.y d.rs d.ws), .int .i64 (vcode h.f h.cs d.md d.y d.rs d.ws)]) ∧ Hid (Hall w0 w' hb vb tb gb ⟨vf h.f h.n h.cs d.md d.y d.rs d.ws, vn h.f h.n h.cs d.md d.y d.rs d.ws, vcs h.f h.cs d.md d.y d.rs d.ws, h.seat⟩ st r) := by
  refine (b_commit hi.vi (hz.dedr hm) hw hz.vlt).mono ?_
  rintro e w' ⟨rfl, HZ⟩
  exact ⟨rfl, Hall.of_vlt (unhide HZ)⟩
theorem h_tear (keep : Int) (hi : HInv h) (hw : WOk d.ws) (hm : OptT (some (D, d)) ∈ r) (hz : Hall w0 w hb vb tb gb h st r) :
    Calls Try.prog 105 #[.pointer (some ⟨vb, 0, none⟩), .pointer (some ⟨D, 0, none⟩), .int .i64 keep] w fun e w' => e = .returned (.tuple #[.int .i64 (tnum h.f h.cs d.md d.y d.rs d.ws keep), .int .i64 (vcode h.f h.cs d.md d.y d.rs d.ws)]) ∧ ∃ tb', Hid (Hall w0 w' hb vb tb' gb ⟨wal0 (tcs h.f h.cs d.md d.y d.rs d.ws keep), (tcs h.f h.cs d.md d.y d.rs d.ws keep).length, tcs h.f h.cs d.md d.y d.rs d.ws keep, h.seat⟩ st r) := by
  refine (b_tear keep hi.vi (hz.dedr hm) hw hz.vlt).mono ?_
  rintro e w' ⟨rfl, tb', HZ⟩
  exact ⟨rfl, tb', Hall.of_vlt (unhide HZ)⟩
theorem h_crash (hz : Hall w0 w hb vb tb gb h st r) :
    Calls Try.prog 53 #[.pointer (some ⟨vb, 0, none⟩)] w fun e w' => e = .returned (.tuple #[]) ∧ ∃ tb', Hid (Hall w0 w' hb vb tb' gb ⟨wal0 h.cs, h.cs.length, h.cs, h.seat⟩ st r) := by
  refine (b_crash hz.vlt).mono ?_
  rintro e w' ⟨rfl, tb', _, HZ⟩
  exact ⟨rfl, tb', Hall.of_vlt (unhide HZ)⟩
theorem h_clear (y : Int) (hz : Hall w0 w hb vb tb gb h st r) :
    Calls Try.prog 52 #[.pointer (some ⟨tb, 0, none⟩), .int .i64 y] w fun e w' => e = .returned (.int .i64 (cln h.f y 8 : Nat)) ∧ Hid (Hall w0 w' hb vb tb gb ⟨clm h.f y 8, h.n, h.cs, h.seat⟩ st r) := by
  obtain ⟨F, ⟨Ft, Fg, k⟩, k2⟩ := zoo_at0 hz.vlt
  refine (tclear46 y w k.t).mono ?_
  rintro e w' ⟨rfl, F', h1, h2, h3⟩
  exact ⟨rfl, Hall.of_vlt (k2 _ _ (k.table h1 h2 h3))⟩
theorem h_last (hz : Hall w0 w hb vb tb gb h st r) : Calls Try.prog 20 #[.pointer (some ⟨tb, 0, none⟩)] w fun e w' => e = .returned (.int .i64 h.n) ∧ w' = w := l_last hz.vlt
theorem h_first (hz : Hall w0 w hb vb tb gb h st r) : Calls Try.prog 21 #[.pointer (some ⟨tb, 0, none⟩)] w fun e w' => e = .returned (.int .i64 (fmx h.f 8)) ∧ w' = w := l_first hz.vlt
theorem h_sheet {y : Int} (hk : ShK h.f h.n y 8) (v : Nat → Ver) (hv : wagg (shw h.f h.n y 8) = wagg v) (hz : Hall w0 w hb vb tb gb h st r) :
    Calls Try.prog 37 #[.pointer (some ⟨tb, 0, none⟩), .int .i64 y] w fun e w' => e = .returned (.tuple #[.agg (wagg v), .bool true]) ∧ Hid (Hall w0 w' hb vb tb gb h st r) := by
  refine (l_sheet hk v hv hz.vlt).mono ?_
  rintro e w' ⟨rfl, HZ⟩
  exact ⟨rfl, zoo_swap (unhide HZ)⟩
end
end Go.Proofs.Ytapmlleemopcnac

/- A hall's begin, by its contract. -/
namespace Go.Proofs.Ytapmlleemopcnac
open Go.RowKit
set_option maxRecDepth 20000
attribute [local go_sem ↓] Go.wp_at_zero Go.wp_at_succ

def xcs (x : HStep) : Array Value := #[.int .i64 x.d, .int .i64 x.s, .int .i64 x.md, .int .i64 x.at_, .int .i64 x.key, .int .i64 x.to_, .int .i64 x.keep, .string x.b]
def ecl (v : Ev) (a : Option Addr) (cap : Nat) : Array Value := #[.int .i64 v.c, .int .i64 v.n, .bool v.t, .string v.s, .slice a v.l.length cap]
theorem Sts.put {st : Nat → Sd} {seat : Nat → Option Dp} (h : Sts st seat) (s : Nat) (d : Sd) : Sts (upd st s d) (upd seat s (d.map Prod.snd)) := fun j => by
  simp only [upd]
  split
  · rfl
  · exact h j
theorem upd_id {α : Type} {g : Nat → α} {k : Nat} {v : α} (h : g k = v) : upd g k v = g := by
  funext j
  unfold upd
  split
  · rename_i e; rw [e, h]
  · rfl
section
variable {w0 w : World} {hb vb tb gb : Nat} {h : HSt} {st : Nat → Sd} {r : List Thing}
theorem Hall.as {h' : HSt} (hz : Hall w0 w hb vb tb gb h st r) (e1 : h'.f = h.f) (e2 : h'.n = h.n) (e3 : h'.cs = h.cs) : Hall w0 w hb vb tb gb h' st r := by
  unfold Hall at hz ⊢
  rw [e1, e2, e3]
  exact hz
theorem h_vbegin {md at_ : Int} (hb0 : bcode h.f h.n md at_ = 0) (hz : Hall w0 w hb vb tb gb h st r) :
    Calls Try.prog 99 #[.pointer (some ⟨vb, 0, none⟩), .int .i64 md, .int .i64 at_] w fun e w' => ∃ D, e = .returned (.tuple #[.pointer (some ⟨D, 0, none⟩), .int .i64 0]) ∧ Hid (Hall w0 w' hb vb tb gb h st (OptT (some (D, ⟨md, bat h.n md at_, [], []⟩)) :: r)) := by
  refine (b_begin hb0 hz.vlt).mono ?_
  rintro e w' ⟨D, rfl, HZ⟩
  refine ⟨D, rfl, ?_⟩
  have h1 := unhide HZ
  have p1 : Zoo w0 w' (OptT (some (D, ⟨md, bat h.n md at_, [], []⟩)) :: BoxT hb (hcells vb st) 43 :: VltT vb tb gb h.f h.n h.cs [] :: (seats st ++ r)) := h1.perm ((List.Perm.swap _ _ _).trans (List.Perm.cons _ (List.Perm.swap _ _ _)))
  exact p1.perm (List.perm_middle (l₁ := BoxT hb (hcells vb st) 43 :: VltT vb tb gb h.f h.n h.cs [] :: seats st)).symm
theorem h_vnone {md at_ z : Int} (hb0 : bcode h.f h.n md at_ = z) (h0 : z ≠ 0) (hz : Hall w0 w hb vb tb gb h st r) :
    Calls Try.prog 99 #[.pointer (some ⟨vb, 0, none⟩), .int .i64 md, .int .i64 at_] w fun e w' => e = .returned (.tuple #[.pointer none, .int .i64 z]) ∧ Hid (Hall w0 w' hb vb tb gb h st r) := by
  refine (b_none hb0 h0 hz.vlt).mono ?_
  rintro e w' ⟨rfl, HZ⟩
  exact ⟨rfl, zoo_swap (unhide HZ)⟩
/-- A new deed sits down at an empty seat. -/
theorem Hall.sitNew {D : Nat} {d : Dp} {l1 l2 : List Thing} (hz : Hall w0 w hb vb tb gb h st (l1 ++ OptT (some (D, d)) :: l2)) {s : Nat} (hs : s < 5) (hn : st s = none) : Hall w0 (w.setCell ⟨hb, 1 + s, none⟩ (.pointer (some ⟨D, 0, none⟩))) hb vb tb gb h (upd st s (some (D, d))) (l1 ++ l2) := by
  have h1 := hz.perm (List.perm_middle (l₁ := l1))
  have h2 : Zoo w0 w (VltT vb tb gb h.f h.n h.cs [] :: OptT (some (D, d)) :: BoxT hb (hcells vb st) 43 :: (seats st ++ (l1 ++ l2))) := by
    have p := Zoo.perm h1 (List.perm_middle (l₁ := BoxT hb (hcells vb st) 43 :: VltT vb tb gb h.f h.n h.cs [] :: seats st))
    exact p.perm ((List.Perm.cons _ (List.Perm.swap _ _ _)).trans (List.Perm.swap _ _ _))
  exact Hall.join h2 hs hn

/-- What begin leaves. -/
def BgEnd (w0 : World) (hb vb tb gb : Nat) (r : List Thing) (h' : HSt) (v : Ev) (e : Ending) (w' : World) : Prop := ∃ st', e = .returned (.int .i64 v.c) ∧ v = evc v.c ∧ Sts st' h'.seat ∧ Hid (Hall w0 w' hb vb tb gb h' st' r)
set_option maxHeartbeats 1000000 in
theorem h_begin (x : HStep) (hx : x.d = 1) (hs : Sts st h.seat) (hz : Hall w0 w hb vb tb gb h st r) :
    Calls Try.prog 55 #[.pointer (some ⟨hb, 0, none⟩), .agg #[.int .i64 x.d, .int .i64 x.s, .int .i64 x.md, .int .i64 x.at_, .int .i64 x.key, .int .i64 x.to_, .int .i64 x.keep, .string x.b]] w fun e w' => BgEnd w0 hb vb tb gb r (hdo h x) (hev h x) e w' := by
  have HS := hide hs
  have HX := hide (hz.new (xcs x) 37)
  by_cases hsx : 0 ≤ x.s ∧ x.s < 5
  · obtain ⟨j, hj, h5⟩ := seat_in hsx
    have hjs : x.s.toNat = j := by omega
    have hsb : seatB (j : Int) = true := decide_eq_true (by omega)
    have i0 : (0 : Int) ≤ (j : Int) := by omega
    have i5 : (j : Int) < 5 := by omega
    cases hsd : st j with
    | some xx =>
      have hsj : h.seat j = some xx.2 := by rw [← hs j, hsd]; rfl
      have heq := (HKind.there (h := h) (x := x) xx.2 hx hsx (by rw [hjs]; exact hsj)).eq
      rw [heq.1, heq.2]
      clear heq hz hs
      have hda : dat st (j : Int) = some xx := by rw [dat_in h5, hsd]
      obtain ⟨xd, xs, xm, xa, xk, xt, xp, xb⟩ := x
      dsimp only [xcs] at *
      subst hx hj
      go_enter Try.func55, Try.ntmps55
      go_wp2_with fail
      generalize w.alloc (.cells #[.int .i64 1, .int .i64 (j : Int), .int .i64 xm, .int .i64 xa, .int .i64 xk, .int .i64 xt, .int .i64 xp, .string xb] 37) = W at HX ⊢
      generalize w.heap.size = q at HX ⊢
      have hq := (unhide HX).var (List.Mem.head _)
      have x1 : W.cell? ⟨q, 1, none⟩ = some (.int .i64 (j : Int)) := cell_of_block hq rfl
      clear hq
      refine (hseat (j : Int) _).mono ?_
      rintro e w' ⟨rfl, hw'⟩
      subst w'
      rw [hsb]
      go_wp2_with fail
      refine (h_busy (j : Int) (unhide HX)).mono ?_
      rintro e w' ⟨rfl, hw'⟩
      subst w'
      rw [hda, show Option.isSome (some xx) = true from rfl]
      go_wp2_with fail
      go_ret
      exact ⟨st, rfl, rfl, unhide HS, (unhide HX).tail⟩
    | none =>
      have hsj : h.seat j = none := by rw [← hs j, hsd]; rfl
      have hda : dat st (j : Int) = none := by rw [dat_in h5, hsd]
      by_cases hb0 : bcode h.f h.n x.md x.at_ = 0
      · have heq := (HKind.began (h := h) (x := x) hx hsx (by rw [hjs]; exact hsj) hb0).eq
        rw [heq.1, heq.2]
        clear heq hz hs
        have HB0 := hide hb0
        clear hb0
        obtain ⟨xd, xs, xm, xa, xk, xt, xp, xb⟩ := x
        dsimp only [xcs] at *
        subst hx hj
        go_enter Try.func55, Try.ntmps55
        go_wp2_with fail
        generalize w.alloc (.cells #[.int .i64 1, .int .i64 (j : Int), .int .i64 xm, .int .i64 xa, .int .i64 xk, .int .i64 xt, .int .i64 xp, .string xb] 37) = W at HX ⊢
        generalize w.heap.size = q at HX ⊢
        have hq := (unhide HX).var (List.Mem.head _)
        have x1 : W.cell? ⟨q, 1, none⟩ = some (.int .i64 (j : Int)) := cell_of_block hq rfl
        have x2 : W.cell? ⟨q, 2, none⟩ = some (.int .i64 xm) := cell_of_block hq rfl
        have x3 : W.cell? ⟨q, 3, none⟩ = some (.int .i64 xa) := cell_of_block hq rfl
        clear hq
        refine (hseat (j : Int) _).mono ?_
        rintro e w' ⟨rfl, hw'⟩
        subst w'
        rw [hsb]
        go_wp2_with fail
        refine (h_busy (j : Int) (unhide HX)).mono ?_
        rintro e w' ⟨rfl, hw'⟩
        subst w'
        rw [hda, show Option.isSome (none : Sd) = false from rfl]
        have c0 := (unhide HX).c0
        have HV := hide (fun W' (hk : Kp [] W W') => h_vbegin (unhide HB0) ((unhide HX).kp0 hk))
        go_wp2_with fail
        go_region_with (go_at_call 99; refine (unhide HV _ ((Kp.refl [] W).drewN _)).mono ?_; rintro e w' ⟨D, rfl, HY⟩)
        all_goals
          have hq2 := (unhide HY).var (List.Mem.tail _ (List.Mem.head _))
          have y1 : w'.cell? ⟨q, 1, none⟩ = some (.int .i64 (j : Int)) := cell_of_block hq2 rfl
          have c2 := (unhide HY).cs_ h5
          have f2 := (unhide HY).fz (1 + j)
          rw [hsd] at c2
          clear hq2 x1 x2 x3 c0 HV
          go_wp2_with fail
          go_region
        all_goals
          go_wp2_with fail
          go_ret
          exact ⟨upd st j (some (D, _)), rfl, rfl, by show Sts _ (upd h.seat ((j : Int).toNat) _); rw [hjs]; exact (unhide HS).put j _, ((((unhide HY).sitNew (l1 := []) h5 hsd).tail).kp0 (Kp.refl [] _).drew).as rfl rfl rfl⟩
      · have heq := (HKind.beganNot (h := h) (x := x) hx hsx (by rw [hjs]; exact hsj) hb0).eq
        rw [heq.1, heq.2]
        clear heq hz hs
        have HB0 := hide hb0
        clear hb0
        generalize hzz : bcode h.f h.n x.md x.at_ = z at HB0 ⊢
        have HZ0 := hide hzz
        clear hzz
        obtain ⟨xd, xs, xm, xa, xk, xt, xp, xb⟩ := x
        dsimp only [xcs] at *
        subst hx hj
        go_enter Try.func55, Try.ntmps55
        go_wp2_with fail
        generalize w.alloc (.cells #[.int .i64 1, .int .i64 (j : Int), .int .i64 xm, .int .i64 xa, .int .i64 xk, .int .i64 xt, .int .i64 xp, .string xb] 37) = W at HX ⊢
        generalize w.heap.size = q at HX ⊢
        have hq := (unhide HX).var (List.Mem.head _)
        have x1 : W.cell? ⟨q, 1, none⟩ = some (.int .i64 (j : Int)) := cell_of_block hq rfl
        have x2 : W.cell? ⟨q, 2, none⟩ = some (.int .i64 xm) := cell_of_block hq rfl
        have x3 : W.cell? ⟨q, 3, none⟩ = some (.int .i64 xa) := cell_of_block hq rfl
        clear hq
        refine (hseat (j : Int) _).mono ?_
        rintro e w' ⟨rfl, hw'⟩
        subst w'
        rw [hsb]
        go_wp2_with fail
        refine (h_busy (j : Int) (unhide HX)).mono ?_
        rintro e w' ⟨rfl, hw'⟩
        subst w'
        rw [hda, show Option.isSome (none : Sd) = false from rfl]
        have c0 := (unhide HX).c0
        have HV := hide (fun W' (hk : Kp [] W W') => h_vnone (unhide HZ0) (unhide HB0) ((unhide HX).kp0 hk))
        go_wp2_with fail
        go_region_with (go_at_call 99; refine (unhide HV _ ((Kp.refl [] W).drewN _)).mono ?_; rintro e w' ⟨rfl, HY⟩)
        all_goals
          have hq2 := (unhide HY).var (List.Mem.head _)
          have y1 : w'.cell? ⟨q, 1, none⟩ = some (.int .i64 (j : Int)) := cell_of_block hq2 rfl
          have c2 := (unhide HY).cs_ h5
          have f2 := (unhide HY).fz (1 + j)
          rw [hsd] at c2
          clear hq2 x1 x2 x3 c0 HV
          go_wp2_with fail
          go_region
        all_goals
          go_wp2_with fail
          go_ret
          exact ⟨st, rfl, rfl, unhide HS, by have h9 := (unhide HY).leave h5; rw [upd_id hsd] at h9; exact (h9.tail.tail).kp0 (Kp.refl [] _).drew⟩
  · have heq := (HKind.range (h := h) (x := x) (by omega) hsx).eq
    rw [heq.1, heq.2]
    clear heq hz hs
    have hsb : seatB x.s = false := decide_eq_false hsx
    obtain ⟨xd, xs, xm, xa, xk, xt, xp, xb⟩ := x
    dsimp only [xcs] at *
    subst hx
    go_enter Try.func55, Try.ntmps55
    go_wp2_with fail
    refine (hseat xs _).mono ?_
    rintro e w' ⟨rfl, hw'⟩
    subst w'
    rw [hsb]
    go_wp2_with fail
    go_ret
    exact ⟨st, rfl, rfl, unhide HS, (unhide HX).tail⟩
end
end Go.Proofs.Ytapmlleemopcnac

/- A hall's goOn: where there is no deed; Put. -/
namespace Go.Proofs.Ytapmlleemopcnac
open Go.RowKit
set_option maxRecDepth 20000
attribute [local go_sem ↓] Go.wp_at_zero Go.wp_at_succ

/-- What goOn, end and Do leave. -/
def GoEnd (w0 : World) (hb vb gb : Nat) (r : List Thing) (h' : HSt) (v : Ev) (e : Ending) (w' : World) : Prop := ∃ tb' st' a cap, e = .returned (.agg #[.int .i64 v.c, .int .i64 v.n, .bool v.t, .string v.s, .slice a v.l.length cap]) ∧ Sts st' h'.seat ∧ Hid (Hall w0 w' hb vb tb' gb h' st' (PsT a cap v.l :: r))
/-- An event in a variable. -/
structure EvF (w : World) (p : Nat) (a b c d e : Value) : Prop where
  c0 : w.cell? ⟨p, 0, none⟩ = some a
  c1 : w.cell? ⟨p, 1, none⟩ = some b
  c2 : w.cell? ⟨p, 2, none⟩ = some c
  c3 : w.cell? ⟨p, 3, none⟩ = some d
  c4 : w.cell? ⟨p, 4, none⟩ = some e
  f0 : w.frozen? ⟨p, 0, none⟩ = false
  f1 : w.frozen? ⟨p, 1, none⟩ = false
  f2 : w.frozen? ⟨p, 2, none⟩ = false
  f3 : w.frozen? ⟨p, 3, none⟩ = false
  f4 : w.frozen? ⟨p, 4, none⟩ = false
theorem evF {w : World} {p : Nat} {a b c d e : Value} {T : TypeId} (h : w.heap[p]? = some (.cells #[a, b, c, d, e] T (0, 0))) : EvF w p a b c d e :=
  ⟨cell_of_block h rfl, cell_of_block h rfl, cell_of_block h rfl, cell_of_block h rfl, cell_of_block h rfl, frozen_of_block _ h, frozen_of_block _ h, frozen_of_block _ h, frozen_of_block _ h, frozen_of_block _ h⟩
section
variable {w0 w : World} {hb vb tb gb : Nat} {h : HSt} {st : Nat → Sd} {r : List Thing}
theorem Hall.ps {tb' : Nat} {h' : HSt} {st' : Nat → Sd} {w' : World} (hz : Hall w0 w' hb vb tb' gb h' st' r) : Hall w0 w' hb vb tb' gb h' st' (PsT none 0 [] :: r) := Zoo.perm (ps_nil hz) (List.perm_middle (l₁ := BoxT hb (hcells vb st') 43 :: VltT vb tb' gb h'.f h'.n h'.cs [] :: seats st')).symm
/-- Behind an event's five cells, written; the variables are let go. -/
theorem Hall.fin {W : World} {p q : Nat} {c xc : Array Value} {T U : TypeId} (hz : Hall w0 W hb vb tb gb h st (BoxT p c T :: BoxT q xc U :: r)) (a b c' d e : Value) : Hall w0 (((((W.setCell ⟨p, 0, none⟩ a).setCell ⟨p, 1, none⟩ b).setCell ⟨p, 2, none⟩ c').setCell ⟨p, 3, none⟩ d).setCell ⟨p, 4, none⟩ e) hb vb tb gb h st r := (((((hz.set0 0 a).set0 1 b).set0 2 c').set0 3 d).set0 4 e).tail.tail
theorem f_not (hs : Sts st h.seat) {x : HStep} (hx : 2 ≤ x.d ∧ x.d ≤ 10 ∧ x.d ≠ 8 ∧ x.d ≠ 9) (hf : ¬ fcode st x.s = 0) : hdo h x = h ∧ hev h x = evc (fcode st x.s) := by
  unfold fcode at hf ⊢
  by_cases hsx : 0 ≤ x.s ∧ x.s < 5
  · rw [if_pos hsx] at hf ⊢
    cases hd : st x.s.toNat with
    | none =>
      have : h.seat x.s.toNat = none := by rw [← hs, hd]; rfl
      exact (HKind.none_ (h := h) (x := x) hx hsx this).eq
    | some y => rw [hd] at hf; exact absurd rfl hf
  · rw [if_neg hsx]
    exact (HKind.range (h := h) (x := x) (by omega) hsx).eq
theorem f_yes {s : Int} (hf : fcode st s = 0) : ∃ (j D : Nat) (d : Dp), s = (j : Int) ∧ j < 5 ∧ st j = some (D, d) := by
  unfold fcode at hf
  split at hf
  · rename_i hsx
    obtain ⟨j, rfl, h5⟩ := seat_in hsx
    rw [Int.toNat_natCast] at hf
    cases hd : st j with
    | none => rw [hd] at hf; exact absurd hf (by simp)
    | some y => exact ⟨j, y.1, y.2, rfl, h5, hd⟩
  · exact absurd hf (by simp)
set_option maxHeartbeats 1000000 in
theorem go_none (x : HStep) (hx : 2 ≤ x.d ∧ x.d ≤ 5) (hf : ¬ fcode st x.s = 0) (hs : Sts st h.seat) (hz : Hall w0 w hb vb tb gb h st r) :
    Calls Try.prog 56 #[.pointer (some ⟨hb, 0, none⟩), .agg #[.int .i64 x.d, .int .i64 x.s, .int .i64 x.md, .int .i64 x.at_, .int .i64 x.key, .int .i64 x.to_, .int .i64 x.keep, .string x.b]] w fun e w' => GoEnd w0 hb vb gb r (hdo h x) (hev h x) e w' := by
  have heq := f_not hs (x := x) (by omega) hf
  rw [heq.1, heq.2]
  clear heq
  have HS := hide hs
  have HX := hide (hz.two (xcs x) 37 #[.int .i64 0, .int .i64 0, .bool false, .string ⟨#[]⟩, .slice none 0 0] 34)
  clear hz hs
  generalize hzz : fcode st x.s = z at hf ⊢
  have HZ0 := hide hzz
  have hzb : (z != 0) = true := by simpa using hf
  clear hzz hf
  obtain ⟨xd, xs, xm, xa, xk, xt, xp, xb⟩ := x
  dsimp only [xcs] at *
  go_enter Try.func56, Try.ntmps56
  go_wp2_with fail
  generalize (w.alloc (.cells #[.int .i64 xd, .int .i64 xs, .int .i64 xm, .int .i64 xa, .int .i64 xk, .int .i64 xt, .int .i64 xp, .string xb] 37)).alloc (.cells #[.int .i64 0, .int .i64 0, .bool false, .string ⟨#[]⟩, .slice none 0 0] 34) = W at HX ⊢
  generalize w.heap.size = q at HX ⊢
  generalize q + 1 = p at HX ⊢
  have hq := (unhide HX).var (List.Mem.tail _ (List.Mem.head _))
  have x1 : W.cell? ⟨q, 1, none⟩ = some (.int .i64 xs) := cell_of_block hq rfl
  clear hq
  refine (h_find xs (unhide HX)).mono ?_
  rintro e w' ⟨rfl, hw'⟩
  subst w'
  rw [unhide HZ0]
  generalize sp (dat st xs) = o
  have HE := hide ((unhide HX).new #[.int .i64 z, .int .i64 0, .bool false, .string ⟨#[]⟩, .slice none 0 0] 34)
  have pl := lt_of_block ((unhide HX).var (List.Mem.head _))
  obtain ⟨e0, e1, e2, e3, e4, g0, g1, g2, g3, g4⟩ := evF ((unhide HX).var (List.Mem.head _))
  go_wp2_with fail
  refine bodyPost_ret (v := .agg #[.int .i64 z, .int .i64 0, .bool false, .string ⟨#[]⟩, .slice none 0 0]) (by simp [results, Try.results56, go_sem, e0, e1, e2, e3, e4, pl]) rfl ?_
  exact ⟨tb, st, none, 0, rfl, unhide HS, (((unhide HX).fin _ _ _ _ _).new _ _).tail.ps⟩
end
end Go.Proofs.Ytapmlleemopcnac

/- A hall's goOn: Put and Drop. -/
namespace Go.Proofs.Ytapmlleemopcnac
open Go.RowKit
set_option maxRecDepth 20000
attribute [local go_sem ↓] Go.wp_at_zero Go.wp_at_succ

section
variable {w0 w : World} {hb vb tb gb : Nat} {h : HSt} {st : Nat → Sd} {r : List Thing}
set_option maxHeartbeats 1000000 in
theorem go_put (x : HStep) (hx : x.d = 3) {j D : Nat} {d : Dp} (hj : x.s = (j : Int)) (h5 : j < 5) (hsd : st j = some (D, d)) (hs : Sts st h.seat) (hz : Hall w0 w hb vb tb gb h st r) (hsz : x.b.size ≤ maxLen) :
    Calls Try.prog 56 #[.pointer (some ⟨hb, 0, none⟩), .agg #[.int .i64 x.d, .int .i64 x.s, .int .i64 x.md, .int .i64 x.at_, .int .i64 x.key, .int .i64 x.to_, .int .i64 x.keep, .string x.b]] w fun e w' => GoEnd w0 hb vb gb r (hdo h x) (hev h x) e w' := by
  have HS := hide hs
  have HX := hide (hz.two (xcs x) 37 #[.int .i64 0, .int .i64 0, .bool false, .string ⟨#[]⟩, .slice none 0 0] 34)
  have hjs : x.s.toNat = j := by omega
  have i0 : (0 : Int) ≤ (j : Int) := by omega
  have i5 : (j : Int) < 5 := by omega
  have hsj : h.seat j = some d := by rw [← hs j, hsd]; rfl
  have heq := (HKind.put (h := h) (x := x) d hx ⟨by omega, by omega⟩ (by rw [hjs]; exact hsj)).eq
  rw [heq.1, heq.2]
  clear heq hz hs hsj
  have hda : dat st (j : Int) = some (D, d) := by rw [dat_in h5, hsd]
  have hfc : fcode st (j : Int) = 0 := by unfold fcode; rw [if_pos ⟨i0, i5⟩, Int.toNat_natCast, hsd]; rfl
  obtain ⟨xd, xs, xm, xa, xk, xt, xp, xb⟩ := x
  dsimp only [xcs] at *
  subst hx hj
  go_enter Try.func56, Try.ntmps56
  go_wp2_with fail
  generalize (w.alloc (.cells #[.int .i64 3, .int .i64 (j : Int), .int .i64 xm, .int .i64 xa, .int .i64 xk, .int .i64 xt, .int .i64 xp, .string xb] 37)).alloc (.cells #[.int .i64 0, .int .i64 0, .bool false, .string ⟨#[]⟩, .slice none 0 0] 34) = W at HX ⊢
  generalize w.heap.size = q at HX ⊢
  generalize q + 1 = p at HX ⊢
  have hq := (unhide HX).var (List.Mem.tail _ (List.Mem.head _))
  have x0 : W.cell? ⟨q, 0, none⟩ = some (.int .i64 3) := cell_of_block hq rfl
  have x1 : W.cell? ⟨q, 1, none⟩ = some (.int .i64 (j : Int)) := cell_of_block hq rfl
  have x4 : W.cell? ⟨q, 4, none⟩ = some (.int .i64 xk) := cell_of_block hq rfl
  have x5 : W.cell? ⟨q, 5, none⟩ = some (.int .i64 xt) := cell_of_block hq rfl
  have x6 : W.cell? ⟨q, 6, none⟩ = some (.int .i64 xp) := cell_of_block hq rfl
  have x7 : W.cell? ⟨q, 7, none⟩ = some (.string xb) := cell_of_block hq rfl
  have ql := lt_of_block hq
  clear hq
  refine (h_find (j : Int) (unhide HX)).mono ?_
  rintro e w' ⟨rfl, hw'⟩
  subst w'
  rw [hda, hfc]
  rw [show sp (some (D, d)) = .pointer (some ⟨D, 0, none⟩) from rfl]
  have HE := hide ((unhide HX).new #[.int .i64 0, .int .i64 0, .bool false, .string ⟨#[]⟩, .slice none 0 0] 34)
  have pl := lt_of_block ((unhide HX).var (List.Mem.head _))
  have hl := (unhide HX).lt
  have vl := (unhide HX).vlt_
  have c0 := (unhide HX).c0
  have v0 := (unhide HX).v0
  obtain ⟨e0, e1, e2, e3, e4, g0, g1, g2, g3, g4⟩ := evF ((unhide HX).var (List.Mem.head _))
  go_wp2_with fail
  generalize W.alloc (.cells #[.int .i64 0, .int .i64 0, .bool false, .string ⟨#[]⟩, .slice none 0 0] 34) = W2 at HE ⊢
  generalize W.heap.size = pe at HE ⊢
  clear e0 e1 e2 e3 e4 g0 g1 g2 g3 g4 x0 x1 x4 x5 x6 x7 ql pl hl vl c0 v0
  refine (h_put xk true xb hsz h5 hsd (unhide HE)).mono ?_
  rintro e w3 ⟨rfl, HY⟩
  have hep := (unhide HY).var (List.Mem.head _)
  have hpp := (unhide HY).var (List.Mem.tail _ (List.Mem.head _))
  obtain ⟨a0, a1, a2, a3, a4, b0, b1, b2, b3, b4⟩ := evF hep
  obtain ⟨e0, e1, e2, e3, e4, g0, g1, g2, g3, g4⟩ := evF hpp
  have pl := lt_of_block hpp
  have el := lt_of_block hep
  clear hep hpp HE
  have hne := (unhide HY).ne2
  go_wp2_with fail
  refine bodyPost_ret (v := .agg #[.int .i64 (dpc d.md xk true xb), .int .i64 0, .bool false, .string ⟨#[]⟩, .slice none 0 0]) (by simp [results, Try.results56, go_sem, e0, e1, e2, e3, e4]) rfl ?_
  exact ⟨tb, _, none, 0, rfl, by show Sts _ (upd h.seat ((j : Int).toNat) _); rw [hjs]; exact (unhide HS).put j (some (D, _)), ((((unhide HY).set0 0 _).tail).fin _ _ _ _ _).ps.as rfl rfl rfl⟩
set_option maxHeartbeats 1000000 in
theorem go_drop (x : HStep) (hx : x.d = 4) {j D : Nat} {d : Dp} (hj : x.s = (j : Int)) (h5 : j < 5) (hsd : st j = some (D, d)) (hs : Sts st h.seat) (hz : Hall w0 w hb vb tb gb h st r) (hsz : x.b.size ≤ maxLen) :
    Calls Try.prog 56 #[.pointer (some ⟨hb, 0, none⟩), .agg #[.int .i64 x.d, .int .i64 x.s, .int .i64 x.md, .int .i64 x.at_, .int .i64 x.key, .int .i64 x.to_, .int .i64 x.keep, .string x.b]] w fun e w' => GoEnd w0 hb vb gb r (hdo h x) (hev h x) e w' := by
  have HS := hide hs
  have HX := hide (hz.two (xcs x) 37 #[.int .i64 0, .int .i64 0, .bool false, .string ⟨#[]⟩, .slice none 0 0] 34)
  have hjs : x.s.toNat = j := by omega
  have i0 : (0 : Int) ≤ (j : Int) := by omega
  have i5 : (j : Int) < 5 := by omega
  have hsj : h.seat j = some d := by rw [← hs j, hsd]; rfl
  have heq := (HKind.drop (h := h) (x := x) d hx ⟨by omega, by omega⟩ (by rw [hjs]; exact hsj)).eq
  rw [heq.1, heq.2]
  clear heq hz hs hsj
  have hda : dat st (j : Int) = some (D, d) := by rw [dat_in h5, hsd]
  have hfc : fcode st (j : Int) = 0 := by unfold fcode; rw [if_pos ⟨i0, i5⟩, Int.toNat_natCast, hsd]; rfl
  obtain ⟨xd, xs, xm, xa, xk, xt, xp, xb⟩ := x
  dsimp only [xcs] at *
  subst hx hj
  go_enter Try.func56, Try.ntmps56
  go_wp2_with fail
  generalize (w.alloc (.cells #[.int .i64 4, .int .i64 (j : Int), .int .i64 xm, .int .i64 xa, .int .i64 xk, .int .i64 xt, .int .i64 xp, .string xb] 37)).alloc (.cells #[.int .i64 0, .int .i64 0, .bool false, .string ⟨#[]⟩, .slice none 0 0] 34) = W at HX ⊢
  generalize w.heap.size = q at HX ⊢
  generalize q + 1 = p at HX ⊢
  have hq := (unhide HX).var (List.Mem.tail _ (List.Mem.head _))
  have x0 : W.cell? ⟨q, 0, none⟩ = some (.int .i64 4) := cell_of_block hq rfl
  have x1 : W.cell? ⟨q, 1, none⟩ = some (.int .i64 (j : Int)) := cell_of_block hq rfl
  have x4 : W.cell? ⟨q, 4, none⟩ = some (.int .i64 xk) := cell_of_block hq rfl
  have x5 : W.cell? ⟨q, 5, none⟩ = some (.int .i64 xt) := cell_of_block hq rfl
  have x6 : W.cell? ⟨q, 6, none⟩ = some (.int .i64 xp) := cell_of_block hq rfl
  have x7 : W.cell? ⟨q, 7, none⟩ = some (.string xb) := cell_of_block hq rfl
  have ql := lt_of_block hq
  clear hq
  refine (h_find (j : Int) (unhide HX)).mono ?_
  rintro e w' ⟨rfl, hw'⟩
  subst w'
  rw [hda, hfc]
  rw [show sp (some (D, d)) = .pointer (some ⟨D, 0, none⟩) from rfl]
  have HE := hide ((unhide HX).new #[.int .i64 0, .int .i64 0, .bool false, .string ⟨#[]⟩, .slice none 0 0] 34)
  have pl := lt_of_block ((unhide HX).var (List.Mem.head _))
  have hl := (unhide HX).lt
  have vl := (unhide HX).vlt_
  have c0 := (unhide HX).c0
  have v0 := (unhide HX).v0
  obtain ⟨e0, e1, e2, e3, e4, g0, g1, g2, g3, g4⟩ := evF ((unhide HX).var (List.Mem.head _))
  go_wp2_with fail
  generalize W.alloc (.cells #[.int .i64 0, .int .i64 0, .bool false, .string ⟨#[]⟩, .slice none 0 0] 34) = W2 at HE ⊢
  generalize W.heap.size = pe at HE ⊢
  clear e0 e1 e2 e3 e4 g0 g1 g2 g3 g4 x0 x1 x4 x5 x6 x7 ql pl hl vl c0 v0
  refine (h_put xk false ⟨#[]⟩ (Nat.zero_le _) h5 hsd (unhide HE)).mono ?_
  rintro e w3 ⟨rfl, HY⟩
  have hep := (unhide HY).var (List.Mem.head _)
  have hpp := (unhide HY).var (List.Mem.tail _ (List.Mem.head _))
  obtain ⟨a0, a1, a2, a3, a4, b0, b1, b2, b3, b4⟩ := evF hep
  obtain ⟨e0, e1, e2, e3, e4, g0, g1, g2, g3, g4⟩ := evF hpp
  have pl := lt_of_block hpp
  have el := lt_of_block hep
  clear hep hpp HE
  have hne := (unhide HY).ne2
  go_wp2_with fail
  refine bodyPost_ret (v := .agg #[.int .i64 (dpc d.md xk false ⟨#[]⟩), .int .i64 0, .bool false, .string ⟨#[]⟩, .slice none 0 0]) (by simp [results, Try.results56, go_sem, e0, e1, e2, e3, e4]) rfl ?_
  exact ⟨tb, _, none, 0, rfl, by show Sts _ (upd h.seat ((j : Int).toNat) _); rw [hjs]; exact (unhide HS).put j (some (D, _)), ((((unhide HY).set0 0 _).tail).fin _ _ _ _ _).ps.as rfl rfl rfl⟩
end
end Go.Proofs.Ytapmlleemopcnac

/- A hall's goOn: Get. -/
namespace Go.Proofs.Ytapmlleemopcnac
open Go.RowKit
set_option maxRecDepth 20000
attribute [local go_sem ↓] Go.wp_at_zero Go.wp_at_succ

section
variable {w0 w : World} {hb vb tb gb : Nat} {h : HSt} {st : Nat → Sd} {r : List Thing}
set_option maxHeartbeats 1000000 in
theorem go_get (x : HStep) (hx : x.d = 2) {j D : Nat} {d : Dp} (hj : x.s = (j : Int)) (h5 : j < 5) (hsd : st j = some (D, d)) (hs : Sts st h.seat) (hz : Hall w0 w hb vb tb gb h st r) :
    Calls Try.prog 56 #[.pointer (some ⟨hb, 0, none⟩), .agg #[.int .i64 x.d, .int .i64 x.s, .int .i64 x.md, .int .i64 x.at_, .int .i64 x.key, .int .i64 x.to_, .int .i64 x.keep, .string x.b]] w fun e w' => GoEnd w0 hb vb gb r (hdo h x) (hev h x) e w' := by
  have HS := hide hs
  have HX := hide (hz.two (xcs x) 37 #[.int .i64 0, .int .i64 0, .bool false, .string ⟨#[]⟩, .slice none 0 0] 34)
  have hjs : x.s.toNat = j := by omega
  have i0 : (0 : Int) ≤ (j : Int) := by omega
  have i5 : (j : Int) < 5 := by omega
  have hsj : h.seat j = some d := by rw [← hs j, hsd]; rfl
  have heq := (HKind.get (h := h) (x := x) d hx ⟨by omega, by omega⟩ (by rw [hjs]; exact hsj)).eq
  rw [heq.1, heq.2]
  clear heq hz hs hsj
  have hda : dat st (j : Int) = some (D, d) := by rw [dat_in h5, hsd]
  have hfc : fcode st (j : Int) = 0 := by unfold fcode; rw [if_pos ⟨i0, i5⟩, Int.toNat_natCast, hsd]; rfl
  obtain ⟨xd, xs, xm, xa, xk, xt, xp, xb⟩ := x
  dsimp only [xcs] at *
  subst hx hj
  go_enter Try.func56, Try.ntmps56
  go_wp2_with fail
  generalize (w.alloc (.cells #[.int .i64 2, .int .i64 (j : Int), .int .i64 xm, .int .i64 xa, .int .i64 xk, .int .i64 xt, .int .i64 xp, .string xb] 37)).alloc (.cells #[.int .i64 0, .int .i64 0, .bool false, .string ⟨#[]⟩, .slice none 0 0] 34) = W at HX ⊢
  generalize w.heap.size = q at HX ⊢
  generalize q + 1 = p at HX ⊢
  have hq := (unhide HX).var (List.Mem.tail _ (List.Mem.head _))
  have x0 : W.cell? ⟨q, 0, none⟩ = some (.int .i64 2) := cell_of_block hq rfl
  have x1 : W.cell? ⟨q, 1, none⟩ = some (.int .i64 (j : Int)) := cell_of_block hq rfl
  have x4 : W.cell? ⟨q, 4, none⟩ = some (.int .i64 xk) := cell_of_block hq rfl
  have x5 : W.cell? ⟨q, 5, none⟩ = some (.int .i64 xt) := cell_of_block hq rfl
  have x6 : W.cell? ⟨q, 6, none⟩ = some (.int .i64 xp) := cell_of_block hq rfl
  have x7 : W.cell? ⟨q, 7, none⟩ = some (.string xb) := cell_of_block hq rfl
  have ql := lt_of_block hq
  clear hq
  refine (h_find (j : Int) (unhide HX)).mono ?_
  rintro e w' ⟨rfl, hw'⟩
  subst w'
  rw [hda, hfc]
  rw [show sp (some (D, d)) = .pointer (some ⟨D, 0, none⟩) from rfl]
  have HE := hide ((unhide HX).new #[.int .i64 0, .int .i64 0, .bool false, .string ⟨#[]⟩, .slice none 0 0] 34)
  have pl := lt_of_block ((unhide HX).var (List.Mem.head _))
  have hl := (unhide HX).lt
  have vl := (unhide HX).vlt_
  have c0 := (unhide HX).c0
  have v0 := (unhide HX).v0
  obtain ⟨e0, e1, e2, e3, e4, g0, g1, g2, g3, g4⟩ := evF ((unhide HX).var (List.Mem.head _))
  go_wp2_with fail
  generalize W.alloc (.cells #[.int .i64 0, .int .i64 0, .bool false, .string ⟨#[]⟩, .slice none 0 0] 34) = W2 at HE ⊢
  generalize W.heap.size = pe at HE ⊢
  clear e0 e1 e2 e3 e4 g0 g1 g2 g3 g4 x0 x1 x4 x5 x6 x7 ql pl hl vl c0 v0
  have c0 := (unhide HE).c0
  have v0 := (unhide HE).v0
  have hq := (unhide HE).var (List.Mem.tail _ (List.Mem.tail _ (List.Mem.head _)))
  have x4 : W2.cell? ⟨q, 4, none⟩ = some (.int .i64 xk) := cell_of_block hq rfl
  clear hq
  have HG := hide (fun W' (hk : Kp [] W2 W') => h_get xk h5 hsd ((unhide HE).kp0 hk))
  go_region_with (go_at_call 101; refine (unhide HG _ (Kp.refl [] W2).drew).mono ?_; rintro e w3 ⟨rfl, HY⟩; (have hep := (unhide HY).var (List.Mem.head _)); (obtain ⟨a0, a1, a2, a3, a4, b0, b1, b2, b3, b4⟩ := evF hep); clear hep)
  all_goals
    have hpp := (unhide HY).var (List.Mem.tail _ (List.Mem.head _))
    obtain ⟨e0, e1, e2, e3, e4, g0, g1, g2, g3, g4⟩ := evF hpp
    have pl := lt_of_block hpp
    clear hpp
    have hne := (unhide HY).ne2
    go_wp2_with fail
    refine bodyPost_ret (v := .agg #[.int .i64 (dg h.f h.n d.y d.ws xk).a, .int .i64 0, .bool (dg h.f h.n d.y d.ws xk).t, .string (dg h.f h.n d.y d.ws xk).s, .slice none 0 0]) (by simp [results, Try.results56, go_sem, e0, e1, e2, e3, e4]) rfl ?_
    exact ⟨tb, _, none, 0, rfl, by show Sts _ (upd h.seat ((j : Int).toNat) _); rw [hjs]; exact (unhide HS).put j (some (D, _)), ((((((unhide HY).set0 2 _).set0 3 _).set0 0 _).tail).fin _ _ _ _ _).ps.as rfl rfl rfl⟩
end
end Go.Proofs.Ytapmlleemopcnac

/- A hall's goOn: List. -/
namespace Go.Proofs.Ytapmlleemopcnac
open Go.RowKit
set_option maxRecDepth 20000
attribute [local go_sem ↓] Go.wp_at_zero Go.wp_at_succ

section
variable {w0 w : World} {hb vb tb gb : Nat} {h : HSt} {st : Nat → Sd} {r : List Thing}
set_option maxHeartbeats 1000000 in
theorem go_list (x : HStep) (hx : x.d = 5) {j D : Nat} {d : Dp} (hj : x.s = (j : Int)) (h5 : j < 5) (hsd : st j = some (D, d)) (hs : Sts st h.seat) (hz : Hall w0 w hb vb tb gb h st r) :
    Calls Try.prog 56 #[.pointer (some ⟨hb, 0, none⟩), .agg #[.int .i64 x.d, .int .i64 x.s, .int .i64 x.md, .int .i64 x.at_, .int .i64 x.key, .int .i64 x.to_, .int .i64 x.keep, .string x.b]] w fun e w' => GoEnd w0 hb vb gb r (hdo h x) (hev h x) e w' := by
  have HS := hide hs
  have HX := hide (hz.two (xcs x) 37 #[.int .i64 0, .int .i64 0, .bool false, .string ⟨#[]⟩, .slice none 0 0] 34)
  have hjs : x.s.toNat = j := by omega
  have i0 : (0 : Int) ≤ (j : Int) := by omega
  have i5 : (j : Int) < 5 := by omega
  have hsj : h.seat j = some d := by rw [← hs j, hsd]; rfl
  have heq := (HKind.list (h := h) (x := x) d hx ⟨by omega, by omega⟩ (by rw [hjs]; exact hsj)).eq
  rw [heq.1, heq.2]
  clear heq hz hs hsj
  have hda : dat st (j : Int) = some (D, d) := by rw [dat_in h5, hsd]
  have hfc : fcode st (j : Int) = 0 := by unfold fcode; rw [if_pos ⟨i0, i5⟩, Int.toNat_natCast, hsd]; rfl
  obtain ⟨xd, xs, xm, xa, xk, xt, xp, xb⟩ := x
  dsimp only [xcs] at *
  subst hx hj
  go_enter Try.func56, Try.ntmps56
  go_wp2_with fail
  generalize (w.alloc (.cells #[.int .i64 5, .int .i64 (j : Int), .int .i64 xm, .int .i64 xa, .int .i64 xk, .int .i64 xt, .int .i64 xp, .string xb] 37)).alloc (.cells #[.int .i64 0, .int .i64 0, .bool false, .string ⟨#[]⟩, .slice none 0 0] 34) = W at HX ⊢
  generalize w.heap.size = q at HX ⊢
  generalize q + 1 = p at HX ⊢
  have hq := (unhide HX).var (List.Mem.tail _ (List.Mem.head _))
  have x0 : W.cell? ⟨q, 0, none⟩ = some (.int .i64 5) := cell_of_block hq rfl
  have x1 : W.cell? ⟨q, 1, none⟩ = some (.int .i64 (j : Int)) := cell_of_block hq rfl
  have x4 : W.cell? ⟨q, 4, none⟩ = some (.int .i64 xk) := cell_of_block hq rfl
  have x5 : W.cell? ⟨q, 5, none⟩ = some (.int .i64 xt) := cell_of_block hq rfl
  have x6 : W.cell? ⟨q, 6, none⟩ = some (.int .i64 xp) := cell_of_block hq rfl
  have x7 : W.cell? ⟨q, 7, none⟩ = some (.string xb) := cell_of_block hq rfl
  have ql := lt_of_block hq
  clear hq
  refine (h_find (j : Int) (unhide HX)).mono ?_
  rintro e w' ⟨rfl, hw'⟩
  subst w'
  rw [hda, hfc]
  rw [show sp (some (D, d)) = .pointer (some ⟨D, 0, none⟩) from rfl]
  have HE := hide ((unhide HX).new #[.int .i64 0, .int .i64 0, .bool false, .string ⟨#[]⟩, .slice none 0 0] 34)
  have pl := lt_of_block ((unhide HX).var (List.Mem.head _))
  have hl := (unhide HX).lt
  have vl := (unhide HX).vlt_
  have c0 := (unhide HX).c0
  have v0 := (unhide HX).v0
  obtain ⟨e0, e1, e2, e3, e4, g0, g1, g2, g3, g4⟩ := evF ((unhide HX).var (List.Mem.head _))
  go_wp2_with fail
  generalize W.alloc (.cells #[.int .i64 0, .int .i64 0, .bool false, .string ⟨#[]⟩, .slice none 0 0] 34) = W2 at HE ⊢
  generalize W.heap.size = pe at HE ⊢
  clear e0 e1 e2 e3 e4 g0 g1 g2 g3 g4 x0 x1 x4 x5 x6 x7 ql pl hl vl c0 v0
  have c0 := (unhide HE).c0
  have v0 := (unhide HE).v0
  have hq := (unhide HE).var (List.Mem.tail _ (List.Mem.tail _ (List.Mem.head _)))
  have x4 : W2.cell? ⟨q, 4, none⟩ = some (.int .i64 xk) := cell_of_block hq rfl
  have x5 : W2.cell? ⟨q, 5, none⟩ = some (.int .i64 xt) := cell_of_block hq rfl
  clear hq
  have HG := hide (fun W' (hk : Kp [] W2 W') => h_list xk xt h5 hsd ((unhide HE).kp0 hk))
  go_region_with (go_at_call 103; refine (unhide HG _ (Kp.refl [] W2).drew).mono ?_; rintro e w3 ⟨a, cap, rfl, HY0⟩; (have HY := hide ((unhide HY0).perm (List.perm_middle (l₁ := [_, _, _])).symm)); clear HY0; (have hep := (unhide HY).var (List.Mem.head _)); (obtain ⟨a0, a1, a2, a3, a4, b0, b1, b2, b3, b4⟩ := evF hep); clear hep)
  all_goals
    have hpp := (unhide HY).var (List.Mem.tail _ (List.Mem.head _))
    obtain ⟨e0, e1, e2, e3, e4, g0, g1, g2, g3, g4⟩ := evF hpp
    have pl := lt_of_block hpp
    clear hpp
    have hne := (unhide HY).ne2
    go_wp2_with fail
    refine bodyPost_ret (v := .agg #[.int .i64 (dls h.f h.n d.y d.ws d.rs xk xt).2.1, .int .i64 0, .bool false, .string ⟨#[]⟩, .slice a (dls h.f h.n d.y d.ws d.rs xk xt).1.length cap]) (by simp [results, Try.results56, go_sem, e0, e1, e2, e3, e4]) rfl ?_
    exact ⟨tb, _, a, cap, rfl, by show Sts _ (upd h.seat ((j : Int).toNat) _); rw [hjs]; exact (unhide HS).put j (some (D, _)), (((((unhide HY).set0 4 _).set0 0 _).tail).fin _ _ _ _ _).as rfl rfl rfl⟩
end
end Go.Proofs.Ytapmlleemopcnac
