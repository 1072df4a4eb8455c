/- A court among things: its box, its seats' deeds. -/
import Derived.Test.YtehhpmfeaeabgacGx
import Derived.Test.YtehhpmfeaeabgacHv
namespace Go.Proofs.Ytehhpmfeaeabgac
open Go.RowKit
set_option maxRecDepth 20000

/-- A seat's deed of the document. -/
def WOpt : Sd → Thing
  | none => ManyT []
  | some x => WkT x.1 x.2.md x.2.y x.2.rs x.2.ws
def ad (o : Sd) : Option Addr := o.map fun x => ⟨x.1, 0, none⟩
def ads (st : Nat → Sd) : Nat → Option Addr := fun s => ad (st s)
theorem ads_upd (st : Nat → Sd) (s : Nat) (d : Sd) : ads (upd st s d) = upd (ads st) s (ad d) := by
  funext j
  simp only [ads, upd]
  split <;> rfl
theorem ads_same {st : Nat → Sd} {s : Nat} {d : Sd} (h : ad d = ad (st s)) : ads (upd st s d) = ads st := by
  rw [ads_upd, h]
  funext j
  simp only [ads, upd]
  split
  · rename_i e; rw [e]
  · rfl
def wseats (st : Nat → Sd) : List Thing := [WOpt (st 0), WOpt (st 1), WOpt (st 2), WOpt (st 3), WOpt (st 4)]
/-- A court among things, its parts known. -/
def Cou (w0 w : World) (cb sb : Nat) (h : HSt) (st : Nat → Sd) (r : List Thing) : Prop := Zoo w0 w (CrtT cb sb h.f h.n h.cs [] (ads st) :: (wseats st ++ r))
def CouT (cb : Nat) (h : HSt) : Thing where
  holds B w F := ∃ sb st, Sts st h.seat ∧ HInv h ∧ ZooF B w (CrtT cb sb h.f h.n h.cs [] (ads st) :: wseats st) F
  kp := fun ⟨sb, st, h1, h2, h3⟩ hk hS => ⟨sb, st, h1, h2, ZooF.kp hk h3 hS⟩
  lo := fun ⟨_, _, _, _, h⟩ => h.lo
  base := fun ⟨sb, st, h1, h2, h3⟩ hC => ⟨sb, st, h1, h2, ZooF.base hC h3⟩
section
variable {w0 w w' : World} {cb sb : Nat} {h h' : HSt} {st : Nat → Sd} {r : List Thing}
theorem cou_open (hz : Zoo w0 w (CouT cb h :: r)) : ∃ sb st, Sts st h.seat ∧ HInv h ∧ Cou w0 w cb sb h st r := by
  obtain ⟨X, ⟨F, Y, ⟨sb, st, h1, h2, k⟩, h4, h5, rfl⟩, hk⟩ := hz
  exact ⟨sb, st, h1, h2, F ++ Y, zoof_join k h4 h5, hk⟩
theorem cou_close (hs : Sts st h.seat) (hi : HInv h) (hz : Cou w0 w cb sb h st r) : Zoo w0 w (CouT cb h :: r) := by
  obtain ⟨X, h1, hk⟩ := hz
  obtain ⟨F, Y, k1, k2, k3, rfl⟩ := zoof_app (us := CrtT cb sb h.f h.n h.cs [] (ads st) :: wseats st) (vs := r) h1
  exact ⟨F ++ Y, ⟨F, Y, ⟨sb, st, hs, hi, k1⟩, k2, k3, rfl⟩, hk⟩
theorem Cou.kp0 (hz : Cou w0 w cb sb h st r) (hk : Kp [] w w') : Cou w0 w' cb sb h st r := Zoo.kp0 hz hk
theorem Cou.as {h' : HSt} (hz : Cou w0 w cb sb h st r) (e1 : h'.f = h.f) (e2 : h'.n = h.n) (e3 : h'.cs = h.cs) : Cou w0 w cb sb h' st r := by
  unfold Cou at hz ⊢
  rw [e1, e2, e3]
  exact hz
theorem Cou.crt (hz : Cou w0 w cb sb h st r) : ∃ G Gr Gs bx, Crt w0.heap.size w cb sb G Gr Gs bx h.f h.n h.cs [] (ads st) ∧ ∀ (sb' : Nat) (f : Nat → List Ver) (n : Nat) (cs : List (List Ver)) (seat : Nat → Option Dp) (w' : World), Ch (CrtT cb sb' f n cs [] (ads st)) w0.heap.size w G w' → Cou w0 w' cb sb' ⟨f, n, cs, seat⟩ st r := by
  obtain ⟨G, ⟨Gr, Gs, bx, k⟩, k2⟩ := zoo_at0 hz
  exact ⟨G, Gr, Gs, bx, k, fun sb' f n cs seat w' hc => k2 _ _ hc⟩
theorem Cou.c0 (hz : Cou w0 w cb sb h st r) : w.cell? ⟨cb, 0, none⟩ = some (.pointer (some ⟨sb, 0, none⟩)) := by
  obtain ⟨G, Gr, Gs, bx, k, _⟩ := hz.crt
  exact k.c0
theorem Cou.cs_ (hz : Cou w0 w cb sb h st r) {s : Nat} (hs : s < 5) : w.cell? ⟨cb, 3 + s, none⟩ = some (.pointer (ad (st s))) := by
  obtain ⟨G, Gr, Gs, bx, k, _⟩ := hz.crt
  exact k.seat hs
theorem Cou.fz (hz : Cou w0 w cb sb h st r) (i : Nat) : w.frozen? ⟨cb, i, none⟩ = false := by
  obtain ⟨G, Gr, Gs, bx, k, _⟩ := hz.crt
  exact k.fz i
theorem Cou.lt (hz : Cou w0 w cb sb h st r) : cb < w.heap.size := by
  obtain ⟨G, Gr, Gs, bx, k, _⟩ := hz.crt
  exact (k.lo cb k.cG).2
theorem Cou.n0 (hz : Cou w0 w cb sb h st r) : w.cell? ⟨sb, 8, none⟩ = some (.int .i64 h.n) := by
  obtain ⟨G, Gr, Gs, bx, k, _⟩ := hz.crt
  exact k.s.ncell
theorem Cou.sl (hz : Cou w0 w cb sb h st r) : sb < w.heap.size := lt_of_cell hz.n0
theorem Cou.new (hz : Cou w0 w cb sb h st r) (c : Array Value) (T : TypeId) : Cou w0 (w.alloc (.cells c T)) cb sb h st (BoxT w.heap.size c T :: r) := by
  have h1 := Zoo.box hz c T
  exact h1.perm (List.perm_middle (l₁ := CrtT cb sb h.f h.n h.cs [] (ads st) :: wseats st)).symm
theorem Cou.two (hz : Cou w0 w cb sb h st r) (c : Array Value) (T : TypeId) (c2 : Array Value) (T2 : TypeId) : Cou w0 ((w.alloc (.cells c T)).alloc (.cells c2 T2)) cb sb h st (BoxT (w.heap.size + 1) c2 T2 :: BoxT w.heap.size c T :: r) := by
  have h1 := (hz.new c T).new c2 T2
  rw [show (w.alloc (.cells c T)).heap.size = w.heap.size + 1 by simp] at h1
  exact h1
theorem Cou.perm {r' : List Thing} (hz : Cou w0 w cb sb h st r) (hp : r.Perm r') : Cou w0 w cb sb h st r' := Zoo.perm hz (List.Perm.cons _ (List.Perm.append_left _ hp))
theorem Cou.var {p : Nat} {c : Array Value} {T : TypeId} (hz : Cou w0 w cb sb h st r) (hm : BoxT p c T ∈ r) : w.heap[p]? = some (.cells c T (0, 0)) := zoo_varm hz (by simp [hm])
theorem Cou.at_ {l1 l2 : List Thing} {o : Thing} (hz : Cou w0 w cb sb h st (l1 ++ o :: l2)) : ∃ F, o.holds w0.heap.size w F ∧ ∀ (o' : Thing) (w' : World), Ch o' w0.heap.size w F w' → Cou w0 w' cb sb h st (l1 ++ o' :: l2) := by
  have hz' : Zoo w0 w ((CrtT cb sb h.f h.n h.cs [] (ads st) :: (wseats st ++ l1)) ++ o :: l2) := by
    have := hz
    unfold Cou at this
    rw [← List.append_assoc] at this
    exact this
  obtain ⟨F, h1, h2⟩ := hz'.at_
  refine ⟨F, h1, fun o' w' hc => ?_⟩
  have := h2 o' w' hc
  unfold Cou
  rw [← List.append_assoc]
  exact this
theorem Cou.tail {o : Thing} (hz : Cou w0 w cb sb h st (o :: r)) : Cou w0 w cb sb h st r := Zoo.drop_ (l1 := CrtT cb sb h.f h.n h.cs [] (ads st) :: wseats st) hz
theorem Cou.set0 {p : Nat} {c : Array Value} {T : TypeId} (hz : Cou w0 w cb sb h st (BoxT p c T :: r)) (i : Nat) (v : Value) : Cou w0 (w.setCell ⟨p, i, none⟩ v) cb sb h st (BoxT p (c.setIfInBounds i v) T :: r) := by
  obtain ⟨F, ⟨hbx, h2, h3⟩, k2⟩ := Cou.at_ (l1 := []) hz
  exact k2 _ _ ⟨F, ⟨heap_setCell_at _ _ hbx, h2, h3⟩, by rw [h2]; exact (Kp.refl [p] w).setCell (.inl (by simp)) _, fun x hx => .inl hx⟩
theorem Cou.fin {W : World} {p q : Nat} {c xc : Array Value} {T U : TypeId} (hz : Cou w0 W cb sb h st (BoxT p c T :: BoxT q xc U :: r)) (a b c' d e : Value) : Cou w0 (((((W.setCell ⟨p, 0, none⟩ a).setCell ⟨p, 1, none⟩ b).setCell ⟨p, 2, none⟩ c').setCell ⟨p, 3, none⟩ d).setCell ⟨p, 4, none⟩ e) cb sb h st r := (((((hz.set0 0 a).set0 1 b).set0 2 c').set0 3 d).set0 4 e).tail.tail
theorem Cou.ps {sb' : Nat} {h' : HSt} {st' : Nat → Sd} (hz : Cou w0 w' cb sb' h' st' r) : Cou w0 w' cb sb' h' st' (PsT none 0 [] :: r) := Zoo.perm (ps_nil hz) (List.perm_middle (l₁ := CrtT cb sb' h'.f h'.n h'.cs [] (ads st') :: wseats st')).symm
theorem wseats_at (st : Nat → Sd) {s : Nat} (hs : s < 5) : ∃ l1 l2, wseats st = l1 ++ WOpt (st s) :: l2 ∧ ∀ d, wseats (upd st s d) = l1 ++ WOpt d :: l2 := by
  rcases (show s = 0 ∨ s = 1 ∨ s = 2 ∨ s = 3 ∨ s = 4 by omega) with e | e | e | e | e <;> subst e
  · exact ⟨[], [WOpt (st 1), WOpt (st 2), WOpt (st 3), WOpt (st 4)], rfl, fun d => by simp [wseats, upd]⟩
  · exact ⟨[WOpt (st 0)], [WOpt (st 2), WOpt (st 3), WOpt (st 4)], rfl, fun d => by simp [wseats, upd]⟩
  · exact ⟨[WOpt (st 0), WOpt (st 1)], [WOpt (st 3), WOpt (st 4)], rfl, fun d => by simp [wseats, upd]⟩
  · exact ⟨[WOpt (st 0), WOpt (st 1), WOpt (st 2)], [WOpt (st 4)], rfl, fun d => by simp [wseats, upd]⟩
  · exact ⟨[WOpt (st 0), WOpt (st 1), WOpt (st 2), WOpt (st 3)], [], rfl, fun d => by simp [wseats, upd]⟩
/-- A seat's deed behind the court; and back, another one in its place, and perhaps a new thing. -/
theorem Cou.out (hz : Cou w0 w cb sb h st r) {s : Nat} (hs : s < 5) : ∃ rest, Zoo w0 w (CrtT cb sb h.f h.n h.cs [] (ads st) :: WOpt (st s) :: rest) ∧
    ∀ (w' : World) (d : Sd) (P : List Thing), ad d = ad (st s) → Zoo w0 w' (CrtT cb sb h.f h.n h.cs [] (ads st) :: WOpt d :: (P ++ rest)) → Cou w0 w' cb sb h (upd st s d) (P ++ r) := by
  obtain ⟨l1, l2, e1, e2⟩ := wseats_at st hs
  refine ⟨l1 ++ (l2 ++ r), ?_, fun w' d P hd hz' => ?_⟩
  · have h1 := hz
    unfold Cou at h1
    rw [e1, List.append_assoc] at h1
    exact h1.perm (List.Perm.cons _ List.perm_middle)
  · unfold Cou
    rw [e2, ads_same hd, List.append_assoc]
    refine hz'.perm (List.Perm.cons _ ?_)
    have p1 := (List.perm_middle (l₁ := l1) (a := WOpt d) (l₂ := l2 ++ (P ++ r))).symm
    refine List.Perm.trans (List.Perm.cons _ ?_) p1
    have p2 : (P ++ (l1 ++ l2 ++ r)).Perm (l1 ++ l2 ++ (P ++ r)) := by
      rw [← List.append_assoc, ← List.append_assoc (l1 ++ l2)]
      exact List.perm_append_comm.append_right r
    have e3 : ∀ q : List Thing, l1 ++ (l2 ++ q) = l1 ++ l2 ++ q := fun q => by simp
    rw [e3, e3]
    exact p2
theorem Cou.sitP {s : Nat} (hs : s < 5) (d : Sd) (k : Zoo w0 w (CrtT cb sb h.f h.n h.cs [] (ads st) :: (wseats (upd st s d) ++ r))) : Cou w0 (w.setCell ⟨cb, 3 + s, none⟩ (.pointer (ad d))) cb sb h (upd st s d) r := by
  obtain ⟨G, ⟨Gr, Gs, bx, k1⟩, k2⟩ := zoo_at0 k
  have := k2 _ _ (k1.sit hs (ad d))
  unfold Cou
  rw [ads_upd]
  exact this
theorem wopt_none (hz : Zoo w0 w r) : Zoo w0 w (WOpt none :: r) := many_close (os := []) hz
theorem Cou.leave (hz : Cou w0 w cb sb h st r) {s : Nat} (hs : s < 5) : Cou w0 (w.setCell ⟨cb, 3 + s, none⟩ (.pointer none)) cb sb h (upd st s none) (WOpt (st s) :: r) := by
  obtain ⟨l1, l2, e1, e2⟩ := wseats_at st hs
  generalize hA : CrtT cb sb h.f h.n h.cs [] (ads st) :: l1 = A
  have h1 : Zoo w0 w (A ++ WOpt (st s) :: (l2 ++ r)) := by
    have := hz
    unfold Cou at this
    rw [e1, List.append_assoc] at this
    rw [← hA]
    exact this
  have h2 := (wopt_none h1).perm ((List.Perm.cons _ List.perm_middle).trans (List.Perm.swap _ _ _))
  have h3 := h2.perm (List.Perm.cons _ (List.perm_middle (l₁ := A)).symm)
  have h4 : Zoo w0 w (WOpt (st s) :: ((A ++ WOpt none :: l2) ++ r)) := by rw [List.append_assoc]; exact h3
  have h5 := h4.perm (List.perm_middle (l₁ := A ++ WOpt none :: l2)).symm
  have h6 : Zoo w0 w (CrtT cb sb h.f h.n h.cs [] (ads st) :: (wseats (upd st s none) ++ (WOpt (st s) :: r))) := by
    rw [e2]
    rw [← hA] at h5
    exact h5
  exact Cou.sitP hs none h6
theorem Cou.sitNew {D : Nat} {d : Dp} {l1 l2 : List Thing} (hz : Cou w0 w cb sb h st (l1 ++ WOpt (some (D, d)) :: l2)) {s : Nat} (hs : s < 5) (hn : st s = none) : Cou w0 (w.setCell ⟨cb, 3 + s, none⟩ (.pointer (some ⟨D, 0, none⟩))) cb sb h (upd st s (some (D, d))) (l1 ++ l2) := by
  have h1 := hz.perm (List.perm_middle (l₁ := l1))
  obtain ⟨m1, m2, e1, e2⟩ := wseats_at st hs
  refine Cou.sitP (h := h) (st := st) hs (some (D, d)) ?_
  unfold Cou at h1
  rw [e1, hn, List.append_assoc] at h1
  have h2 : Zoo w0 w ((CrtT cb sb h.f h.n h.cs [] (ads st) :: m1) ++ WOpt none :: (m2 ++ (WOpt (some (D, d)) :: (l1 ++ l2)))) := h1
  have h3 := h2.drop_
  rw [e2, List.append_assoc]
  have h4 : Zoo w0 w ((CrtT cb sb h.f h.n h.cs [] (ads st) :: (m1 ++ m2)) ++ WOpt (some (D, d)) :: (l1 ++ l2)) := by
    have := h3
    simp only [List.cons_append, List.append_assoc] at this ⊢
    exact this
  have h5 := h4.perm List.perm_middle
  have h6 : Zoo w0 w (WOpt (some (D, d)) :: ((CrtT cb sb h.f h.n h.cs [] (ads st) :: m1) ++ (m2 ++ (l1 ++ l2)))) := by
    have := h5
    simp only [List.cons_append, List.append_assoc] at this ⊢
    exact this
  exact h6.perm (List.perm_middle (l₁ := CrtT cb sb h.f h.n h.cs [] (ads st) :: m1)).symm
/-- All deeds are let go. -/
theorem Cou.stand {f : Nat → List Ver} {n : Nat} {cs : List (List Ver)} {sb' : Nat} (hz : Zoo w0 w (CrtT cb sb' f n cs [] (fun _ => none) :: (wseats st ++ r))) : Cou w0 w cb sb' ⟨f, n, cs, fun _ => none⟩ (fun _ => none) r := by
  have h1 : Zoo w0 w (wseats st ++ (CrtT cb sb' f n cs [] (fun _ => none) :: r)) := hz.perm (List.perm_middle (l₁ := wseats st)).symm
  have h2 := (many_close h1).tail
  have h3 := wopt_none (wopt_none (wopt_none (wopt_none (wopt_none h2))))
  exact h3.perm (List.perm_middle (l₁ := wseats (fun _ => none)))
theorem Cou.wrk (hz : Cou w0 w cb sb h st r) {s D : Nat} {d : Dp} (hs : s < 5) (hd : st s = some (D, d)) : ∃ H, Wrk w0.heap.size w D H d.md d.y d.rs d.ws := by
  obtain ⟨rest, h1, _⟩ := hz.out hs
  rw [hd] at h1
  obtain ⟨F, h2, _⟩ := zoo_at1 h1
  exact ⟨F, h2⟩
end
end Go.Proofs.Ytehhpmfeaeabgac
