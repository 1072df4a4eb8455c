/- Bound together for a claim. -/
import Derived.Test.YtldkeaeohceckacGreatM2
import Derived.Deep.MidRow
import Derived.OpenShut
import Derived.BigRegion
import Derived.Deep.RegionHeld3
import Derived.Deep.RegionWith
namespace Go.Proofs.YtldkeaeohceckacGreat
set_option maxRecDepth 20000
set_option maxHeartbeats 64000000
section
open Go.RowKit Srt
deriving instance DecidableEq for Ver
def aso (v : Nat → Ver) (a : Ac) : Bool :=
 if a.kd = 2 then decide (a.t = (v a.key.toNat).t ∧ a.s = (v a.key.toNat).s) else if a.kd = 5 then decide (a.l = wl v a.key a.to_ 8) else true
def ado (v : Nat → Ver) (a : Ac) : Nat → Ver := if a.kd = 3 ∨ a.kd = 4 then upd v a.key.toNat ⟨0, a.t, a.s⟩ else v
def rpl : (Nat → Ver) → Bool → List Ac → (Nat → Ver) × Bool
 | v, ok, [] => (v, ok)
 | v, ok, a :: r => if aN a.key = true then rpl (ado v a) (ok && aso v a) r else (v, false)
def rpw (v : Nat → Ver) (l : List Ac) : Nat → Ver := (rpl v true l).1
def rpo (v : Nat → Ver) (l : List Ac) : Bool := (rpl v true l).2
theorem pL : ∀ (l : List Ac) (v : Nat → Ver) (ok : Bool), rpl v ok l = (rpw v l, ok && rpo v l) := by
 intro l
 induction l with
 | nil => intro v ok; simp [rpl, rpw, rpo]
 | cons a r ih =>
   intro v ok
   unfold rpw rpo
   simp only [rpl]
   split
   ·rw [ih, ih (ado v a) (true && aso v a)]
    simp [Bool.and_assoc]
   ·simp
theorem uX : ∀ (l m : List Ac) (v : Nat → Ver) (ok : Bool), (∀ a, a ∈ l → aN a.key = true) → rpl v ok (l ++ m) = rpl (rpl v ok l).1 (rpl v ok l).2 m := by
 intro l
 induction l with
 | nil => intro m v ok _; rfl
 | cons a r ih =>
   intro m v ok h
   simp only [List.cons_append, rpl]
   rw [if_pos (h a (by simp)), if_pos (h a (by simp))]
   exact ih m _ _ (fun b hb => h b (by simp [hb]))
theorem rO (l m : List Ac) (v : Nat → Ver) (h : ∀ a, a ∈ l → aN a.key = true) : rpl v true (l ++ m) = (rpw (rpw v l) m, rpo v l && rpo (rpw v l) m) := by
 rw [uX l m v true h]
 exact pL m (rpw v l) (rpo v l)
theorem rP {l : List Ac} {k : Nat} {a : Ac} (h : l[k]? = some a) (v : Nat → Ver) (ok : Bool) (hk : aN a.key = true) : rpl v ok (l.drop k) = rpl (ado v a) (ok && aso v a) (l.drop (k + 1)) := by
 have hl := (List.getElem?_eq_some_iff.1 h).1
 rw [List.drop_eq_getElem_cons hl]
 have e : l[k] = a := by rw [List.getElem?_eq_getElem hl] at h; exact Option.some.inj h
 rw [e]
 simp only [rpl]
 rw [if_pos hk]
theorem oD {l : List Ac} {k : Nat} {a : Ac} (h : l[k]? = some a) (v : Nat → Ver) (ok : Bool) (hk : ¬ aN a.key = true) : rpl v ok (l.drop k) = (v, false) := by
 have hl := (List.getElem?_eq_some_iff.1 h).1
 rw [List.drop_eq_getElem_cons hl]
 have e : l[k] = a := by rw [List.getElem?_eq_getElem hl] at h; exact Option.some.inj h
 rw [e]
 simp only [rpl]
 rw [if_neg hk]
def srN (n : Int) : (Nat → Ver) → Bool → List Dn → (Nat → Ver) × Bool
 | v, ok, [] => (v, ok)
 | v, ok, d :: r => if d.n = n then srN n (rpw v d.acts) (ok && (rpo v d.acts || decide (d.md ≠ 2))) r else srN n v ok r
def srL (n : Int) (v : Nat → Ver) : Bool → List Dn → Bool
 | ok, [] => ok
 | ok, d :: r => if d.n = 0 ∧ d.at_ = n then srL n v (ok && rpo v d.acts) r else srL n v ok r
def mxn : Int → List Dn → Int
 | m, [] => m
 | m, d :: r => mxn (if m < d.n then d.n else m) r
def sr1 (ds : List Dn) (n : Nat) (v : Nat → Ver) (ok : Bool) : (Nat → Ver) × Bool :=
 let s := if 0 < n then srN n v ok ds else (v, ok)
 (s.1, srL n s.1 s.2 ds)
def srs (ds : List Dn) : Nat → Nat → (Nat → Ver) → Bool → Bool
 | 0, _, _, ok => ok
 | m + 1, n, v, ok => srs ds m (n + 1) (sr1 ds n v ok).1 (sr1 ds n v ok).2
def ser (ds : List Dn) : Bool := srs ds ((mxn 0 ds).toNat + 1) 0 (fun _ => dv) true
theorem nu : ∀ (ds : List Dn) (m : Int), m ≤ mxn m ds ∧ ∀ d, d ∈ ds → d.n ≤ mxn m ds := by
 intro ds
 induction ds with
 | nil => intro m; exact ⟨Int.le_refl _, fun d h => by simp at h⟩
 | cons x r ih =>
   intro m
   simp only [mxn]
   by_cases c : m < x.n
   ·rw [if_pos c]
    obtain ⟨h1, h2⟩ := ih x.n
    refine ⟨by omega, fun d hd => ?_⟩
    rcases List.mem_cons.1 hd with e | e
    ·subst e; exact h1
    ·exact h2 d e
   ·rw [if_neg c]
    obtain ⟨h1, h2⟩ := ih m
    refine ⟨h1, fun d hd => ?_⟩
    rcases List.mem_cons.1 hd with e | e
    ·subst e; omega
    ·exact h2 d e
theorem kY : ∀ (ds : List Dn) (m : Int), mxn m ds = m ∨ ∃ d, d ∈ ds ∧ d.n = mxn m ds := by
 intro ds
 induction ds with
 | nil => intro m; exact .inl rfl
 | cons x r ih =>
   intro m
   simp only [mxn]
   rcases ih (if m < x.n then x.n else m) with e | ⟨d, h1, h2⟩
   ·by_cases c : m < x.n
    ·rw [if_pos c] at e ⊢; exact .inr ⟨x, by simp, e.symm⟩
    ·rw [if_neg c] at e ⊢; exact .inl e
   ·exact .inr ⟨d, by simp [h1], h2⟩
def cmw : (Nat → Ver) → List Dn → (Nat → Ver)
 | v, [] => v
 | v, d :: r => cmw (rpw v d.acts) r
def cmo : (Nat → Ver) → List Dn → Bool
 | _, [] => true
 | v, d :: r => (rpo v d.acts || decide (d.md ≠ 2)) && cmo (rpw v d.acts) r
def lko (v : Nat → Ver) : List Dn → Bool
 | [] => true
 | d :: r => rpo v d.acts && lko v r
theorem rB (n : Int) : ∀ (ds : List Dn) (v : Nat → Ver) (ok : Bool), srN n v ok ds = (cmw v (kf Dn.n n ds), ok && cmo v (kf Dn.n n ds)) := by
 intro ds
 induction ds with
 | nil => intro v ok; simp [srN, kf, cmw, cmo]
 | cons d r ih =>
   intro v ok
   simp only [srN]
   by_cases e : d.n = n
   ·rw [if_pos e, ih]
    unfold kf
    rw [List.filter_cons_of_pos (by simp [e])]
    simp [cmw, cmo, Bool.and_assoc]
   ·rw [if_neg e, ih]
    unfold kf
    rw [List.filter_cons_of_neg (by simp [e])]
def lks (ds : List Dn) : List Dn := ds.filter (fun d => decide (d.n = 0 ∧ 0 ≤ d.at_))
def cms (ds : List Dn) : List Dn := ds.filter (fun d => decide (0 < d.n))
theorem kK {n : Int} (hn : 0 ≤ n) (v : Nat → Ver) : ∀ (ds : List Dn) (ok : Bool), srL n v ok ds = (ok && lko v (kf Dn.at_ n (lks ds))) := by
 intro ds
 induction ds with
 | nil => intro ok; simp [srL, kf, lks, lko]
 | cons d r ih =>
   intro ok
   simp only [srL]
   by_cases e : d.n = 0 ∧ d.at_ = n
   ·rw [if_pos e, ih]
    unfold kf lks
    rw [List.filter_cons_of_pos (by simp [e.1]; omega), List.filter_cons_of_pos (by simp [e.2])]
    simp [lko, Bool.and_assoc]
   ·rw [if_neg e, ih]
    unfold kf lks
    by_cases e2 : d.n = 0 ∧ 0 ≤ d.at_
    ·rw [List.filter_cons_of_pos (by simp; exact e2), List.filter_cons_of_neg (by simp; omega)]
    ·rw [List.filter_cons_of_neg (by simp; omega)]
theorem ny {n : Int} (hn : 0 < n) (ds : List Dn) : kf Dn.n n (cms ds) = kf Dn.n n ds := by
 unfold kf cms
 rw [List.filter_filter]
 apply List.filter_congr
 intro x _
 by_cases e : x.n = n
 ·simp [e, hn]
 ·simp [e]
def btw (v : Nat → Ver) (u : Int) : List Dn → Bool × List Dn
 | [] => (true, [])
 | d :: r => if d.at_ ≤ u then (if rpo v d.acts = true then btw v u r else (false, d :: r)) else (true, d :: r)
def ep : (Nat → Ver) → Int → List Dn → List Dn → Bool
 | v, g, [], L => (btw v g L).1
 | v, _, d :: r, L => (btw v (d.n - 1) L).1 && ((rpo v d.acts || decide (d.md ≠ 2)) && ep (rpw v d.acts) d.n r (btw v (d.n - 1) L).2)
theorem lC {v : Nat → Ver} {u : Int} : ∀ (A L : List Dn), (∀ a, a ∈ A → a.at_ ≤ u) → (btw v u (A ++ L)).1 = (lko v A && (btw v u L).1) ∧ (lko v A = true → (btw v u (A ++ L)).2 = (btw v u L).2) := by
 intro A
 induction A with
 | nil => intro L _; simp [lko]
 | cons a A ih =>
   intro L h
   obtain ⟨h1, h2⟩ := ih L (fun b hb => h b (by simp [hb]))
   simp only [List.cons_append, btw]
   rw [if_pos (h a (by simp))]
   cases e : rpo v a.acts with
   | true =>
     simp only [if_true, lko, e, Bool.true_and]
     exact ⟨h1, h2⟩
   | false =>
     simp [lko, e]
theorem mO {v : Nat → Ver} {u : Int} : ∀ {L : List Dn}, (∀ a, a ∈ L → u < a.at_) → btw v u L = (true, L) := by
 intro L h
 cases L with
 | nil => rfl
 | cons a L => simp only [btw]; rw [if_neg (by have := h a (by simp); omega)]
theorem nj {v : Nat → Ver} {g : Int} {C A L : List Dn} (h : ∀ a, a ∈ A → (C = [] → a.at_ ≤ g) ∧ ∀ c, C.head? = some c → a.at_ ≤ c.n - 1) : ep v g C (A ++ L) = (lko v A && ep v g C L) := by
 cases C with
 | nil =>
   simp only [ep]
   exact (lC A L (fun a ha => (h a ha).1 rfl)).1
 | cons c C =>
   obtain ⟨h1, h2⟩ := lC (v := v) (u := c.n - 1) A L (fun a ha => (h a ha).2 c rfl)
   simp only [ep]
   rw [h1]
   cases e : lko v A with
   | false => simp
   | true => rw [h2 e]; simp
theorem pP {n : Int} : ∀ (D : List Dn) {v : Nat → Ver} {g : Int} {C L : List Dn}, (∀ d, d ∈ D → d.n = n) → (∀ a, a ∈ L → n - 1 < a.at_) → ep v g (D ++ C) L = (cmo v D && ep (cmw v D) (if D = [] then g else n) C L) := by
 intro D
 induction D with
 | nil => intro v g C L _ _; simp [cmo, cmw]
 | cons d D ih =>
   intro v g C L h1 h2
   have hd := h1 d (by simp)
   simp only [List.cons_append, ep]
   rw [hd, mO h2]
   rw [ih (fun e he => h1 e (by simp [he])) h2]
   have : (if D = [] then n else n) = n := by split <;> rfl
   rw [this]
   simp [cmo, cmw, Bool.and_assoc]
theorem vd {ds C0 L0 : List Dn} {last : Nat} (hC : ∀ k, kf Dn.n k C0 = kf Dn.n k (cms ds)) (hL : ∀ k, kf Dn.at_ k L0 = kf Dn.at_ k (lks ds)) (hlast : (mxn 0 ds) = (last : Int)) :
 ∀ (m n : Nat) (v : Nat → Ver) (g : Int) (C L : List Dn), n + m = last → iw Dn.n C → iw Dn.at_ L → (∀ x, x ∈ C → (n : Int) < x.n) → (∀ x, x ∈ L → (n : Int) ≤ x.at_) → (∀ k, (n : Int) < k → kf Dn.n k C = kf Dn.n k C0) → (∀ k, (n : Int) ≤ k → kf Dn.at_ k L = kf Dn.at_ k L0) → (m = 0 → g = last) →
  ∀ ok, srs ds m (n + 1) v (ok && lko v (kf Dn.at_ n L)) = (ok && ep v g C L) := by
 intro m
 induction m with
 | zero =>
   intro n v g C L hn sC sL cl ll kC kL hg ok
   have hC0 : C = [] := by
    cases C with
    | nil => rfl
    | cons c C =>
      exfalso
      have h1 := cl c (by simp)
      have hc : c ∈ kf Dn.n c.n (c :: C) := by unfold kf; rw [List.mem_filter]; exact ⟨by simp, by simp⟩
      rw [kC c.n h1, hC] at hc
      have h2 : c ∈ ds := by
       unfold kf cms at hc
       exact (List.mem_filter.1 (List.mem_filter.1 hc).1).1
      have := (nu ds 0).2 c h2
      omega
   subst hC0
   have hA := iT (n : Int) sL ll
   simp only [srs, ep]
   rw [hg rfl]
   have hn' : (n : Int) = last := by omega
   have e1 := (lC (v := v) (u := (last : Int)) (kf Dn.at_ n L) (L.filter (fun x => decide ((n : Int) < x.at_))) (fun a ha => by
    unfold kf at ha
    have := (List.mem_filter.1 ha).2
    simp at this; omega)).1
   rw [← hA] at e1
   rw [e1, mO (fun a ha => by have := (List.mem_filter.1 ha).2; simp at this; omega)]
   simp
 | succ m ih =>
   intro n v g C L hn sC sL cl ll kC kL hg ok
   have hA := iT (n : Int) sL ll
   have hD := iT ((n : Int) + 1) sC (fun x hx => by have := cl x hx; omega)
   generalize hL2 : L.filter (fun x => decide ((n : Int) < x.at_)) = L2 at *
   generalize hC2 : C.filter (fun x => decide ((n : Int) + 1 < x.n)) = C2 at *
   have kD : kf Dn.n ((n : Int) + 1) C = kf Dn.n ((n : Int) + 1) ds := by rw [kC _ (by omega), hC, ny (by omega)]
   have lL2 : ∀ x, x ∈ L2 → (n : Int) < x.at_ := fun x hx => by rw [← hL2] at hx; have := (List.mem_filter.1 hx).2; simpa using this
   have lC2 : ∀ x, x ∈ C2 → (n : Int) + 1 < x.n := fun x hx => by rw [← hC2] at hx; have := (List.mem_filter.1 hx).2; simpa using this
   have hne : C ≠ [] := by
    intro e
    rcases kY ds 0 with q | ⟨d, q1, q2⟩
    ·omega
    ·have hd : d ∈ kf Dn.n d.n ds := by unfold kf; rw [List.mem_filter]; exact ⟨q1, by simp⟩
     rw [← ny (by omega), ← hC, ← kC d.n (by omega), e] at hd
     simp [kf] at hd
   have e1 : ep v g C L = (lko v (kf Dn.at_ n L) && ep v g C L2) := by
    rw [show ep v g C L = ep v g C (kf Dn.at_ n L ++ L2) by rw [← hA]]
    refine nj (fun a ha => ⟨fun q => absurd q hne, fun c hc => ?_⟩)
    unfold kf at ha
    have h1 := (List.mem_filter.1 ha).2
    simp at h1
    have h2 := cl c (List.mem_of_mem_head? hc)
    omega
   have e2 := pP (n := (n : Int) + 1) (kf Dn.n ((n : Int) + 1) C) (v := v) (g := g) (C := C2) (L := L2) (fun d hd => by unfold kf at hd; have := (List.mem_filter.1 hd).2; simpa using this) (fun a ha => by have := lL2 a ha; omega)
   rw [← hD] at e2
   rw [e1, e2]
   rw [show srs ds (m + 1) (n + 1) v (ok && lko v (kf Dn.at_ n L)) = srs ds m (n + 1 + 1) (sr1 ds (n + 1) v (ok && lko v (kf Dn.at_ n L))).1 (sr1 ds (n + 1) v (ok && lko v (kf Dn.at_ n L))).2 from rfl]
   have e3 : sr1 ds (n + 1) v (ok && lko v (kf Dn.at_ n L)) = (cmw v (kf Dn.n ((n : Int) + 1) C), (ok && lko v (kf Dn.at_ n L) && cmo v (kf Dn.n ((n : Int) + 1) C)) && lko (cmw v (kf Dn.n ((n : Int) + 1) C)) (kf Dn.at_ ((n : Int) + 1) L2)) := by
    unfold sr1
    rw [if_pos (by omega)]
    have c1 : ((n + 1 : Nat) : Int) = (n : Int) + 1 := by omega
    rw [c1, rB, ← kD]
    dsimp only
    rw [kK (by omega), ← hL, ← kL _ (by omega)]
    have : kf Dn.at_ ((n : Int) + 1) L2 = kf Dn.at_ ((n : Int) + 1) L := by rw [← hL2]; exact jo (by omega) L
    rw [this]
   rw [e3]
   dsimp only
   have c1 : ((n + 1 : Nat) : Int) = (n : Int) + 1 := by omega
   have h0 := ih (n + 1) (cmw v (kf Dn.n ((n : Int) + 1) C)) (if kf Dn.n ((n : Int) + 1) C = [] then g else (n : Int) + 1) C2 L2 (by omega) (by rw [← hC2]; exact ik sC _) (by rw [← hL2]; exact ik sL _) (fun x hx => by rw [c1]; exact lC2 x hx) (fun x hx => by have := lL2 x hx; omega)
    (fun k hk => by rw [← hC2, jo (by omega)]; exact kC k (by omega)) (fun k hk => by rw [← hL2, jo (by omega)]; exact kL k (by omega)) (fun hm => by
      rw [if_neg, ← hn]
      ·omega
      ·intro e
       rw [kD] at e
       rcases kY ds 0 with q | ⟨d, q1, q2⟩
       ·omega
       ·have hd : d ∈ kf Dn.n ((n : Int) + 1) ds := by unfold kf; rw [List.mem_filter]; exact ⟨q1, by simp; omega⟩
        rw [e] at hd
        simp at hd) (ok && lko v (kf Dn.at_ n L) && cmo v (kf Dn.n ((n : Int) + 1) C))
   rw [c1] at h0
   rw [h0]
   simp [Bool.and_assoc]
theorem rI {ds C L : List Dn} (sC : iw Dn.n C) (sL : iw Dn.at_ L) (hC : ∀ k, kf Dn.n k C = kf Dn.n k (cms ds)) (hL : ∀ k, kf Dn.at_ k L = kf Dn.at_ k (lks ds)) : ep (fun _ => dv) 0 C L = ser ds := by
 have h0 := (nu ds 0).1
 obtain ⟨last, hl⟩ : ∃ last : Nat, mxn 0 ds = (last : Int) := ⟨(mxn 0 ds).toNat, by omega⟩
 have mC : ∀ x, x ∈ C → (0 : Int) < x.n := fun x hx => by
  have := nw hC hx
  unfold cms at this
  simpa using (List.mem_filter.1 this).2
 have mL : ∀ x, x ∈ L → (0 : Int) ≤ x.at_ := fun x hx => by
  have := nw hL hx
  unfold lks at this
  have := (List.mem_filter.1 this).2
  simp at this
  exact this.2
 have h1 := vd (ds := ds) (C0 := C) (L0 := L) hC hL hl last 0 (fun _ => dv) 0 C L (by omega) sC sL mC mL (fun _ _ => rfl) (fun _ _ => rfl) (fun e => by omega) true
 simp only [Bool.true_and] at h1
 rw [← h1]
 unfold ser
 rw [hl, Int.toNat_natCast]
 simp only [srs]
 unfold sr1
 rw [if_neg (by omega)]
 dsimp only
 rw [kK (by omega), ← hL]
 rfl
structure Bk where
 op : Nat → Option Dn
 dn : List Dn
def bk0 : Bk := ⟨fun _ => none, []⟩
def fB (b : Bk) (s : Int) : Option Dn := if 0 ≤ s ∧ s < 5 then b.op s.toNat else none
def eU (x : ax) (e : Ev) : Ac :=
 if x.d = 2 then ⟨2, x.key, 0, e.t, e.s, []⟩ else if x.d = 3 then ⟨3, x.key, 0, true, x.b, []⟩ else if x.d = 4 then ⟨4, x.key, 0, false, ⟨#[]⟩, []⟩ else ⟨5, x.key, x.to_, false, ⟨#[]⟩, e.l⟩
def isd (x : ax) (e : Ev) : Bool := if x.d = 6 then decide (e.c = 0) else if x.d = 10 then decide (e.n ≠ 0) else false
def aY (b : Bk) (x : ax) (e : Ev) (last : Int) : Bk :=
 if x.d = 1 then (if e.c = 0 ∧ 0 ≤ x.s ∧ x.s < 5 then ⟨upd b.op x.s.toNat (some ⟨0, if x.md = 3 then x.at_ else last, x.md, []⟩), b.dn⟩ else b)
 else if 2 ≤ x.d ∧ x.d ≤ 5 then (match fB b x.s with
  | none => b
  | some d => if e.c = 0 then ⟨upd b.op x.s.toNat (some { d with acts := d.acts ++ [eU x e] }), b.dn⟩ else b)
 else if x.d = 6 ∨ x.d = 7 ∨ x.d = 10 then (match fB b x.s with
  | none => b
  | some d => ⟨if x.d = 10 then (fun _ => none) else upd b.op x.s.toNat none, if isd x e = true then b.dn ++ [{ d with n := e.n }] else b.dn⟩)
 else if x.d = 9 then ⟨fun _ => none, b.dn⟩
 else b
def fu : HSt → Bk → List ax → HSt × Bk
 | h, b, [] => (h, b)
 | h, b, x :: r => fu (hdo h x) (aY b x (hev h x) h.n) r
def dY : HSt := ⟨fun _ => [dv], 0, [], fun _ => none⟩
def ntd (l : List ax) : List Dn := (fu dY bk0 l).2.dn
def Sm (v u : Nat → Ver) : Prop := ∀ k, k < 8 → (v k).t = (u k).t ∧ (v k).s = (u k).s
theorem Sm.refl (v : Nat → Ver) : Sm v v := fun _ _ => ⟨rfl, rfl⟩
theorem Sm.symm {v u : Nat → Ver} (h : Sm v u) : Sm u v := fun k hk => ⟨(h k hk).1.symm, (h k hk).2.symm⟩
theorem Sm.trans {v u z : Nat → Ver} (h : Sm v u) (g : Sm u z) : Sm v z := fun k hk => ⟨(h k hk).1.trans (g k hk).1, (h k hk).2.trans (g k hk).2⟩
theorem oA {v u : Nat → Ver} (h : ay v = ay u) : Sm v u := fun k hk => by
 have h1 := eB v hk
 have h2 := eA v hk
 rw [h, eB u hk] at h1
 rw [h, eA u hk] at h2
 simp only [Option.some.injEq, Value.bool.injEq, Value.string.injEq] at h1 h2
 exact ⟨h1.symm, h2.symm⟩
theorem Sm.upd {v u : Nat → Ver} (h : Sm v u) (j : Nat) (x : Ver) : Sm (YtldkeaeohceckacGreat.upd v j x) (YtldkeaeohceckacGreat.upd u j x) := fun k hk => by
 by_cases e : k = j
 ·subst e; rw [av, av]; exact ⟨rfl, rfl⟩
 ·rw [aq _ _ _ e, aq _ _ _ e]; exact h k hk
theorem xF : ∀ (ps : List Ver) {v u : Nat → Ver}, Sm v u → Sm (wvs v ps) (wvs u ps) := by
 intro ps
 induction ps with
 | nil => intro v u h; exact h
 | cons p r ih => intro v u h; exact ih (h.upd _ _)
theorem Sm.wvs {v u : Nat → Ver} (h : Sm v u) (ps : List Ver) : Sm (YtldkeaeohceckacGreat.wvs v ps) (YtldkeaeohceckacGreat.wvs u ps) := xF ps h
theorem jR {v u : Nat → Ver} {a b : Int} : ∀ m, (∀ k : Nat, k < m → a ≤ (k : Int) → (k : Int) ≤ b → (v k).t = (u k).t ∧ (v k).s = (u k).s) → wl v a b m = wl u a b m := by
 intro m
 induction m with
 | zero => intro _; rfl
 | succ m ih =>
   intro h
   simp only [wl]
   rw [ih (fun k hk => h k (by omega))]
   by_cases c : a ≤ (m : Int) ∧ (m : Int) ≤ b
   ·rw [(h m (by omega) c.1 c.2).1, (h m (by omega) c.1 c.2).2]
   ·rw [if_neg (fun q => c ⟨q.1, q.2.1⟩), if_neg (fun q => c ⟨q.1, q.2.1⟩)]
theorem qH {v u : Nat → Ver} (h : Sm v u) {a : Ac} (hk : aN a.key = true) : aso v a = aso u a := by
 simp only [aN, decide_eq_true_eq] at hk
 unfold aso
 rw [(h a.key.toNat (by omega)).1, (h a.key.toNat (by omega)).2, jR 8 (fun k hk _ _ => h k hk)]
theorem Sm.ado {v u : Nat → Ver} (h : Sm v u) (a : Ac) : Sm (YtldkeaeohceckacGreat.ado v a) (YtldkeaeohceckacGreat.ado u a) := by
 unfold YtldkeaeohceckacGreat.ado
 split
 ·exact h.upd _ _
 ·exact h
theorem pM : ∀ (l : List Ac) {v u : Nat → Ver} (ok : Bool), Sm v u → Sm (rpl v ok l).1 (rpl u ok l).1 ∧ (rpl v ok l).2 = (rpl u ok l).2 := by
 intro l
 induction l with
 | nil => intro v u ok h; exact ⟨h, rfl⟩
 | cons a r ih =>
   intro v u ok h
   simp only [rpl]
   by_cases c : aN a.key = true
   ·rw [if_pos c, if_pos c, qH h c]
    exact ih _ (h.ado a)
   ·rw [if_neg c, if_neg c]
    exact ⟨h, rfl⟩
theorem jY {v u : Nat → Ver} (h : Sm v u) (l : List Ac) : rpo v l = rpo u l := (pM l true h).2
def wc (cs : List (List Ver)) : Nat → Ver := cs.foldl wvs (fun _ => dv)
theorem od (cs : List (List Ver)) (c : List Ver) : wc (cs ++ [c]) = wvs (wc cs) c := by unfold wc; rw [List.foldl_append]; rfl
theorem ux {cs : List (List Ver)} (hl : df cs) : ∀ m, m ≤ cs.length → ∀ y : Nat, y ≤ m → Sm (shw (cw (cs.take m)) m y 8) (wc (cs.take y)) := by
 intro m
 induction m with
 | zero =>
   intro _ y hy k hk
   have : y = 0 := by omega
   subst this
   rcases lt8 hk with rfl | rfl | rfl | rfl | rfl | rfl | rfl | rfl <;> exact ⟨rfl, rfl⟩
 | succ m ih =>
   intro hm y hy
   have hcm : cs[m]? = some cs[m] := List.getElem?_eq_getElem (by omega)
   have htk : cs.take (m + 1) = cs.take m ++ [cs[m]] := by rw [List.take_add_one, hcm]; rfl
   have hlt : df (cs.take m) := hl.take m
   have hlen : (cs.take m).length = m := by rw [List.length_take]; omega
   have hiv := gD hlt
   rw [hlen] at hiv
   obtain ⟨w1, w2⟩ := ez (n := m) (hl.pf cs[m] (List.getElem_mem (by omega))) (by have := hl.n40; omega)
   have e1 : cw (cs.take (m + 1)) = wst (cw (cs.take m)) m cs[m] := by rw [htk, fG, hlen]
   by_cases c : y = m + 1
   ·subst c
    have h1 := na hiv w1
    rw [← e1] at h1
    have h2 := (ih (by omega) m (Nat.le_refl _)).wvs cs[m]
    rw [htk, od, ← htk]
    exact (oA h1).symm.trans h2
   ·have h2 := ih (by omega) y (by omega)
    have h3 : shw (cw (cs.take (m + 1))) (m + 1) y 8 = shw (cw (cs.take m)) m y 8 := by
     rw [e1]
     exact fK (Nat.le_refl _) (fun j hj => by have := lS hiv cs[m] (y := y) (by omega) hj; rw [w2] at this; exact this)
    rw [h3]
    exact h2
theorem qT {h : HSt} (hi : bT h) {y : Nat} (h1 : fmx h.f 8 ≤ (y : Int)) (h2 : y ≤ h.n) : Sm (shw h.f h.n y 8) (wc (h.cs.take y)) := by
 have h3 := ux hi.li h.cs.length (Nat.le_refl _) y (by rw [← hi.vi.len]; exact h2)
 rw [List.take_length, ← hi.vi.len, qn hi.vi hi.li h1] at h3
 exact h3
structure cy (base : Nat → Ver) (d : Dp) (o : Dn) : Prop where
 n : o.n = 0
 y : o.at_ = d.y
 md : o.md = d.md
 keys : ∀ a, a ∈ o.acts → aN a.key = true
 wr : ∀ v, rpw v o.acts = lay v d.ws
 rd : ∀ v : Nat → Ver, (∀ k : Nat, k < 8 → (k : Int) ∈ d.rs → (v k).t = (base k).t ∧ (v k).s = (base k).s) → rpo v o.acts = true
 wrote : (o.acts.any (fun a => decide (a.kd = 3) || decide (a.kd = 4))) = decide (d.ws ≠ [])
theorem fN {l : List Ac} {a : Ac} (hl : ∀ b, b ∈ l → aN b.key = true) (ha : aN a.key = true) (v : Nat → Ver) : rpw v (l ++ [a]) = ado (rpw v l) a ∧ rpo v (l ++ [a]) = (rpo v l && aso (rpw v l) a) := by
 have h := rO l [a] v hl
 have h1 : rpl (rpw v l) true [a] = (ado (rpw v l) a, true && aso (rpw v l) a) := by simp only [rpl]; rw [if_pos ha]
 unfold rpw rpo at *
 rw [h]
 rw [h1]
 simp
theorem cy.begin (base : Nat → Ver) (md y : Int) : cy base ⟨md, y, [], []⟩ ⟨0, y, md, []⟩ :=
 ⟨rfl, rfl, rfl, fun a h => by simp at h, fun v => by rw [vC]; rfl, fun _ _ => rfl, rfl⟩
theorem cy.wrote_ {base : Nat → Ver} {d : Dp} {o : Dn} (h : cy base d o) {j : Nat} (hj : j < 8) {kd : Int} (hk : kd = 3 ∨ kd = 4) (to_ : Int) (t : Bool) (s : ByteArray) (l : List Ver) : cy base { d with ws := d.ws ++ [⟨(j : Int), t, s⟩] } { o with acts := o.acts ++ [⟨kd, j, to_, t, s, l⟩] } := by
 have hkb : aN ((j : Nat) : Int) = true := by simp [aN]; omega
 refine ⟨h.n, h.y, h.md, fun a ha => ?_, fun v => ?_, fun v hv => ?_, ?_⟩
 ·rcases List.mem_append.1 ha with q | q
  ·exact h.keys a q
  ·rw [List.mem_singleton.1 q]; exact hkb
 ·show rpw v (o.acts ++ [_]) = lay v (d.ws ++ [_])
  rw [(fN h.keys (a := ⟨kd, j, to_, t, s, l⟩) hkb v).1, vB, h.wr]
  unfold ado
  rw [if_pos hk, Int.toNat_natCast]
 ·show rpo v (o.acts ++ [_]) = true
  rw [(fN h.keys (a := ⟨kd, j, to_, t, s, l⟩) hkb v).2, h.rd v hv]
  unfold aso
  rw [if_neg (by show ¬ kd = 2; omega), if_neg (by show ¬ kd = 5; omega)]
  rfl
 ·show (o.acts ++ [_]).any _ = _
  rw [List.any_append]
  rcases hk with rfl | rfl <;> simp
theorem cy.got {base : Nat → Ver} {d : Dp} {o : Dn} (h : cy base d o) {j : Nat} (hj : j < 8) {f : Nat → List Ver} {n : Nat} (ha : (tr f n j d.y).a = 0) : cy base { d with rs := dr f n d.y d.rs d.ws j } { o with acts := o.acts ++ [⟨2, j, 0, (lay base d.ws j).t, (lay base d.ws j).s, []⟩] } := by
 have hkb : aN ((j : Nat) : Int) = true := by simp [aN]; omega
 have hmem : ∀ k : Int, k ∈ d.rs → k ∈ dr f n d.y d.rs d.ws j := fun k hk => by unfold dr; split <;> simp [hk]
 refine ⟨h.n, h.y, h.md, fun a ha => ?_, fun v => ?_, fun v hv => ?_, ?_⟩
 ·rcases List.mem_append.1 ha with q | q
  ·exact h.keys a q
  ·rw [List.mem_singleton.1 q]; exact hkb
 ·show rpw v (o.acts ++ [_]) = lay v d.ws
  rw [(fN h.keys (a := ⟨2, j, 0, (lay base d.ws j).t, (lay base d.ws j).s, []⟩) hkb v).1, h.wr]
  rfl
 ·show rpo v (o.acts ++ [_]) = true
  rw [(fN h.keys (a := ⟨2, j, 0, (lay base d.ws j).t, (lay base d.ws j).s, []⟩) hkb v).2, h.rd v (fun k hk hm => hv k hk (hmem _ hm)), h.wr]
  unfold aso
  rw [if_pos rfl]
  simp only [Int.toNat_natCast, Bool.true_and, decide_eq_true_eq]
  unfold lay
  cases hl : lwr d.ws j with
  | some u => exact ⟨rfl, rfl⟩
  | none =>
    have : (j : Int) ∈ dr f n d.y d.rs d.ws j := by unfold dr; rw [if_pos ⟨hkb, hl, ha⟩]; simp
    have := hv j hj this
    exact ⟨this.1.symm, this.2.symm⟩
 ·show (o.acts ++ [_]).any _ = _
  rw [List.any_append, h.wrote]
  simp
theorem vW {f : Nat → List Ver} {n : Nat} {y : Int} {ws : List Ver} (h0 : ∀ k : Nat, k < 8 → (dg f n y ws k).a = 0) (ht : ∀ k : Nat, k < 8 → (tr f n k y).a = 0) : ∀ (m k : Nat) (acc : List Ver) (rs : List Int), k + m ≤ 8 →
 (∀ x, x ∈ rs → x ∈ (dgo f n y ws k m acc rs).2.2) ∧ ∀ j : Nat, k ≤ j → j < k + m → lwr ws j = none → (j : Int) ∈ (dgo f n y ws k m acc rs).2.2 := by
 intro m
 induction m with
 | zero => intro k acc rs _; exact ⟨fun x hx => hx, fun j h1 h2 => by omega⟩
 | succ m ih =>
   intro k acc rs hk
   have hmem : ∀ x : Int, x ∈ rs → x ∈ dr f n y rs ws k := fun x hx => by unfold dr; split <;> simp [hx]
   have hkb : aN ((k : Nat) : Int) = true := by simp [aN]; omega
   have hat : lwr ws k = none → (k : Int) ∈ dr f n y rs ws k := fun hl => by unfold dr; rw [if_pos ⟨hkb, hl, ht k (by omega)⟩]; simp
   simp only [dgo]
   rw [if_pos (h0 k (by omega))]
   split
   ·obtain ⟨g1, g2⟩ := ih (k + 1) (acc ++ [⟨k, (dg f n y ws k).t, (dg f n y ws k).s⟩]) (dr f n y rs ws k) (by omega)
    refine ⟨fun x hx => g1 x (hmem x hx), fun j h1 h2 h3 => ?_⟩
    by_cases e : j = k
    ·subst e; exact g1 _ (hat h3)
    ·exact g2 j (by omega) (by omega) h3
   ·obtain ⟨g1, g2⟩ := ih (k + 1) acc (dr f n y rs ws k) (by omega)
    refine ⟨fun x hx => g1 x (hmem x hx), fun j h1 h2 h3 => ?_⟩
    by_cases e : j = k
    ·subst e; exact g1 _ (hat h3)
    ·exact g2 j (by omega) (by omega) h3
theorem vU {f : Nat → List Ver} {n : Nat} {y : Int} {ws : List Ver} {rs : List Int} {a b : Int} (h0 : ∀ k : Nat, k < 8 → (dg f n y ws k).a = 0) (ht : ∀ k : Nat, k < 8 → (tr f n k y).a = 0) (hc : (dls f n y ws rs a b).2.1 = 0) :
 aN a = true ∧ (∀ x, x ∈ rs → x ∈ (dls f n y ws rs a b).2.2) ∧ ∀ j : Nat, a ≤ (j : Int) → (j : Int) ≤ b → lwr ws j = none → (j : Int) ∈ (dls f n y ws rs a b).2.2 := by
 unfold dls at hc ⊢
 split
 ·rename_i hk
  refine ⟨hk.1, ?_⟩
  have h1 := hk.1
  have h2 := hk.2
  simp only [aN, decide_eq_true_eq] at h1 h2
  obtain ⟨p, rfl⟩ : ∃ p : Nat, a = (p : Int) := ⟨a.toNat, by omega⟩
  obtain ⟨t, rfl⟩ : ∃ t : Nat, b = (t : Int) := ⟨b.toNat, by omega⟩
  rw [Int.toNat_natCast, show ((t : Int) + 1 - (p : Int)).toNat = t + 1 - p by omega]
  by_cases hpt : p ≤ t + 1
  ·obtain ⟨g1, g2⟩ := vW h0 ht (t + 1 - p) p [] rs (by omega)
   exact ⟨g1, fun j k1 k2 k3 => g2 j (by omega) (by omega) k3⟩
  ·rw [show t + 1 - p = 0 by omega]
   exact ⟨fun x hx => hx, fun j k1 k2 => by omega⟩
 ·rename_i hk
  rw [if_neg hk] at hc
  exact absurd hc (by simp)
theorem cy.listed {base : Nat → Ver} {d : Dp} {o : Dn} (h : cy base d o) {rs' : List Int} {a b : Int} (ha : aN a = true) (h1 : ∀ x, x ∈ d.rs → x ∈ rs') (h2 : ∀ j : Nat, a ≤ (j : Int) → (j : Int) ≤ b → lwr d.ws j = none → (j : Int) ∈ rs') :
 cy base { d with rs := rs' } { o with acts := o.acts ++ [⟨5, a, b, false, ⟨#[]⟩, wl (lay base d.ws) a b 8⟩] } := by
 refine ⟨h.n, h.y, h.md, fun x hx => ?_, fun v => ?_, fun v hv => ?_, ?_⟩
 ·rcases List.mem_append.1 hx with q | q
  ·exact h.keys x q
  ·rw [List.mem_singleton.1 q]; exact ha
 ·show rpw v (o.acts ++ [_]) = lay v d.ws
  rw [(fN h.keys (a := ⟨5, a, b, false, ⟨#[]⟩, wl (lay base d.ws) a b 8⟩) ha v).1, h.wr]
  rfl
 ·show rpo v (o.acts ++ [_]) = true
  rw [(fN h.keys (a := ⟨5, a, b, false, ⟨#[]⟩, wl (lay base d.ws) a b 8⟩) ha v).2, h.rd v (fun k hk hm => hv k hk (h1 _ hm)), h.wr]
  unfold aso
  rw [if_neg (by show ¬ (5 : Int) = 2; omega), if_pos rfl]
  simp only [Bool.true_and, decide_eq_true_eq]
  refine jR 8 (fun k hk k1 k2 => ?_)
  unfold lay
  cases hl : lwr d.ws k with
  | some u => exact ⟨rfl, rfl⟩
  | none =>
    have := hv k hk (h2 k k1 k2 hl)
    exact ⟨this.1.symm, this.2.symm⟩
 ·show (o.acts ++ [_]).any _ = _
  rw [List.any_append, h.wrote]
  simp
structure fo (cs : List (List Ver)) (d : Dn) : Prop where
 keys : ∀ a, a ∈ d.acts → aN a.key = true
 lo : 0 ≤ d.n
 hi : d.n ≤ cs.length
 at0 : 0 ≤ d.at_
 com : 0 < d.n → d.at_ < d.n ∧ (∀ v, Sm (rpw v d.acts) (wvs v (cs.getD (d.n - 1).toNat []))) ∧ (d.md = 2 → rpo (wc (cs.take (d.n - 1).toNat)) d.acts = true)
 look : d.n = 0 → d.at_ ≤ cs.length ∧ rpo (wc (cs.take d.at_.toNat)) d.acts = true
 wrote : (d.acts.any (fun a => decide (a.kd = 3) || decide (a.kd = 4))) = decide (0 < d.n)
theorem fo.more {cs : List (List Ver)} {d : Dn} (h : fo cs d) (c : List Ver) : fo (cs ++ [c]) d := by
 have hh := h.hi
 have hl := h.lo
 refine ⟨h.keys, h.lo, by simp only [List.length_append, List.length_cons, List.length_nil]; omega, h.at0, fun hp => ?_, fun h0 => ?_, h.wrote⟩
 ·obtain ⟨k1, k2, k3⟩ := h.com hp
  refine ⟨k1, fun v => ?_, fun hm => ?_⟩
  ·have e : (cs ++ [c]).getD (d.n - 1).toNat [] = cs.getD (d.n - 1).toNat [] := by
    simp only [List.getD_eq_getElem?_getD]
    rw [List.getElem?_append_left (by omega)]
   rw [e]
   exact k2 v
  ·rw [List.take_append_of_le_length (by omega)]
   exact k3 hm
 ·obtain ⟨k1, k2⟩ := h.look h0
  have ha := h.at0
  refine ⟨by simp only [List.length_append, List.length_cons, List.length_nil]; omega, ?_⟩
  rw [List.take_append_of_le_length (by omega)]
  exact k2
structure DI (cs : List (List Ver)) (ds : List Dn) : Prop where
 ok : ∀ d, d ∈ ds → fo cs d
 num : (cms ds).map Dn.n = (List.range' 1 cs.length).map (fun i => ((i : Nat) : Int))
theorem yP : DI [] [] := ⟨fun d h => by simp at h, rfl⟩
theorem DI.look {cs : List (List Ver)} {ds : List Dn} (h : DI cs ds) {d : Dn} (hd : fo cs d) (h0 : d.n = 0) : DI cs (ds ++ [d]) := by
 refine ⟨fun x hx => ?_, ?_⟩
 ·rcases List.mem_append.1 hx with q | q
  ·exact h.ok x q
  ·rw [List.mem_singleton.1 q]; exact hd
 ·unfold cms
  rw [List.filter_append, List.filter_cons_of_neg (by simp [h0]), List.filter_nil, List.append_nil]
  exact h.num
theorem DI.com {cs : List (List Ver)} {ds : List Dn} (h : DI cs ds) {c : List Ver} {d : Dn} (hd : fo (cs ++ [c]) d) (h0 : d.n = (cs.length : Int) + 1) : DI (cs ++ [c]) (ds ++ [d]) := by
 refine ⟨fun x hx => ?_, ?_⟩
 ·rcases List.mem_append.1 hx with q | q
  ·exact (h.ok x q).more c
  ·rw [List.mem_singleton.1 q]; exact hd
 ·have hn := h.num
  unfold cms at hn ⊢
  have hf : List.filter (fun d : Dn => decide (0 < d.n)) [d] = [d] := List.filter_cons_of_pos (decide_eq_true (by omega))
  rw [List.filter_append, hf, List.map_append, hn]
  rw [List.length_append, List.length_cons, List.length_nil, Nat.zero_add, List.range'_1_concat, List.map_append]
  simp [h0]
  try omega
structure NI (h : HSt) (b : Bk) : Prop where
 hi : bT h
 some_ : ∀ s d, h.seat s = some d → ∃ o, b.op s = some o ∧ cy (shw h.f h.n d.y 8) d o
 none_ : ∀ s, h.seat s = none → b.op s = none
 dn : DI h.cs b.dn
theorem yk : NI dY bk0 := ⟨jq, fun _ _ h => (by cases h), fun _ _ => rfl, yP⟩
theorem rj {f : Nat → List Ver} {n : Nat} {y : Int} (hi : Inv f n) (h1 : fmx f 8 ≤ y) (h2 : y ≤ n) {k : Nat} (hk : k < 8) (hs : snc f k ≤ y) : tr f n k y = tr f n k n := by
 have hp := hi.pos k hk
 have hr := hi.rise k hk
 have h3 := ju f 8 k hk
 have h4 := (ff hi 8 (Nat.le_refl _)).1
 have hkb : aN ((k : Nat) : Int) = true := by simp [aN]; omega
 have hlast : va (f k) ((f k).length - 1) ≤ y := by
  unfold snc at hs
  rw [Int.toNat_natCast] at hs
  simpa [hkb] using hs
 rw [kI hi hk]
 unfold tr
 rw [if_pos ⟨hkb, h2⟩, Int.toNat_natCast]
 unfold rd3
 rw [if_neg (by omega), if_neg (by omega), mJ hr hp hlast]
theorem uK {f : Nat → List Ver} {y : Int} {rs : List Int} : ∀ m, stl f y rs m = false → ∀ k : Nat, k < m → (k : Int) ∈ rs → snc f k ≤ y := by
 intro m
 induction m with
 | zero => intro _ k hk; omega
 | succ m ih =>
   intro h k hk hm
   simp only [stl] at h
   split at h
   ·cases h
   ·rename_i q
    by_cases e : k = m
    ·subst e
     by_cases c : y < snc f k
     ·exact absurd ⟨hm, c⟩ q
     ·omega
    ·exact ih h k (by omega) hm
theorem zz : ∀ (ws : List Ver), WOk ws → ((wk ws 8).length ≠ 0 ↔ ws ≠ []) := by
 intro ws hw
 constructor
 ·intro h e
  subst e
  exact h (by simp [wk, oO])
 ·intro h e
  have hn : wk ws 8 = [] := List.eq_nil_of_length_eq_zero e
  obtain ⟨p, hp⟩ := List.exists_mem_of_ne_nil ws h
  obtain ⟨h1, h2, _⟩ := hw p hp
  have hl : ∀ i, (∃ j, j < i ∧ va ws j = p.a) → (lw ws p.a i).isSome = true := by
   intro i
   induction i with
   | zero => rintro ⟨j, q, _⟩; omega
   | succ i ih =>
     rintro ⟨j, q1, q2⟩
     simp only [lw]
     split
     ·rfl
     ·rename_i q
      have : j ≠ i := fun e => q (by rw [← e]; exact q2)
      exact ih ⟨j, by omega, q2⟩
  have h3 := sI ws 8 (k := p.a.toNat) (by omega)
  rw [hn] at h3
  obtain ⟨i, hi, e⟩ := xB ⟨p, hp, rfl⟩
  have h4 : (lwr ws (p.a.toNat : Int)).isSome = true := by
   rw [show ((p.a.toNat : Nat) : Int) = p.a by omega]
   exact hl ws.length ⟨i, hi, e⟩
  cases hc : lwr ws (p.a.toNat : Int) with
  | none => rw [hc] at h4; cases h4
  | some u => rw [hc] at h3; simp [fnd] at h3
theorem NI.done {h : HSt} {b : Bk} (ni : NI h b) {s : Nat} {d : Dp} (hs : h.seat s = some d) {o : Dn} (ho : cy (shw h.f h.n d.y 8) d o) (hm : dm h.f d.md d.y d.rs d.ws = 0) :
 ((wk d.ws 8).length = 0 → fo h.cs { o with n := 0 }) ∧ (¬ (wk d.ws 8).length = 0 → bc h.cs (wk d.ws 8) = 0 → fo (h.cs ++ [wk d.ws 8]) { o with n := (h.n : Int) + 1 }) := by
 have hi := ni.hi
 obtain ⟨k1, k2⟩ := hi.known s d hs
 have hw := hi.ok s d hs
 have hlen := hi.vi.len
 have h0 := (ff hi.inv 8 (Nat.le_refl _)).1
 obtain ⟨y, hy⟩ : ∃ y : Nat, d.y = (y : Int) := ⟨d.y.toNat, by omega⟩
 have hwn := zz d.ws hw
 rw [hy] at k1 k2
 have hsm := qT hi k1 (by omega)
 refine ⟨fun hz => ?_, fun hz hl => ?_⟩
 ·have hn : d.ws = [] := Classical.byContradiction fun q => hwn.2 q hz
  refine ⟨ho.keys, Int.le_refl _, by show (0 : Int) ≤ _; omega, by show 0 ≤ o.at_; rw [ho.y, hy]; omega, fun q => absurd q (by show ¬ (0 : Int) < 0; omega), fun _ => ⟨by show o.at_ ≤ _; rw [ho.y, hy]; omega, ?_⟩, by show o.acts.any _ = _; rw [ho.wrote, hn]; rfl⟩
  show rpo (wc (h.cs.take o.at_.toNat)) o.acts = true
  rw [ho.y, hy, Int.toNat_natCast]
  refine ho.rd _ (fun k hk _ => ?_)
  rw [hy]
  exact ⟨(hsm k hk).1.symm, (hsm k hk).2.symm⟩
 ·have hn : d.ws ≠ [] := hwn.1 hz
  have e1 : ((h.n : Int) + 1 - 1).toNat = h.n := by omega
  refine ⟨ho.keys, by show (0 : Int) ≤ (h.n : Int) + 1; omega, by show (h.n : Int) + 1 ≤ _; simp; omega, by show 0 ≤ o.at_; rw [ho.y, hy]; omega, fun _ => ⟨by show o.at_ < (h.n : Int) + 1; rw [ho.y, hy]; omega, fun v => ?_, fun hmd => ?_⟩, fun q => absurd q (by show ¬ (h.n : Int) + 1 = 0; omega), ?_⟩
  ·show Sm (rpw v o.acts) (wvs v ((h.cs ++ [wk d.ws 8]).getD ((h.n : Int) + 1 - 1).toNat []))
   have e2 : (h.cs ++ [wk d.ws 8]).getD h.n [] = wk d.ws 8 := by
    rw [List.getD_eq_getElem?_getD, hlen, List.getElem?_concat_length]; rfl
   rw [e1, e2, ho.wr]
   exact (oA (vA hw v)).symm
  ·show rpo (wc ((h.cs ++ [wk d.ws 8]).take ((h.n : Int) + 1 - 1).toNat)) o.acts = true
   rw [e1, hlen, List.take_left]
   refine ho.rd _ (fun k hk hrs => ?_)
   have hn2 : h.n ≤ h.n := Nat.le_refl _
   have hsl := qT hi (y := h.n) (ff hi.inv 8 (Nat.le_refl _)).2 hn2
   rw [hlen, List.take_length] at hsl
   rw [hy]
   have hst : stl h.f d.y d.rs 8 = false := by
    have hmd' : d.md = 2 := by rw [← ho.md]; exact hmd
    unfold dm at hm
    split at hm
    ·simp at hm
    ·split at hm
     ·simp at hm
     ·rename_i q
      cases hq : stl h.f d.y d.rs 8 with
      | false => rfl
      | true => exact absurd ⟨hmd', hq⟩ q
   have hsn := uK 8 hst k hk hrs
   rw [hy] at hsn
   have ht := rj hi.inv k1 k2 hk hsn
   have e3 : shw h.f h.n y 8 k = shw h.f h.n h.n 8 k := by unfold shw; rw [if_pos hk, if_pos hk, ht]
   rw [e3, hlen]
   exact ⟨(hsl k hk).1.symm, (hsl k hk).2.symm⟩
  ·show o.acts.any _ = _
   rw [ho.wrote]
   have : decide (0 < (h.n : Int) + 1) = true := decide_eq_true (by omega)
   rw [this]
   simpa using hn
end
section
open Go.RowKit
attribute [local go_sem ↓] Go.wp_at_zero Go.wp_at_succ
theorem Aq {vs us : List Ver} (a a' : Option Addr) (cap cap' : Nat) (w : World) (h : SlO w a vs) (h' : SlO w a' us) (hm : vs.length ≤ 1000) :
 Calls Tryz.prog 29 #[.slice a vs.length cap, .slice a' us.length cap'] w fun e w' => ue vs us w e w' := by
 have HS := ag h
 have HS' := ag h'
 clear h h'
 by_cases hl : vs.length = us.length
 ·have HL := ag hl
  have hl' : (vs.length : Int) = (us.length : Int) := by omega
  go_enter Tryz.func29, Tryz.ntmps29
  rw [← hl]
  clear hl hl'
  go_wp2_with fail
  go_loopw [5, 13] (fun _ i wr => ∃ d m : Nat, d ≤ vs.length ∧ i = .int .i64 d ∧ wr = w.drewN m ∧ Hid (∀ k, k < d → va vs k = va us k ∧ vt vs k = vt us k ∧ vb vs k = vb us k)) (fun _ i _ => vs.length - (intOf i).toNat)
  case atStart => exact ⟨0, 0, Nat.zero_le _, rfl, rfl, fun k hk => by omega⟩
  case round =>
   obtain ⟨d, m, hd, rfl, rfl, HK⟩ := hrel
   by_cases hlt : d < vs.length
   ·obtain ⟨g, o, rfl, hs⟩ := ae HS (by omega)
    obtain ⟨g', o', rfl, hs'⟩ := ae HS' (by have := ae HL; omega)
    have q0 := hs.at0 d hlt
    have q1 := hs.at1 d hlt
    have q2 : w.cell? ⟨g, o + d * 3 + 1 + 1, none⟩ = some (.string (vb vs d)) := hs.at2 d hlt
    have p0 := hs'.at0 d (by have := ae HL; omega)
    have p1 := hs'.at1 d (by have := ae HL; omega)
    have p2 : w.cell? ⟨g', o' + d * 3 + 1 + 1, none⟩ = some (.string (vb us d)) := hs'.at2 d (by have := ae HL; omega)
    have i0 : (0 : Int) ≤ (d : Int) := by omega
    have i1 : (d : Int) < (vs.length : Int) := by omega
    clear hs hs'
    by_cases e0 : va vs d = va us d ∧ vt vs d = vt us d ∧ vb vs d = vb us d
    ·have HE : Hid (∀ k, k < d + 1 → va vs k = va us k ∧ vt vs k = vt us k ∧ vb vs k = vb us k) := fun k hk => by
      rcases Nat.lt_or_ge k d with e | e
      ·exact ae HK k e
      ·have : k = d := by omega
       subst this; exact e0
     rw [← e0.1] at p0
     rw [← e0.2.1] at p1
     rw [← e0.2.2] at p2
     clear e0
     go_wp2_with fail
     go_quiet (fail)
     go_wp2
     exact ⟨⟨d + 1, m + nq, by omega, by go_num, rfl, HE⟩, by simp [intOf]; omega⟩
    ·have HNE : Hid (¬ vs = us) := fun e => e0 (by rw [e]; exact ⟨rfl, rfl, rfl⟩)
     have hne := fun W => oM _ _ _ _ _ _ e0 W
     clear e0
     generalize va vs d = x at *
     generalize va us d = x' at *
     generalize vt vs d = t at *
     generalize vt us d = t' at *
     generalize vb vs d = s at *
     generalize vb us d = s' at *
     go_wp2_with fail
     go_quiet (fail)
     go_wp2
     go_ret
     exact ⟨false, rfl, ⟨fun h => by simp at h, fun h => absurd h (ae HNE)⟩, m + nq, by simp⟩
   ·go_wp2
    go_ret
    refine gu _ _ ⟨fun _ => jT (ae HL) (fun k hk => ae HK k (by omega)), fun _ => rfl⟩
 ·have hl' : ¬ (vs.length : Int) = (us.length : Int) := by omega
  have HL := ag hl
  go_enter Tryz.func29, Tryz.ntmps29
  go_wp2_with fail
  go_ret
  exact gu false 0 ⟨fun h => by simp at h, fun h => absurd (by rw [h]) (ae HL)⟩
theorem Tryz.size45 : (Tryz.prog.info? 45).map (·.size) = some 16 := by kernel_rfl
def xg (l : List Ver) (w : World) (e : Ending) (w' : World) : Prop := ∃ a cap, e = .returned (.slice a l.length cap) ∧ SlO w' a l ∧ Kp [] w w'
theorem iV {B : Nat} {w : World} {a : Option Addr} {n cap : Nat} {vs : List Ver} (h : bn 98 3 B w a n cap (aw vs)) : SlO w a vs := by
 intro hp
 have hl : 0 < (aw vs).length := by rw [bj]; omega
 obtain ⟨g, e, _⟩ := h.cell (List.getElem?_eq_getElem hl)
 refine ⟨g, 0, e, fun j u hu => ?_⟩
 obtain ⟨g', e', hc⟩ := h.cell hu
 rw [e] at e'
 simp only [Option.some.injEq, Addr.mk.injEq, and_true] at e'
 rw [Nat.zero_add, e']
 exact hc
theorem uw {v : Nat → Ver} {j : Nat} {t : Int} {k : Nat} (hk : k ≤ 8) (h : t < (k : Int) ∨ k = 8) : wl v j t k = wl v j t 8 := by
 rcases h with h | h
 ·have := qR (v := v) (a := (j : Int)) (b := t) (m := k) h (8 - k)
  rw [show k + (8 - k) = 8 by omega] at this
  exact this.symm
 ·rw [h]
theorem qQ {v : Nat → Ver} {j : Nat} {t : Int} {k : Nat} (h1 : j ≤ k) (h2 : (k : Int) ≤ t) : wl v j t (k + 1) = if (v k).t = true then wl v j t k ++ [⟨(k : Int), (v k).t, (v k).s⟩] else wl v j t k := by
 simp only [wl]
 by_cases c : (v k).t = true
 ·rw [if_pos ⟨by omega, h2, c⟩, if_pos c]
 ·rw [if_neg (fun q => c q.2.2), if_neg c]
theorem qY (v : Nat → Ver) (j : Nat) (t : Int) (w : World) (hj : j < 8) :
 Calls Tryz.prog 30 #[.agg (ay v), .int .i64 j, .int .i64 t] w fun e w' => xg (wl v j t 8) w e w' := by
 have hu := Tryz.underlying41
 have H0 := ag (du 98 3 ((cg (Kp.refl [] w)).box (ay v) 45))
 go_enter Tryz.func30, Tryz.ntmps30
 go_wp2_with fail
 generalize hq : w.heap.size = q at *
 go_loopw [7, 8] (fun x y wr => ∃ (k : Nat) (a : Option Addr) (cap n : Nat), j ≤ k ∧ k ≤ 8 ∧ x = .slice a n cap ∧ y = .int .i64 k ∧ Hid (n = (wl v j t k).length) ∧ Hid (Zoo w wr [KwT 98 3 a n cap (aw (wl v j t k)), au q (ay v) 45])) (fun _ y _ => 8 - (intOf y).toNat)
 case atStart => exact ⟨j, none, 0, 0, Nat.le_refl _, by omega, rfl, rfl, by rw [lO (Int.le_refl _)]; rfl, by rw [lO (Int.le_refl _)]; exact ae H0⟩
 case round =>
  obtain ⟨k, a, cap, n, hk1, hk2, rfl, rfl, HN, HZ⟩ := hrel
  have stop : (t < (k : Int) ∨ k = 8) → xg (wl v j t 8) w (.returned (.slice a n cap)) wr := fun q => by
   rw [← uw hk2 q]
   have hz := ae HZ
   refine ⟨a, cap, by rw [ae HN], iV (bq (l1 := []) hz), hz.kp⟩
  have HST := ag stop
  clear stop
  by_cases ht : 7 < t
  ·by_cases hlt : k ≤ 7
   ·have i1 : (k : Int) ≤ 7 := by omega
    have i0 : (0 : Int) ≤ (k : Int) := by omega
    have i8 : (k : Int) < 8 := by omega
    have k8 : k < 8 := by omega
    have hkt : (k : Int) ≤ t := by omega
    have hn8 : n ≤ 8 := by have := ae HN; have := kv v j t k; omega
    have hbx := Zoo.var (ae HZ).tail
    have c0 := af hbx (eB v k8)
    have c1 := af hbx (eA v k8)
    have hql := ah hbx
    have HW1 := ag (qQ (v := v) hk1 hkt)
    have hBw := Zoo.base (ae HZ)
    clear hbx
    cases hvt : (v k).t with
    | true =>
      rw [hvt] at c0
      have HV := ag hvt
      clear hvt
      generalize hvs : (v k).s = sv at *
      clear hvs
      have HZA := ag ((ae HZ).box #[.int .i64 k, .bool true, .string sv] 98)
      have HBX := ag (Zoo.var (ae HZA))
      go_wp2_with (at_builtin; refine bC (by rfl) (.tmp 20) (.tmp 26) 41 (by rfl) hu Tryz.info98 rfl (by omega) (bq (l1 := [au wr.heap.size #[.int .i64 k, .bool true, .string sv] 98]) (ae HZA)) (by simp; omega) (.slice (some ⟨wr.heap.size, 0, none⟩) 1 1) [.int .i64 k, .bool true, .string sv] 1 (by rfl) (by rfl) (aQ hu (ae HBX) rfl (by simp [Value.oneCell'])) (by omega) (n + 1) rfl ?_; intro a2 cap2 w2 g1 g2 g3)
      have HZ2 := ag (Zoo.tail (cS (l1 := [au wr.heap.size #[.int .i64 k, .bool true, .string sv] 98]) (ae HZA) (ae g1) (ae g2) (ae g3)))
      have hwn : wl v j t (k + 1) = wl v j t k ++ [⟨(k : Int), true, sv⟩] := by rw [ae HW1, if_pos (ae HV), ae HV]
      exact ⟨⟨k + 1, a2, cap2, n + 1, by omega, by omega, rfl, by go_num, by rw [hwn, List.length_append, ae HN]; rfl, by rw [hwn, bk]; exact ae HZ2⟩, by simp [intOf]; omega⟩
    | false =>
      rw [hvt] at c0
      have HV := ag hvt
      clear hvt
      go_wp2_with fail
      have hwn : wl v j t (k + 1) = wl v j t k := by rw [ae HW1, if_neg (by rw [ae HV]; simp)]
      exact ⟨⟨k + 1, a, cap, n, by omega, by omega, rfl, by go_num, by rw [hwn]; exact ae HN, by rw [hwn]; exact ae HZ⟩, by simp [intOf]; omega⟩
   ·have i1 : ¬ (k : Int) ≤ 7 := by omega
    go_wp2_with fail
    go_ret
    exact ae HST (.inr (by omega))
  ·by_cases hlt : (k : Int) ≤ t
   ·skip
    have i0 : (0 : Int) ≤ (k : Int) := by omega
    have i8 : (k : Int) < 8 := by omega
    have k8 : k < 8 := by omega
    have hkt : (k : Int) ≤ t := by omega
    have hn8 : n ≤ 8 := by have := ae HN; have := kv v j t k; omega
    have hbx := Zoo.var (ae HZ).tail
    have c0 := af hbx (eB v k8)
    have c1 := af hbx (eA v k8)
    have hql := ah hbx
    have HW1 := ag (qQ (v := v) hk1 hkt)
    have hBw := Zoo.base (ae HZ)
    clear hbx
    cases hvt : (v k).t with
    | true =>
      rw [hvt] at c0
      have HV := ag hvt
      clear hvt
      generalize hvs : (v k).s = sv at *
      clear hvs
      have HZA := ag ((ae HZ).box #[.int .i64 k, .bool true, .string sv] 98)
      have HBX := ag (Zoo.var (ae HZA))
      go_wp2_with (at_builtin; refine bC (by rfl) (.tmp 20) (.tmp 26) 41 (by rfl) hu Tryz.info98 rfl (by omega) (bq (l1 := [au wr.heap.size #[.int .i64 k, .bool true, .string sv] 98]) (ae HZA)) (by simp; omega) (.slice (some ⟨wr.heap.size, 0, none⟩) 1 1) [.int .i64 k, .bool true, .string sv] 1 (by rfl) (by rfl) (aQ hu (ae HBX) rfl (by simp [Value.oneCell'])) (by omega) (n + 1) rfl ?_; intro a2 cap2 w2 g1 g2 g3)
      have HZ2 := ag (Zoo.tail (cS (l1 := [au wr.heap.size #[.int .i64 k, .bool true, .string sv] 98]) (ae HZA) (ae g1) (ae g2) (ae g3)))
      have hwn : wl v j t (k + 1) = wl v j t k ++ [⟨(k : Int), true, sv⟩] := by rw [ae HW1, if_pos (ae HV), ae HV]
      exact ⟨⟨k + 1, a2, cap2, n + 1, by omega, by omega, rfl, by go_num, by rw [hwn, List.length_append, ae HN]; rfl, by rw [hwn, bk]; exact ae HZ2⟩, by simp [intOf]; omega⟩
    | false =>
      rw [hvt] at c0
      have HV := ag hvt
      clear hvt
      go_wp2_with fail
      have hwn : wl v j t (k + 1) = wl v j t k := by rw [ae HW1, if_neg (by rw [ae HV]; simp)]
      exact ⟨⟨k + 1, a, cap, n, by omega, by omega, rfl, by go_num, by rw [hwn]; exact ae HN, by rw [hwn]; exact ae HZ⟩, by simp [intOf]; omega⟩
   ·go_wp2_with fail
    go_ret
    exact ae HST (.inl (by omega))
end
section
open Go.RowKit
theorem iG {l rest : List Oper} {i : Nat} {o : Oper} (h : l.drop i = o :: rest) : l.toArray[i]? = some o := by
 have := congrArg List.head? h
 rw [List.head?_drop] at this
 simpa using this
theorem dA {P : Program} {md : Region.Mode} {l rest : List Oper} {Q : Exit → Act → World → Prop} {S : World → Prop} {i : Nat} {oi : Oper} {v : Value} {fuel : Nat} {listed : Array Bool} {a : Act} {w : World} (hi : l.drop i = oi :: rest)
 (hs : Region.noSelect l.toArray = true) (hf : Region.free md l.toArray listed i = true) (hr : (Region.ready md l.toArray listed).contains i = true)
 (hQ : ∀ c a w, Q (.panic c) (a.put oi.dst v) w → Q (.panic c) a w) (hy : YieldsIf P l.toArray S oi v a) (hS : S w)
 (h : wpAnyH P md l.toArray Q S fuel (listed.setIfInBounds i true) (a.put oi.dst v) w) : wpAnyH P md l.toArray Q S (fuel + 1) listed a w := wpAnyH_take (iG hi) hs hf hr hQ hy hS h
theorem sx {α : Type} (l : List α) (i : Nat) (a : α) : l.toArray.setIfInBounds i a = (l.set i a).toArray := List.setIfInBounds_toArray l i a
theorem sy {α : Type} {x : α} {xs : List α} {a : α} : (x :: xs).set 0 a = a :: xs := List.set_cons_zero
theorem sz {α : Type} {x : α} {xs : List α} {i : Nat} {a : α} : (x :: xs).set (i + 1) a = x :: xs.set i a := List.set_cons_succ
theorem tk {P : Program} {md : Region.Mode} {l rest : List Oper} {Q : Exit → Act → World → Prop} {S : World → Prop} {oi : Oper} {fuel : Nat} {listed : Array Bool} {a : Act} {w : World} (i : Nat) (v : Value) (hi : l.drop i = oi :: rest) (hb : (Region.noSelect l.toArray && Region.free md l.toArray listed i && (Region.ready md l.toArray listed).contains i) = true) (hQ : ∀ c a w, Q (.panic c) (a.put oi.dst v) w → Q (.panic c) a w) (hg : Region.wanted oi (yielded l.toArray a.tmps) = true) (hy : ∀ w, S w → (execOp a.eval oi).run P w = .ok (.value v) w) (hS : S w) (h : wpAnyH P md l.toArray Q S fuel (listed.setIfInBounds i true) (a.put oi.dst v) w) : wpAnyH P md l.toArray Q S (fuel + 1) listed a w := by
 simp only [Bool.and_eq_true] at hb
 exact dA hi hb.1.1 hb.1.2 hb.2 hQ (Or.inl ⟨hg, hy⟩) hS h
theorem aj {P : Program} {md : Region.Mode} {l rest : List Oper} {Q : Exit → Act → World → Prop} {S : World → Prop} {i : Nat} {o : Oper} {fuel : Nat} {listed : Array Bool} {a : Act} {w : World} (hi : l.drop i = o :: rest) (hr : Region.ready md l.toArray listed = [i])
 (h : ∀ K' : Act → World → Prop, Shut (∀ a w, S w → (S w → wpAnyH P md l.toArray Q S fuel (listed.setIfInBounds i true) a w) → K' a w) → if Region.wanted o (yielded l.toArray a.tmps) = true then Oper.wp P o a w K' Q else K' (a.put o.dst undef) w) :
 wpAnyH P md l.toArray Q S (fuel + 1) listed a w := wpAnyH_ready hr (by simp) (AllReadyH.cons (iG hi) h AllReadyH.nil)
end
section
open Go.RowKit
attribute [local go_sem ↓] Go.wp_at_zero Go.wp_at_succ
structure qI (w : World) (b o : Nat) (x : Ac) : Prop where
 c0 : w.cell? ⟨b, o, none⟩ = some (.int .i64 x.kd)
 c1 : w.cell? ⟨b, o + 1, none⟩ = some (.int .i64 x.key)
 c2 : w.cell? ⟨b, o + 2, none⟩ = some (.int .i64 x.to_)
 c3 : w.cell? ⟨b, o + 3, none⟩ = some (.bool x.t)
 c4 : w.cell? ⟨b, o + 4, none⟩ = some (.string x.s)
 ls : ∃ la lc, w.cell? ⟨b, o + 5, none⟩ = some (.slice la x.l.length lc) ∧ SlO w la x.l
theorem qI.kp0 {w w' : World} {b o : Nat} {x : Ac} (h : qI w b o x) (hk : Kp [] w w') : qI w' b o x := by
 obtain ⟨la, lc, h1, h2⟩ := h.ls
 exact ⟨hk.cell (by simp) h.c0, hk.cell (by simp) h.c1, hk.cell (by simp) h.c2, hk.cell (by simp) h.c3, hk.cell (by simp) h.c4, la, lc, hk.cell (by simp) h1, h2.kp0 hk⟩
def bM (w : World) (a : Option Addr) (l : List Ac) : Prop := 0 < l.length → ∃ b o, a = some ⟨b, o, none⟩ ∧ ∀ i x, l[i]? = some x → qI w b (o + i * 6) x
theorem bM.kp0 {w w' : World} {a : Option Addr} {l : List Ac} (h : bM w a l) (hk : Kp [] w w') : bM w' a l := fun hp => by
 obtain ⟨b, o, e, h1⟩ := h hp
 exact ⟨b, o, e, fun i x hx => (h1 i x hx).kp0 hk⟩
theorem bM.drop {w : World} {b o : Nat} {l : List Ac} (h : ∀ i x, l[i]? = some x → qI w b (o + i * 6) x) (k : Nat) : ∀ i x, (l.drop k)[i]? = some x → qI w b (o + k * 6 + i * 6) x := fun i x hx => by
 rw [List.getElem?_drop] at hx
 have := h _ _ hx
 rwa [show o + (k + i) * 6 = o + k * 6 + i * 6 by omega] at this
def dy (l : List Ac) : Prop := l.length ≤ 1000 ∧ ∀ x, x ∈ l → x.l.length ≤ 1000
theorem sM (t t' : Bool) (s s' : ByteArray) (W : World) :
 (binOp .eql 24 (.agg #[.bool t, .string s]) (.agg #[.bool t', .string s'])).run Tryz.prog W = .ok (.bool (decide (t = t' ∧ s = s'))) W := by
 by_cases h : t = t' ∧ s = s'
 ·obtain ⟨rfl, rfl⟩ := h
  simp only [binOp]
  simp [Op.equal, Op.maxDepth, yG 9998]
 ·have hu : Tryz.prog.underlying 24 = some (.struct (Tryz.prog.fieldsOf 24)) := by simp [Program.fieldsOf, Tryz.underlying24]
  have he : (Op.equalIn 10000 24 (.agg #[.bool t, .string s]) (.agg #[.bool t', .string s'])).run Tryz.prog W = .ok false W := by
   rw [show (10000 : Nat) = 9999 + 1 from rfl, run_equalIn_struct W 9999 24 _ _ hu Tryz.held24]
   simp [Program.fieldsOf, Tryz.underlying24, Op.eqFields, go_sem, Tryz.underlying4, Tryz.underlying9]
   intro e1 e2
   exact h ⟨e1, gf e2⟩
  rw [decide_eq_false h]
  simp only [binOp]
  simp [Op.equal, Op.maxDepth, he]
theorem yl (t t' : Bool) (s s' : ByteArray) (W : World) :
 (binOp .neq 24 (.agg #[.bool t, .string s]) (.agg #[.bool t', .string s'])).run Tryz.prog W = .ok (.bool (!decide (t = t' ∧ s = s'))) W := by
 by_cases h : t = t' ∧ s = s'
 ·obtain ⟨rfl, rfl⟩ := h
  simp only [binOp]
  simp [Op.equal, Op.maxDepth, yG 9998]
 ·have hu : Tryz.prog.underlying 24 = some (.struct (Tryz.prog.fieldsOf 24)) := by simp [Program.fieldsOf, Tryz.underlying24]
  have he : (Op.equalIn 10000 24 (.agg #[.bool t, .string s]) (.agg #[.bool t', .string s'])).run Tryz.prog W = .ok false W := by
   rw [show (10000 : Nat) = 9999 + 1 from rfl, run_equalIn_struct W 9999 24 _ _ hu Tryz.held24]
   simp [Program.fieldsOf, Tryz.underlying24, Op.eqFields, go_sem, Tryz.underlying4, Tryz.underlying9]
   intro e1 e2
   exact h ⟨e1, gf e2⟩
  rw [decide_eq_false h]
  simp only [binOp]
  simp [Op.equal, Op.maxDepth, he]
def xh (v : Nat → Ver) (l : List Ac) (w : World) (e : Ending) (w' : World) : Prop := e = .returned (.tuple #[.agg (ay (rpw v l)), .bool (rpo v l)]) ∧ Kp [] w w'
structure RyI (T : TypeId) (w : World) (p q : Nat) (v : Nat → Ver) (wr : World) : Prop where
 kp : Kp [] w wr
 res : wr.heap[p]? = some (.cells (ay (fun _ => dv)) T (0, 0))
 var : wr.heap[q]? = some (.cells (ay v) T (0, 0))
 ne : p ≠ q
 hp : w.heap.size ≤ p
 hq : w.heap.size ≤ q
section
variable {T : TypeId} {w wr W : World} {p q : Nat} {v : Nat → Ver}
theorem RyI.kp0 (h : RyI T w p q v wr) (hk : Kp [] wr W) : RyI T w p q v W :=
 ⟨h.kp.trans0 hk, by rw [hk.block p (ah h.res) (by simp)]; exact h.res, by rw [hk.block q (ah h.var) (by simp)]; exact h.var, h.ne, h.hp, h.hq⟩
theorem RyI.set (h : RyI T w p q v wr) {k : Nat} (hk : k < 8) (t : Bool) (s : ByteArray) : RyI T w p q (upd v k ⟨0, t, s⟩) ((wr.setCell ⟨q, k * 2, none⟩ (.bool t)).setCell ⟨q, k * 2 + 1, none⟩ (.string s)) := by
 have k1 : Kp [q] wr ((wr.setCell ⟨q, k * 2, none⟩ (.bool t)).setCell ⟨q, k * 2 + 1, none⟩ (.string s)) := ((Kp.refl [q] wr).setCell (.inl (by simp)) _).setCell (.inl (by simp)) _
 refine ⟨h.kp.trans k1 (fun x hx => .inr (by have : x = q := by simpa using hx
                                             rw [this]; exact h.hq)), ?_, ?_, h.ne, h.hp, h.hq⟩
 ·rw [k1.block p (ah h.res) (by simp; exact h.ne)]; exact h.res
 ·rw [an _ _ (an _ _ h.var), qV v hk ⟨0, t, s⟩]
theorem RyI.cells (h : RyI T w p q v wr) {k : Nat} (hk : k < 8) : wr.cell? ⟨q, k * 2, none⟩ = some (.bool (v k).t) ∧ wr.cell? ⟨q, k * 2 + 1, none⟩ = some (.string (v k).s) ∧ wr.frozen? ⟨q, k * 2, none⟩ = false ∧ wr.frozen? ⟨q, k * 2 + 1, none⟩ = false :=
 ⟨af h.var (eB v hk), af h.var (eA v hk), ak _ h.var, ak _ h.var⟩
theorem RyI.range (h : RyI T w p q v wr) : wr.rangeAt q 0 (ay v).toList := fun j u hu => by
 rw [Nat.zero_add]
 exact af h.var (by simpa using hu)
theorem RyI.fin (h : RyI T w p q v wr) : (wr.setRow p (ay v)).heap[p]? = some (.cells (ay v) T (0, 0)) ∧ Kp [] w (wr.setRow p (ay v)) := by
 obtain ⟨z1, z2⟩ := fL (cs := ay v) h.res
 exact ⟨z1, h.kp.trans z2 (fun x hx => .inr (by have : x = p := by simpa using hx
                                                rw [this]; exact h.hp))⟩
end
theorem ma (T : TypeId) (v : Nat → Ver) (w : World) : RyI T w (w.heap.size + 1) w.heap.size v ((w.alloc (.cells (ay v) T)).alloc (.cells (ay (fun _ => dv)) T)) := by
 have h1 := heap_alloc_new w (.cells (ay v) T)
 have h2 := heap_alloc_new (w.alloc (.cells (ay v) T)) (.cells (ay (fun _ => dv)) T)
 refine ⟨((Kp.refl [] w).alloc _).alloc _, ?_, ?_, by omega, by omega, by omega⟩
 ·simpa using h2
 ·rw [heap_alloc_old _ _ (by simp)]; exact h1
theorem nW {w : World} {p : Nat} {v : Nat → Ver} (h : w.heap[p]? = some (.cells (ay v) 45 (0, 0))) : (loadVar 45 ⟨p, 0, none⟩).run Tryz.prog w = .ok (.agg (ay v)) w :=
 run_loadVar_row w p 45 45 (ay v) (0, 0) _ h Tryz.underlying45 rfl Tryz.size45
theorem lL {ops : Array Oper} {S : World → Prop} {op : Oper} {a : Act} (hw : Region.wanted op (yielded ops a.tmps) = true) (x : Operand) (ho : op.op = .load 45 x) (b o : Nat) (hx : a.eval x = .pointer (some ⟨b, o, none⟩)) (u : Nat → Ver) (hS : ∀ w, S w → w.rangeAt b o (ay u).toList) : YieldsIf Tryz.prog ops S op (.agg (ay u)) a := by
 have h := yieldsIf_load_mid (P := Tryz.prog) hw 45 x ho b o hx (ay u).toList _ hS Tryz.underlying45 rfl Tryz.size45
 rw [Array.toArray_toList] at h
 exact h
theorem rV {w w' : World} {p0 p1 p2 : Addr} {x0 x1 x2 : Value} {q : Nat} {cs : List Value} (h : w.cell? p0 = some x0 ∧ w.cell? p1 = some x1 ∧ w.cell? p2 = some x2 ∧ w.rangeAt q 0 cs) (hk : Kp [] w w') : w'.cell? p0 = some x0 ∧ w'.cell? p1 = some x1 ∧ w'.cell? p2 = some x2 ∧ w'.rangeAt q 0 cs :=
 ⟨hk.cell (by simp) h.1, hk.cell (by simp) h.2.1, hk.cell (by simp) h.2.2.1, fun j u hu => hk.cell (by simp) (h.2.2.2 j u hu)⟩
theorem gV (v : Nat → Ver) (a : Option Addr) (c : Nat) (l : List Ac) (w : World) (h : bM w a l) (hok : dy l) :
 Calls Tryz.prog 11 #[.agg (ay v), .slice a l.length c] w fun e w' => xh v l w e w' := by
 have HA := ag h
 have HO := ag hok
 have hm := hok.1
 have H0 := ag (ma 45 v w)
 clear h hok
 go_enter Tryz.func11, Tryz.ntmps11
 go_wp2_with fail
 generalize w.heap.size + 1 = p at *
 generalize w.heap.size = q at *
 obtain ⟨n, hn⟩ : ∃ n, l.length = n := ⟨_, rfl⟩
 rw [hn]
 rw [hn] at hm
 have HN := ag hn
 clear hn
 go_loopw [6, 8, 11] (fun x _ y wr => ∃ (k : Nat) (ok : Bool), k ≤ n ∧ x = .bool ok ∧ y = .int .i64 k ∧ Hid (∃ vk, RyI 45 w p q vk wr ∧ rpl vk ok (l.drop k) = (rpw v l, rpo v l))) (fun _ _ y _ => n - (intOf y).toNat)
 case atStart => exact ⟨0, true, Nat.zero_le _, rfl, rfl, v, ae H0, rfl⟩
 case round =>
  obtain ⟨k, ok, hk, rfl, rfl, HI⟩ := hrel
  obtain ⟨vk, hry, hrp⟩ := ae HI
  have HR := ag hry
  have HP := ag hrp
  clear hry hrp HI
  by_cases hlt : k < n
  ·have i1 : (k : Int) < (n : Int) := by omega
   have i0 : (0 : Int) ≤ (k : Int) := by omega
   have hln : k < l.length := by have := ae HN; omega
   obtain ⟨b, o, rfl, hb⟩ := (ae HA).kp0 (ae HR).kp (by omega)
   obtain ⟨x, hx⟩ : ∃ x, l[k]? = some x := ⟨_, List.getElem?_eq_getElem hln⟩
   have HX := ag hx
   have hxl : x.l.length ≤ 1000 := (ae HO).2 x (List.mem_of_getElem? hx)
   have hat := hb k x hx
   obtain ⟨la, lc, z5, hls⟩ := hat.ls
   have q0 := hat.c0
   have q1 := hat.c1
   have q2 : wr.cell? ⟨b, o + k * 6 + 1 + 1, none⟩ = _ := hat.c2
   have q3 : wr.cell? ⟨b, o + k * 6 + 1 + 1 + 1, none⟩ = _ := hat.c3
   have q4 : wr.cell? ⟨b, o + k * 6 + 1 + 1 + 1 + 1, none⟩ = _ := hat.c4
   have q5 : wr.cell? ⟨b, o + k * 6 + 1 + 1 + 1 + 1 + 1, none⟩ = _ := z5
   have HLS := ag hls
   clear hat hb hx hls z5
   obtain ⟨kd, key, to_, xt, xs, xl⟩ := x
   dsimp only at q0 q1 q2 q3 q4 q5 hxl HLS
   obtain ⟨ln, hlen⟩ : ∃ ln, xl.length = ln := ⟨_, rfl⟩
   rw [hlen] at q5
   have HLN := ag hlen
   clear hlen
   have HR1 := ag ((ae HR).kp0 ((Kp.refl [] wr).alloc (.cells #[.int .i64 kd, .int .i64 key, .int .i64 to_, .bool xt, .string xs, .slice la ln lc] 43)))
   have HL1 := ag ((ae HLS).kp0 ((Kp.refl [] wr).alloc (.cells #[.int .i64 kd, .int .i64 key, .int .i64 to_, .bool xt, .string xs, .slice la ln lc] 43)))
   have HB1 := ag (heap_alloc_new wr (.cells #[.int .i64 kd, .int .i64 key, .int .i64 to_, .bool xt, .string xs, .slice la ln lc] 43))
   go_wp2_with fail
   generalize wr.alloc (.cells #[.int .i64 kd, .int .i64 key, .int .i64 to_, .bool xt, .string xs, .slice la ln lc] 43) = W at *
   generalize wr.heap.size = g at *
   refine (cK key W).mono ?_
   rintro e w2 ⟨rfl, hw2⟩
   subst w2
   have b0 : W.cell? ⟨g, 0, none⟩ = some (.int .i64 kd) := af (ae HB1) rfl
   have b1 : W.cell? ⟨g, 1, none⟩ = some (.int .i64 key) := af (ae HB1) rfl
   have b2 : W.cell? ⟨g, 2, none⟩ = some (.int .i64 to_) := af (ae HB1) rfl
   have b3 : W.cell? ⟨g, 3, none⟩ = some (.bool xt) := af (ae HB1) rfl
   have b4 : W.cell? ⟨g, 4, none⟩ = some (.string xs) := af (ae HB1) rfl
   have b5 : W.cell? ⟨g, 5, none⟩ = some (.slice la ln lc) := af (ae HB1) rfl
   clear q0 q1 q2 q3 q4 q5 HR HLS HB1 HA
   by_cases hkb : aN key = true
   ·rw [hkb]
    have HNX := ag ((rP (ae HX) vk ok hkb).symm.trans (ae HP))
    simp only [aN, decide_eq_true_eq] at hkb
    obtain ⟨j, rfl⟩ : ∃ j : Nat, key = (j : Int) := ⟨key.toNat, by omega⟩
    have j8 : j < 8 := by omega
    have j0 : (0 : Int) ≤ (j : Int) := by omega
    have j8' : (j : Int) < 8 := by omega
    clear hkb
    obtain ⟨r0, r1, f0, f1⟩ := (ae HR1).cells j8
    by_cases k3 : kd = 3
    ·subst k3
     have HR2 := ag ((ae HR1).set j8 xt xs)
     go_wp2_with fail
     refine ⟨⟨k + 1, ok, by omega, rfl, by go_num, _, ae HR2, ?_⟩, by simp [intOf]; omega⟩
     have z := ae HNX
     simp only [ado, aso] at z
     simpa using z
    by_cases k4 : kd = 4
    ·subst k4
     have HR2 := ag ((ae HR1).set j8 xt xs)
     go_wp2_with fail
     refine ⟨⟨k + 1, ok, by omega, rfl, by go_num, _, ae HR2, ?_⟩, by simp [intOf]; omega⟩
     have z := ae HNX
     simp only [ado, aso] at z
     simpa using z
    by_cases k2 : kd = 2
    ·subst k2
     have heq := sM xt (vk j).t xs (vk j).s
     have hz : rpl vk (ok && decide (xt = (vk j).t ∧ xs = (vk j).s)) (l.drop (k + 1)) = (rpw v l, rpo v l) := by
      have z := ae HNX
      simp only [ado, aso, Int.toNat_natCast] at z
      simpa using z
     have HZ := ag hz
     clear hz HNX
     generalize hbb : decide (xt = (vk j).t ∧ xs = (vk j).s) = bb at *
     generalize (vk j).t = vt at *
     generalize (vk j).s = vs at *
     clear hbb
     cases ok with
     | true =>
       go_wp2_with fail
       go_quiet (fail)
       go_wp2_with fail
       refine ⟨⟨k + 1, bb, by omega, rfl, by go_num, _, (ae HR1).kp0 ((Kp.refl [] W).drewN _), ?_⟩, by simp [intOf]; omega⟩
       have z := ae HZ
       simpa using z
     | false =>
       go_wp2_with fail
       go_quiet (fail)
       go_wp2_with fail
       refine ⟨⟨k + 1, false, by omega, rfl, by go_num, _, (ae HR1).kp0 ((Kp.refl [] W).drewN _), ?_⟩, by simp [intOf]; omega⟩
       have z := ae HZ
       simpa using z
    by_cases k5 : kd = 5
    ·subst k5
     have hz : rpl vk (ok && decide (xl = wl vk j to_ 8)) (l.drop (k + 1)) = (rpw v l, rpo v l) := by
      have z := ae HNX
      simp only [ado, aso] at z
      simpa using z
     have HZ := ag hz
     clear hz HNX
     cases ok with
     | false =>
       go_wp2_with fail
       go_quiet (fail)
       go_wp2_with fail
       refine ⟨⟨k + 1, false, by omega, rfl, by go_num, _, (ae HR1).kp0 ((Kp.refl [] W).drewN _), ?_⟩, by simp [intOf]; omega⟩
       have z := ae HZ
       simpa using z
     | true =>
       go_wp2_with fail
       have HG := ag (And.intro b1 (And.intro b2 (And.intro b5 (ae HR1).range)))
       refine wp_region_held_drew (S := fun w' => w'.cell? ⟨g, 1, none⟩ = some (.int .i64 (j : Int)) ∧ w'.cell? ⟨g, 2, none⟩ = some (.int .i64 to_) ∧ w'.cell? ⟨g, 5, none⟩ = some (.slice la ln lc) ∧ w'.rangeAt q 0 (ay vk).toList) (by kernel_rfl) (rV (ae HG) (Kp.refl [] W).drew) (fun hHeld => ?_)
       refine tk 0 ?_ rfl (by kernel_rfl) (fun _ _ _ h => h) (by rfl) ?_ hHeld ?_;rotate_left;· intro w hSw;(try dsimp only at hSw);go_simp;try with_reducible rfl
       try simp only [Act.put, sx, sy, sz]
       refine tk 1 ?_ rfl (by kernel_rfl) (fun _ _ _ h => h) (by rfl) ?_ hHeld ?_;rotate_left;· intro w hSw;(try dsimp only at hSw);go_simp;try with_reducible rfl
       try simp only [Act.put, sx, sy, sz]
       refine tk 2 ?_ rfl (by kernel_rfl) (fun _ _ _ h => h) (by rfl) ?_ hHeld ?_;rotate_left;· intro w hSw;(try dsimp only at hSw);go_simp;try with_reducible rfl
       try simp only [Act.put, sx, sy, sz]
       refine tk 3 ?_ rfl (by kernel_rfl) (fun _ _ _ h => h) (by rfl) ?_ hHeld ?_;rotate_left;· intro w hSw;(try dsimp only at hSw);go_simp;try with_reducible rfl
       try simp only [Act.put, sx, sy, sz]
       refine dA (i := 4) rfl (by kernel_rfl) (by kernel_rfl) (by kernel_rfl) (fun _ _ _ h => h) (lL (by rfl) _ rfl q 0 rfl vk (fun _ h => h.2.2.2)) hHeld ?_
       try simp only [Act.put, sx, sy, sz]
       refine tk 5 ?_ rfl (by kernel_rfl) (fun _ _ _ h => h) (by rfl) ?_ hHeld ?_;rotate_left;· intro w hSw;(try dsimp only at hSw);go_simp;try with_reducible rfl
       try simp only [Act.put, sx, sy, sz]
       refine tk 6 ?_ rfl (by kernel_rfl) (fun _ _ _ h => h) (by rfl) ?_ hHeld ?_;rotate_left;· intro w hSw;(try dsimp only at hSw);go_simp;try with_reducible rfl
       try simp only [Act.put, sx, sy, sz]
       refine tk 7 ?_ rfl (by kernel_rfl) (fun _ _ _ h => h) (by rfl) ?_ hHeld ?_;rotate_left;· intro w hSw;(try dsimp only at hSw);go_simp;try with_reducible rfl
       try simp only [Act.put, sx, sy, sz]
       refine tk 8 ?_ rfl (by kernel_rfl) (fun _ _ _ h => h) (by rfl) ?_ hHeld ?_;rotate_left;· intro w hSw;(try dsimp only at hSw);go_simp;try with_reducible rfl
       try simp only [Act.put, sx, sy, sz]
       refine aj (i := 9) rfl (by kernel_rfl) (fun K hK => ?_)
       go_simp
       refine (qY vk j to_ _ j8).mono ?_
       rintro e w3 ⟨a3, c3, rfl, hs3, hk3⟩
       have HS3 := ag hs3
       have HK3 := ag ((Kp.refl [] W).drew.trans0 hk3)
       clear hs3 hk3
       go_wp2_with fail
       refine hK.out _ _ (rV (ae HG) (ae HK3)) (fun hHeld2 => ?_)
       clear hK K hHeld
       have hHeld := hHeld2
       clear hHeld2
       try simp only [Act.put, sx, sy, sz]
       refine aj (i := 10) rfl (by kernel_rfl) (fun K hK => ?_)
       go_simp
       rw [← ae HLN]
       refine (Aq (vs := xl) (us := wl vk j to_ 8) la a3 lc c3 w3 ((ae HL1).kp0 (ae HK3)) (ae HS3) hxl).mono ?_
       rintro e w4 ⟨bb, rfl, hbb, m4, hw4⟩
       subst w4
       have HBB := ag hbb
       clear hbb
       rw [ae HLN]
       go_wp2_with fail
       refine hK.out _ _ (rV (ae HG) ((ae HK3).drewN m4)) (fun hHeld2 => ?_)
       clear hK K hHeld
       have hHeld := hHeld2
       clear hHeld2
       try simp only [Act.put, sx, sy, sz]
       refine tk 11 ?_ rfl (by kernel_rfl) (fun _ _ _ h => h) (by rfl) ?_ hHeld ?_;rotate_left;· intro w hSw;(try dsimp only at hSw);go_simp;try with_reducible rfl
       try simp only [Act.put, sx, sy, sz]
       refine tk 12 ?_ rfl (by kernel_rfl) (fun _ _ _ h => h) (by rfl) ?_ hHeld ?_;rotate_left;· intro w hSw;(try dsimp only at hSw);go_simp;try with_reducible rfl
       try simp only [Act.put, sx, sy, sz]
       refine wpAnyH_done (by kernel_rfl) ?_ _
       go_wp2_with fail
       refine ⟨⟨k + 1, bb, by omega, rfl, by go_num, _, (ae HR1).kp0 ((ae HK3).drewN m4), ?_⟩, by simp [intOf]; omega⟩
       have z := ae HZ
       have e : decide (xl = wl vk j to_ 8) = bb := by
        cases hb : bb with
        | true => exact decide_eq_true ((ae HBB).1 hb)
        | false => exact decide_eq_false (fun q => by have := (ae HBB).2 q; rw [hb] at this; cases this)
       rw [e] at z
       simpa using z
    ·go_wp2_with fail
     refine ⟨⟨k + 1, ok, by omega, rfl, by go_num, _, ae HR1, ?_⟩, by simp [intOf]; omega⟩
     have z := ae HNX
     simp only [ado, aso] at z
     simpa [k2, k3, k4, k5] using z
   ·have hkf : aN key = false := by simpa using hkb
    rw [hkf]
    have HNX := ag ((oD (ae HX) vk ok hkb).symm.trans (ae HP))
    clear hkb hkf
    go_wp2_with (first | (refine wpList_load_row rfl 45 _ rfl q rfl 45 _ (0, 0) _ (ae HR1).var Tryz.underlying45 rfl Tryz.size45 ?_) | (refine wpList_store_row rfl 45 _ _ rfl p (ay vk) rfl rfl 45 _ (ae HR1).res Tryz.size45 rfl (aS _) ?_))
    obtain ⟨z1, z2⟩ := (ae HR1).fin
    have hld := nW z1
    refine bodyPost_ret (v := .tuple #[.agg (ay vk), .bool false]) (by rw [results_cell_tmp Tryz.results11]; simp [asAddr, Result.andThen, hld]) rfl ?_
    have z := ae HNX
    simp only [Prod.mk.injEq] at z
    exact ⟨by rw [← z.1, ← z.2], z2⟩
  ·have i1 : ¬ (k : Int) < (n : Int) := by omega
   go_wp2_with (first | (refine wpList_load_row rfl 45 _ rfl q rfl 45 _ (0, 0) _ (ae HR).var Tryz.underlying45 rfl Tryz.size45 ?_) | (refine wpList_store_row rfl 45 _ _ rfl p (ay vk) rfl rfl 45 _ (ae HR).res Tryz.size45 rfl (aS _) ?_))
   obtain ⟨z1, z2⟩ := (ae HR).fin
   have hld := nW z1
   refine bodyPost_ret (v := .tuple #[.agg (ay vk), .bool ok]) (by rw [results_cell_tmp Tryz.results11]; simp [asAddr, Result.andThen, hld]) rfl ?_
   have z := ae HP
   rw [List.drop_eq_nil_of_le (by have := ae HN; omega)] at z
   simp only [rpl, Prod.mk.injEq] at z
   exact ⟨by rw [← z.1, ← z.2], z2⟩
structure AcH (w : World) (b o : Nat) (x : Ac) : Prop where
 c0 : w.cell? ⟨b, o, none⟩ = some (.int .i64 x.kd)
 c1 : w.cell? ⟨b, o + 1, none⟩ = some (.int .i64 x.key)
 c2 : w.cell? ⟨b, o + 2, none⟩ = some (.int .i64 x.to_)
 c3 : w.cell? ⟨b, o + 3, none⟩ = some (.bool x.t)
 c4 : w.cell? ⟨b, o + 4, none⟩ = some (.string x.s)
 str : x.s.size ≤ maxLen
 ls : ∃ la lc, w.cell? ⟨b, o + 5, none⟩ = some (.slice la x.l.length lc) ∧ Prs w la x.l
def iy (w : World) (a : Option Addr) (l : List Ac) : Prop := l.length ≤ maxLen ∧ (0 < l.length → ∃ b o, a = some ⟨b, o, none⟩ ∧ ∀ i x, l[i]? = some x → AcH w b (o + i * 6) x)
theorem ve {w w' : World} {a : Option Addr} {ps : List Ver} (h : Prs w a ps) (hk : Kp [] w w') : Prs w' a ps := h.kp hk (fun _ _ _ => by simp)
theorem AcH.kp0 {w w' : World} {b o : Nat} {x : Ac} (h : AcH w b o x) (hk : Kp [] w w') : AcH w' b o x := by
 obtain ⟨la, lc, h1, h2⟩ := h.ls
 exact ⟨hk.cell (by simp) h.c0, hk.cell (by simp) h.c1, hk.cell (by simp) h.c2, hk.cell (by simp) h.c3, hk.cell (by simp) h.c4, h.str, la, lc, hk.cell (by simp) h1, ve h2 hk⟩
theorem iy.kp0 {w w' : World} {a : Option Addr} {l : List Ac} (h : iy w a l) (hk : Kp [] w w') : iy w' a l := ⟨h.1, fun hp => by
 obtain ⟨b, o, e, h1⟩ := h.2 hp
 exact ⟨b, o, e, fun i x hx => (h1 i x hx).kp0 hk⟩⟩
theorem iy.ins {w : World} {a : Option Addr} {l : List Ac} (h : iy w a l) : bM w a l := fun hp => by
 obtain ⟨b, o, e, h1⟩ := h.2 hp
 refine ⟨b, o, e, fun i x hx => ?_⟩
 have h2 := h1 i x hx
 obtain ⟨la, lc, h3, h4⟩ := h2.ls
 exact ⟨h2.c0, h2.c1, h2.c2, h2.c3, h2.c4, la, lc, h3, h4.mem⟩
def uk (l : List Ac) (w : World) (e : Ending) (w' : World) : Prop := ∃ q : Bool, e = .returned (.bool q) ∧ (q = false → dy l) ∧ w' = w
theorem jt {l : List Ac} {w : World} (q : Bool) (h : q = false → dy l) : uk l w (.returned (.bool q)) w := ⟨q, rfl, h, rfl⟩
theorem wY (a : Option Addr) (c : Nat) (l : List Ac) (w : World) (h : iy w a l) :
 Calls Tryz.prog 6 #[.slice a l.length c] w fun e w' => uk l w e w' := by
 have hm := h.1
 unfold maxLen at hm
 have HP := ag h
 clear h
 obtain ⟨n, hn⟩ : ∃ n, l.length = n := ⟨_, rfl⟩
 have HN := ag hn
 rw [hn] at hm ⊢
 clear hn
 go_enter Tryz.func6, Tryz.ntmps6
 go_wp2_with fail
 go_loop [3] (fun i => ∃ k : Nat, k ≤ n ∧ k ≤ 200 ∧ i = .int .i64 k ∧ Hid (∀ j x, j < k → l[j]? = some x → x.l.length ≤ 50)) (fun i => n - (intOf i).toNat)
 case atStart => exact ⟨0, Nat.zero_le _, by omega, rfl, fun j x hj => by omega⟩
 case round =>
  obtain ⟨k, hk, hk2, rfl, HL⟩ := hrel
  have fin : (k = n ∨ k = 200) → ∀ q : Bool, q = decide ((150 : Int) < (n : Int)) → uk l w (.returned (.bool q)) w := fun hc q hq => by
   refine jt q (fun hf => ?_)
   rw [hf] at hq
   have h1 := of_decide_eq_false hq.symm
   have hnn := ae HN
   refine ⟨by omega, fun x hx => ?_⟩
   obtain ⟨j, hj, e⟩ := List.getElem_of_mem hx
   have := ae HL j x (by omega) (by rw [List.getElem?_eq_getElem hj, e])
   omega
  have HF := ag fin
  clear fin
  by_cases hlt : k < n
  ·have i1 : (k : Int) < (n : Int) := by omega
   have i0 : (0 : Int) ≤ (k : Int) := by omega
   by_cases hlt2 : k < 200
   ·have i2 : (k : Int) < 200 := by omega
    have hln : k < l.length := by have := ae HN; omega
    obtain ⟨b, o, rfl, hb⟩ := (ae HP).2 (by omega)
    obtain ⟨x, hx⟩ : ∃ x, l[k]? = some x := ⟨_, List.getElem?_eq_getElem hln⟩
    have hat := hb k x hx
    obtain ⟨la, lc, z5, hls⟩ := hat.ls
    have q4 : w.cell? ⟨b, o + k * 6 + 3 + 1, none⟩ = _ := hat.c4
    have q5 : w.cell? ⟨b, o + k * 6 + 5, none⟩ = _ := z5
    have hsz := hat.str
    unfold maxLen at hsz
    have HX := ag hx
    have HGP := ag (sF la lc x.l w hls)
    clear hb hat hx z5 hls
    obtain ⟨kd, key, to_, xt, xs, xl⟩ := x
    dsimp only at q4 q5 hsz HGP
    by_cases hs : 100 < xs.size
    ·have hs2 : (100 : Int) < (xs.size : Int) := by omega
     go_wp2_with fail
     go_ret
     exact jt _ (fun h => by simp at h)
    ·have hs2 : ¬ (100 : Int) < (xs.size : Int) := by omega
     go_wp2_with fail
     refine (ae HGP).mono ?_
     rintro e w' ⟨q, rfl, hq, hw'⟩
     subst w'
     cases q with
     | true =>
       go_wp2_with fail
       go_ret
       exact jt _ (fun h => by simp at h)
     | false =>
       have hl5 := hq rfl
       clear hq
       go_wp2_with fail
       refine ⟨⟨k + 1, by omega, by omega, by go_num, fun j y hj hy => ?_⟩, by simp [intOf]; omega⟩
       rcases Nat.lt_or_ge j k with e | e
       ·exact ae HL j y e hy
       ·have : j = k := by omega
        subst this
        rw [ae HX] at hy
        cases hy
        exact hl5
   ·have i2 : ¬ (k : Int) < 200 := by omega
    go_wp2_with fail
    go_ret
    exact ae HF (.inr (by omega)) _ (by simp)
  ·have i1 : ¬ (k : Int) < (n : Int) := by omega
   go_wp2_with fail
   go_ret
   exact ae HF (.inl (by omega)) _ (by simp)
end
section
open Go.ChangeShapes Go.WideShapes Go.ChangeAt Go.RowKit
theorem Tryz.cells43 : Tryz.prog.cellsOf 43 = 6 := by kernel_rfl
theorem kG {H : Type} {enc : TypeId × Value → H} {W : World} {t : TypeId} {f0 f1 f2 f3 f4 : Field} {fuel : Nat} {cs : List Value} {x : DataW H × List MemPlace} (ht : Tryz.prog.underlying t = some (.struct #[f0, f1, f2, f3, f4])) (h : DataW.trod enc Tryz.prog W 0 (fun _ => true) true fuel t cs = some x) :
 ∃ y0 y1 y2 y3 y4 n, cs.length = Tryz.prog.cellsOf t ∧ DataW.trod enc Tryz.prog W 0 (fun _ => true) true n f0.type ((cs.drop f0.offset).take (Tryz.prog.cellsOf f0.type)) = some y0 ∧ DataW.trod enc Tryz.prog W 0 (fun _ => true) true n f1.type ((cs.drop f1.offset).take (Tryz.prog.cellsOf f1.type)) = some y1 ∧ DataW.trod enc Tryz.prog W 0 (fun _ => true) true n f2.type ((cs.drop f2.offset).take (Tryz.prog.cellsOf f2.type)) = some y2 ∧ DataW.trod enc Tryz.prog W 0 (fun _ => true) true n f3.type ((cs.drop f3.offset).take (Tryz.prog.cellsOf f3.type)) = some y3 ∧ DataW.trod enc Tryz.prog W 0 (fun _ => true) true n f4.type ((cs.drop f4.offset).take (Tryz.prog.cellsOf f4.type)) = some y4 := by
 obtain ⟨xs, n, _, rfl, hl, hlen, hf⟩ := DataW.trod_struct ht h
 match xs, hlen with
 | [y0, y1, y2, y3, y4], _ => exact ⟨y0, y1, y2, y3, y4, n, hl, by simpa using hf 0 f0 rfl, by simpa using hf 1 f1 rfl, by simpa using hf 2 f2 rfl, by simpa using hf 3 f3 rfl, by simpa using hf 4 f4 rfl⟩
theorem zi {H : Type} {enc : TypeId × Value → H} {W : World} {m : Nat} {cs : List Value} {x : DataW H × List MemPlace}
 (h : DataW.trod enc Tryz.prog W 0 (fun _ => true) true m 43 cs = some x) : ∃ (st : Ac) (la : Option Addr) (lc : Nat), cs = [.int .i64 st.kd, .int .i64 st.key, .int .i64 st.to_, .bool st.t, .string st.s, .slice la st.l.length lc] ∧ st.s.size ≤ maxLen ∧ Prs W la st.l := by
 obtain ⟨y0, y1, y2, y3, y4, n, hl, h0, h1, h2, h3, h4⟩ := kG Tryz.underlying43 h
 rw [Tryz.cells43] at hl
 match cs, hl with
 | [c0, c1, c2, c3, c4, c5], _ =>
   simp only [Tryz.cells3, Tryz.cells24, Tryz.cells41] at h0 h1 h2 h3 h4
   obtain ⟨d, e0, _⟩ := DataW.trod_int Tryz.underlying3 h0
   obtain ⟨k, e1, _⟩ := DataW.trod_int Tryz.underlying3 h1
   obtain ⟨to_, e2, _⟩ := DataW.trod_int Tryz.underlying3 h2
   obtain ⟨t, sv, e3, hs⟩ := iN h3
   have h4' : DataW.trod enc Tryz.prog W 0 (fun _ => true) true n 41 [c5] = some y4 := by simpa using h4
   obtain ⟨a, c, ps, e4, hp⟩ := xY h4'
   simp at e0 e1 e2 e3
   exact ⟨⟨d, k, to_, t, sv, ps⟩, a, c, by rw [e0, e1, e2, e3.1, e3.2, e4], hs, hp⟩
theorem tZ {H : Type} {enc : TypeId × Value → H} {W : World} {a : Option Addr} {n c : Nat} {d : DataW H} {p : List MemPlace}
 (h : DataW.Trod enc Tryz.prog W 0 (fun _ => true) true 26 (.slice a n c) d p) : ∃ l : List Ac, n = l.length ∧ iy W a l ∧ n ≤ c ∧ c ≤ maxLen ∧ (a = none → c = 0) := by
 obtain ⟨fuel, hf⟩ := h
 rcases Deep.open_slice Tryz.underlying26 hf with ⟨hcs, _⟩ | ⟨ad, len, cap, m, k, D, Pl, hcs, _, hl, hm, hmm, _, hx⟩
 ·simp [Value.cells] at hcs
  obtain ⟨rfl, rfl, rfl⟩ := hcs
  exact ⟨[], rfl, ⟨by simp [maxLen], fun h => by simp at h⟩, Nat.le_refl _, Nat.zero_le _, fun _ => rfl⟩
 ·simp [Value.cells] at hcs
  obtain ⟨rfl, rfl, rfl⟩ := hcs
  simp only [if_true] at hmm
  subst hmm
  rw [Tryz.cells43] at hx
  have key : ∀ i, i < n → ∃ st : Ac, W.cell? (ad.add (i * 6)) = some (.int .i64 st.kd) ∧ W.cell? (ad.add (i * 6 + 1)) = some (.int .i64 st.key) ∧ W.cell? (ad.add (i * 6 + 2)) = some (.int .i64 st.to_) ∧ W.cell? (ad.add (i * 6 + 3)) = some (.bool st.t) ∧ W.cell? (ad.add (i * 6 + 4)) = some (.string st.s) ∧ st.s.size ≤ maxLen ∧ ∃ la lc, W.cell? (ad.add (i * 6 + 5)) = some (.slice la st.l.length lc) ∧ Prs W la st.l := by
   intro i hi
   obtain ⟨cs, h1, h2⟩ := hx i (by omega)
   obtain ⟨st, la, lc, rfl, hs, hp⟩ := zi h2
   obtain ⟨_, _, hc⟩ := World.cells?_some h1
   have q0 := hc 0 (by omega)
   have q1 := hc 1 (by omega)
   have q2 := hc 2 (by omega)
   have q3 := hc 3 (by omega)
   have q4 := hc 4 (by omega)
   have q5 := hc 5 (by omega)
   rw [Deep.add_add] at q0 q1 q2 q3 q4 q5
   exact ⟨st, by simpa using q0, by simpa using q1, by simpa using q2, by simpa using q3, by simpa using q4, hs, la, lc, by simpa using q5, hp⟩
  obtain ⟨st, hst⟩ := @Deep.choose_lt Ac ⟨⟨0, 0, 0, false, ByteArray.empty, []⟩⟩ n _ key
  refine ⟨(List.range n).map st, by simp, ⟨by simp; omega, fun h0 => ?_⟩, by omega, by omega, fun h => by cases h⟩
  simp only [List.length_map, List.length_range] at h0
  obtain ⟨b, o, sp⟩ := ad
  have hsp : sp = none := by
   have := (hst 0 h0).1
   simpa [Addr.add] using World.cell?_spot this
  subst hsp
  refine ⟨b, o, rfl, fun i x hx2 => ?_⟩
  have hi : i < n := by have := (List.getElem?_eq_some_iff.1 hx2).1; simpa using this
  rw [List.getElem?_map, List.getElem?_range hi] at hx2
  simp only [Option.map_some, Option.some.injEq] at hx2
  subst hx2
  obtain ⟨q0, q1, q2, q3, q4, hs, la, lc, q5, hp⟩ := hst i hi
  rw [ca] at q0 q1 q2 q3 q4 q5
  exact ⟨q0, q1, q2, q3, q4, hs, la, lc, q5, hp⟩
theorem Tryz.cells25 : Tryz.prog.cellsOf 25 = 16 := by kernel_rfl
theorem qP {H : Type} {enc : TypeId × Value → H} {W : World} {cs : Array Value} {d : DataW H} {p : List MemPlace}
 (h : DataW.Trod enc Tryz.prog W 0 (fun _ => true) true 25 (.agg cs) d p) : ∃ v : Nat → Ver, cs = ay v := by
 obtain ⟨fuel, hf⟩ := h
 obtain ⟨xs, m, _, _, hl, hlen, hel⟩ := DataW.trod_array Tryz.underlying25 hf
 rw [Tryz.cells25] at hl
 rw [Tryz.cells24] at hel
 have hcs : (Value.agg cs).cells.toList = cs.toList := by simp [Value.cells]
 rw [hcs] at hl hel
 have key : ∀ i, i < 8 → ∃ u : Ver, (cs.toList.drop (i * 2)).take 2 = [.bool u.t, .string u.s] := fun i hi => by
  have h1 := hel i hi
  obtain ⟨y, hy⟩ : ∃ y, xs[i]? = some y := ⟨_, List.getElem?_eq_getElem (by omega)⟩
  rw [hy] at h1
  obtain ⟨t, sv, e, _⟩ := iN h1
  exact ⟨⟨0, t, sv⟩, e⟩
 obtain ⟨v, hv⟩ := @Deep.choose_lt Ver ⟨dv⟩ 8 _ key
 refine ⟨v, ?_⟩
 apply Array.ext'
 generalize cs.toList = L at *
 match L, hl with
 | [a0, b0, a1, b1, a2, b2, a3, b3, a4, b4, a5, b5, a6, b6, a7, b7], _ =>
   have e0 := hv 0 (by omega)
   have e1 := hv 1 (by omega)
   have e2 := hv 2 (by omega)
   have e3 := hv 3 (by omega)
   have e4 := hv 4 (by omega)
   have e5 := hv 5 (by omega)
   have e6 := hv 6 (by omega)
   have e7 := hv 7 (by omega)
   simp at e0 e1 e2 e3 e4 e5 e6 e7
   simp [ay, e0, e1, e2, e3, e4, e5, e6, e7]
end
section
open Go.RowKit Srt
attribute [local go_sem ↓] Go.wp_at_zero Go.wp_at_succ
structure Cmp (f : Nat) (key : Dx → Int) : Prop where
 enters : ∀ args w, (callFunc f args).run Tryz.prog w = .ok (.enter f args) w
 calls : ∀ x y w, Calls Tryz.prog f #[dxv x, dxv y] w fun e w' => e = .returned (.int .i64 (cQ (key x) (key y))) ∧ Kp [] w w'
def ud (key : Dx → Int) (a : Option Addr) (n lo hi : Nat) (d : Nat → Dx) (w : World) (e : Ending) (w' : World) : Prop := e = .returned (.tuple #[]) ∧ ∃ d', SlD w' a n d' ∧ Kp (obd a) w w' ∧ Stb key lo hi d d' ∧ aM key d' lo hi
structure Ins (key : Dx → Int) (a : Option Addr) (n lo k : Nat) (dk : Nat → Dx) (w wr : World) (j : Nat) : Prop where
 row : SlD wr a n (rot dk j k (k + 1))
 kp : Kp (obd a) w wr
 lo : lo ≤ j
 hi : j ≤ k
 up : ∀ x, j ≤ x → x < k → key (dk k) < key (dk x)
section
variable {key : Dx → Int} {a : Option Addr} {n lo hi k g p j : Nat} {d dk : Nat → Dx} {w wr W : World}
theorem rR (dk : Nat → Dx) {j k : Nat} : rot dk j k (k + 1) j = dk k := by rw [je (by omega)]; congr 1; omega
theorem Ins.next (h : Ins key (some ⟨g, 0, none⟩) n lo k dk w wr j) (hp : j = p + 1) (hlo : lo < j) {x y : Int} (hx : key (rot dk j k (k + 1) j) = x) (hy : key (rot dk j k (k + 1) p) = y) (hless : x < y) (hrow : bL W g n (rot dk p k (k + 1))) (hkp : Kp [g] wr W) : Ins key (some ⟨g, 0, none⟩) n lo k dk w W p := by
 subst hp
 have hh := h.hi
 rw [rR] at hx
 rw [fO (by omega) (by omega) (by omega)] at hy
 refine ⟨fun _ => ⟨g, rfl, hrow⟩, h.kp.trans hkp (fun x hx => .inl (by simpa [obd] using hx)), by omega, by omega, fun z h1 h2 => ?_⟩
 by_cases e : z = p
 ·subst e; omega
 ·exact h.up z (by omega) h2
theorem Ins.done (h : Ins key a n lo k dk w wr j) (hq : Stb key lo k d dk ∧ aM key dk lo k) (hst : lo < j → ∃ p, j = p + 1 ∧ ¬ key (rot dk j k (k + 1) j) < key (rot dk j k (k + 1) p)) (hkp : Kp [] wr W) (hk : k < hi) :
 ∃ dk', SlD W a n dk' ∧ Kp (obd a) w W ∧ (k + 1 ≤ hi → Stb key lo (k + 1) d dk' ∧ aM key dk' lo (k + 1)) ∧ (hi < k + 1 → dk' = d) := by
 have h1 := h.lo
 have h2 := h.hi
 refine ⟨rot dk j k (k + 1), h.row.kp0 hkp, h.kp.trans0 hkp, fun _ => ?_, fun q => by omega⟩
 obtain ⟨s1, s2⟩ := ox (j := j) hq.2 ⟨h1, h2⟩ h.up (fun q => by
  obtain ⟨p, e, hn⟩ := hst q
  subst e
  rw [rR, fO (by omega) (by omega) (by omega)] at hn
  rw [show p + 1 - 1 = p by omega]
  omega)
 exact ⟨(hq.1.wide (Nat.le_refl _) (by omega) (Nat.le_succ _)).trans s2, s1⟩
end
theorem vp (p j : Nat) (_h : p ≠ j) : ¬ p * 4 = j * 4 + 1 ∧ ¬ p * 4 = j * 4 + 2 ∧ ¬ p * 4 = j * 4 + 3 ∧ ¬ p * 4 + 1 = j * 4 ∧ ¬ p * 4 + 1 = j * 4 + 2 ∧ ¬ p * 4 + 1 = j * 4 + 3 ∧ ¬ p * 4 + 2 = j * 4 ∧ ¬ p * 4 + 2 = j * 4 + 1 ∧ ¬ p * 4 + 2 = j * 4 + 3 ∧ ¬ p * 4 + 3 = j * 4 ∧ ¬ p * 4 + 3 = j * 4 + 1 ∧ ¬ p * 4 + 3 = j * 4 + 2 := by omega
theorem bZ {w w' : World} {p0 p1 p2 p3 q0 q1 q2 q3 : Addr} {x0 x1 x2 x3 y0 y1 y2 y3 : Value} (h : (w.cell? p0 = some x0 ∧ w.cell? p1 = some x1 ∧ w.cell? p2 = some x2 ∧ w.cell? p3 = some x3) ∧ (w.cell? q0 = some y0 ∧ w.cell? q1 = some y1 ∧ w.cell? q2 = some y2 ∧ w.cell? q3 = some y3)) (hk : Kp [] w w') :
 (w'.cell? p0 = some x0 ∧ w'.cell? p1 = some x1 ∧ w'.cell? p2 = some x2 ∧ w'.cell? p3 = some x3) ∧ (w'.cell? q0 = some y0 ∧ w'.cell? q1 = some y1 ∧ w'.cell? q2 = some y2 ∧ w'.cell? q3 = some y3) :=
 ⟨⟨hk.cell (by simp) h.1.1, hk.cell (by simp) h.1.2.1, hk.cell (by simp) h.1.2.2.1, hk.cell (by simp) h.1.2.2.2⟩, hk.cell (by simp) h.2.1, hk.cell (by simp) h.2.2.1, hk.cell (by simp) h.2.2.2.1, hk.cell (by simp) h.2.2.2.2⟩
theorem de {x y : Int} : cQ x y < 0 ↔ x < y := by
 unfold cQ
 split
 ·simp; assumption
 ·split <;> simp <;> omega
theorem oT {f : Nat} {key : Dx → Int} (hc : Cmp f key) (a : Option Addr) (n cap lo hi : Nat) (d : Nat → Dx) (w : World) (h : SlD w a n d) (h1 : lo ≤ hi) (h2 : hi ≤ n) (hn : n ≤ 100000) :
 Calls Tryz.prog 98 #[.slice a n cap, .int .i64 lo, .int .i64 hi, .func (.func f) #[] #[]] w fun e w' => ud key a n lo hi d w e w' := by
 have HC := ag hc
 have eg := hc.enters
 have HS := ag h
 clear h hc
 go_enter Tryz.func98, Tryz.ntmps98
 go_wp2_with fail
 go_loopw [8] (fun i wr => ∃ k : Nat, lo < k ∧ (k ≤ hi ∨ k = lo + 1) ∧ i = .int .i64 k ∧ Hid (∃ dk, SlD wr a n dk ∧ Kp (obd a) w wr ∧ (k ≤ hi → Stb key lo k d dk ∧ aM key dk lo k) ∧ (hi < k → dk = d))) (fun i _ => hi - (intOf i).toNat)
 case atStart => exact ⟨lo + 1, by omega, .inr rfl, by go_num, d, ae HS, Kp.refl _ _, fun _ => ⟨Stb.refl _ _ _ _, fun x y q1 q2 q3 => by rw [show x = y by omega]; exact Int.le_refl _⟩, fun _ => rfl⟩
 case round =>
  obtain ⟨k, hk1, hk2, rfl, HI⟩ := hrel
  by_cases hlt : k < hi
  ·have i1 : (k : Int) < (hi : Int) := by omega
   obtain ⟨dk, q1, q2, q3, q4⟩ := ae HI
   have HQ := ag (q3 (by omega))
   have HJ := ag (show Ins key a n lo k dk w wr k from ⟨by rw [jZ]; exact q1, q2, by omega, Nat.le_refl _, fun x _ _ => by omega⟩)
   clear q1 q2 q3 q4 HI
   go_wp2_with fail
   generalize wr = wk at *
   go_loopw [9] (fun i wr => ∃ j : Nat, i = .int .i64 j ∧ Hid (Ins key a n lo k dk w wr j)) (fun i _ => (intOf i).toNat)
   case atStart => exact ⟨k, rfl, HJ⟩
   case round =>
    obtain ⟨j, rfl, HK⟩ := hrel
    have hlo := (ae HK).lo
    have hhi := (ae HK).hi
    by_cases hj : lo < j
    ·obtain ⟨g, rfl, hrow⟩ := (ae HK).row (by omega)
     obtain ⟨p, hp⟩ : ∃ p, j = p + 1 := ⟨j - 1, by omega⟩
     have HP := ag hp
     have HR := ag hrow
     clear hrow
     have i2 : (lo : Int) < (j : Int) := by omega
     have i2a : decide ((lo : Int) < (j : Int)) = true := decide_eq_true (by omega)
     have i2b : decide ((j : Int) > (lo : Int)) = true := decide_eq_true (by omega)
     have i2c : decide (lo < j) = true := decide_eq_true (by omega)
     have i3 : (0 : Int) ≤ (j : Int) := by omega
     have i4 : (j : Int) < (n : Int) := by omega
     have i5 : (0 : Int) ≤ (p : Int) := by omega
     have i6 : (p : Int) < (n : Int) := by omega
     have i7 : IntKind.i64.wrap ((j : Int) - 1) = (p : Int) := by rw [bv _ (by omega) (by omega)]; omega
     clear hp
     have cX := (ae HR).cells (i := j) (by omega)
     have cY := (ae HR).cells (i := p) (by omega)
     generalize hX : rot dk j k (k + 1) j = X at *
     generalize hY : rot dk j k (k + 1) p = Y at *
     have HX := ag hX
     have HY := ag hY
     clear hX hY
     obtain ⟨⟨xn, xa, xm, xacts⟩, xp, xc⟩ := X
     obtain ⟨⟨yn, ya, ym, yacts⟩, yp, yc⟩ := Y
     have HCC : Hid (∀ W, Calls Tryz.prog f #[.agg #[.int .i64 xn, .int .i64 xa, .int .i64 xm, .slice xp xacts.length xc], .agg #[.int .i64 yn, .int .i64 ya, .int .i64 ym, .slice yp yacts.length yc]] W fun e w' => e = .returned (.int .i64 (cQ (key ⟨⟨xn, xa, xm, xacts⟩, xp, xc⟩) (key ⟨⟨yn, ya, ym, yacts⟩, yp, yc⟩))) ∧ Kp [] W w') := fun W => (ae HC).calls ⟨⟨xn, xa, xm, xacts⟩, xp, xc⟩ ⟨⟨yn, ya, ym, yacts⟩, yp, yc⟩ W
     generalize hkx : key ⟨⟨xn, xa, xm, xacts⟩, xp, xc⟩ = kx at *
     generalize hky : key ⟨⟨yn, ya, ym, yacts⟩, yp, yc⟩ = ky at *
     have HKX := ag hkx
     have HKY := ag hky
     clear hkx hky
     dsimp only at cX cY
     generalize hlx : xacts.length = lx at *
     generalize hly : yacts.length = ly at *
     have HLX := ag hlx
     have HLY := ag hly
     clear hlx hly
     have HS4 := ag (And.intro cX cY)
     clear cX cY
     go_wp2_with fail
     refine wp_region_held_drew (S := fun w' => (w'.cell? ⟨g, j * 4, none⟩ = some (.int .i64 xn) ∧ w'.cell? ⟨g, j * 4 + 1, none⟩ = some (.int .i64 xa) ∧ w'.cell? ⟨g, j * 4 + 1 + 1, none⟩ = some (.int .i64 xm) ∧ w'.cell? ⟨g, j * 4 + 1 + 1 + 1, none⟩ = some (.slice xp lx xc)) ∧ (w'.cell? ⟨g, p * 4, none⟩ = some (.int .i64 yn) ∧ w'.cell? ⟨g, p * 4 + 1, none⟩ = some (.int .i64 ya) ∧ w'.cell? ⟨g, p * 4 + 1 + 1, none⟩ = some (.int .i64 ym) ∧ w'.cell? ⟨g, p * 4 + 1 + 1 + 1, none⟩ = some (.slice yp ly yc))) (by kernel_rfl) (bZ (ae HS4) ((Kp.refl [] _).drew)) (fun hHeld => ?_)
     refine tk 0 ?_ rfl (by kernel_rfl) (fun _ _ _ h => h) (by rfl) ?_ hHeld ?_;rotate_left;· intro w hSw;(try dsimp only at hSw);go_simp;try with_reducible rfl
     try simp only [Act.put, sx, sy, sz]
     refine tk 1 ?_ rfl (by kernel_rfl) (fun _ _ _ h => h) (by rfl) ?_ hHeld ?_;rotate_left;· intro w hSw;(try dsimp only at hSw);go_simp;try with_reducible rfl
     try simp only [Act.put, sx, sy, sz]
     refine tk 2 ?_ rfl (by kernel_rfl) (fun _ _ _ h => h) (by rfl) ?_ hHeld ?_;rotate_left;· intro w hSw;(try dsimp only at hSw);go_simp;try with_reducible rfl
     try simp only [Act.put, sx, sy, sz]
     refine tk 3 ?_ rfl (by kernel_rfl) (fun _ _ _ h => h) (by rfl) ?_ hHeld ?_;rotate_left;· intro w hSw;(try dsimp only at hSw);go_simp;try with_reducible rfl
     try simp only [Act.put, sx, sy, sz]
     refine tk 4 ?_ rfl (by kernel_rfl) (fun _ _ _ h => h) (by rfl) ?_ hHeld ?_;rotate_left;· intro w hSw;(try dsimp only at hSw);go_simp;try with_reducible rfl
     try simp only [Act.put, sx, sy, sz]
     refine tk 5 ?_ rfl (by kernel_rfl) (fun _ _ _ h => h) (by rfl) ?_ hHeld ?_;rotate_left;· intro w hSw;(try dsimp only at hSw);go_simp;try with_reducible rfl
     try simp only [Act.put, sx, sy, sz]
     refine tk 6 ?_ rfl (by kernel_rfl) (fun _ _ _ h => h) (by rfl) ?_ hHeld ?_;rotate_left;· intro w hSw;(try dsimp only at hSw);go_simp;try with_reducible rfl
     try simp only [Act.put, sx, sy, sz]
     refine tk 7 ?_ rfl (by kernel_rfl) (fun _ _ _ h => h) (by rfl) ?_ hHeld ?_;rotate_left;· intro w hSw;(try dsimp only at hSw);go_simp;try with_reducible rfl
     try simp only [Act.put, sx, sy, sz]
     refine tk 8 ?_ rfl (by kernel_rfl) (fun _ _ _ h => h) (by rfl) ?_ hHeld ?_;rotate_left;· intro w hSw;(try dsimp only at hSw);go_simp;try with_reducible rfl
     try simp only [Act.put, sx, sy, sz]
     refine tk 9 ?_ rfl (by kernel_rfl) (fun _ _ _ h => h) (by rfl) ?_ hHeld ?_;rotate_left;· intro w hSw;(try dsimp only at hSw);go_simp;try with_reducible rfl
     try simp only [Act.put, sx, sy, sz]
     refine tk 10 ?_ rfl (by kernel_rfl) (fun _ _ _ h => h) (by rfl) ?_ hHeld ?_;rotate_left;· intro w hSw;(try dsimp only at hSw);go_simp;try with_reducible rfl
     try simp only [Act.put, sx, sy, sz]
     refine tk 11 ?_ rfl (by kernel_rfl) (fun _ _ _ h => h) (by rfl) ?_ hHeld ?_;rotate_left;· intro w hSw;(try dsimp only at hSw);go_simp;try with_reducible rfl
     try simp only [Act.put, sx, sy, sz]
     refine tk 12 ?_ rfl (by kernel_rfl) (fun _ _ _ h => h) (by rfl) ?_ hHeld ?_;rotate_left;· intro w hSw;(try dsimp only at hSw);go_simp;try with_reducible rfl
     try simp only [Act.put, sx, sy, sz]
     refine tk 13 ?_ rfl (by kernel_rfl) (fun _ _ _ h => h) (by rfl) ?_ hHeld ?_;rotate_left;· intro w hSw;(try dsimp only at hSw);go_simp;try with_reducible rfl
     try simp only [Act.put, sx, sy, sz]
     refine aj (i := 14) rfl (by kernel_rfl) (fun K hK => ?_)
     go_simp
     refine ((ae HCC) _).mono ?_
     rintro e w' ⟨rfl, hkp⟩
     have HKP := ag hkp
     clear hkp
     go_wp2_with fail
     refine hK.out _ _ (bZ (ae HS4) (((Kp.refl [] _).drew).trans0 (ae HKP))) (fun hHeld2 => ?_)
     clear hK K hHeld
     have hHeld := hHeld2
     clear hHeld2
     try simp only [Act.put, sx, sy, sz]
     refine tk 15 ?_ rfl (by kernel_rfl) (fun _ _ _ h => h) (by rfl) ?_ hHeld ?_;rotate_left;· intro w hSw;(try dsimp only at hSw);go_simp;try with_reducible rfl
     try simp only [Act.put, sx, sy, sz]
     refine tk 16 ?_ rfl (by kernel_rfl) (fun _ _ _ h => h) (by rfl) ?_ hHeld ?_;rotate_left;· intro w hSw;(try dsimp only at hSw);go_simp;try with_reducible rfl
     try simp only [Act.put, sx, sy, sz]
     refine wpAnyH_done (by kernel_rfl) ?_ _
     have HW := ag ((Kp.refl [] wr).drew.trans0 (ae HKP))
     have HRW := ag ((ae HR).kp0 (ae HW))
     clear hHeld HR HKP
     generalize w' = W at *
     by_cases hless : kx < ky
     ·have i8 : cQ kx ky < 0 := de.2 hless
      obtain ⟨⟨c0, c1, c2, c3⟩, e0, e1, e2, e3⟩ := bZ (ae HS4) (ae HW)
      have hf := (ae HRW).fz
      have hsw := (ae HRW).swap2 (i := j) (j := p) (by omega) (by omega) (by have := ae HP; omega)
      rw [ae HX, ae HY] at hsw
      have hrd := mf dk (m := k) (k := p) (by have := ae HP; omega)
      rw [← ae HP] at hrd
      rw [hrd] at hsw
      dsimp only [iv] at hsw
      rw [ae HLX, ae HLY] at hsw
      have HSW := ag hsw
      clear hsw hrd
      have hpj : p ≠ j := by have := ae HP; omega
      obtain ⟨n01, n02, n03, n10, n12, n13, n20, n21, n23, n30, n31, n32⟩ := vp p j hpj
      go_wp2_with fail
      go_region
      go_wp2_with fail
      have hkx : key (rot dk j k (k + 1) j) = kx := by rw [ae HX]; exact ae HKX
      have hky : key (rot dk j k (k + 1) p) = ky := by rw [ae HY]; exact ae HKY
      exact ⟨⟨p, by go_num, (ae HK).next (ae HP) hj hkx hky hless ((ae HSW).1.kp0 (Kp.refl [] _).drew) (((ae HW).mono (T := [g]) (by simp)).trans ((ae HSW).2.drew) (fun x hx => .inl hx))⟩, by have := ae HP; simp [intOf]; omega⟩
     ·have i8 : ¬ cQ kx ky < 0 := fun q => hless (de.1 q)
      go_wp2_with fail
      refine ⟨⟨k + 1, by omega, .inl (by omega), by go_num, (ae HK).done (ae HQ) (fun _ => ⟨p, ae HP, ?_⟩) (ae HW) hlt⟩, by simp [intOf]; omega⟩
      rw [ae HX, ae HY, ae HKX, ae HKY]
      exact hless
    ·have i2 : ¬ (lo : Int) < (j : Int) := by omega
     go_wp2_with fail
     go_quiet (fail)
     go_wp2_with fail
     exact ⟨⟨k + 1, by omega, .inl (by omega), by go_num, (ae HK).done (ae HQ) (fun q => absurd q hj) ((Kp.refl [] _).drewN _) hlt⟩, by simp [intOf]; omega⟩
  ·have i1 : ¬ (k : Int) < (hi : Int) := by omega
   go_wp2_with fail
   go_end0
   obtain ⟨dk, q1, q2, q3, q4⟩ := ae HI
   refine ⟨rfl, dk, q1, q2, ?_⟩
   by_cases e : k ≤ hi
   ·rw [show hi = k by omega]; exact q3 e
   ·rw [q4 (by omega)]
    exact ⟨Stb.refl _ _ _ _, fun x y _ _ _ => by omega⟩
def xi (g n : Nat) (d' : Nat → Dx) (w : World) (e : Ending) (w' : World) : Prop := e = .returned (.tuple #[]) ∧ bL w' g n d' ∧ Kp [g] w w'
theorem gT (f g n cap a b m : Nat) (d : Nat → Dx) (w : World) (h : bL w g n d) (h1 : a + m ≤ b) (h2 : b + m ≤ n) (hn : n ≤ 100000) :
 Calls Tryz.prog 130 #[.slice (some ⟨g, 0, none⟩) n cap, .int .i64 a, .int .i64 b, .int .i64 m, .func (.func f) #[] #[]] w fun e w' => xi g n (swr d a b m) w e w' := by
 have HS := ag h
 clear h
 go_enter Tryz.func130, Tryz.ntmps130
 go_wp2_with fail
 go_loopw [10] (fun i wr => ∃ k : Nat, k ≤ m ∧ i = .int .i64 k ∧ Hid (bL wr g n (swr d a b k) ∧ Kp [g] w wr)) (fun i _ => m - (intOf i).toNat)
 case atStart => exact ⟨0, by omega, rfl, by rw [rr]; exact ⟨ae HS, Kp.refl _ _⟩⟩
 case round =>
  obtain ⟨k, hk, rfl, HI⟩ := hrel
  by_cases hlt : k < m
  ·have i1 : (k : Int) < (m : Int) := by omega
   obtain ⟨hrow, hkp⟩ := ae HI
   have hsw := hrow.swap2 (i := a + k) (j := b + k) (by omega) (by omega) (by omega)
   rw [rt d (by omega)] at hsw
   obtain ⟨c0, c1, c2, c3⟩ := hrow.cells (i := a + k) (by omega)
   obtain ⟨e0, e1, e2, e3⟩ := hrow.cells (i := b + k) (by omega)
   have hf := hrow.fz
   have HKP := ag hkp
   clear hkp hrow
   generalize hX : swr d a b k (a + k) = X at *
   generalize hY : swr d a b k (b + k) = Y at *
   clear hX hY
   obtain ⟨⟨xn, xa, xm, xacts⟩, xp, xc⟩ := X
   obtain ⟨⟨yn, ya, ym, yacts⟩, yp, yc⟩ := Y
   dsimp only [iv] at c0 c1 c2 c3 e0 e1 e2 e3 hsw
   generalize xacts.length = lx at *
   generalize yacts.length = ly at *
   obtain ⟨p, hp⟩ : ∃ p, a + k = p := ⟨_, rfl⟩
   obtain ⟨j, hj⟩ : ∃ j, b + k = j := ⟨_, rfl⟩
   rw [hp, hj] at hsw
   rw [hp] at c0 c1 c2 c3
   rw [hj] at e0 e1 e2 e3
   have HSW := ag hsw
   clear hsw
   have hjp : j ≠ p := by omega
   obtain ⟨n01, n02, n03, n10, n12, n13, n20, n21, n23, n30, n31, n32⟩ := vp j p hjp
   have j1 : IntKind.i64.wrap ((a : Int) + (k : Int)) = (p : Int) := by rw [bv _ (by omega) (by omega)]; omega
   have j2 : IntKind.i64.wrap ((b : Int) + (k : Int)) = (j : Int) := by rw [bv _ (by omega) (by omega)]; omega
   have j3 : (0 : Int) ≤ (p : Int) := by omega
   have j4 : (p : Int) < (n : Int) := by omega
   have j5 : (0 : Int) ≤ (j : Int) := by omega
   have j6 : (j : Int) < (n : Int) := by omega
   clear hp hj
   go_wp2_with fail
   go_region
   go_wp2_with fail
   exact ⟨⟨k + 1, by omega, by go_num, (ae HSW).1.kp0 (Kp.refl [] _).drew, (ae HKP).trans ((ae HSW).2.drew) (fun x hx => .inl hx)⟩, by simp [intOf]; omega⟩
  ·have i1 : ¬ (k : Int) < (m : Int) := by omega
   go_wp2_with fail
   go_end0
   obtain ⟨hrow, hkp⟩ := ae HI
   rw [show k = m by omega] at hrow
   exact ⟨rfl, hrow, hkp⟩
theorem ft (f g n cap a m b : Nat) (d : Nat → Dx) (w : World) (h : bL w g n d) (h1 : a < m) (h2 : m < b) (h3 : b ≤ n) (hn : n ≤ 100000) :
 Calls Tryz.prog 119 #[.slice (some ⟨g, 0, none⟩) n cap, .int .i64 a, .int .i64 m, .int .i64 b, .func (.func f) #[] #[]] w fun e w' => xi g n (rot d a m b) w e w' := by
 have HS := ag h
 clear h
 go_enter Tryz.func119, Tryz.ntmps119
 go_wp2_with fail
 go_loopw [10, 11] (fun x y wr => ∃ i j : Nat, 0 < i ∧ 0 < j ∧ i ≤ m - a ∧ j ≤ b - m ∧ x = .int .i64 i ∧ y = .int .i64 j ∧ Hid (∃ dk, bL wr g n dk ∧ Kp [g] w wr ∧ rot dk (m - i) m (m + j) = rot d a m b)) (fun x y _ => (intOf x).toNat + (intOf y).toNat)
 case atStart => exact ⟨m - a, b - m, by omega, by omega, Nat.le_refl _, Nat.le_refl _, by go_num, by go_num, d, ae HS, Kp.refl _ _, by rw [show m - (m - a) = a by omega, show m + (b - m) = b by omega]⟩
 case round =>
  obtain ⟨i, j, hi0, hj0, hi, hj, rfl, rfl, HI⟩ := hrel
  obtain ⟨dk, q1, q2, q3⟩ := ae HI
  have HQ2 := ag q2
  have HQ3 := ag q3
  by_cases e : i = j
  ·subst e
   have HC := ag (gT f g n cap (m - i) m i dk wr q1 (by omega) (by omega) hn)
   have j1 : ((m : Int) - (i : Int)) = ((m - i : Nat) : Int) := by omega
   clear q1 q2 q3 HI
   go_wp2_with fail
   refine (ae HC).mono ?_
   rintro e w' ⟨rfl, r1, r2⟩
   have HR1 := ag r1
   have HR2 := ag r2
   clear r1 r2
   go_wp2_with fail
   go_end0
   exact ⟨rfl, by rw [← ae HQ3, ← uZ (by omega)]; exact ae HR1, (ae HQ2).trans (ae HR2) (fun x hx => .inl hx)⟩
  ·have i1 : ¬ (i : Int) = (j : Int) := by omega
   by_cases hlt : j < i
   ·have HC := ag (gT f g n cap (m - i) m j dk wr q1 (by omega) (by omega) hn)
    have j1 : ((m : Int) - (i : Int)) = ((m - i : Nat) : Int) := by omega
    have i2 : (j : Int) < (i : Int) := by omega
    clear q1 q2 q3 HI
    go_wp2_with fail
    refine (ae HC).mono ?_
    rintro e w' ⟨rfl, r1, r2⟩
    have HR1 := ag r1
    have HR2 := ag r2
    clear r1 r2
    go_wp2_with fail
    exact ⟨⟨i - j, j, by omega, hj0, by omega, hj, by go_num, rfl, swr dk (m - i) m j, ae HR1, (ae HQ2).trans (ae HR2) (fun x hx => .inl hx), by rw [rQ (by omega) hlt]; exact ae HQ3⟩, by simp [intOf]; omega⟩
   ·have HC := ag (gT f g n cap (m - i) (m + j - i) i dk wr q1 (by omega) (by omega) hn)
    have j1 : ((m : Int) - (i : Int)) = ((m - i : Nat) : Int) := by omega
    have j2 : ((m : Int) + (j : Int) - (i : Int)) = ((m + j - i : Nat) : Int) := by omega
    have i2 : ¬ (j : Int) < (i : Int) := by omega
    clear q1 q2 q3 HI
    go_wp2_with fail
    refine (ae HC).mono ?_
    rintro e w' ⟨rfl, r1, r2⟩
    have HR1 := ag r1
    have HR2 := ag r2
    clear r1 r2
    go_wp2_with fail
    exact ⟨⟨i, j - i, hi0, by omega, hi, by omega, rfl, by go_num, swr dk (m - i) (m + j - i) i, ae HR1, (ae HQ2).trans (ae HR2) (fun x hx => .inl hx), by rw [pN (by omega) (by omega)]; exact ae HQ3⟩, by simp [intOf]; omega⟩
def mT (key : Dx → Int) (g n a b : Nat) (d : Nat → Dx) (w : World) (e : Ending) (w' : World) : Prop := e = .returned (.tuple #[]) ∧ ∃ d', bL w' g n d' ∧ Kp [g] w w' ∧ Stb key a b d d' ∧ aM key d' a b
theorem kV {d : Nat → Dx} {m q : Nat} : rot d m m q = d := by
 funext x
 unfold rot
 by_cases c : m ≤ x ∧ x < m + (q - m)
 ·rw [if_pos c]; congr 1; omega
 ·rw [if_neg c, if_neg (by omega)]
theorem kU {d : Nat → Dx} {p m : Nat} : rot d p m m = d := by
 funext x
 unfold rot
 rw [if_neg (by omega)]
 by_cases c : p + (m - m) ≤ x ∧ x < m
 ·rw [if_pos c]; congr 1; omega
 ·rw [if_neg c]
theorem eI {g : Nat} {w W w' : World} (h : Kp [g] w W) (k : Kp [g] W w') : Kp [g] w w' := h.trans k (fun _ hx => .inl hx)
theorem Ao {f : Nat} {key : Dx → Int} (hc : Cmp f key) (g n cap a m b : Nat) (d : Nat → Dx) (w : World) (h : bL w g n d) (h1 : aM key d a m) (h2 : aM key d m b) (ham : a < m) (hmb : m < b) (hbn : b ≤ n) (hn : n ≤ 100000) (hm : m = a + 1) :
 Calls Tryz.prog 99 #[.slice (some ⟨g, 0, none⟩) n cap, .int .i64 a, .int .i64 m, .int .i64 b, .func (.func f) #[] #[]] w fun e w' => mT key g n a b d w e w' := by
 have HC := ag hc
 have eg := hc.enters
 have HR0 := ag h
 have HS1 := ag h1
 have HS2 := ag h2
 clear h hc h1 h2
 have k1 : (m : Int) - (a : Int) = 1 := by omega
 have HM := ag hm
 clear hm
 go_enter Tryz.func99, Tryz.ntmps99
 go_wp2_with fail
 go_loopw [10, 11, 12] (fun x y _ wr => ∃ i j : Nat, m ≤ i ∧ i ≤ j ∧ j ≤ b ∧ x = .int .i64 i ∧ y = .int .i64 j ∧ Hid ((∀ z, m ≤ z → z < i → key (d z) < key (d a)) ∧ (j < b → key (d a) ≤ key (d j))) ∧ Hid (Kp [] w wr)) (fun x y _ _ => (intOf y).toNat - (intOf x).toNat)
 case atStart => exact ⟨m, b, Nat.le_refl _, by omega, Nat.le_refl _, rfl, rfl, ⟨fun z _ _ => by omega, fun q => by omega⟩, Kp.refl _ _⟩
 case round =>
  obtain ⟨i, j, hi, hij, hj, rfl, rfl, HV, HK⟩ := hrel
  by_cases hlt : i < j
  ·have i1 : (i : Int) < (j : Int) := by omega
   obtain ⟨p, hp⟩ : ∃ p, (i + j) / 2 = p := ⟨_, rfl⟩
   have i2 : ((i : Int) + (j : Int)) / 2 = (p : Int) := by omega
   have i3 : (0 : Int) ≤ (p : Int) := by omega
   have i4 : (p : Int) < (n : Int) := by omega
   have i5 : (0 : Int) ≤ (a : Int) := by omega
   have i6 : (a : Int) < (n : Int) := by omega
   have i7 : i ≤ p := by omega
   have i8 : p < j := by omega
   clear hp
   have HR := ag ((ae HR0).kp0 (ae HK))
   have cX := (ae HR).cells (i := p) (by omega)
   have cY := (ae HR).cells (i := a) (by omega)
   obtain ⟨⟨⟨xn, xa, xm, xacts⟩, xp, xc⟩, hX⟩ : ∃ X, d p = X := ⟨_, rfl⟩
   obtain ⟨⟨⟨yn, ya, ym, yacts⟩, yp, yc⟩, hY⟩ : ∃ Y, d a = Y := ⟨_, rfl⟩
   rw [hX] at cX
   rw [hY] at cY
   have HX := ag hX
   have HY := ag hY
   clear hX hY
   obtain ⟨kx, hkx⟩ : ∃ k, key ⟨⟨xn, xa, xm, xacts⟩, xp, xc⟩ = k := ⟨_, rfl⟩
   obtain ⟨ky, hky⟩ : ∃ k, key ⟨⟨yn, ya, ym, yacts⟩, yp, yc⟩ = k := ⟨_, rfl⟩
   obtain ⟨lx, hlx⟩ : ∃ k, xacts.length = k := ⟨_, rfl⟩
   obtain ⟨ly, hly⟩ : ∃ k, yacts.length = k := ⟨_, rfl⟩
   have HCC : Hid (∀ W, Calls Tryz.prog f #[.agg #[.int .i64 xn, .int .i64 xa, .int .i64 xm, .slice xp lx xc], .agg #[.int .i64 yn, .int .i64 ya, .int .i64 ym, .slice yp ly yc]] W fun e w' => e = .returned (.int .i64 (cQ kx ky)) ∧ Kp [] W w') := fun W => by
    have := (ae HC).calls ⟨⟨xn, xa, xm, xacts⟩, xp, xc⟩ ⟨⟨yn, ya, ym, yacts⟩, yp, yc⟩ W
    rw [hkx, hky] at this
    dsimp only [dxv] at this
    rw [hlx, hly] at this
    exact this
   have HKX := ag hkx
   have HKY := ag hky
   clear hkx hky
   dsimp only at cX cY
   rw [hlx] at cX
   rw [hly] at cY
   have HLX := ag hlx
   have HLY := ag hly
   clear hlx hly
   have HS4 := ag (And.intro cX cY)
   clear cX cY
   go_wp2_with fail
   refine wp_region_held_drew (S := fun w' => (w'.cell? ⟨g, p * 4, none⟩ = some (.int .i64 xn) ∧ w'.cell? ⟨g, p * 4 + 1, none⟩ = some (.int .i64 xa) ∧ w'.cell? ⟨g, p * 4 + 1 + 1, none⟩ = some (.int .i64 xm) ∧ w'.cell? ⟨g, p * 4 + 1 + 1 + 1, none⟩ = some (.slice xp lx xc)) ∧ (w'.cell? ⟨g, a * 4, none⟩ = some (.int .i64 yn) ∧ w'.cell? ⟨g, a * 4 + 1, none⟩ = some (.int .i64 ya) ∧ w'.cell? ⟨g, a * 4 + 1 + 1, none⟩ = some (.int .i64 ym) ∧ w'.cell? ⟨g, a * 4 + 1 + 1 + 1, none⟩ = some (.slice yp ly yc))) (by kernel_rfl) (bZ (ae HS4) ((Kp.refl [] _).drew)) (fun hHeld => ?_)
   refine tk 0 ?_ rfl (by kernel_rfl) (fun _ _ _ h => h) (by rfl) ?_ hHeld ?_;rotate_left;· intro w hSw;(try dsimp only at hSw);go_simp;try with_reducible rfl
   try simp only [Act.put, sx, sy, sz]
   refine tk 1 ?_ rfl (by kernel_rfl) (fun _ _ _ h => h) (by rfl) ?_ hHeld ?_;rotate_left;· intro w hSw;(try dsimp only at hSw);go_simp;try with_reducible rfl
   try simp only [Act.put, sx, sy, sz]
   refine tk 2 ?_ rfl (by kernel_rfl) (fun _ _ _ h => h) (by rfl) ?_ hHeld ?_;rotate_left;· intro w hSw;(try dsimp only at hSw);go_simp;try with_reducible rfl
   try simp only [Act.put, sx, sy, sz]
   refine tk 3 ?_ rfl (by kernel_rfl) (fun _ _ _ h => h) (by rfl) ?_ hHeld ?_;rotate_left;· intro w hSw;(try dsimp only at hSw);go_simp;try with_reducible rfl
   try simp only [Act.put, sx, sy, sz]
   refine tk 4 ?_ rfl (by kernel_rfl) (fun _ _ _ h => h) (by rfl) ?_ hHeld ?_;rotate_left;· intro w hSw;(try dsimp only at hSw);go_simp;try with_reducible rfl
   try simp only [Act.put, sx, sy, sz]
   refine tk 5 ?_ rfl (by kernel_rfl) (fun _ _ _ h => h) (by rfl) ?_ hHeld ?_;rotate_left;· intro w hSw;(try dsimp only at hSw);go_simp;try with_reducible rfl
   try simp only [Act.put, sx, sy, sz]
   refine tk 6 ?_ rfl (by kernel_rfl) (fun _ _ _ h => h) (by rfl) ?_ hHeld ?_;rotate_left;· intro w hSw;(try dsimp only at hSw);go_simp;try with_reducible rfl
   try simp only [Act.put, sx, sy, sz]
   refine tk 7 ?_ rfl (by kernel_rfl) (fun _ _ _ h => h) (by rfl) ?_ hHeld ?_;rotate_left;· intro w hSw;(try dsimp only at hSw);go_simp;try with_reducible rfl
   try simp only [Act.put, sx, sy, sz]
   refine tk 8 ?_ rfl (by kernel_rfl) (fun _ _ _ h => h) (by rfl) ?_ hHeld ?_;rotate_left;· intro w hSw;(try dsimp only at hSw);go_simp;try with_reducible rfl
   try simp only [Act.put, sx, sy, sz]
   refine aj (i := 9) rfl (by kernel_rfl) (fun K hK => ?_)
   go_simp
   refine ((ae HCC) _).mono ?_
   rintro e w' ⟨rfl, hkp⟩
   have HKP := ag hkp
   clear hkp
   go_wp2_with fail
   refine hK.out _ _ (bZ (ae HS4) (((Kp.refl [] _).drew).trans0 (ae HKP))) (fun hHeld2 => ?_)
   clear hK K hHeld
   have hHeld := hHeld2
   clear hHeld2
   try simp only [Act.put, sx, sy, sz]
   refine tk 10 ?_ rfl (by kernel_rfl) (fun _ _ _ h => h) (by rfl) ?_ hHeld ?_;rotate_left;· intro w hSw;(try dsimp only at hSw);go_simp;try with_reducible rfl
   try simp only [Act.put, sx, sy, sz]
   refine wpAnyH_done (by kernel_rfl) ?_ _
   have HW := ag ((ae HK).trans0 ((Kp.refl [] wr).drew.trans0 (ae HKP)))
   clear hHeld HR HKP HS4 HCC
   generalize w' = W at *
   by_cases hless : kx < ky
   ·have i9 : cQ kx ky < 0 := de.2 hless
    go_wp2_with fail
    go_roundw
    case measure => simp [intOf]; omega
    case rel =>
     refine ⟨p + 1, j, by omega, by omega, hj, by go_num, rfl, ⟨fun z q1 q2 => ?_, (ae HV).2⟩, ae HW⟩
     have hz := ae HS2 z p q1 (by omega) (by omega)
     rw [ae HX, ae HKX] at hz
     rw [ae HY, ae HKY]
     omega
   ·have i9 : ¬ cQ kx ky < 0 := fun q => hless (de.1 q)
    go_wp2_with fail
    go_roundw
    case measure => simp [intOf]; omega
    case rel =>
     refine ⟨i, p, hi, by omega, by omega, rfl, rfl, ⟨(ae HV).1, fun _ => ?_⟩, ae HW⟩
     rw [ae HX, ae HKX, ae HY, ae HKY]
     omega
  ·have hji : j = i := by omega
   subst hji
   have i1 : ¬ (j : Int) < (j : Int) := by omega
   have j1 : ((j : Int) - 1) = ((j - 1 : Nat) : Int) := by omega
   go_wp2_with fail
   have HRR := ag (show bL wr g n (rot d a (a + 1) (a + 1)) ∧ Kp [g] w wr from ⟨by rw [uY]; exact (ae HR0).kp0 (ae HK), (ae HK).mono (T := [g]) (by simp)⟩)
   clear HK
   generalize wr = w5 at *
   go_loopw [13] (fun x wr => ∃ k : Nat, a ≤ k ∧ k + 1 ≤ j ∧ x = .int .i64 k ∧ Hid (bL wr g n (rot d a (a + 1) (k + 1)) ∧ Kp [g] w wr)) (fun x _ => j - (intOf x).toNat)
   case atStart => exact ⟨a, Nat.le_refl _, by omega, rfl, HRR⟩
   case round =>
    obtain ⟨k, hk1, hk2, rfl, HI⟩ := hrel
    by_cases hlt2 : k + 1 < j
    ·have i2 : (k : Int) < ((j - 1 : Nat) : Int) := by omega
     have i2' : (k : Int) < (j : Int) - 1 := by omega
     obtain ⟨hrow, hkp⟩ := ae HI
     have hsw := hrow.swap2 (i := k) (j := (k + 1)) (by omega) (by omega) (by omega)
     obtain ⟨c0, c1, c2, c3⟩ := hrow.cells (i := k) (by omega)
     obtain ⟨e0, e1, e2, e3⟩ := hrow.cells (i := (k + 1)) (by omega)
     have hf := hrow.fz
     have HKP := ag hkp
     clear hkp hrow
     generalize hX : rot d a (a + 1) (k + 1) k = X at *
     generalize hY : rot d a (a + 1) (k + 1) (k + 1) = Y at *
     clear hX hY
     obtain ⟨⟨xn, xa, xm, xacts⟩, xp, xc⟩ := X
     obtain ⟨⟨yn, ya, ym, yacts⟩, yp, yc⟩ := Y
     dsimp only [iv] at c0 c1 c2 c3 e0 e1 e2 e3 hsw
     generalize xacts.length = lx at *
     generalize yacts.length = ly at *
     have hjp : (k + 1) ≠ k := by omega
     obtain ⟨n01, n02, n03, n10, n12, n13, n20, n21, n23, n30, n31, n32⟩ := vp (k + 1) k hjp
     rw [xS d (by omega)] at hsw
     obtain ⟨q, hq⟩ : ∃ q, k + 1 = q := ⟨_, rfl⟩
     rw [hq] at hsw e0 e1 e2 e3 hjp n01 n02 n03 n10 n12 n13 n20 n21 n23 n30 n31 n32
     have HSW := ag hsw
     clear hsw
     have j3 : IntKind.i64.wrap ((k : Int) + 1) = (q : Int) := by rw [bv _ (by omega) (by omega)]; omega
     have j3' : (k : Int) + 1 = (q : Int) := by omega
     have j4 : (0 : Int) ≤ (k : Int) := by omega
     have j5 : (k : Int) < (n : Int) := by omega
     have j6 : (0 : Int) ≤ (q : Int) := by omega
     have j7 : (q : Int) < (n : Int) := by omega
     have HQ := ag hq
     clear hq
     go_wp2_with fail
     go_region
     go_wp2_with fail
     exact ⟨⟨k + 1, by omega, by omega, by have := ae HQ; go_num, (ae HSW).1.kp0 (Kp.refl [] _).drew, eI (ae HKP) ((ae HSW).2.drew)⟩, by have := ae HQ; simp [intOf]; omega⟩
    ·have i2 : ¬ (k : Int) < ((j - 1 : Nat) : Int) := by omega
     have i2' : ¬ (k : Int) < (j : Int) - 1 := by omega
     go_wp2_with fail
     go_end0
     obtain ⟨q1, q2⟩ := ae HI
     rw [show k + 1 = j by omega] at q1
     have hm := ae HM
     subst hm
     have hs := pH (key := key) (d := d) (a := a) (b := b) (i := j) (ae HS2) ⟨hi, hj⟩ (ae HV).1 (ae HV).2
     exact ⟨rfl, _, q1, q2, hs.2, hs.1⟩
theorem An {f : Nat} {key : Dx → Int} (hc : Cmp f key) (g n cap a m b : Nat) (d : Nat → Dx) (w : World) (h : bL w g n d) (h1 : aM key d a m) (h2 : aM key d m b) (ham : a < m) (hmb : m < b) (hbn : b ≤ n) (hn : n ≤ 100000) (hm : b = m + 1) (hma : m ≠ a + 1) :
 Calls Tryz.prog 99 #[.slice (some ⟨g, 0, none⟩) n cap, .int .i64 a, .int .i64 m, .int .i64 b, .func (.func f) #[] #[]] w fun e w' => mT key g n a b d w e w' := by
 have HC := ag hc
 have eg := hc.enters
 have HR0 := ag h
 have HS1 := ag h1
 have HS2 := ag h2
 clear h hc h1 h2
 have k1 : ((m : Int) - (a : Int) == 1) = false := beq_eq_false_iff_ne.2 (by omega)
 have k2 : (b : Int) - (m : Int) = 1 := by omega
 have HM := ag hm
 clear hm
 go_enter Tryz.func99, Tryz.ntmps99
 go_wp2_with fail
 go_loopw [14, 15, 16] (fun x y _ wr => ∃ i j : Nat, a ≤ i ∧ i ≤ j ∧ j ≤ m ∧ x = .int .i64 i ∧ y = .int .i64 j ∧ Hid ((∀ z, j ≤ z → z < m → key (d m) < key (d z)) ∧ (a < i → key (d (i - 1)) ≤ key (d m))) ∧ Hid (Kp [] w wr)) (fun x y _ _ => (intOf y).toNat - (intOf x).toNat)
 case atStart => exact ⟨a, m, Nat.le_refl _, by omega, Nat.le_refl _, rfl, rfl, ⟨fun z _ _ => by omega, fun q => by omega⟩, Kp.refl _ _⟩
 case round =>
  obtain ⟨i, j, hi, hij, hj, rfl, rfl, HV, HK⟩ := hrel
  by_cases hlt : i < j
  ·have i1 : (i : Int) < (j : Int) := by omega
   obtain ⟨p, hp⟩ : ∃ p, (i + j) / 2 = p := ⟨_, rfl⟩
   have i2 : ((i : Int) + (j : Int)) / 2 = (p : Int) := by omega
   have i3 : (0 : Int) ≤ (p : Int) := by omega
   have i4 : (p : Int) < (n : Int) := by omega
   have i5 : (0 : Int) ≤ (m : Int) := by omega
   have i6 : (m : Int) < (n : Int) := by omega
   have i7 : i ≤ p := by omega
   have i8 : p < j := by omega
   clear hp
   have HR := ag ((ae HR0).kp0 (ae HK))
   have cX := (ae HR).cells (i := m) (by omega)
   have cY := (ae HR).cells (i := p) (by omega)
   obtain ⟨⟨⟨xn, xa, xm, xacts⟩, xp, xc⟩, hX⟩ : ∃ X, d m = X := ⟨_, rfl⟩
   obtain ⟨⟨⟨yn, ya, ym, yacts⟩, yp, yc⟩, hY⟩ : ∃ Y, d p = Y := ⟨_, rfl⟩
   rw [hX] at cX
   rw [hY] at cY
   have HX := ag hX
   have HY := ag hY
   clear hX hY
   obtain ⟨kx, hkx⟩ : ∃ k, key ⟨⟨xn, xa, xm, xacts⟩, xp, xc⟩ = k := ⟨_, rfl⟩
   obtain ⟨ky, hky⟩ : ∃ k, key ⟨⟨yn, ya, ym, yacts⟩, yp, yc⟩ = k := ⟨_, rfl⟩
   obtain ⟨lx, hlx⟩ : ∃ k, xacts.length = k := ⟨_, rfl⟩
   obtain ⟨ly, hly⟩ : ∃ k, yacts.length = k := ⟨_, rfl⟩
   have HCC : Hid (∀ W, Calls Tryz.prog f #[.agg #[.int .i64 xn, .int .i64 xa, .int .i64 xm, .slice xp lx xc], .agg #[.int .i64 yn, .int .i64 ya, .int .i64 ym, .slice yp ly yc]] W fun e w' => e = .returned (.int .i64 (cQ kx ky)) ∧ Kp [] W w') := fun W => by
    have := (ae HC).calls ⟨⟨xn, xa, xm, xacts⟩, xp, xc⟩ ⟨⟨yn, ya, ym, yacts⟩, yp, yc⟩ W
    rw [hkx, hky] at this
    dsimp only [dxv] at this
    rw [hlx, hly] at this
    exact this
   have HKX := ag hkx
   have HKY := ag hky
   clear hkx hky
   dsimp only at cX cY
   rw [hlx] at cX
   rw [hly] at cY
   have HLX := ag hlx
   have HLY := ag hly
   clear hlx hly
   have HS4 := ag (And.intro cX cY)
   clear cX cY
   go_wp2_with fail
   refine wp_region_held_drew (S := fun w' => (w'.cell? ⟨g, m * 4, none⟩ = some (.int .i64 xn) ∧ w'.cell? ⟨g, m * 4 + 1, none⟩ = some (.int .i64 xa) ∧ w'.cell? ⟨g, m * 4 + 1 + 1, none⟩ = some (.int .i64 xm) ∧ w'.cell? ⟨g, m * 4 + 1 + 1 + 1, none⟩ = some (.slice xp lx xc)) ∧ (w'.cell? ⟨g, p * 4, none⟩ = some (.int .i64 yn) ∧ w'.cell? ⟨g, p * 4 + 1, none⟩ = some (.int .i64 ya) ∧ w'.cell? ⟨g, p * 4 + 1 + 1, none⟩ = some (.int .i64 ym) ∧ w'.cell? ⟨g, p * 4 + 1 + 1 + 1, none⟩ = some (.slice yp ly yc))) (by kernel_rfl) (bZ (ae HS4) ((Kp.refl [] _).drew)) (fun hHeld => ?_)
   refine tk 0 ?_ rfl (by kernel_rfl) (fun _ _ _ h => h) (by rfl) ?_ hHeld ?_;rotate_left;· intro w hSw;(try dsimp only at hSw);go_simp;try with_reducible rfl
   try simp only [Act.put, sx, sy, sz]
   refine tk 1 ?_ rfl (by kernel_rfl) (fun _ _ _ h => h) (by rfl) ?_ hHeld ?_;rotate_left;· intro w hSw;(try dsimp only at hSw);go_simp;try with_reducible rfl
   try simp only [Act.put, sx, sy, sz]
   refine tk 2 ?_ rfl (by kernel_rfl) (fun _ _ _ h => h) (by rfl) ?_ hHeld ?_;rotate_left;· intro w hSw;(try dsimp only at hSw);go_simp;try with_reducible rfl
   try simp only [Act.put, sx, sy, sz]
   refine tk 3 ?_ rfl (by kernel_rfl) (fun _ _ _ h => h) (by rfl) ?_ hHeld ?_;rotate_left;· intro w hSw;(try dsimp only at hSw);go_simp;try with_reducible rfl
   try simp only [Act.put, sx, sy, sz]
   refine tk 4 ?_ rfl (by kernel_rfl) (fun _ _ _ h => h) (by rfl) ?_ hHeld ?_;rotate_left;· intro w hSw;(try dsimp only at hSw);go_simp;try with_reducible rfl
   try simp only [Act.put, sx, sy, sz]
   refine tk 5 ?_ rfl (by kernel_rfl) (fun _ _ _ h => h) (by rfl) ?_ hHeld ?_;rotate_left;· intro w hSw;(try dsimp only at hSw);go_simp;try with_reducible rfl
   try simp only [Act.put, sx, sy, sz]
   refine tk 6 ?_ rfl (by kernel_rfl) (fun _ _ _ h => h) (by rfl) ?_ hHeld ?_;rotate_left;· intro w hSw;(try dsimp only at hSw);go_simp;try with_reducible rfl
   try simp only [Act.put, sx, sy, sz]
   refine tk 7 ?_ rfl (by kernel_rfl) (fun _ _ _ h => h) (by rfl) ?_ hHeld ?_;rotate_left;· intro w hSw;(try dsimp only at hSw);go_simp;try with_reducible rfl
   try simp only [Act.put, sx, sy, sz]
   refine tk 8 ?_ rfl (by kernel_rfl) (fun _ _ _ h => h) (by rfl) ?_ hHeld ?_;rotate_left;· intro w hSw;(try dsimp only at hSw);go_simp;try with_reducible rfl
   try simp only [Act.put, sx, sy, sz]
   refine aj (i := 9) rfl (by kernel_rfl) (fun K hK => ?_)
   go_simp
   refine ((ae HCC) _).mono ?_
   rintro e w' ⟨rfl, hkp⟩
   have HKP := ag hkp
   clear hkp
   go_wp2_with fail
   refine hK.out _ _ (bZ (ae HS4) (((Kp.refl [] _).drew).trans0 (ae HKP))) (fun hHeld2 => ?_)
   clear hK K hHeld
   have hHeld := hHeld2
   clear hHeld2
   try simp only [Act.put, sx, sy, sz]
   refine tk 10 ?_ rfl (by kernel_rfl) (fun _ _ _ h => h) (by rfl) ?_ hHeld ?_;rotate_left;· intro w hSw;(try dsimp only at hSw);go_simp;try with_reducible rfl
   try simp only [Act.put, sx, sy, sz]
   refine tk 11 ?_ rfl (by kernel_rfl) (fun _ _ _ h => h) (by rfl) ?_ hHeld ?_;rotate_left;· intro w hSw;(try dsimp only at hSw);go_simp;try with_reducible rfl
   try simp only [Act.put, sx, sy, sz]
   refine wpAnyH_done (by kernel_rfl) ?_ _
   have HW := ag ((ae HK).trans0 ((Kp.refl [] wr).drew.trans0 (ae HKP)))
   clear hHeld HR HKP HS4 HCC
   generalize w' = W at *
   by_cases hless : kx < ky
   ·have i9 : cQ kx ky < 0 := de.2 hless
    have i9a : decide (cQ kx ky < 0) = true := decide_eq_true i9
    have i9b : (!decide (cQ kx ky < 0)) = false := by rw [i9a]; rfl
    rw [i9b]
    go_wp2_with fail
    go_roundw
    case measure => simp [intOf]; omega
    case rel =>
     refine ⟨i, p, hi, by omega, by omega, rfl, rfl, ⟨fun z q1 q2 => ?_, (ae HV).2⟩, ae HW⟩
     have hz := ae HS1 p z (by omega) q1 q2
     rw [ae HY, ae HKY] at hz
     rw [ae HX, ae HKX]
     omega
   ·have i9 : ¬ cQ kx ky < 0 := fun q => hless (de.1 q)
    have i9a : decide (cQ kx ky < 0) = false := decide_eq_false i9
    have i9b : (!decide (cQ kx ky < 0)) = true := by rw [i9a]; rfl
    rw [i9b]
    go_wp2_with fail
    go_roundw
    case measure => simp [intOf]; omega
    case rel =>
     refine ⟨p + 1, j, by omega, by omega, hj, by go_num, rfl, ⟨(ae HV).1, fun _ => ?_⟩, ae HW⟩
     rw [show p + 1 - 1 = p by omega, ae HX, ae HKX, ae HY, ae HKY]
     omega
  ·have hji : j = i := by omega
   subst hji
   have i1 : ¬ (j : Int) < (j : Int) := by omega
   go_wp2_with fail
   have HRR := ag (show bL wr g n (rot d m m (m + 1)) ∧ Kp [g] w wr from ⟨by rw [jZ]; exact (ae HR0).kp0 (ae HK), (ae HK).mono (T := [g]) (by simp)⟩)
   clear HK
   generalize wr = w5 at *
   go_loopw [17] (fun x wr => ∃ k : Nat, j ≤ k ∧ k ≤ m ∧ x = .int .i64 k ∧ Hid (bL wr g n (rot d k m (m + 1)) ∧ Kp [g] w wr)) (fun x _ => (intOf x).toNat)
   case atStart => exact ⟨m, by omega, Nat.le_refl _, rfl, HRR⟩
   case round =>
    obtain ⟨k, hk1, hk2, rfl, HI⟩ := hrel
    by_cases hlt2 : j < k
    ·have i2 : (j : Int) < (k : Int) := by omega
     obtain ⟨q, hq⟩ : ∃ q, k = q + 1 := ⟨k - 1, by omega⟩
     have HQ := ag hq
     obtain ⟨hrow, hkp⟩ := ae HI
     have hsw := hrow.swap2 (i := k) (j := q) (by omega) (by omega) (by omega)
     obtain ⟨c0, c1, c2, c3⟩ := hrow.cells (i := k) (by omega)
     obtain ⟨e0, e1, e2, e3⟩ := hrow.cells (i := q) (by omega)
     have hf := hrow.fz
     have HKP := ag hkp
     clear hkp hrow
     generalize hX : rot d k m (m + 1) k = X at *
     generalize hY : rot d k m (m + 1) q = Y at *
     clear hX hY
     obtain ⟨⟨xn, xa, xm, xacts⟩, xp, xc⟩ := X
     obtain ⟨⟨yn, ya, ym, yacts⟩, yp, yc⟩ := Y
     dsimp only [iv] at c0 c1 c2 c3 e0 e1 e2 e3 hsw
     generalize xacts.length = lx at *
     generalize yacts.length = ly at *
     have hjp : q ≠ k := by omega
     obtain ⟨n01, n02, n03, n10, n12, n13, n20, n21, n23, n30, n31, n32⟩ := vp q k hjp
     have hrd := mf d (m := m) (k := q) (by omega)
     rw [← hq] at hrd
     rw [hrd] at hsw
     have HSW := ag hsw
     clear hsw hrd
     have j3 : IntKind.i64.wrap ((k : Int) - 1) = (q : Int) := by rw [bv _ (by omega) (by omega)]; omega
     have j3' : (k : Int) - 1 = (q : Int) := by omega
     have j4 : (0 : Int) ≤ (k : Int) := by omega
     have j5 : (k : Int) < (n : Int) := by omega
     have j6 : (0 : Int) ≤ (q : Int) := by omega
     have j7 : (q : Int) < (n : Int) := by omega
     clear hq
     go_wp2_with fail
     go_region
     go_wp2_with fail
     exact ⟨⟨q, by have := ae HQ; omega, by have := ae HQ; omega, by go_num, (ae HSW).1.kp0 (Kp.refl [] _).drew, eI (ae HKP) ((ae HSW).2.drew)⟩, by have := ae HQ; simp [intOf]; omega⟩
    ·have i2 : ¬ (j : Int) < (k : Int) := by omega
     go_wp2_with fail
     go_end0
     obtain ⟨q1, q2⟩ := ae HI
     rw [show k = j by omega] at q1
     have hm := ae HM
     subst hm
     have hs := ox (key := key) (d := d) (a := a) (i := m) (j := j) (ae HS1) ⟨hi, hj⟩ (ae HV).1 (ae HV).2
     exact ⟨rfl, _, q1, q2, hs.2, hs.1⟩
def jP (key : Dx → Int) (d e : Nat → Dx) (a s mid en b : Nat) : Prop := aM key e a s ∧ aM key e s mid ∧ aM key e mid en ∧ aM key e en b ∧ Stb key a b d e ∧ ∀ x y, a ≤ x → x < mid → mid ≤ y → y < b → key (e x) ≤ key (e y)
section
variable {key : Dx → Int} {d e g' f' : Nat → Dx} {a s mid en b : Nat}
theorem jP.fin (h : jP key d e a s mid en b) (ha : a ≤ mid) (hb : mid ≤ b) (h1 : Stb key a mid e g' ∧ aM key g' a mid) (h2 : Stb key mid b g' f' ∧ aM key f' mid b) : Stb key a b d f' ∧ aM key f' a b :=
 ⟨(h.2.2.2.2.1.trans (h1.1.wide (Nat.le_refl _) ha hb)).trans (h2.1.wide ha hb (Nat.le_refl _)), ry ha hb h.2.2.2.2.2 h1.1 h2.1 h1.2 h2.2⟩
theorem jP.noL (h : jP key d e a s mid en b) (hs : a = s ∨ s = mid) : Stb key a mid e e ∧ aM key e a mid := by
 refine ⟨Stb.refl _ _ _ _, ?_⟩
 rcases hs with q | q
 ·rw [q]; exact h.2.1
 ·rw [← q]; exact h.1
theorem jP.noR (h : jP key d e a s mid en b) (h1 : Stb key a mid e g' ∧ aM key g' a mid) (hs : mid = en ∨ en = b) : Stb key mid b g' g' ∧ aM key g' mid b := by
 refine ⟨Stb.refl _ _ _ _, ?_⟩
 have : aM key e mid b := by
  rcases hs with q | q
  ·rw [q]; exact h.2.2.2.1
  ·rw [← q]; exact h.2.2.1
 exact this.congr (fun x q _ => h1.1.out x (by omega))
theorem jP.preR (h : jP key d e a s mid en b) (hme : mid ≤ en) (h1 : Stb key a mid e g' ∧ aM key g' a mid) : aM key g' mid en ∧ aM key g' en b :=
 ⟨h.2.2.1.congr (fun x q _ => h1.1.out x (by omega)), h.2.2.2.1.congr (fun x q _ => h1.1.out x (by omega))⟩
end
theorem Am {f : Nat} {key : Dx → Int} (hc : Cmp f key) (g n cap a m b : Nat) (d : Nat → Dx) (w : World) (h : bL w g n d) (h1 : aM key d a m) (h2 : aM key d m b) (ham : a < m) (hmb : m < b) (hbn : b ≤ n) (hn : n ≤ 100000) (hma : m ≠ a + 1) (hbm : b ≠ m + 1)
 (ih : ∀ (a' m' b' : Nat) (d' : Nat → Dx) (w' : World), b' - a' < b - a → bL w' g n d' → aM key d' a' m' → aM key d' m' b' → a' < m' → m' < b' → b' ≤ n → Calls Tryz.prog 99 #[.slice (some ⟨g, 0, none⟩) n cap, .int .i64 a', .int .i64 m', .int .i64 b', .func (.func f) #[] #[]] w' fun e w'' => mT key g n a' b' d' w' e w'') :
 Calls Tryz.prog 99 #[.slice (some ⟨g, 0, none⟩) n cap, .int .i64 a, .int .i64 m, .int .i64 b, .func (.func f) #[] #[]] w fun e w' => mT key g n a b d w e w' := by
 have HC := ag hc
 have eg := hc.enters
 have HR0 := ag h
 have HS1 := ag h1
 have HS2 := ag h2
 clear h hc h1 h2
 have IH := ag ih
 clear ih
 have k1 : ((m : Int) - (a : Int) == 1) = false := beq_eq_false_iff_ne.2 (by omega)
 have k2 : ((b : Int) - (m : Int) == 1) = false := beq_eq_false_iff_ne.2 (by omega)
 obtain ⟨mid, hmid⟩ : ∃ mid, (a + b) / 2 = mid := ⟨_, rfl⟩
 have k3 : ((a : Int) + (b : Int)) / 2 = (mid : Int) := by omega
 have m1 : 2 * mid ≤ a + b := by omega
 have m2 : a + b ≤ 2 * mid + 1 := by omega
 clear hmid
 obtain ⟨q, hq⟩ : ∃ q, mid + m = q := ⟨_, rfl⟩
 have k4 : (mid : Int) + (m : Int) = (q : Int) := by omega
 obtain ⟨qp, hqp⟩ : ∃ qp, q - 1 = qp := ⟨_, rfl⟩
 have k5 : (q : Int) - 1 = (qp : Int) := by omega
 by_cases hM : mid < m
 ·have k6 : (mid : Int) < (m : Int) := by omega
  obtain ⟨s0, hs0⟩ : ∃ s0, q - b = s0 := ⟨_, rfl⟩
  have k7 : (q : Int) - (b : Int) = (s0 : Int) := by omega
  go_enter Tryz.func99, Tryz.ntmps99
  go_wp2_with fail
  go_loopw [20, 21, 23] (fun x y _ wr => ∃ i j : Nat, s0 ≤ i ∧ i ≤ j ∧ j ≤ mid ∧ x = .int .i64 i ∧ y = .int .i64 j ∧ Hid ((j < mid → key (d (q - 1 - j)) < key (d j)) ∧ (s0 < i → key (d (i - 1)) ≤ key (d (q - i)))) ∧ Hid (Kp [] w wr)) (fun x y _ _ => (intOf y).toNat - (intOf x).toNat)
  case atStart => exact ⟨s0, mid, Nat.le_refl _, by omega, Nat.le_refl _, by first | rfl | go_num, by first | rfl | go_num, ⟨fun z => by omega, fun z => by omega⟩, Kp.refl _ _⟩
  case round =>
   obtain ⟨i, j, hi, hij, hj, rfl, rfl, HV, HK⟩ := hrel
   by_cases hlt : i < j
   ·have i1 : (i : Int) < (j : Int) := by omega
    obtain ⟨c, hcc⟩ : ∃ c, (i + j) / 2 = c := ⟨_, rfl⟩
    have i2 : ((i : Int) + (j : Int)) / 2 = (c : Int) := by omega
    have i3 : (0 : Int) ≤ (c : Int) := by omega
    have i4 : (c : Int) < (n : Int) := by omega
    have i7 : i ≤ c := by omega
    have i8 : c < j := by omega
    clear hcc
    obtain ⟨pc, hpc⟩ : ∃ pc, q - 1 - c = pc := ⟨_, rfl⟩
    have i5 : (0 : Int) ≤ (pc : Int) := by omega
    have i6 : (pc : Int) < (n : Int) := by omega
    have j1 : IntKind.i64.wrap ((qp : Int) - (c : Int)) = (pc : Int) := by rw [bv _ (by omega) (by omega)]; omega
    have HPC := ag hpc
    clear hpc
    have HR := ag ((ae HR0).kp0 (ae HK))
    have cX := (ae HR).cells (i := pc) (by omega)
    have cY := (ae HR).cells (i := c) (by omega)
    obtain ⟨⟨⟨xn, xa, xm, xacts⟩, xp, xc⟩, hX⟩ : ∃ X, d pc = X := ⟨_, rfl⟩
    obtain ⟨⟨⟨yn, ya, ym, yacts⟩, yp, yc⟩, hY⟩ : ∃ Y, d c = Y := ⟨_, rfl⟩
    rw [hX] at cX
    rw [hY] at cY
    have HX := ag hX
    have HY := ag hY
    clear hX hY
    obtain ⟨kx, hkx⟩ : ∃ k, key ⟨⟨xn, xa, xm, xacts⟩, xp, xc⟩ = k := ⟨_, rfl⟩
    obtain ⟨ky, hky⟩ : ∃ k, key ⟨⟨yn, ya, ym, yacts⟩, yp, yc⟩ = k := ⟨_, rfl⟩
    obtain ⟨lx, hlx⟩ : ∃ k, xacts.length = k := ⟨_, rfl⟩
    obtain ⟨ly, hly⟩ : ∃ k, yacts.length = k := ⟨_, rfl⟩
    have HCC : Hid (∀ W, Calls Tryz.prog f #[.agg #[.int .i64 xn, .int .i64 xa, .int .i64 xm, .slice xp lx xc], .agg #[.int .i64 yn, .int .i64 ya, .int .i64 ym, .slice yp ly yc]] W fun e w' => e = .returned (.int .i64 (cQ kx ky)) ∧ Kp [] W w') := fun W => by
     have := (ae HC).calls ⟨⟨xn, xa, xm, xacts⟩, xp, xc⟩ ⟨⟨yn, ya, ym, yacts⟩, yp, yc⟩ W
     rw [hkx, hky] at this
     dsimp only [dxv] at this
     rw [hlx, hly] at this
     exact this
    have HKX := ag hkx
    have HKY := ag hky
    clear hkx hky
    dsimp only at cX cY
    rw [hlx] at cX
    rw [hly] at cY
    have HLX := ag hlx
    have HLY := ag hly
    clear hlx hly
    have HS4 := ag (And.intro cX cY)
    clear cX cY
    go_wp2_with fail
    refine wp_region_held_drew (S := fun w' => (w'.cell? ⟨g, pc * 4, none⟩ = some (.int .i64 xn) ∧ w'.cell? ⟨g, pc * 4 + 1, none⟩ = some (.int .i64 xa) ∧ w'.cell? ⟨g, pc * 4 + 1 + 1, none⟩ = some (.int .i64 xm) ∧ w'.cell? ⟨g, pc * 4 + 1 + 1 + 1, none⟩ = some (.slice xp lx xc)) ∧ (w'.cell? ⟨g, c * 4, none⟩ = some (.int .i64 yn) ∧ w'.cell? ⟨g, c * 4 + 1, none⟩ = some (.int .i64 ya) ∧ w'.cell? ⟨g, c * 4 + 1 + 1, none⟩ = some (.int .i64 ym) ∧ w'.cell? ⟨g, c * 4 + 1 + 1 + 1, none⟩ = some (.slice yp ly yc))) (by kernel_rfl) (bZ (ae HS4) ((Kp.refl [] _).drew)) (fun hHeld => ?_)
    refine tk 0 ?_ rfl (by kernel_rfl) (fun _ _ _ h => h) (by rfl) ?_ hHeld ?_;rotate_left;· intro w hSw;(try dsimp only at hSw);go_simp;try with_reducible rfl
    try simp only [Act.put, sx, sy, sz]
    refine tk 1 ?_ rfl (by kernel_rfl) (fun _ _ _ h => h) (by rfl) ?_ hHeld ?_;rotate_left;· intro w hSw;(try dsimp only at hSw);go_simp;try with_reducible rfl
    try simp only [Act.put, sx, sy, sz]
    refine tk 2 ?_ rfl (by kernel_rfl) (fun _ _ _ h => h) (by rfl) ?_ hHeld ?_;rotate_left;· intro w hSw;(try dsimp only at hSw);go_simp;try with_reducible rfl
    try simp only [Act.put, sx, sy, sz]
    refine tk 3 ?_ rfl (by kernel_rfl) (fun _ _ _ h => h) (by rfl) ?_ hHeld ?_;rotate_left;· intro w hSw;(try dsimp only at hSw);go_simp;try with_reducible rfl
    try simp only [Act.put, sx, sy, sz]
    refine tk 4 ?_ rfl (by kernel_rfl) (fun _ _ _ h => h) (by rfl) ?_ hHeld ?_;rotate_left;· intro w hSw;(try dsimp only at hSw);go_simp;try with_reducible rfl
    try simp only [Act.put, sx, sy, sz]
    refine tk 5 ?_ rfl (by kernel_rfl) (fun _ _ _ h => h) (by rfl) ?_ hHeld ?_;rotate_left;· intro w hSw;(try dsimp only at hSw);go_simp;try with_reducible rfl
    try simp only [Act.put, sx, sy, sz]
    refine tk 6 ?_ rfl (by kernel_rfl) (fun _ _ _ h => h) (by rfl) ?_ hHeld ?_;rotate_left;· intro w hSw;(try dsimp only at hSw);go_simp;try with_reducible rfl
    try simp only [Act.put, sx, sy, sz]
    refine tk 7 ?_ rfl (by kernel_rfl) (fun _ _ _ h => h) (by rfl) ?_ hHeld ?_;rotate_left;· intro w hSw;(try dsimp only at hSw);go_simp;try with_reducible rfl
    try simp only [Act.put, sx, sy, sz]
    refine tk 8 ?_ rfl (by kernel_rfl) (fun _ _ _ h => h) (by rfl) ?_ hHeld ?_;rotate_left;· intro w hSw;(try dsimp only at hSw);go_simp;try with_reducible rfl
    try simp only [Act.put, sx, sy, sz]
    refine tk 9 ?_ rfl (by kernel_rfl) (fun _ _ _ h => h) (by rfl) ?_ hHeld ?_;rotate_left;· intro w hSw;(try dsimp only at hSw);go_simp;try with_reducible rfl
    try simp only [Act.put, sx, sy, sz]
    refine tk 10 ?_ rfl (by kernel_rfl) (fun _ _ _ h => h) (by rfl) ?_ hHeld ?_;rotate_left;· intro w hSw;(try dsimp only at hSw);go_simp;try with_reducible rfl
    try simp only [Act.put, sx, sy, sz]
    refine aj (i := 11) rfl (by kernel_rfl) (fun K hK => ?_)
    go_simp
    refine ((ae HCC) _).mono ?_
    rintro e w' ⟨rfl, hkp⟩
    have HKP := ag hkp
    clear hkp
    go_wp2_with fail
    refine hK.out _ _ (bZ (ae HS4) (((Kp.refl [] _).drew).trans0 (ae HKP))) (fun hHeld2 => ?_)
    clear hK K hHeld
    have hHeld := hHeld2
    clear hHeld2
    try simp only [Act.put, sx, sy, sz]
    refine tk 12 ?_ rfl (by kernel_rfl) (fun _ _ _ h => h) (by rfl) ?_ hHeld ?_;rotate_left;· intro w hSw;(try dsimp only at hSw);go_simp;try with_reducible rfl
    try simp only [Act.put, sx, sy, sz]
    refine tk 13 ?_ rfl (by kernel_rfl) (fun _ _ _ h => h) (by rfl) ?_ hHeld ?_;rotate_left;· intro w hSw;(try dsimp only at hSw);go_simp;try with_reducible rfl
    try simp only [Act.put, sx, sy, sz]
    refine wpAnyH_done (by kernel_rfl) ?_ _
    have HW := ag ((ae HK).trans0 ((Kp.refl [] wr).drew.trans0 (ae HKP)))
    clear hHeld HR HKP HS4 HCC
    generalize w' = W at *
    by_cases hless : kx < ky
    ·have i9 : cQ kx ky < 0 := de.2 hless
     have i9a : decide (cQ kx ky < 0) = true := decide_eq_true i9
     have i9b : (!decide (cQ kx ky < 0)) = false := by rw [i9a]; rfl
     rw [i9b]
     go_wp2_with fail
     go_roundw
     case measure => simp [intOf]; omega
     case rel =>
      refine ⟨i, c, hi, by omega, by omega, rfl, rfl, ⟨fun _ => ?_, (ae HV).2⟩, ae HW⟩
      rw [ae HPC, ae HX, ae HKX, ae HY, ae HKY]
      exact hless
    ·have i9 : ¬ cQ kx ky < 0 := fun q => hless (de.1 q)
     have i9a : decide (cQ kx ky < 0) = false := decide_eq_false i9
     have i9b : (!decide (cQ kx ky < 0)) = true := by rw [i9a]; rfl
     rw [i9b]
     go_wp2_with fail
     go_roundw
     case measure => simp [intOf]; omega
     case rel =>
      refine ⟨c + 1, j, by omega, by omega, hj, by go_num, rfl, ⟨(ae HV).1, fun _ => ?_⟩, ae HW⟩
      rw [show c + 1 - 1 = c by omega, show q - (c + 1) = q - 1 - c by omega, ae HPC, ae HX, ae HKX, ae HY, ae HKY]
      omega
   ·have hji : j = i := by omega
    subst hji
    have i1 : ¬ (j : Int) < (j : Int) := by omega
    obtain ⟨en, hen⟩ : ∃ en, q - j = en := ⟨_, rfl⟩
    have HCUT := ag (show jP key d (rot d j m en) a j mid en b from oy (by omega) (by omega) (by omega) (by omega) (by omega) (ae HS1) (ae HS2) (fun z1 z2 => by have z := (ae HV).1 (by omega); rw [show q - 1 - j = en - 1 by omega] at z; exact z) (fun z1 z2 => by have z := (ae HV).2 (by omega); rw [show q - j = en by omega] at z; exact z))
    have HR := ag ((ae HR0).kp0 (ae HK))
    have HKg := ag ((ae HK).mono (T := [g]) (by simp))
    clear HK HV HR0 HS1 HS2
    have HK := HKg
    clear HKg
    have j2 : (q : Int) - (j : Int) = (en : Int) := by omega
    have e1 : j ≤ mid := by omega
    have e2 : mid + m = j + en := by omega
    clear hen
    generalize j = s at *
    by_cases c1 : s < mid
    ·by_cases c2 : a < s
     ·by_cases c3 : en < b
      ·skip
       have fsm : (s : Int) < (m : Int) := by omega
       have fme : (m : Int) < (en : Int) := by omega
       have fas : (a : Int) < (s : Int) := by omega
       have fsd : (s : Int) < (mid : Int) := by omega
       have fde : (mid : Int) < (en : Int) := by omega
       have feb : (en : Int) < (b : Int) := by omega
       have HC1 := ag (ft f g n cap s m en d wr (ae HR) (by omega) (by omega) (by omega) hn)
       clear HR
       go_wp2_with fail
       refine (ae HC1).mono ?_
       rintro e w2 ⟨rfl, r1, r2⟩
       have HE := ag r1
       have HK2 := ag (eI (ae HK) r2)
       clear r1 r2 HK
       have HC2 := ag ((ae IH) a s mid (rot d s m en) w2 (by omega) (ae HE) (ae HCUT).1 (ae HCUT).2.1 (by omega) (by omega) (by omega))
       go_wp2_with fail
       refine (ae HC2).mono ?_
       rintro e w3 ⟨rfl, g', r1, r2, r3, r4⟩
       have HE3 := ag r1
       have HK3 := ag (eI (ae HK2) r2)
       have HL := ag (And.intro r3 r4)
       clear r1 r2 r3 r4 HE HK2
       have HPR := ag ((ae HCUT).preR (by omega) (ae HL))
       have HC3 := ag ((ae IH) mid en b g' w3 (by omega) (ae HE3) (ae HPR).1 (ae HPR).2 (by omega) (by omega) (by omega))
       go_wp2_with fail
       refine (ae HC3).mono ?_
       rintro e w4 ⟨rfl, f', r1, r2, r3, r4⟩
       have HE4 := ag r1
       have HK4 := ag (eI (ae HK3) r2)
       have HRR := ag (And.intro r3 r4)
       clear r1 r2 r3 r4
       go_wp2_with fail
       go_end0
       exact ⟨rfl, _, ae HE4, ae HK4, (ae HCUT).fin (by omega) (by omega) (ae HL) (ae HRR)⟩
      ·skip
       have fsm : (s : Int) < (m : Int) := by omega
       have fme : (m : Int) < (en : Int) := by omega
       have fas : (a : Int) < (s : Int) := by omega
       have fsd : (s : Int) < (mid : Int) := by omega
       have fde : (mid : Int) < (en : Int) := by omega
       have feb : ¬ (en : Int) < (b : Int) := by omega
       have HC1 := ag (ft f g n cap s m en d wr (ae HR) (by omega) (by omega) (by omega) hn)
       clear HR
       go_wp2_with fail
       refine (ae HC1).mono ?_
       rintro e w2 ⟨rfl, r1, r2⟩
       have HE := ag r1
       have HK2 := ag (eI (ae HK) r2)
       clear r1 r2 HK
       have HC2 := ag ((ae IH) a s mid (rot d s m en) w2 (by omega) (ae HE) (ae HCUT).1 (ae HCUT).2.1 (by omega) (by omega) (by omega))
       go_wp2_with fail
       refine (ae HC2).mono ?_
       rintro e w3 ⟨rfl, g', r1, r2, r3, r4⟩
       have HE3 := ag r1
       have HK3 := ag (eI (ae HK2) r2)
       have HL := ag (And.intro r3 r4)
       clear r1 r2 r3 r4 HE HK2
       have HRR := ag ((ae HCUT).noR (ae HL) (by omega))
       go_wp2_with fail
       go_end0
       exact ⟨rfl, _, ae HE3, ae HK3, (ae HCUT).fin (by omega) (by omega) (ae HL) (ae HRR)⟩
     ·by_cases c3 : en < b
      ·skip
       have fsm : (s : Int) < (m : Int) := by omega
       have fme : (m : Int) < (en : Int) := by omega
       have fas : ¬ (a : Int) < (s : Int) := by omega
       have fsd : (s : Int) < (mid : Int) := by omega
       have fde : (mid : Int) < (en : Int) := by omega
       have feb : (en : Int) < (b : Int) := by omega
       have HC1 := ag (ft f g n cap s m en d wr (ae HR) (by omega) (by omega) (by omega) hn)
       clear HR
       go_wp2_with fail
       refine (ae HC1).mono ?_
       rintro e w2 ⟨rfl, r1, r2⟩
       have HE := ag r1
       have HK2 := ag (eI (ae HK) r2)
       clear r1 r2 HK
       have HL := ag ((ae HCUT).noL (by omega))
       have HPR := ag ((ae HCUT).preR (by omega) (ae HL))
       have HC3 := ag ((ae IH) mid en b (rot d s m en) w2 (by omega) (ae HE) (ae HPR).1 (ae HPR).2 (by omega) (by omega) (by omega))
       go_wp2_with fail
       refine (ae HC3).mono ?_
       rintro e w4 ⟨rfl, f', r1, r2, r3, r4⟩
       have HE4 := ag r1
       have HK4 := ag (eI (ae HK2) r2)
       have HRR := ag (And.intro r3 r4)
       clear r1 r2 r3 r4
       go_wp2_with fail
       go_end0
       exact ⟨rfl, _, ae HE4, ae HK4, (ae HCUT).fin (by omega) (by omega) (ae HL) (ae HRR)⟩
      ·skip
       have fsm : (s : Int) < (m : Int) := by omega
       have fme : (m : Int) < (en : Int) := by omega
       have fas : ¬ (a : Int) < (s : Int) := by omega
       have fsd : (s : Int) < (mid : Int) := by omega
       have fde : (mid : Int) < (en : Int) := by omega
       have feb : ¬ (en : Int) < (b : Int) := by omega
       have HC1 := ag (ft f g n cap s m en d wr (ae HR) (by omega) (by omega) (by omega) hn)
       clear HR
       go_wp2_with fail
       refine (ae HC1).mono ?_
       rintro e w2 ⟨rfl, r1, r2⟩
       have HE := ag r1
       have HK2 := ag (eI (ae HK) r2)
       clear r1 r2 HK
       have HL := ag ((ae HCUT).noL (by omega))
       have HRR := ag ((ae HCUT).noR (ae HL) (by omega))
       go_wp2_with fail
       go_end0
       exact ⟨rfl, _, ae HE, ae HK2, (ae HCUT).fin (by omega) (by omega) (ae HL) (ae HRR)⟩
    ·skip
     have fsm : (s : Int) < (m : Int) := by omega
     have fme : ¬ (m : Int) < (en : Int) := by omega
     have fas : (a : Int) < (s : Int) := by omega
     have fsd : ¬ (s : Int) < (mid : Int) := by omega
     have fde : (mid : Int) < (en : Int) := by omega
     have feb : (en : Int) < (b : Int) := by omega
     have HE := ag (show bL wr g n (rot d s m en) from by first | (rw [show s = m by omega, kV]; exact ae HR) | (rw [show en = m by omega, kU]; exact ae HR))
     clear HR
     have HL := ag ((ae HCUT).noL (by omega))
     have HPR := ag ((ae HCUT).preR (by omega) (ae HL))
     have HC3 := ag ((ae IH) mid en b (rot d s m en) wr (by omega) (ae HE) (ae HPR).1 (ae HPR).2 (by omega) (by omega) (by omega))
     go_wp2_with fail
     refine (ae HC3).mono ?_
     rintro e w4 ⟨rfl, f', r1, r2, r3, r4⟩
     have HE4 := ag r1
     have HK4 := ag (eI (ae HK) r2)
     have HRR := ag (And.intro r3 r4)
     clear r1 r2 r3 r4
     go_wp2_with fail
     go_end0
     exact ⟨rfl, _, ae HE4, ae HK4, (ae HCUT).fin (by omega) (by omega) (ae HL) (ae HRR)⟩
 ·have k6 : ¬ (mid : Int) < (m : Int) := by omega
  go_enter Tryz.func99, Tryz.ntmps99
  go_wp2_with fail
  go_loopw [20, 21, 23] (fun x y _ wr => ∃ i j : Nat, a ≤ i ∧ i ≤ j ∧ j ≤ m ∧ x = .int .i64 i ∧ y = .int .i64 j ∧ Hid ((j < m → key (d (q - 1 - j)) < key (d j)) ∧ (a < i → key (d (i - 1)) ≤ key (d (q - i)))) ∧ Hid (Kp [] w wr)) (fun x y _ _ => (intOf y).toNat - (intOf x).toNat)
  case atStart => exact ⟨a, m, Nat.le_refl _, by omega, Nat.le_refl _, by first | rfl | go_num, by first | rfl | go_num, ⟨fun z => by omega, fun z => by omega⟩, Kp.refl _ _⟩
  case round =>
   obtain ⟨i, j, hi, hij, hj, rfl, rfl, HV, HK⟩ := hrel
   by_cases hlt : i < j
   ·have i1 : (i : Int) < (j : Int) := by omega
    obtain ⟨c, hcc⟩ : ∃ c, (i + j) / 2 = c := ⟨_, rfl⟩
    have i2 : ((i : Int) + (j : Int)) / 2 = (c : Int) := by omega
    have i3 : (0 : Int) ≤ (c : Int) := by omega
    have i4 : (c : Int) < (n : Int) := by omega
    have i7 : i ≤ c := by omega
    have i8 : c < j := by omega
    clear hcc
    obtain ⟨pc, hpc⟩ : ∃ pc, q - 1 - c = pc := ⟨_, rfl⟩
    have i5 : (0 : Int) ≤ (pc : Int) := by omega
    have i6 : (pc : Int) < (n : Int) := by omega
    have j1 : IntKind.i64.wrap ((qp : Int) - (c : Int)) = (pc : Int) := by rw [bv _ (by omega) (by omega)]; omega
    have HPC := ag hpc
    clear hpc
    have HR := ag ((ae HR0).kp0 (ae HK))
    have cX := (ae HR).cells (i := pc) (by omega)
    have cY := (ae HR).cells (i := c) (by omega)
    obtain ⟨⟨⟨xn, xa, xm, xacts⟩, xp, xc⟩, hX⟩ : ∃ X, d pc = X := ⟨_, rfl⟩
    obtain ⟨⟨⟨yn, ya, ym, yacts⟩, yp, yc⟩, hY⟩ : ∃ Y, d c = Y := ⟨_, rfl⟩
    rw [hX] at cX
    rw [hY] at cY
    have HX := ag hX
    have HY := ag hY
    clear hX hY
    obtain ⟨kx, hkx⟩ : ∃ k, key ⟨⟨xn, xa, xm, xacts⟩, xp, xc⟩ = k := ⟨_, rfl⟩
    obtain ⟨ky, hky⟩ : ∃ k, key ⟨⟨yn, ya, ym, yacts⟩, yp, yc⟩ = k := ⟨_, rfl⟩
    obtain ⟨lx, hlx⟩ : ∃ k, xacts.length = k := ⟨_, rfl⟩
    obtain ⟨ly, hly⟩ : ∃ k, yacts.length = k := ⟨_, rfl⟩
    have HCC : Hid (∀ W, Calls Tryz.prog f #[.agg #[.int .i64 xn, .int .i64 xa, .int .i64 xm, .slice xp lx xc], .agg #[.int .i64 yn, .int .i64 ya, .int .i64 ym, .slice yp ly yc]] W fun e w' => e = .returned (.int .i64 (cQ kx ky)) ∧ Kp [] W w') := fun W => by
     have := (ae HC).calls ⟨⟨xn, xa, xm, xacts⟩, xp, xc⟩ ⟨⟨yn, ya, ym, yacts⟩, yp, yc⟩ W
     rw [hkx, hky] at this
     dsimp only [dxv] at this
     rw [hlx, hly] at this
     exact this
    have HKX := ag hkx
    have HKY := ag hky
    clear hkx hky
    dsimp only at cX cY
    rw [hlx] at cX
    rw [hly] at cY
    have HLX := ag hlx
    have HLY := ag hly
    clear hlx hly
    have HS4 := ag (And.intro cX cY)
    clear cX cY
    go_wp2_with fail
    refine wp_region_held_drew (S := fun w' => (w'.cell? ⟨g, pc * 4, none⟩ = some (.int .i64 xn) ∧ w'.cell? ⟨g, pc * 4 + 1, none⟩ = some (.int .i64 xa) ∧ w'.cell? ⟨g, pc * 4 + 1 + 1, none⟩ = some (.int .i64 xm) ∧ w'.cell? ⟨g, pc * 4 + 1 + 1 + 1, none⟩ = some (.slice xp lx xc)) ∧ (w'.cell? ⟨g, c * 4, none⟩ = some (.int .i64 yn) ∧ w'.cell? ⟨g, c * 4 + 1, none⟩ = some (.int .i64 ya) ∧ w'.cell? ⟨g, c * 4 + 1 + 1, none⟩ = some (.int .i64 ym) ∧ w'.cell? ⟨g, c * 4 + 1 + 1 + 1, none⟩ = some (.slice yp ly yc))) (by kernel_rfl) (bZ (ae HS4) ((Kp.refl [] _).drew)) (fun hHeld => ?_)
    refine tk 0 ?_ rfl (by kernel_rfl) (fun _ _ _ h => h) (by rfl) ?_ hHeld ?_;rotate_left;· intro w hSw;(try dsimp only at hSw);go_simp;try with_reducible rfl
    try simp only [Act.put, sx, sy, sz]
    refine tk 1 ?_ rfl (by kernel_rfl) (fun _ _ _ h => h) (by rfl) ?_ hHeld ?_;rotate_left;· intro w hSw;(try dsimp only at hSw);go_simp;try with_reducible rfl
    try simp only [Act.put, sx, sy, sz]
    refine tk 2 ?_ rfl (by kernel_rfl) (fun _ _ _ h => h) (by rfl) ?_ hHeld ?_;rotate_left;· intro w hSw;(try dsimp only at hSw);go_simp;try with_reducible rfl
    try simp only [Act.put, sx, sy, sz]
    refine tk 3 ?_ rfl (by kernel_rfl) (fun _ _ _ h => h) (by rfl) ?_ hHeld ?_;rotate_left;· intro w hSw;(try dsimp only at hSw);go_simp;try with_reducible rfl
    try simp only [Act.put, sx, sy, sz]
    refine tk 4 ?_ rfl (by kernel_rfl) (fun _ _ _ h => h) (by rfl) ?_ hHeld ?_;rotate_left;· intro w hSw;(try dsimp only at hSw);go_simp;try with_reducible rfl
    try simp only [Act.put, sx, sy, sz]
    refine tk 5 ?_ rfl (by kernel_rfl) (fun _ _ _ h => h) (by rfl) ?_ hHeld ?_;rotate_left;· intro w hSw;(try dsimp only at hSw);go_simp;try with_reducible rfl
    try simp only [Act.put, sx, sy, sz]
    refine tk 6 ?_ rfl (by kernel_rfl) (fun _ _ _ h => h) (by rfl) ?_ hHeld ?_;rotate_left;· intro w hSw;(try dsimp only at hSw);go_simp;try with_reducible rfl
    try simp only [Act.put, sx, sy, sz]
    refine tk 7 ?_ rfl (by kernel_rfl) (fun _ _ _ h => h) (by rfl) ?_ hHeld ?_;rotate_left;· intro w hSw;(try dsimp only at hSw);go_simp;try with_reducible rfl
    try simp only [Act.put, sx, sy, sz]
    refine tk 8 ?_ rfl (by kernel_rfl) (fun _ _ _ h => h) (by rfl) ?_ hHeld ?_;rotate_left;· intro w hSw;(try dsimp only at hSw);go_simp;try with_reducible rfl
    try simp only [Act.put, sx, sy, sz]
    refine tk 9 ?_ rfl (by kernel_rfl) (fun _ _ _ h => h) (by rfl) ?_ hHeld ?_;rotate_left;· intro w hSw;(try dsimp only at hSw);go_simp;try with_reducible rfl
    try simp only [Act.put, sx, sy, sz]
    refine tk 10 ?_ rfl (by kernel_rfl) (fun _ _ _ h => h) (by rfl) ?_ hHeld ?_;rotate_left;· intro w hSw;(try dsimp only at hSw);go_simp;try with_reducible rfl
    try simp only [Act.put, sx, sy, sz]
    refine aj (i := 11) rfl (by kernel_rfl) (fun K hK => ?_)
    go_simp
    refine ((ae HCC) _).mono ?_
    rintro e w' ⟨rfl, hkp⟩
    have HKP := ag hkp
    clear hkp
    go_wp2_with fail
    refine hK.out _ _ (bZ (ae HS4) (((Kp.refl [] _).drew).trans0 (ae HKP))) (fun hHeld2 => ?_)
    clear hK K hHeld
    have hHeld := hHeld2
    clear hHeld2
    try simp only [Act.put, sx, sy, sz]
    refine tk 12 ?_ rfl (by kernel_rfl) (fun _ _ _ h => h) (by rfl) ?_ hHeld ?_;rotate_left;· intro w hSw;(try dsimp only at hSw);go_simp;try with_reducible rfl
    try simp only [Act.put, sx, sy, sz]
    refine tk 13 ?_ rfl (by kernel_rfl) (fun _ _ _ h => h) (by rfl) ?_ hHeld ?_;rotate_left;· intro w hSw;(try dsimp only at hSw);go_simp;try with_reducible rfl
    try simp only [Act.put, sx, sy, sz]
    refine wpAnyH_done (by kernel_rfl) ?_ _
    have HW := ag ((ae HK).trans0 ((Kp.refl [] wr).drew.trans0 (ae HKP)))
    clear hHeld HR HKP HS4 HCC
    generalize w' = W at *
    by_cases hless : kx < ky
    ·have i9 : cQ kx ky < 0 := de.2 hless
     have i9a : decide (cQ kx ky < 0) = true := decide_eq_true i9
     have i9b : (!decide (cQ kx ky < 0)) = false := by rw [i9a]; rfl
     rw [i9b]
     go_wp2_with fail
     go_roundw
     case measure => simp [intOf]; omega
     case rel =>
      refine ⟨i, c, hi, by omega, by omega, rfl, rfl, ⟨fun _ => ?_, (ae HV).2⟩, ae HW⟩
      rw [ae HPC, ae HX, ae HKX, ae HY, ae HKY]
      exact hless
    ·have i9 : ¬ cQ kx ky < 0 := fun q => hless (de.1 q)
     have i9a : decide (cQ kx ky < 0) = false := decide_eq_false i9
     have i9b : (!decide (cQ kx ky < 0)) = true := by rw [i9a]; rfl
     rw [i9b]
     go_wp2_with fail
     go_roundw
     case measure => simp [intOf]; omega
     case rel =>
      refine ⟨c + 1, j, by omega, by omega, hj, by go_num, rfl, ⟨(ae HV).1, fun _ => ?_⟩, ae HW⟩
      rw [show c + 1 - 1 = c by omega, show q - (c + 1) = q - 1 - c by omega, ae HPC, ae HX, ae HKX, ae HY, ae HKY]
      omega
   ·have hji : j = i := by omega
    subst hji
    have i1 : ¬ (j : Int) < (j : Int) := by omega
    obtain ⟨en, hen⟩ : ∃ en, q - j = en := ⟨_, rfl⟩
    have HCUT := ag (show jP key d (rot d j m en) a j mid en b from oy (by omega) (by omega) (by omega) (by omega) (by omega) (ae HS1) (ae HS2) (fun z1 z2 => by have z := (ae HV).1 (by omega); rw [show q - 1 - j = en - 1 by omega] at z; exact z) (fun z1 z2 => by have z := (ae HV).2 (by omega); rw [show q - j = en by omega] at z; exact z))
    have HR := ag ((ae HR0).kp0 (ae HK))
    have HKg := ag ((ae HK).mono (T := [g]) (by simp))
    clear HK HV HR0 HS1 HS2
    have HK := HKg
    clear HKg
    have j2 : (q : Int) - (j : Int) = (en : Int) := by omega
    have e1 : j ≤ mid := by omega
    have e2 : mid + m = j + en := by omega
    clear hen
    generalize j = s at *
    by_cases c1 : s < m
    ·by_cases c2 : a < s
     ·by_cases c3 : en < b
      ·skip
       have fsm : (s : Int) < (m : Int) := by omega
       have fme : (m : Int) < (en : Int) := by omega
       have fas : (a : Int) < (s : Int) := by omega
       have fsd : (s : Int) < (mid : Int) := by omega
       have fde : (mid : Int) < (en : Int) := by omega
       have feb : (en : Int) < (b : Int) := by omega
       have HC1 := ag (ft f g n cap s m en d wr (ae HR) (by omega) (by omega) (by omega) hn)
       clear HR
       go_wp2_with fail
       refine (ae HC1).mono ?_
       rintro e w2 ⟨rfl, r1, r2⟩
       have HE := ag r1
       have HK2 := ag (eI (ae HK) r2)
       clear r1 r2 HK
       have HC2 := ag ((ae IH) a s mid (rot d s m en) w2 (by omega) (ae HE) (ae HCUT).1 (ae HCUT).2.1 (by omega) (by omega) (by omega))
       go_wp2_with fail
       refine (ae HC2).mono ?_
       rintro e w3 ⟨rfl, g', r1, r2, r3, r4⟩
       have HE3 := ag r1
       have HK3 := ag (eI (ae HK2) r2)
       have HL := ag (And.intro r3 r4)
       clear r1 r2 r3 r4 HE HK2
       have HPR := ag ((ae HCUT).preR (by omega) (ae HL))
       have HC3 := ag ((ae IH) mid en b g' w3 (by omega) (ae HE3) (ae HPR).1 (ae HPR).2 (by omega) (by omega) (by omega))
       go_wp2_with fail
       refine (ae HC3).mono ?_
       rintro e w4 ⟨rfl, f', r1, r2, r3, r4⟩
       have HE4 := ag r1
       have HK4 := ag (eI (ae HK3) r2)
       have HRR := ag (And.intro r3 r4)
       clear r1 r2 r3 r4
       go_wp2_with fail
       go_end0
       exact ⟨rfl, _, ae HE4, ae HK4, (ae HCUT).fin (by omega) (by omega) (ae HL) (ae HRR)⟩
      ·skip
       have fsm : (s : Int) < (m : Int) := by omega
       have fme : (m : Int) < (en : Int) := by omega
       have fas : (a : Int) < (s : Int) := by omega
       have fsd : (s : Int) < (mid : Int) := by omega
       have fde : (mid : Int) < (en : Int) := by omega
       have feb : ¬ (en : Int) < (b : Int) := by omega
       have HC1 := ag (ft f g n cap s m en d wr (ae HR) (by omega) (by omega) (by omega) hn)
       clear HR
       go_wp2_with fail
       refine (ae HC1).mono ?_
       rintro e w2 ⟨rfl, r1, r2⟩
       have HE := ag r1
       have HK2 := ag (eI (ae HK) r2)
       clear r1 r2 HK
       have HC2 := ag ((ae IH) a s mid (rot d s m en) w2 (by omega) (ae HE) (ae HCUT).1 (ae HCUT).2.1 (by omega) (by omega) (by omega))
       go_wp2_with fail
       refine (ae HC2).mono ?_
       rintro e w3 ⟨rfl, g', r1, r2, r3, r4⟩
       have HE3 := ag r1
       have HK3 := ag (eI (ae HK2) r2)
       have HL := ag (And.intro r3 r4)
       clear r1 r2 r3 r4 HE HK2
       have HRR := ag ((ae HCUT).noR (ae HL) (by omega))
       go_wp2_with fail
       go_end0
       exact ⟨rfl, _, ae HE3, ae HK3, (ae HCUT).fin (by omega) (by omega) (ae HL) (ae HRR)⟩
     ·by_cases c3 : en < b
      ·skip
       have fsm : (s : Int) < (m : Int) := by omega
       have fme : (m : Int) < (en : Int) := by omega
       have fas : ¬ (a : Int) < (s : Int) := by omega
       have fsd : (s : Int) < (mid : Int) := by omega
       have fde : (mid : Int) < (en : Int) := by omega
       have feb : (en : Int) < (b : Int) := by omega
       have HC1 := ag (ft f g n cap s m en d wr (ae HR) (by omega) (by omega) (by omega) hn)
       clear HR
       go_wp2_with fail
       refine (ae HC1).mono ?_
       rintro e w2 ⟨rfl, r1, r2⟩
       have HE := ag r1
       have HK2 := ag (eI (ae HK) r2)
       clear r1 r2 HK
       have HL := ag ((ae HCUT).noL (by omega))
       have HPR := ag ((ae HCUT).preR (by omega) (ae HL))
       have HC3 := ag ((ae IH) mid en b (rot d s m en) w2 (by omega) (ae HE) (ae HPR).1 (ae HPR).2 (by omega) (by omega) (by omega))
       go_wp2_with fail
       refine (ae HC3).mono ?_
       rintro e w4 ⟨rfl, f', r1, r2, r3, r4⟩
       have HE4 := ag r1
       have HK4 := ag (eI (ae HK2) r2)
       have HRR := ag (And.intro r3 r4)
       clear r1 r2 r3 r4
       go_wp2_with fail
       go_end0
       exact ⟨rfl, _, ae HE4, ae HK4, (ae HCUT).fin (by omega) (by omega) (ae HL) (ae HRR)⟩
      ·skip
       have fsm : (s : Int) < (m : Int) := by omega
       have fme : (m : Int) < (en : Int) := by omega
       have fas : ¬ (a : Int) < (s : Int) := by omega
       have fsd : (s : Int) < (mid : Int) := by omega
       have fde : (mid : Int) < (en : Int) := by omega
       have feb : ¬ (en : Int) < (b : Int) := by omega
       have HC1 := ag (ft f g n cap s m en d wr (ae HR) (by omega) (by omega) (by omega) hn)
       clear HR
       go_wp2_with fail
       refine (ae HC1).mono ?_
       rintro e w2 ⟨rfl, r1, r2⟩
       have HE := ag r1
       have HK2 := ag (eI (ae HK) r2)
       clear r1 r2 HK
       have HL := ag ((ae HCUT).noL (by omega))
       have HRR := ag ((ae HCUT).noR (ae HL) (by omega))
       go_wp2_with fail
       go_end0
       exact ⟨rfl, _, ae HE, ae HK2, (ae HCUT).fin (by omega) (by omega) (ae HL) (ae HRR)⟩
    ·by_cases c2 : m < mid
     ·skip
      have fsm : ¬ (s : Int) < (m : Int) := by omega
      have fme : (m : Int) < (en : Int) := by omega
      have fas : (a : Int) < (s : Int) := by omega
      have fsd : (s : Int) < (mid : Int) := by omega
      have fde : ¬ (mid : Int) < (en : Int) := by omega
      have feb : (en : Int) < (b : Int) := by omega
      have HE := ag (show bL wr g n (rot d s m en) from by first | (rw [show s = m by omega, kV]; exact ae HR) | (rw [show en = m by omega, kU]; exact ae HR))
      clear HR
      have HC2 := ag ((ae IH) a s mid (rot d s m en) wr (by omega) (ae HE) (ae HCUT).1 (ae HCUT).2.1 (by omega) (by omega) (by omega))
      go_wp2_with fail
      refine (ae HC2).mono ?_
      rintro e w3 ⟨rfl, g', r1, r2, r3, r4⟩
      have HE3 := ag r1
      have HK3 := ag (eI (ae HK) r2)
      have HL := ag (And.intro r3 r4)
      clear r1 r2 r3 r4 HE HK
      have HRR := ag ((ae HCUT).noR (ae HL) (by omega))
      go_wp2_with fail
      go_end0
      exact ⟨rfl, _, ae HE3, ae HK3, (ae HCUT).fin (by omega) (by omega) (ae HL) (ae HRR)⟩
     ·skip
      have fsm : ¬ (s : Int) < (m : Int) := by omega
      have fme : ¬ (m : Int) < (en : Int) := by omega
      have fas : (a : Int) < (s : Int) := by omega
      have fsd : ¬ (s : Int) < (mid : Int) := by omega
      have fde : ¬ (mid : Int) < (en : Int) := by omega
      have feb : (en : Int) < (b : Int) := by omega
      have HE := ag (show bL wr g n (rot d s m en) from by first | (rw [show s = m by omega, kV]; exact ae HR) | (rw [show en = m by omega, kU]; exact ae HR))
      clear HR
      have HL := ag ((ae HCUT).noL (by omega))
      have HRR := ag ((ae HCUT).noR (ae HL) (by omega))
      go_wp2_with fail
      go_end0
      exact ⟨rfl, _, ae HE, ae HK, (ae HCUT).fin (by omega) (by omega) (ae HL) (ae HRR)⟩
theorem lV {f : Nat} {key : Dx → Int} (hc : Cmp f key) (g n cap : Nat) (hn : n ≤ 100000) : ∀ (N a m b : Nat) (d : Nat → Dx) (w : World), b - a ≤ N → bL w g n d → aM key d a m → aM key d m b → a < m → m < b → b ≤ n →
 Calls Tryz.prog 99 #[.slice (some ⟨g, 0, none⟩) n cap, .int .i64 a, .int .i64 m, .int .i64 b, .func (.func f) #[] #[]] w fun e w' => mT key g n a b d w e w' := by
 intro N
 induction N with
 | zero => intro a m b d w h0 h h1 h2 h3 h4 h5; omega
 | succ N ih =>
   intro a m b d w h0 h h1 h2 h3 h4 h5
   by_cases c1 : m = a + 1
   ·exact Ao hc g n cap a m b d w h h1 h2 h3 h4 h5 hn c1
   ·by_cases c2 : b = m + 1
    ·exact An hc g n cap a m b d w h h1 h2 h3 h4 h5 hn c2 c1
    ·exact Am hc g n cap a m b d w h h1 h2 h3 h4 h5 hn c1 c2 (fun a' m' b' d' w' q0 q1 q2 q3 q4 q5 q6 => ih a' m' b' d' w' (by omega) q1 q2 q3 q4 q5 q6)
structure Bl1 (key : Dx → Int) (A : Option Addr) (n : Nat) (d : Nat → Dx) (w wr : World) (lo : Nat) : Prop where
 ex : ∃ dk u, SlD wr A n dk ∧ Kp (obd A) w wr ∧ Stb key 0 n d dk ∧ lo = u * 20 ∧ ∀ t, t < u → aM key dk (t * 20) (t * 20 + 20)
structure Bl2 (key : Dx → Int) (A : Option Addr) (n : Nat) (d : Nat → Dx) (w wr : World) (s : Nat) : Prop where
 ex : ∃ dk, SlD wr A n dk ∧ Kp (obd A) w wr ∧ Stb key 0 n d dk ∧ Bks key dk s 0 n
structure Bl3 (key : Dx → Int) (g n : Nat) (d : Nat → Dx) (w wr : World) (s s2 lo : Nat) : Prop where
 ex : ∃ dk u, bL wr g n dk ∧ Kp [g] w wr ∧ Stb key 0 n d dk ∧ lo = u * s2 ∧ (∀ t, t < u → aM key dk (t * s2) (t * s2 + s2)) ∧ Bks key dk s lo n
section
variable {key : Dx → Int} {A : Option Addr} {g n : Nat} {d : Nat → Dx} {w wr w' : World} {s s2 lo hi : Nat}
theorem Bl1.next (h : Bl1 key A n d w wr lo) (hh : hi = lo + 20) (hn : hi ≤ n) : ∃ dk, SlD wr A n dk ∧ ∀ w' , (∃ d', SlD w' A n d' ∧ Kp (obd A) wr w' ∧ Stb key lo hi dk d' ∧ aM key d' lo hi) → Bl1 key A n d w w' hi := by
 obtain ⟨dk, u, h1, h2, h3, h4, h5⟩ := h.ex
 refine ⟨dk, h1, fun w' ⟨d', k1, k2, k3, k4⟩ => ⟨d', u + 1, k1, h2.trans k2 (fun x hx => .inl hx), h3.trans (k3.wide (Nat.zero_le _) (by omega) hn), by rw [hh, h4, Nat.succ_mul], ?_⟩⟩
 subst hh
 exact mQ h5 (by rw [← h4]; exact k4) (fun x hx => k3.out x (by omega))
theorem Bl1.last (h : Bl1 key A n d w wr lo) (hn : lo ≤ n) (hh : n < lo + 20) : ∃ dk, SlD wr A n dk ∧ ∀ w' , (∃ d', SlD w' A n d' ∧ Kp (obd A) wr w' ∧ Stb key lo n dk d' ∧ aM key d' lo n) → Bl2 key A n d w w' 20 := by
 obtain ⟨dk, u, h1, h2, h3, h4, h5⟩ := h.ex
 refine ⟨dk, h1, fun w' ⟨d', k1, k2, k3, k4⟩ => ⟨d', k1, h2.trans k2 (fun x hx => .inl hx), h3.trans (k3.wide (Nat.zero_le _) hn (Nat.le_refl _)), ?_⟩⟩
 refine nM (u := u) (fun t ht => ?_) (by rw [← h4]; exact k4) (by omega)
 have := Nat.mul_le_mul_right 20 (show t + 1 ≤ u by omega)
 rw [Nat.succ_mul] at this
 exact (h5 t ht).congr (fun x _ q => k3.out x (by omega))
theorem Bl2.start (h : Bl2 key A n d w wr s) (hn : 0 < n) (_hs2 : s2 = 2 * s) : ∃ g, A = some ⟨g, 0, none⟩ ∧ Bl3 key g n d w wr s s2 0 := by
 obtain ⟨dk, h1, h2, h3, h4⟩ := h.ex
 obtain ⟨g, rfl, h5⟩ := h1 hn
 exact ⟨g, rfl, dk, 0, h5, h2, h3, by omega, fun t ht => by omega, h4⟩
theorem Bl3.next (h : Bl3 key g n d w wr s s2 lo) (hs2 : s2 = 2 * s) (hn : lo + s2 ≤ n) : ∃ dk, bL wr g n dk ∧ aM key dk lo (lo + s) ∧ aM key dk (lo + s) (lo + s2) ∧ ∀ w' , (∃ d', bL w' g n d' ∧ Kp [g] wr w' ∧ Stb key lo (lo + s2) dk d' ∧ aM key d' lo (lo + s2)) → Bl3 key g n d w w' s s2 (lo + s2) := by
 obtain ⟨dk, u, h1, h2, h3, h4, h5, h6⟩ := h.ex
 obtain ⟨b1, b2⟩ := iI h6
 refine ⟨dk, h1, b1.sub (Nat.le_refl _) (by omega), b2.sub (Nat.le_refl _) (by omega), fun w' ⟨d', k1, k2, k3, k4⟩ => ⟨d', u + 1, k1, h2.trans k2 (fun x hx => .inl hx), h3.trans (k3.wide (Nat.zero_le _) (by omega) hn), by rw [h4, Nat.succ_mul], ?_, ?_⟩⟩
 ·exact mQ h5 (by rw [← h4]; exact k4) (fun x hx => k3.out x (by omega))
 ·have := tT (e := d') h6 (fun x hx => k3.out x (by omega))
  rw [← hs2] at this
  exact this
theorem Bl3.last (h : Bl3 key g n d w wr s s2 lo) (hs2 : s2 = 2 * s) (hl : lo ≤ n) (hn : n < lo + s2) (hm : lo + s < n) : ∃ dk, bL wr g n dk ∧ aM key dk lo (lo + s) ∧ aM key dk (lo + s) n ∧ ∀ w' , (∃ d', bL w' g n d' ∧ Kp [g] wr w' ∧ Stb key lo n dk d' ∧ aM key d' lo n) → Bl2 key (some ⟨g, 0, none⟩) n d w w' s2 := by
 obtain ⟨dk, u, h1, h2, h3, h4, h5, h6⟩ := h.ex
 obtain ⟨b1, b2⟩ := iI h6
 refine ⟨dk, h1, b1.sub (Nat.le_refl _) (by omega), b2.sub (Nat.le_refl _) (by omega), fun w' ⟨d', k1, k2, k3, k4⟩ => ⟨d', fun _ => ⟨g, rfl, k1⟩, h2.trans k2 (fun x hx => .inl hx), h3.trans (k3.wide (Nat.zero_le _) hl (Nat.le_refl _)), ?_⟩⟩
 refine nM (u := u) (fun t ht => ?_) (by rw [← h4]; exact k4) (by omega)
 have := Nat.mul_le_mul_right s2 (show t + 1 ≤ u by omega)
 rw [Nat.succ_mul] at this
 exact (h5 t ht).congr (fun x _ q => k3.out x (by omega))
theorem Bl3.lastNo (h : Bl3 key g n d w wr s s2 lo) (hn : n < lo + s2) (hm : ¬ lo + s < n) : Bl2 key (some ⟨g, 0, none⟩) n d w wr s2 := by
 obtain ⟨dk, u, h1, h2, h3, h4, h5, h6⟩ := h.ex
 obtain ⟨b1, b2⟩ := iI h6
 refine ⟨dk, fun _ => ⟨g, rfl, h1⟩, h2, h3, ?_⟩
 exact nM (u := u) h5 (by rw [← h4]; exact b1.sub (Nat.le_refl _) (by omega)) (by omega)
end
theorem xE {f : Nat} {key : Dx → Int} (hc : Cmp f key) (A : Option Addr) (n cap : Nat) (d : Nat → Dx) (w : World) (h : SlD w A n d) (hn : n ≤ 100000) :
 Calls Tryz.prog 66 #[.slice A n cap, .int .i64 n, .func (.func f) #[] #[]] w fun e w' => ud key A n 0 n d w e w' := by
 have HC := ag hc
 have HB0 := ag (show Bl1 key A n d w w 0 from ⟨d, 0, h, Kp.refl _ _, Stb.refl _ _ _ _, by omega, fun t ht => by omega⟩)
 clear h hc
 go_enter Tryz.func66, Tryz.ntmps66
 go_wp2_with fail
 go_loopw [7, 8] (fun x y wr => ∃ lo hi : Nat, lo ≤ n ∧ Hid (hi = lo + 20) ∧ x = .int .i64 lo ∧ y = .int .i64 hi ∧ Hid (Bl1 key A n d w wr lo)) (fun x _ _ => n - (intOf x).toNat)
 case atStart => exact ⟨0, 20, Nat.zero_le _, rfl, rfl, rfl, HB0⟩
 case round =>
  obtain ⟨lo, hi, hl, HH, rfl, rfl, HB⟩ := hrel
  have hh := ae HH
  by_cases hlt : hi ≤ n
  ·have i1 : (hi : Int) ≤ (n : Int) := by omega
   obtain ⟨dk, q1, q2⟩ := (ae HB).next hh hlt
   have HQ := ag q2
   have HI := ag (oT (ae HC) A n cap lo hi dk wr q1 (by omega) hlt hn)
   clear q1 q2 hh
   go_wp2_with fail
   refine (ae HI).mono ?_
   rintro e w2 ⟨rfl, hr⟩
   have HR := ag (ae HQ w2 hr)
   clear hr
   go_wp2_with fail
   exact ⟨⟨hi, hi + 20, by omega, rfl, rfl, by go_num, HR⟩, by have := ae HH; simp [intOf]; omega⟩
  ·have i1 : ¬ (hi : Int) ≤ (n : Int) := by omega
   obtain ⟨dk, q1, q2⟩ := (ae HB).last hl (by omega)
   have HQ := ag q2
   have HI := ag (oT (ae HC) A n cap lo n dk wr q1 hl (Nat.le_refl _) hn)
   clear q1 q2 hh HB HB0
   go_wp2_with fail
   refine (ae HI).mono ?_
   rintro e w2 ⟨rfl, hr⟩
   have HR := ag (ae HQ w2 hr)
   clear hr HQ HI
   go_wp2_with fail
   generalize w2 = w5 at *
   go_loopw [6, 7, 8, 9] (fun x _ _ _ wr => ∃ s : Nat, 0 < s ∧ x = .int .i64 s ∧ s ≤ 400000 ∧ Hid (Bl2 key A n d w wr s)) (fun x _ _ _ _ => n - (intOf x).toNat)
   case atStart => exact ⟨20, by omega, rfl, by omega, HR⟩
   case round =>
    obtain ⟨s, hs, rfl, hsm, HB2⟩ := hrel
    by_cases hsn : s < n
    ·have i2 : (s : Int) < (n : Int) := by omega
     obtain ⟨s2, hs2⟩ : ∃ s2, s2 = 2 * s := ⟨_, rfl⟩
     have i3 : 2 * (s : Int) = (s2 : Int) := by omega
     have i4 : (s : Int) * 2 = (s2 : Int) := by omega
     have HS2 := ag hs2
     obtain ⟨g, rfl, hb3⟩ := (ae HB2).start (by omega) hs2
     have HB3 := ag hb3
     have s2b : s2 ≤ 400000 := by omega
     have s2p : s < s2 := by omega
     clear hb3 HB2 HR hs2
     go_wp2_with fail
     generalize wr = w6 at *
     go_loopw [7, 8] (fun x y wr => ∃ lo hi : Nat, lo ≤ n ∧ Hid (hi = lo + s2) ∧ x = .int .i64 lo ∧ y = .int .i64 hi ∧ Hid (Bl3 key g n d w wr s s2 lo)) (fun x _ _ => n - (intOf x).toNat)
     case atStart => exact ⟨0, s2, Nat.zero_le _, (by show s2 = 0 + s2; omega), rfl, rfl, HB3⟩
     case round =>
      obtain ⟨lo, hi, hl, HH2, rfl, rfl, HB4⟩ := hrel
      have hh := ae HH2
      by_cases hlt2 : hi ≤ n
      ·have j1 : (hi : Int) ≤ (n : Int) := by omega
       obtain ⟨dk, q1, q2, q3, q4⟩ := (ae HB4).next (ae HS2) (by omega)
       obtain ⟨m, hm⟩ : ∃ m, lo + s = m := ⟨_, rfl⟩
       have j2 : (lo : Int) + (s : Int) = (m : Int) := by omega
       obtain ⟨h2, hh2⟩ : ∃ h2, hi + s2 = h2 := ⟨_, rfl⟩
       have j3 : (hi : Int) + (s2 : Int) = (h2 : Int) := by omega
       rw [hm] at q2 q3
       rw [← hh] at q3 q4
       have HQ := ag q4
       have HI := ag (lV (ae HC) g n cap hn _ lo m hi dk wr (Nat.le_refl _) q1 q2 q3 (by omega) (by have := ae HS2; omega) hlt2)
       have HH3 := ag (show h2 = hi + s2 by omega)
       clear q1 q2 q3 q4 hm hh2 hh
       go_wp2_with fail
       refine (ae HI).mono ?_
       rintro e w2 ⟨rfl, hr⟩
       have HR := ag (ae HQ w2 hr)
       clear hr
       go_wp2_with fail
       exact ⟨⟨hi, h2, hlt2, HH3, rfl, by go_num, HR⟩, by have := ae HH2; simp [intOf]; omega⟩
      ·have j1 : ¬ (hi : Int) ≤ (n : Int) := by omega
       obtain ⟨m, hm⟩ : ∃ m, lo + s = m := ⟨_, rfl⟩
       have j2 : (lo : Int) + (s : Int) = (m : Int) := by omega
       by_cases hmn : m < n
       ·have j3 : (m : Int) < (n : Int) := by omega
        obtain ⟨dk, q1, q2, q3, q4⟩ := (ae HB4).last (ae HS2) hl (by omega) (by omega)
        rw [hm] at q2 q3
        have HQ := ag q4
        have HI := ag (lV (ae HC) g n cap hn _ lo m n dk wr (Nat.le_refl _) q1 q2 q3 (by omega) hmn (Nat.le_refl _))
        clear q1 q2 q3 q4 hm hh
        go_wp2_with fail
        refine (ae HI).mono ?_
        rintro e w2 ⟨rfl, hr⟩
        have HR := ag (ae HQ w2 hr)
        clear hr
        go_wp2_with fail
        exact ⟨⟨s2, by omega, by go_num, s2b, HR⟩, by simp [intOf]; omega⟩
       ·have j3 : ¬ (m : Int) < (n : Int) := by omega
        have HR := ag ((ae HB4).lastNo (by omega) (by omega))
        clear hm hh
        go_wp2_with fail
        exact ⟨⟨s2, by omega, by go_num, s2b, HR⟩, by simp [intOf]; omega⟩
    ·have i2 : ¬ (s : Int) < (n : Int) := by omega
     go_wp2_with fail
     go_end0
     obtain ⟨dk, q1, q2, q3, q4⟩ := (ae HB2).ex
     have b1 := (iI q4).1
     exact ⟨rfl, dk, q1, q2, q3, b1.sub (Nat.le_refl _) (by omega)⟩
theorem mY {f : Nat} {key : Dx → Int} (hc : Cmp f key) (A : Option Addr) (n cap : Nat) (d : Nat → Dx) (w : World) (h : SlD w A n d) (hn : n ≤ 100000) :
 Calls Tryz.prog 34 #[.slice A n cap, .func (.func f) #[] #[]] w fun e w' => ud key A n 0 n d w e w' := by
 have HC := ag (xE hc A n cap d w h hn)
 clear h hc
 go_enter Tryz.func34, Tryz.ntmps34
 go_wp2_with fail
 refine (ae HC).mono ?_
 rintro e w2 ⟨rfl, hr⟩
 have HR := ag hr
 clear hr
 go_wp2_with fail
 go_end0
 exact ⟨rfl, ae HR⟩
theorem fR {f : FuncId} {fn : Func} {c : Code} (hf : Tryz.prog.funcs[f]? = some fn) (hname : (fn.name == "runtime.NumGoroutine") = false) (hb : fn.body = some c) (args : Array Value) (w : World) : (callFunc f args).run Tryz.prog w = .ok (.enter f args) w := by
 have h1 : fn.name ≠ "runtime.NumGoroutine" := by simpa using hname
 simp [callFunc, hf, h1, hb, mark]
theorem Ab : Cmp 35 (fun x => x.d.n) := ⟨fR Tryz.func35 (by kernel_rfl) rfl, Aw⟩
theorem Ad : Cmp 38 (fun x => x.d.at_) := ⟨fR Tryz.func38 (by kernel_rfl) rfl, Ay⟩
end
section
open Go.RowKit
attribute [local go_sem ↓] Go.wp_at_zero Go.wp_at_succ
section
variable {w0 w : World} {vb tb gb : Nat} {f : Nat → List Ver} {n : Nat} {cs : List (List Ver)} {r : List ao} {D D2 : Nat} {md y md2 y2 : Int} {rs rs2 : List Int} {ws ws2 : List Ver}
theorem wJ {md at_ : Int} (hb : ba f n md at_ = 0) (hz : Zoo w0 w (bh vb tb gb f n cs [] :: r)) :
 Calls Tryz.prog 79 #[.pointer (some ⟨vb, 0, none⟩), .int .i64 md, .int .i64 at_] w fun e w' => ∃ D, e = .returned (.tuple #[.pointer (some ⟨D, 0, none⟩), .int .i64 0]) ∧ Hid (Zoo w0 w' (bh vb tb gb f n cs [] :: au D (cn md (bat n md at_) (cq [] [])) 175 :: r)) := by
 obtain ⟨F, ⟨Ft, Fg, k⟩, _⟩ := bi hz
 refine (qX md at_ w k).mono ?_
 rintro e w' (⟨_, D, rfl, hD, hd, hk⟩ | ⟨h, _⟩)
 ·exact ⟨D, rfl, Zoo.put_ (l1 := [bh vb tb gb f n cs []]) hz (F := [D]) ⟨hd, rfl, hD⟩ hk⟩
 ·exact absurd hb h
theorem zf {md at_ z : Int} (hb : ba f n md at_ = z) (h0 : z ≠ 0) (hz : Zoo w0 w (bh vb tb gb f n cs [] :: r)) :
 Calls Tryz.prog 79 #[.pointer (some ⟨vb, 0, none⟩), .int .i64 md, .int .i64 at_] w fun e w' => e = .returned (.tuple #[.pointer none, .int .i64 z]) ∧ Hid (Zoo w0 w' (bh vb tb gb f n cs [] :: r)) := by
 obtain ⟨F, ⟨Ft, Fg, k⟩, _⟩ := bi hz
 refine (qX md at_ w k).mono ?_
 rintro e w' (⟨h, _⟩ | ⟨_, rfl, hk⟩)
 ·exact absurd (hb.symm.trans h) h0
 ·exact ⟨by rw [hb], hz.kp0 hk⟩
theorem ze (k : Int) (t : Bool) (s : ByteArray) (hs : s.size ≤ maxLen) (hz : Zoo w0 w (bh vb tb gb f n cs [] :: au D (cn md y (cq rs ws)) 175 :: r)) :
 Calls Tryz.prog 82 #[.pointer (some ⟨D, 0, none⟩), .int .i64 k, .agg #[.bool t, .string s]] w fun e w' => e = .returned (.int .i64 (dpc md k t s)) ∧ Hid (Zoo w0 w' (bh vb tb gb f n cs [] :: au D (cn md y (cq rs (dpw md ws k t s))) 175 :: r)) := by
 obtain ⟨F, ⟨h1, h2, h3⟩, k2⟩ := bW hz
 exact (yJ k t s w h1 hs).mono (fun e w' ⟨he, hd, hk⟩ => ⟨he, k2 _ _ ⟨F, ⟨hd, h2, h3⟩, by rw [h2]; exact hk, fun x hx => .inl hx⟩⟩)
theorem tV (hv : VI f n cs) (hd : Ded w D md y rs ws) (hw : WOk ws) (hz : Zoo w0 w (bh vb tb gb f n cs [] :: r)) :
 Calls Tryz.prog 84 #[.pointer (some ⟨vb, 0, none⟩), .pointer (some ⟨D, 0, none⟩)] w fun e w' => e = .returned (.tuple #[.int .i64 (fV f n cs md y rs ws), .int .i64 (bl f cs md y rs ws)]) ∧ Hid (Zoo w0 w' (bh vb tb gb (vf f n cs md y rs ws) (vn f n cs md y rs ws) (vcs f cs md y rs ws) [] :: r)) := by
 obtain ⟨F, ⟨Ft, Fg, k⟩, k2⟩ := bi hz
 exact (uC w k hv hd hw).mono (fun e w' ⟨he, hc⟩ => ⟨he, k2 _ _ hc⟩)
theorem wI (hz : Zoo w0 w (bh vb tb gb f n cs [] :: r)) :
 Calls Tryz.prog 48 #[.pointer (some ⟨vb, 0, none⟩)] w fun e w' => e = .returned (.tuple #[]) ∧ ∃ tb', w'.cell? ⟨vb, 0, none⟩ = some (.pointer (some ⟨tb', 0, none⟩)) ∧ Hid (Zoo w0 w' (bh vb tb' gb (cw cs) cs.length cs [] :: r)) := by
 obtain ⟨F, ⟨Ft, Fg, k⟩, k2⟩ := bi hz
 refine (kz w k).mono ?_
 rintro e w' ⟨rfl, tb', hc⟩
 have hz' := k2 _ _ hc
 obtain ⟨F', ⟨Ft', Fg', k'⟩, _⟩ := bi hz'
 exact ⟨rfl, tb', k'.c0, hz'⟩
end
end
section
open Go.RowKit
theorem ku {w0 w : World} {o : ao} {os : List ao} (h : Zoo w0 w os) (hm : o ∈ os) : ∃ F, o.holds w0.heap.size w F := by
 obtain ⟨l1, l2, rfl⟩ := List.append_of_mem hm
 obtain ⟨F, h1, _⟩ := h.at_
 exact ⟨F, h1⟩
theorem bB {w0 w : World} {A V : ao} {r : List ao} (hz : Zoo w0 w (A :: V :: r)) : Zoo w0 w (V :: A :: r) := hz.perm (List.Perm.swap V A r)
section
variable {w0 w : World} {vb tb gb : Nat} {f : Nat → List Ver} {n : Nat} {cs : List (List Ver)} {r : List ao} {D : Nat} {md y : Int} {rs : List Int} {ws : List Ver}
theorem zS (k : Int) (hz : Zoo w0 w (bh vb tb gb f n cs [] :: au D (cn md y (cq rs ws)) 175 :: r)) :
 Calls Tryz.prog 81 #[.pointer (some ⟨D, 0, none⟩), .pointer (some ⟨tb, 0, none⟩), .int .i64 k] w fun e w' => e = .returned (.tuple #[.agg #[.bool (dg f n y ws k).t, .string (dg f n y ws k).s], .int .i64 (dg f n y ws k).a]) ∧
  Hid (Zoo w0 w' (bh vb tb gb f n cs [] :: au D (cn md y (cq (dr f n y rs ws k) ws)) 175 :: r)) := by
 obtain ⟨F1, ⟨Ft, Fg, k1⟩, _⟩ := bi hz
 obtain ⟨F, ⟨h1, h2, h3⟩, k2⟩ := bW hz
 exact (ti k w k1.t h1).mono (fun e w' ⟨he, hd, hk⟩ => ⟨he, k2 _ _ ⟨F, ⟨hd, h2, h3⟩, by rw [h2]; exact hk, fun x hx => .inl hx⟩⟩)
theorem sm (hz : Zoo w0 w (bh vb tb gb f n cs [] :: r)) : Calls Tryz.prog 20 #[.pointer (some ⟨tb, 0, none⟩)] w fun e w' => e = .returned (.int .i64 n) ∧ w' = w := by
 obtain ⟨F1, ⟨Ft, Fg, k1⟩, _⟩ := bi hz
 exact cM w k1.t
end
theorem bK {P : Program} {md : Region.Mode} {l r1 r2 : List Oper} {Q : Exit → Act → World → Prop} {S : World → Prop} {i j : Nat} {oi oj : Oper} {fuel : Nat} {listed : Array Bool} {a : Act} {w : World} (hi : l.drop i = oi :: r1) (hj : l.drop j = oj :: r2) (hr : Region.ready md l.toArray listed = [i, j])
 (h1 : ∀ K' : Act → World → Prop, Shut (∀ a w, S w → (S w → wpAnyH P md l.toArray Q S fuel (listed.setIfInBounds i true) a w) → K' a w) → if Region.wanted oi (yielded l.toArray a.tmps) = true then Oper.wp P oi a w K' Q else K' (a.put oi.dst undef) w)
 (h2 : ∀ K' : Act → World → Prop, Shut (∀ a w, S w → (S w → wpAnyH P md l.toArray Q S fuel (listed.setIfInBounds j true) a w) → K' a w) → if Region.wanted oj (yielded l.toArray a.tmps) = true then Oper.wp P oj a w K' Q else K' (a.put oj.dst undef) w) :
 wpAnyH P md l.toArray Q S (fuel + 1) listed a w := wpAnyH_ready hr (by simp) (AllReadyH.cons (iG hi) h1 (AllReadyH.cons (iG hj) h2 AllReadyH.nil))
section
variable {w0 w : World} {vb tb gb : Nat} {f : Nat → List Ver} {n : Nat} {cs : List (List Ver)} {r : List ao} {D : Nat} {md y : Int} {rs : List Int} {ws : List Ver} {V X : ao}
theorem yZ (keep : Int) (hv : VI f n cs) (hd : Ded w D md y rs ws) (hw : WOk ws) (hz : Zoo w0 w (bh vb tb gb f n cs [] :: r)) :
 Calls Tryz.prog 85 #[.pointer (some ⟨vb, 0, none⟩), .pointer (some ⟨D, 0, none⟩), .int .i64 keep] w fun e w' => e = .returned (.tuple #[.int .i64 (eQ f cs md y rs ws keep), .int .i64 (bl f cs md y rs ws)]) ∧ ∃ tb', Hid (Zoo w0 w' (bh vb tb' gb (cw (tcs f cs md y rs ws keep)) (tcs f cs md y rs ws keep).length (tcs f cs md y rs ws keep) [] :: r)) := by
 obtain ⟨F, ⟨Ft, Fg, k⟩, k2⟩ := bi hz
 exact (zB keep w k hv hd hw).mono (fun e w' ⟨he, tb', hc⟩ => ⟨he, tb', k2 _ _ hc⟩)
end
theorem ai {w0 w : World} {os : List ao} {p : Nat} {c : Array Value} {T : TypeId} (hz : Zoo w0 w os) (hm : au p c T ∈ os) : w.heap[p]? = some (.cells c T (0, 0)) := by
 obtain ⟨F, h1, _⟩ := ku hz hm
 exact h1
theorem bI : ay (fun _ => dv) = #[.bool false, .string ⟨#[]⟩, .bool false, .string ⟨#[]⟩, .bool false, .string ⟨#[]⟩, .bool false, .string ⟨#[]⟩, .bool false, .string ⟨#[]⟩, .bool false, .string ⟨#[]⟩, .bool false, .string ⟨#[]⟩, .bool false, .string ⟨#[]⟩] := rfl
end
section
open Go.RowKit Srt
attribute [local go_sem ↓] Go.wp_at_zero Go.wp_at_succ
theorem Tryz.info36 : (Tryz.prog.info? 36).map (fun i => (i.zero, i.size, i.bytes)) = some (some (.agg #[.int .i64 0, .int .i64 0, .int .i64 0, .slice none 0 0]), 4, 48) := by kernel_rfl
structure wP (w : World) (b o : Nat) (x : Dn) : Prop where
 c0 : w.cell? ⟨b, o, none⟩ = some (.int .i64 x.n)
 c1 : w.cell? ⟨b, o + 1, none⟩ = some (.int .i64 x.at_)
 c2 : w.cell? ⟨b, o + 2, none⟩ = some (.int .i64 x.md)
 cp : ∃ la lc, w.cell? ⟨b, o + 3, none⟩ = some (.slice la x.acts.length lc) ∧ x.acts.length ≤ lc
 ls : ∃ la lc, w.cell? ⟨b, o + 3, none⟩ = some (.slice la x.acts.length lc) ∧ bM w la x.acts
theorem wP.kp0 {w w' : World} {b o : Nat} {x : Dn} (h : wP w b o x) (hk : Kp [] w w') : wP w' b o x := by
 obtain ⟨la, lc, h1, h2⟩ := h.ls
 obtain ⟨la', lc', h1', h2'⟩ := h.cp
 exact ⟨hk.cell (by simp) h.c0, hk.cell (by simp) h.c1, hk.cell (by simp) h.c2, ⟨la', lc', hk.cell (by simp) h1', h2'⟩, la, lc, hk.cell (by simp) h1, h2.kp0 hk⟩
def fp (w : World) (a : Option Addr) (l : List Dn) : Prop := 0 < l.length → ∃ b o, a = some ⟨b, o, none⟩ ∧ ∀ i x, l[i]? = some x → wP w b (o + i * 4) x
theorem fp.kp0 {w w' : World} {a : Option Addr} {l : List Dn} (h : fp w a l) (hk : Kp [] w w') : fp w' a l := fun hp => by
 obtain ⟨b, o, e, h1⟩ := h hp
 exact ⟨b, o, e, fun i x hx => (h1 i x hx).kp0 hk⟩
def iu (l : List Dn) : Prop := l.length ≤ 1000 ∧ ∀ x, x ∈ l → dy x.acts
structure Prd (f : Nat) (p : Dn → Bool) : Prop where
 enters : ∀ args w, (callFunc f args).run Tryz.prog w = .ok (.enter f args) w
 calls : ∀ x w, Calls Tryz.prog f #[dxv x] w fun e w' => e = .returned (.bool (p x.d)) ∧ Kp [] w w'
theorem zL : Prd 33 (fun d => decide (0 < d.n)) := by
 refine ⟨fR Tryz.func33 (by kernel_rfl) rfl, fun x w => ?_⟩
 have hk : Kp [] w (w.alloc (.cells (dxc x).toArray 36)) := (Kp.refl [] w).alloc _
 obtain ⟨⟨n, at_, md, acts⟩, a, c⟩ := x
 dsimp only [dxv, dxc] at *
 generalize acts.length = l at *
 go_enter Tryz.func33, Tryz.ntmps33
 go_wp2_with fail
 go_ret
 exact ⟨rfl, hk⟩
theorem zM : Prd 37 (fun d => decide (d.n = 0 ∧ 0 ≤ d.at_)) := by
 refine ⟨fR Tryz.func37 (by kernel_rfl) rfl, fun x w => ?_⟩
 have hk : Kp [] w (w.alloc (.cells (dxc x).toArray 36)) := (Kp.refl [] w).alloc _
 obtain ⟨⟨n, at_, md, acts⟩, a, c⟩ := x
 dsimp only [dxv, dxc] at *
 generalize acts.length = l at *
 by_cases h1 : n = 0
 ·subst h1
  by_cases h2 : 0 ≤ at_
  ·go_enter Tryz.func37, Tryz.ntmps37
   go_wp2_with fail
   go_ret
   exact ⟨by simp [h2], hk⟩
  ·go_enter Tryz.func37, Tryz.ntmps37
   go_wp2_with fail
   go_ret
   exact ⟨by simp [h2], hk⟩
 ·go_enter Tryz.func37, Tryz.ntmps37
  go_wp2_with fail
  go_ret
  exact ⟨by simp [h1], hk⟩
def aP (xs : List Dx) : List Value := xs.flatMap dxc
theorem dx (xs ys : List Dx) : aP (xs ++ ys) = aP xs ++ aP ys := by simp [aP]
theorem fg : ∀ {xs : List Dx} {i : Nat} {x : Dx}, xs[i]? = some x → (aP xs)[i * 4]? = some (.int .i64 x.d.n) ∧ (aP xs)[i * 4 + 1]? = some (.int .i64 x.d.at_) ∧ (aP xs)[i * 4 + 2]? = some (.int .i64 x.d.md) ∧ (aP xs)[i * 4 + 3]? = some (.slice x.a x.d.acts.length x.c) := by
 intro xs
 induction xs with
 | nil => intro i x h; simp at h
 | cons y r ih =>
   intro i x h
   have e : aP (y :: r) = dxc y ++ aP r := rfl
   cases i with
   | zero =>
     simp at h
     subst h
     rw [e]
     exact ⟨rfl, rfl, rfl, rfl⟩
   | succ i =>
     simp at h
     obtain ⟨h0, h1, h2, h3⟩ := ih h
     have hl : (dxc y).length = 4 := rfl
     rw [e]
     refine ⟨?_, ?_, ?_, ?_⟩
     ·rw [List.getElem?_append_right (by rw [hl]; omega), hl, show (i + 1) * 4 - 4 = i * 4 by omega]; exact h0
     ·rw [List.getElem?_append_right (by rw [hl]; omega), hl, show (i + 1) * 4 + 1 - 4 = i * 4 + 1 by omega]; exact h1
     ·rw [List.getElem?_append_right (by rw [hl]; omega), hl, show (i + 1) * 4 + 2 - 4 = i * 4 + 2 by omega]; exact h2
     ·rw [List.getElem?_append_right (by rw [hl]; omega), hl, show (i + 1) * 4 + 3 - 4 = i * 4 + 3 by omega]; exact h3
def Af (p : Dn → Bool) (ds : List Dn) (wb w : World) (e : Ending) (w' : World) : Prop := ∃ a cap xs, e = .returned (.slice a xs.length cap) ∧ xs.map Dx.d = ds.filter p ∧ (∀ x, x ∈ xs → bM wb x.a x.d.acts) ∧ bn 36 4 w.heap.size w' a xs.length cap (aP xs) ∧ Kp [] w w'
structure PkI (p : Dn → Bool) (ds : List Dn) (wb w wr : World) (a : Option Addr) (cap n k : Nat) (xs : List Dx) : Prop where
 nl : n = xs.length
 map : xs.map Dx.d = (ds.take k).filter p
 acts : ∀ x, x ∈ xs → bM wb x.a x.d.acts
 zoo : Zoo w wr [KwT 36 4 a n cap (aP xs)]
 le : xs.length ≤ k
theorem zN {f : Nat} {p : Dn → Bool} (hp : Prd f p) (a : Option Addr) (c : Nat) (ds : List Dn) (wb w : World) (hwb : Kp [] wb w) (h : fp wb a ds) (hm : ds.length ≤ 1000) :
 Calls Tryz.prog 32 #[.slice a ds.length c, .func (.func f) #[] #[]] w fun e w' => Af p ds wb w e w' := by
 have hu := Tryz.underlying27
 have HC := ag hp
 have eg := hp.enters
 have HD := ag h
 have HKB := ag hwb
 clear h hp hwb
 obtain ⟨m, hmm⟩ : ∃ m, ds.length = m := ⟨_, rfl⟩
 rw [hmm]
 rw [hmm] at hm
 have HM := ag hmm
 clear hmm
 go_enter Tryz.func32, Tryz.ntmps32
 go_wp2_with fail
 go_loopw [5, 7, 10] (fun x _ y wr => ∃ (k : Nat) (a' : Option Addr) (cap n : Nat), k ≤ m ∧ x = .slice a' n cap ∧ y = .int .i64 k ∧ Hid (∃ xs, PkI p ds wb w wr a' cap n k xs)) (fun _ _ y _ => m - (intOf y).toNat)
 case atStart => exact ⟨0, none, 0, 0, Nat.zero_le _, rfl, rfl, [], rfl, by simp, fun x hx => by simp at hx, du _ 4 (cg (Kp.refl [] w)), by simp⟩
 case round =>
  obtain ⟨k, a', cap, n, hk, rfl, rfl, HI⟩ := hrel
  obtain ⟨xs, hi⟩ := ae HI
  have HP := ag hi
  have hnk : n ≤ k := by rw [hi.nl]; exact hi.le
  clear hi HI
  by_cases hlt : k < m
  ·have i1 : (k : Int) < (m : Int) := by omega
   have i0 : (0 : Int) ≤ (k : Int) := by omega
   have hln : k < ds.length := by have := ae HM; omega
   obtain ⟨b, o, rfl, hb⟩ := (ae HD) (by omega)
   obtain ⟨x, hx⟩ : ∃ x, ds[k]? = some x := ⟨_, List.getElem?_eq_getElem hln⟩
   have htk : ds.take (k + 1) = ds.take k ++ [x] := by rw [List.take_add_one, hx]; rfl
   have HT := ag htk
   have hat := hb k x hx
   have hkw := (ae HKB).trans0 (ae HP).zoo.kp
   obtain ⟨la, lc, z3, hls⟩ := hat.ls
   have HLS := ag hls
   have q0 := (hat.kp0 hkw).c0
   have q1 := (hat.kp0 hkw).c1
   have q2 : wr.cell? ⟨b, o + k * 4 + 1 + 1, none⟩ = _ := (hat.kp0 hkw).c2
   have q3 : wr.cell? ⟨b, o + k * 4 + 1 + 1 + 1, none⟩ = _ := hkw.cell (by simp) z3
   clear hat hb hx hls z3 hkw htk
   obtain ⟨xn, xa, xm, xacts⟩ := x
   dsimp only at q0 q1 q2 q3 HLS
   have HCC : Hid (∀ W, Calls Tryz.prog f #[.agg #[.int .i64 xn, .int .i64 xa, .int .i64 xm, .slice la xacts.length lc]] W fun e w' => e = .returned (.bool (p ⟨xn, xa, xm, xacts⟩)) ∧ Kp [] W w') := fun W => (ae HC).calls ⟨⟨xn, xa, xm, xacts⟩, la, lc⟩ W
   obtain ⟨ln, hlen⟩ : ∃ ln, xacts.length = ln := ⟨_, rfl⟩
   rw [hlen] at q3 HCC
   have HLN := ag hlen
   clear hlen
   obtain ⟨pb, hpb⟩ : ∃ pb, p ⟨xn, xa, xm, xacts⟩ = pb := ⟨_, rfl⟩
   rw [hpb] at HCC
   have HPB := ag hpb
   clear hpb
   have HZ1 := ag ((ae HP).zoo.box #[.int .i64 xn, .int .i64 xa, .int .i64 xm, .slice la ln lc] 36)
   go_wp2_with fail
   refine ((ae HCC) _).mono ?_
   rintro e w2 ⟨rfl, hk2⟩
   have HZ2 := ag ((ae HZ1).kp0 hk2)
   clear hk2 HZ1
   generalize wr.heap.size = g at *
   have hbx := Zoo.var (ae HZ2)
   have b0 : w2.cell? ⟨g, 0, none⟩ = some (.int .i64 xn) := af hbx rfl
   have b1 : w2.cell? ⟨g, 1, none⟩ = some (.int .i64 xa) := af hbx rfl
   have b2 : w2.cell? ⟨g, 2, none⟩ = some (.int .i64 xm) := af hbx rfl
   have b3 : w2.cell? ⟨g, 3, none⟩ = some (.slice la ln lc) := af hbx rfl
   have hgl := ah hbx
   have hBw := Zoo.base (ae HZ2)
   clear hbx q0 q1 q2 q3
   cases pb with
   | true =>
     have HZA := ag ((ae HZ2).box #[.int .i64 xn, .int .i64 xa, .int .i64 xm, .slice la ln lc] 36)
     have HBX := ag (Zoo.var (ae HZA))
     go_wp2_with (at_builtin; refine bC (by rfl) (.tmp 17) (.tmp 19) 27 (by rfl) hu Tryz.info36 rfl (by omega) (bq (l1 := [au w2.heap.size #[.int .i64 xn, .int .i64 xa, .int .i64 xm, .slice la ln lc] 36, au g #[.int .i64 xn, .int .i64 xa, .int .i64 xm, .slice la ln lc] 36]) (ae HZA)) (by simp; omega) (.slice (some ⟨w2.heap.size, 0, none⟩) 1 1) [.int .i64 xn, .int .i64 xa, .int .i64 xm, .slice la ln lc] 1 (by rfl) (by rfl) (aQ hu (ae HBX) rfl (by simp [Value.oneCell'])) (by omega) (n + 1) rfl ?_; intro a2 cap2 w3 g1 g2 g3)
     have HZ3 := ag (Zoo.tail (Zoo.tail (cS (l1 := [au w2.heap.size #[.int .i64 xn, .int .i64 xa, .int .i64 xm, .slice la ln lc] 36, au g #[.int .i64 xn, .int .i64 xa, .int .i64 xm, .slice la ln lc] 36]) (ae HZA) (ae g1) (ae g2) (ae g3))))
     refine ⟨⟨k + 1, a2, cap2, n + 1, by omega, rfl, by go_num, xs ++ [⟨⟨xn, xa, xm, xacts⟩, la, lc⟩], ?_, ?_, fun y hy => ?_, ?_, ?_⟩, by simp [intOf]; omega⟩
     ·rw [List.length_append, (ae HP).nl]; rfl
     ·rw [List.map_append, (ae HP).map, ae HT, List.filter_append, List.filter_cons_of_pos (ae HPB)]
      rfl
     ·rcases List.mem_append.1 hy with e | e
      ·exact (ae HP).acts y e
      ·rw [List.mem_singleton.1 e]; exact ae HLS
     ·rw [dx, show aP [⟨⟨xn, xa, xm, xacts⟩, la, lc⟩] = [.int .i64 xn, .int .i64 xa, .int .i64 xm, .slice la ln lc] from by rw [← ae HLN]; rfl]
      exact ae HZ3
     ·have := (ae HP).le; rw [List.length_append]; simp; omega
   | false =>
     go_wp2_with fail
     refine ⟨⟨k + 1, a', cap, n, by omega, rfl, by go_num, xs, (ae HP).nl, ?_, (ae HP).acts, (ae HZ2).tail, ?_⟩, by simp [intOf]; omega⟩
     ·rw [(ae HP).map, ae HT, List.filter_append, List.filter_cons_of_neg (by rw [ae HPB]; simp), List.filter_nil, List.append_nil]
     ·have := (ae HP).le; omega
  ·have i1 : ¬ (k : Int) < (m : Int) := by omega
   go_wp2_with fail
   go_ret
   have hn := (ae HP).nl
   have hz := (ae HP).zoo
   have hmp := (ae HP).map
   rw [List.take_of_length_le (by have := ae HM; omega)] at hmp
   rw [hn] at hz
   exact ⟨a', cap, xs, congrArg (fun z => Ending.returned (Value.slice a' z cap)) hn, hmp, (ae HP).acts, bq (l1 := []) hz, hz.kp⟩
end
section
open Go.RowKit
attribute [local go_sem ↓] Go.wp_at_zero Go.wp_at_succ
structure DnH (w : World) (b o : Nat) (x : Dn) : Prop where
 c0 : w.cell? ⟨b, o, none⟩ = some (.int .i64 x.n)
 c1 : w.cell? ⟨b, o + 1, none⟩ = some (.int .i64 x.at_)
 c2 : w.cell? ⟨b, o + 2, none⟩ = some (.int .i64 x.md)
 ls : ∃ la lc, w.cell? ⟨b, o + 3, none⟩ = some (.slice la x.acts.length lc) ∧ iy w la x.acts ∧ x.acts.length ≤ lc
def mV (w : World) (a : Option Addr) (l : List Dn) : Prop := l.length ≤ maxLen ∧ (0 < l.length → ∃ b o, a = some ⟨b, o, none⟩ ∧ ∀ i x, l[i]? = some x → DnH w b (o + i * 4) x)
theorem DnH.kp0 {w w' : World} {b o : Nat} {x : Dn} (h : DnH w b o x) (hk : Kp [] w w') : DnH w' b o x := by
 obtain ⟨la, lc, h1, h2, h3⟩ := h.ls
 exact ⟨hk.cell (by simp) h.c0, hk.cell (by simp) h.c1, hk.cell (by simp) h.c2, la, lc, hk.cell (by simp) h1, h2.kp0 hk, h3⟩
theorem mV.kp0 {w w' : World} {a : Option Addr} {l : List Dn} (h : mV w a l) (hk : Kp [] w w') : mV w' a l := ⟨h.1, fun hp => by
 obtain ⟨b, o, e, h1⟩ := h.2 hp
 exact ⟨b, o, e, fun i x hx => (h1 i x hx).kp0 hk⟩⟩
theorem mV.ins {w : World} {a : Option Addr} {l : List Dn} (h : mV w a l) : fp w a l := fun hp => by
 obtain ⟨b, o, e, h1⟩ := h.2 hp
 refine ⟨b, o, e, fun i x hx => ?_⟩
 have h2 := h1 i x hx
 obtain ⟨la, lc, h3, h4, h5⟩ := h2.ls
 exact ⟨h2.c0, h2.c1, h2.c2, ⟨la, lc, h3, h5⟩, la, lc, h3, h4.ins⟩
def Ah (l : List Dn) : Prop := iu l ∧ ∀ d, d ∈ l → d.n ≤ 1000 ∧ d.at_ ≤ 1000
def uj (l : List Dn) (w : World) (e : Ending) (w' : World) : Prop := ∃ q : Bool, e = .returned (.bool q) ∧ (q = false → Ah l) ∧ w' = w
theorem gH {l : List Dn} {w : World} (q : Bool) (h : q = false → Ah l) : uj l w (.returned (.bool q)) w := ⟨q, rfl, h, rfl⟩
theorem zX (a : Option Addr) (c : Nat) (l : List Dn) (w : World) (h : mV w a l) :
 Calls Tryz.prog 7 #[.slice a l.length c] w fun e w' => uj l w e w' := by
 have hm := h.1
 unfold maxLen at hm
 have HP := ag h
 clear h
 obtain ⟨n, hn⟩ : ∃ n, l.length = n := ⟨_, rfl⟩
 have HN := ag hn
 rw [hn] at hm ⊢
 clear hn
 go_enter Tryz.func7, Tryz.ntmps7
 go_wp2_with fail
 go_loop [3] (fun i => ∃ k : Nat, k ≤ n ∧ k ≤ 100 ∧ i = .int .i64 k ∧ Hid (∀ j x, j < k → l[j]? = some x → dy x.acts ∧ x.n ≤ 1000 ∧ x.at_ ≤ 1000)) (fun i => n - (intOf i).toNat)
 case atStart => exact ⟨0, Nat.zero_le _, by omega, rfl, fun j x hj => by omega⟩
 case round =>
  obtain ⟨k, hk, hk2, rfl, HL⟩ := hrel
  have fin : (k = n ∨ k = 100) → ∀ q : Bool, q = decide ((60 : Int) < (n : Int)) → uj l w (.returned (.bool q)) w := fun hc q hq => by
   refine gH q (fun hf => ?_)
   rw [hf] at hq
   have h1 := of_decide_eq_false hq.symm
   have hnn := ae HN
   have key : ∀ x, x ∈ l → dy x.acts ∧ x.n ≤ 1000 ∧ x.at_ ≤ 1000 := fun x hx => by
    obtain ⟨j, hj, e⟩ := List.getElem_of_mem hx
    exact ae HL j x (by omega) (by rw [List.getElem?_eq_getElem hj, e])
   exact ⟨⟨by omega, fun x hx => (key x hx).1⟩, fun x hx => (key x hx).2⟩
  have HF := ag fin
  clear fin
  by_cases hlt : k < n
  ·have i1 : (k : Int) < (n : Int) := by omega
   have i0 : (0 : Int) ≤ (k : Int) := by omega
   by_cases hlt2 : k < 100
   ·have i2 : (k : Int) < 100 := by omega
    have hln : k < l.length := by have := ae HN; omega
    obtain ⟨b, o, rfl, hb⟩ := (ae HP).2 (by omega)
    obtain ⟨x, hx⟩ : ∃ x, l[k]? = some x := ⟨_, List.getElem?_eq_getElem hln⟩
    have hat := hb k x hx
    obtain ⟨la, lc, z3, hls, hcap⟩ := hat.ls
    have q0 := hat.c0
    have q1 := hat.c1
    have q3 := z3
    have HX := ag hx
    have HGA := ag (wY la lc x.acts w hls)
    clear hb hat hx z3 hls hcap
    obtain ⟨xn, xa, xm, xacts⟩ := x
    dsimp only at q0 q1 q3 HGA
    go_wp2_with fail
    refine (ae HGA).mono ?_
    rintro e w' ⟨q, rfl, hq, hw'⟩
    subst w'
    cases q with
    | true =>
      clear hq
      go_wp2_with fail
      go_ret
      exact gH _ (fun h => by simp at h)
    | false =>
      have HOK := ag (hq rfl)
      clear hq
      by_cases hn1 : 1000 < xn
      ·go_wp2_with fail
       go_ret
       exact gH _ (fun h => by simp at h)
      ·by_cases hn2 : 1000 < xa
       ·go_wp2_with fail
        go_ret
        exact gH _ (fun h => by simp at h)
       ·go_wp2_with fail
        refine ⟨⟨k + 1, by omega, by omega, by go_num, fun j y hj hy => ?_⟩, by simp [intOf]; omega⟩
        rcases Nat.lt_or_ge j k with e | e
        ·exact ae HL j y e hy
        ·have : j = k := by omega
         subst this
         rw [ae HX] at hy
         cases hy
         exact ⟨ae HOK, by dsimp only; omega, by dsimp only; omega⟩
   ·have i2 : ¬ (k : Int) < 100 := by omega
    go_wp2_with fail
    go_ret
    exact ae HF (.inr (by omega)) _ (by simp)
  ·have i1 : ¬ (k : Int) < (n : Int) := by omega
   go_wp2_with fail
   go_ret
   exact ae HF (.inl (by omega)) _ (by simp)
end
section
open Go.ChangeShapes Go.WideShapes Go.ChangeAt Go.RowKit
theorem Tryz.cells36 : Tryz.prog.cellsOf 36 = 4 := by kernel_rfl
theorem Tryz.cells26 : Tryz.prog.cellsOf 26 = 1 := by kernel_rfl
theorem kH {H : Type} {enc : TypeId × Value → H} {W : World} {t : TypeId} {f0 f1 f2 f3 : Field} {fuel : Nat} {cs : List Value} {x : DataW H × List MemPlace} (ht : Tryz.prog.underlying t = some (.struct #[f0, f1, f2, f3])) (h : DataW.trod enc Tryz.prog W 0 (fun _ => true) true fuel t cs = some x) :
 ∃ y0 y1 y2 y3 n, cs.length = Tryz.prog.cellsOf t ∧ DataW.trod enc Tryz.prog W 0 (fun _ => true) true n f0.type ((cs.drop f0.offset).take (Tryz.prog.cellsOf f0.type)) = some y0 ∧ DataW.trod enc Tryz.prog W 0 (fun _ => true) true n f1.type ((cs.drop f1.offset).take (Tryz.prog.cellsOf f1.type)) = some y1 ∧ DataW.trod enc Tryz.prog W 0 (fun _ => true) true n f2.type ((cs.drop f2.offset).take (Tryz.prog.cellsOf f2.type)) = some y2 ∧ DataW.trod enc Tryz.prog W 0 (fun _ => true) true n f3.type ((cs.drop f3.offset).take (Tryz.prog.cellsOf f3.type)) = some y3 := by
 obtain ⟨xs, n, _, rfl, hl, hlen, hf⟩ := DataW.trod_struct ht h
 match xs, hlen with
 | [y0, y1, y2, y3], _ => exact ⟨y0, y1, y2, y3, n, hl, by simpa using hf 0 f0 rfl, by simpa using hf 1 f1 rfl, by simpa using hf 2 f2 rfl, by simpa using hf 3 f3 rfl⟩
theorem zm {H : Type} {enc : TypeId × Value → H} {W : World} {fuel : Nat} {v : Value} {x : DataW H × List MemPlace}
 (h : DataW.trod enc Tryz.prog W 0 (fun _ => true) true fuel 26 [v] = some x) : ∃ a c l, v = .slice a (List.length l) c ∧ iy W a l ∧ l.length ≤ c := by
 have hv : ∃ a n c, v = .slice a n c := by
  rcases Deep.open_slice Tryz.underlying26 h with ⟨hcs, _⟩ | ⟨ad, len, cap, m, k, D, Pl, hcs, _⟩
  ·simp at hcs; exact ⟨_, _, _, hcs⟩
  ·simp at hcs; exact ⟨_, _, _, hcs⟩
 obtain ⟨a, n, c, rfl⟩ := hv
 obtain ⟨l, rfl, h1, h2, _⟩ := tZ (a := a) (n := n) (c := c) (d := x.1) (p := x.2) ⟨fuel, by simpa [Value.cells] using h⟩
 exact ⟨a, c, l, rfl, h1, h2⟩
theorem vS {H : Type} {enc : TypeId × Value → H} {W : World} {m : Nat} {cs : List Value} {x : DataW H × List MemPlace}
 (h : DataW.trod enc Tryz.prog W 0 (fun _ => true) true m 36 cs = some x) : ∃ (st : Dn) (la : Option Addr) (lc : Nat), cs = [.int .i64 st.n, .int .i64 st.at_, .int .i64 st.md, .slice la st.acts.length lc] ∧ iy W la st.acts ∧ st.acts.length ≤ lc := by
 obtain ⟨y0, y1, y2, y3, n, hl, h0, h1, h2, h3⟩ := kH Tryz.underlying36 h
 rw [Tryz.cells36] at hl
 match cs, hl with
 | [c0, c1, c2, c3], _ =>
   simp only [Tryz.cells3, Tryz.cells26] at h0 h1 h2 h3
   obtain ⟨d, e0, _⟩ := DataW.trod_int Tryz.underlying3 h0
   obtain ⟨k, e1, _⟩ := DataW.trod_int Tryz.underlying3 h1
   obtain ⟨to_, e2, _⟩ := DataW.trod_int Tryz.underlying3 h2
   have h3' : DataW.trod enc Tryz.prog W 0 (fun _ => true) true n 26 [c3] = some y3 := by simpa using h3
   obtain ⟨a, c, l, e3, hp, hq⟩ := zm h3'
   simp at e0 e1 e2
   exact ⟨⟨d, k, to_, l⟩, a, c, by rw [e0, e1, e2, e3], hp, hq⟩
theorem yK {H : Type} {enc : TypeId × Value → H} {W : World} {a : Option Addr} {n c : Nat} {d : DataW H} {p : List MemPlace}
 (h : DataW.Trod enc Tryz.prog W 0 (fun _ => true) true 27 (.slice a n c) d p) : ∃ l : List Dn, n = l.length ∧ mV W a l := by
 obtain ⟨fuel, hf⟩ := h
 rcases Deep.open_slice Tryz.underlying27 hf with ⟨hcs, _⟩ | ⟨ad, len, cap, m, k, D, Pl, hcs, _, hl, hm, hmm, _, hx⟩
 ·simp [Value.cells] at hcs
  obtain ⟨rfl, rfl, rfl⟩ := hcs
  exact ⟨[], rfl, by simp [maxLen], fun h => by simp at h⟩
 ·simp [Value.cells] at hcs
  obtain ⟨rfl, rfl, rfl⟩ := hcs
  simp only [if_true] at hmm
  subst hmm
  rw [Tryz.cells36] at hx
  have key : ∀ i, i < n → ∃ st : Dn, W.cell? (ad.add (i * 4)) = some (.int .i64 st.n) ∧ W.cell? (ad.add (i * 4 + 1)) = some (.int .i64 st.at_) ∧ W.cell? (ad.add (i * 4 + 2)) = some (.int .i64 st.md) ∧ ∃ la lc, W.cell? (ad.add (i * 4 + 3)) = some (.slice la st.acts.length lc) ∧ iy W la st.acts ∧ st.acts.length ≤ lc := by
   intro i hi
   obtain ⟨cs, h1, h2⟩ := hx i (by omega)
   obtain ⟨st, la, lc, rfl, hs, hp⟩ := vS h2
   obtain ⟨_, _, hc⟩ := World.cells?_some h1
   have q0 := hc 0 (by omega)
   have q1 := hc 1 (by omega)
   have q2 := hc 2 (by omega)
   have q3 := hc 3 (by omega)
   rw [Deep.add_add] at q0 q1 q2 q3
   exact ⟨st, by simpa using q0, by simpa using q1, by simpa using q2, la, lc, by simpa using q3, hs, hp⟩
  obtain ⟨st, hst⟩ := @Deep.choose_lt Dn ⟨⟨0, 0, 0, []⟩⟩ n _ key
  refine ⟨(List.range n).map st, by simp, by simp; omega, fun h0 => ?_⟩
  simp only [List.length_map, List.length_range] at h0
  obtain ⟨b, o, sp⟩ := ad
  have hsp : sp = none := by
   have := (hst 0 h0).1
   simpa [Addr.add] using World.cell?_spot this
  subst hsp
  refine ⟨b, o, rfl, fun i x hx2 => ?_⟩
  have hi : i < n := by have := (List.getElem?_eq_some_iff.1 hx2).1; simpa using this
  rw [List.getElem?_map, List.getElem?_range hi] at hx2
  simp only [Option.map_some, Option.some.injEq] at hx2
  subst hx2
  obtain ⟨q0, q1, q2, la, lc, q3, hs, hp⟩ := hst i hi
  rw [ca] at q0 q1 q2 q3
  exact ⟨q0, q1, q2, la, lc, q3, hs, hp⟩
end
section
open Go.RowKit Srt
section
variable {h : HSt} {b : Bk} {x : ax} {e : Ev} {last : Int}
theorem eh (h1 : x.d ≠ 9) (h2 : x.d = 1 → ¬ (e.c = 0 ∧ 0 ≤ x.s ∧ x.s < 5)) (h3 : x.d ≠ 1 → fB b x.s = none) : aY b x e last = b := by
 unfold aY
 by_cases c1 : x.d = 1
 ·rw [if_pos c1, if_neg (h2 c1)]
 rw [if_neg c1, h3 c1]
 split
 ·rfl
 ·split
  ·rfl
  ·first | rfl | rw [if_neg h1]
theorem gQ (hx : x.d < 1 ∨ 10 < x.d ∨ x.d = 8) : aY b x e last = b := by
 unfold aY
 rw [if_neg (by omega), if_neg (by omega), if_neg (by omega), if_neg (by omega)]
theorem mP {o : Dn} (hx : 2 ≤ x.d ∧ x.d ≤ 5) (hs : 0 ≤ x.s ∧ x.s < 5) (ho : b.op x.s.toNat = some o) : aY b x e last = if e.c = 0 then ⟨upd b.op x.s.toNat (some { o with acts := o.acts ++ [eU x e] }), b.dn⟩ else b := by
 unfold aY
 rw [if_neg (by omega), if_pos hx]
 unfold fB
 rw [if_pos hs, ho]
theorem lE {o : Dn} (hx : x.d = 6 ∨ x.d = 7 ∨ x.d = 10) (hs : 0 ≤ x.s ∧ x.s < 5) (ho : b.op x.s.toNat = some o) : aY b x e last = ⟨if x.d = 10 then (fun _ => none) else upd b.op x.s.toNat none, if isd x e = true then b.dn ++ [{ o with n := e.n }] else b.dn⟩ := by
 unfold aY
 rw [if_neg (by omega), if_neg (by omega), if_pos hx]
 unfold fB
 rw [if_pos hs, ho]
end
theorem rf {α : Type} (g : Nat → α) (k : Nat) {v : α} (h : g k = v) : upd g k v = g := by
 funext j
 unfold upd
 split
 ·rename_i q; rw [q]; exact h.symm
 ·rfl
theorem NI.sit {h : HSt} {b : Bk} (ni : NI h b) {s : Int} {d' : Option Dp} {o' : Option Dn} (hi : bT (YtldkeaeohceckacGreat.sit h s d')) (h1 : ∀ e, d' = some e → ∃ o, o' = some o ∧ cy (shw h.f h.n e.y 8) e o) (h2 : d' = none → o' = none) : NI (YtldkeaeohceckacGreat.sit h s d') ⟨upd b.op s.toNat o', b.dn⟩ := by
 refine ⟨hi, fun k d hd => ?_, fun k hk => ?_, ni.dn⟩
 ·rcases ci hd with ⟨q1, q2⟩ | ⟨q1, q2⟩
  ·rw [q1]
   show ∃ o, upd b.op s.toNat o' s.toNat = some o ∧ _
   rw [av]
   exact h1 d q2
  ·show ∃ o, upd b.op s.toNat o' k = some o ∧ _
   rw [aq _ _ _ q1]
   exact ni.some_ k d q2
 ·show upd b.op s.toNat o' k = none
  simp only [YtldkeaeohceckacGreat.sit, eo] at hk
  unfold upd
  split
  ·rename_i q; rw [if_pos q] at hk; exact h2 hk
  ·rename_i q; rw [if_neg q] at hk; exact ni.none_ k hk
theorem gv {h : HSt} {s : Int} {d : Dp} (hd : h.seat s.toNat = some d) : sit h s (some d) = h := by
 unfold sit
 rw [rf _ _ hd]
theorem NI.step {h : HSt} {b : Bk} (ni : NI h b) (x : ax) : NI (hdo h x) (aY b x (hev h x) h.n) := by
 have hi := ni.hi
 have hi2 := hi.step x
 have hsees := @sA h hi x
 have hk := ko h x
 generalize hdo h x = h2 at *
 generalize hev h x = e at *
 have keep : ∀ {s : Nat} {d : Dp} {o : Dn}, h.seat s = some d → h2.seat s = some d → cy (shw h.f h.n d.y 8) d o → cy (shw h2.f h2.n d.y 8) d o := fun q1 q2 q3 => by
  rw [(hsees q1 q2).2.2.1]; exact q3
 cases hk with
 | kind c => rw [gQ (by omega)]; exact ni
 | clear c =>
   rw [gQ (by omega)]
   refine ⟨hi2, fun s d hd => ?_, fun s hs => ni.none_ s hs, ni.dn⟩
   obtain ⟨o, h1, h2⟩ := ni.some_ s d hd
   exact ⟨o, h1, keep hd hd h2⟩
 | crash c =>
   have e1 : aY b x ev0 h.n = ⟨fun _ => none, b.dn⟩ := by
    unfold aY
    rw [if_neg (by omega), if_neg (by omega), if_neg (by omega), if_pos c]
   rw [e1]
   exact ⟨hi2, fun s d hd => (by cases hd), fun _ _ => rfl, ni.dn⟩
 | range c1 c2 => rw [eh (by omega) (fun _ q => c2 q.2) (fun _ => by unfold fB; rw [if_neg c2])]; exact ni
 | began c1 c2 c3 c4 =>
   have e1 : aY b x (evc 0) h.n = ⟨upd b.op x.s.toNat (some ⟨0, bat h.n x.md x.at_, x.md, []⟩), b.dn⟩ := by
    unfold aY
    rw [if_pos c1, if_pos ⟨rfl, c2⟩]
    rfl
   rw [e1]
   exact ni.sit hi2 (fun q hq => by cases hq; exact ⟨_, rfl, cy.begin _ _ _⟩) (fun q => by cases q)
 | beganNot c1 c2 c3 c4 => rw [eh (by omega) (fun _ q => c4 q.1) (fun q => absurd c1 q)]; exact ni
 | none_ c1 c2 c3 => rw [eh (by omega) (fun q => by omega) (fun _ => by unfold fB; rw [if_pos c2]; exact ni.none_ _ c3)]; exact ni
 | there d0 c1 c2 c3 => rw [eh (by omega) (fun _ q => by simp [evc] at q) (fun q => absurd c1 q)]; exact ni
 | get d c1 c2 c3 =>
   obtain ⟨o, ho, hso⟩ := ni.some_ _ d c3
   rw [mP ⟨by omega, by omega⟩ c2 ho]
   obtain ⟨k1, k2⟩ := hi.known _ d c3
   by_cases hkb : aN x.key = true
   ·have hkb' := hkb
    simp only [aN, decide_eq_true_eq] at hkb'
    obtain ⟨j, hj⟩ : ∃ j : Nat, x.key = (j : Int) := ⟨x.key.toNat, by omega⟩
    have hj8 : j < 8 := by omega
    have hds := lq hi c3 hj8
    have ha := iP hi.inv k1 k2 hj8
    rw [hj, hds]
    rw [if_pos rfl]
    have en : eU x ⟨0, 0, (nA h d j).t, (nA h d j).s, []⟩ = ⟨2, (j : Int), 0, (lay (shw h.f h.n d.y 8) d.ws j).t, (lay (shw h.f h.n d.y 8) d.ws j).s, []⟩ := by
     unfold eU
     rw [if_pos c1, hj]
     rfl
    rw [en]
    rw [hj] at hi2
    exact ni.sit hi2 (fun q hq => by cases hq; exact ⟨_, rfl, hso.got hj8 ha⟩) (fun q => by cases q)
   ·have e1 : dg h.f h.n d.y d.ws x.key = ⟨1, false, ByteArray.empty⟩ := by unfold dg; rw [if_neg hkb]
    have e2 : dr h.f h.n d.y d.rs d.ws x.key = d.rs := by unfold dr; rw [if_neg (fun q => hkb q.1)]
    rw [e1, e2, if_neg (by show ¬ (1 : Int) = 0; omega), gv c3]
    exact ni
 | put d c1 c2 c3 =>
   obtain ⟨o, ho, hso⟩ := ni.some_ _ d c3
   rw [mP ⟨by omega, by omega⟩ c2 ho]
   by_cases hc : dpc d.md x.key true x.b = 0
   ·obtain ⟨j, hj8, hj⟩ := mz hc
    rw [if_pos (show (evc (dpc d.md x.key true x.b)).c = 0 from hc)]
    have hw : dpw d.md d.ws x.key true x.b = d.ws ++ [⟨(j : Int), true, x.b⟩] := by unfold dpw; rw [if_pos hc, hj]
    have en : eU x (evc (dpc d.md x.key true x.b)) = ⟨3, (j : Int), 0, true, x.b, []⟩ := by
     unfold eU
     rw [if_neg (by omega), if_pos c1, hj]
    rw [en]
    rw [hw] at hi2 ⊢
    exact ni.sit hi2 (fun q hq => by cases hq; exact ⟨_, rfl, hso.wrote_ hj8 (.inl rfl) _ _ _ _⟩) (fun q => by cases q)
   ·rw [if_neg (show ¬ (evc (dpc d.md x.key true x.b)).c = 0 from hc)]
    have hw : dpw d.md d.ws x.key true x.b = d.ws := by unfold dpw; rw [if_neg hc]
    rw [hw, gv c3]
    exact ni
 | drop d c1 c2 c3 =>
   obtain ⟨o, ho, hso⟩ := ni.some_ _ d c3
   rw [mP ⟨by omega, by omega⟩ c2 ho]
   by_cases hc : dpc d.md x.key false ⟨#[]⟩ = 0
   ·obtain ⟨j, hj8, hj⟩ := mz hc
    rw [if_pos (show (evc (dpc d.md x.key false ⟨#[]⟩)).c = 0 from hc)]
    have hw : dpw d.md d.ws x.key false ⟨#[]⟩ = d.ws ++ [⟨(j : Int), false, ⟨#[]⟩⟩] := by unfold dpw; rw [if_pos hc, hj]
    have en : eU x (evc (dpc d.md x.key false ⟨#[]⟩)) = ⟨4, (j : Int), 0, false, ⟨#[]⟩, []⟩ := by
     unfold eU
     rw [if_neg (by omega), if_neg (by omega), if_pos c1, hj]
    rw [en]
    rw [hw] at hi2 ⊢
    exact ni.sit hi2 (fun q hq => by cases hq; exact ⟨_, rfl, hso.wrote_ hj8 (.inr rfl) _ _ _ _⟩) (fun q => by cases q)
   ·rw [if_neg (show ¬ (evc (dpc d.md x.key false ⟨#[]⟩)).c = 0 from hc)]
    have hw : dpw d.md d.ws x.key false ⟨#[]⟩ = d.ws := by unfold dpw; rw [if_neg hc]
    rw [hw, gv c3]
    exact ni
 | list d c1 c2 c3 =>
   obtain ⟨o, ho, hso⟩ := ni.some_ _ d c3
   rw [mP ⟨by omega, by omega⟩ c2 ho]
   obtain ⟨k1, k2⟩ := hi.known _ d c3
   by_cases hc : (dls h.f h.n d.y d.ws d.rs x.key x.to_).2.1 = 0
   ·obtain ⟨g1, g2, g3⟩ := vU (fun k hk => by rw [lq hi c3 hk]) (fun k hk => iP hi.inv k1 k2 hk) hc
    have hl := yM (v := nA h d) (fun k hk => lq hi c3 hk) hc
    rw [if_pos (show (dls h.f h.n d.y d.ws d.rs x.key x.to_).2.1 = 0 from hc)]
    have en : eU x ⟨(dls h.f h.n d.y d.ws d.rs x.key x.to_).2.1, 0, false, ⟨#[]⟩, (dls h.f h.n d.y d.ws d.rs x.key x.to_).1⟩ = ⟨5, x.key, x.to_, false, ⟨#[]⟩, wl (lay (shw h.f h.n d.y 8) d.ws) x.key x.to_ 8⟩ := by
     unfold eU
     rw [if_neg (by omega), if_neg (by omega), if_neg (by omega), hl]
     rfl
    rw [en]
    exact ni.sit hi2 (fun q hq => by cases hq; exact ⟨_, rfl, hso.listed g1 g2 g3⟩) (fun q => by cases q)
   ·rw [if_neg (show ¬ (dls h.f h.n d.y d.ws d.rs x.key x.to_).2.1 = 0 from hc)]
    have e2 : (dls h.f h.n d.y d.ws d.rs x.key x.to_).2.2 = d.rs := by
     by_cases hk : aN x.key = true ∧ aN x.to_ = true
     ·exfalso
      apply hc
      have h1 := hk.1
      have h2 := hk.2
      simp only [aN, decide_eq_true_eq] at h1 h2
      obtain ⟨p, hp⟩ : ∃ p : Nat, x.key = (p : Int) := ⟨x.key.toNat, by omega⟩
      obtain ⟨t, ht⟩ : ∃ t : Nat, x.to_ = (t : Int) := ⟨x.to_.toNat, by omega⟩
      unfold dls
      rw [if_pos hk, hp, ht, Int.toNat_natCast, show ((t : Int) + 1 - (p : Int)).toNat = t + 1 - p by omega]
      by_cases hpt : p ≤ t + 1
      ·exact (tf (v := nA h d) (p := p) (t := t) (by omega) (fun k hk => lq hi c3 hk) (t + 1 - p) p [] d.rs (Nat.le_refl _) (by omega) (lO (Int.le_refl _)).symm).2
      ·rw [show t + 1 - p = 0 by omega]; rfl
     ·unfold dls; rw [if_neg hk]
    rw [e2, gv c3]
    exact ni
 | commit d c1 c2 c3 =>
   obtain ⟨o, ho, hso⟩ := ni.some_ _ d c3
   rw [lE (.inl c1) c2 ho, if_neg (by omega)]
   have hisd : isd x (evn (bl h.f h.cs d.md d.y d.rs d.ws) (fV h.f h.n h.cs d.md d.y d.rs d.ws)) = decide (bl h.f h.cs d.md d.y d.rs d.ws = 0) := by unfold isd; rw [if_pos c1]; rfl
   rw [hisd]
   have bD : (∀ s d', upd h.seat x.s.toNat none s = some d' → ∃ o, upd b.op x.s.toNat none s = some o ∧ cy (shw (vf h.f h.n h.cs d.md d.y d.rs d.ws) (vn h.f h.n h.cs d.md d.y d.rs d.ws) d'.y 8) d' o) ∧ (∀ s, upd h.seat x.s.toNat none s = none → upd b.op x.s.toNat none s = none) := by
    refine ⟨fun s d' hd => ?_, fun s hd => ?_⟩
    ·by_cases q : s = x.s.toNat
     ·rw [q, av] at hd; cases hd
     ·have hd2 := hd
      rw [aq _ _ _ q] at hd2
      rw [aq _ _ _ q]
      obtain ⟨o, h1, h2⟩ := ni.some_ s d' hd2
      exact ⟨o, h1, keep hd2 hd h2⟩
    ·by_cases q : s = x.s.toNat
     ·rw [q, av]
     ·rw [aq _ _ _ q] at hd ⊢
      exact ni.none_ s hd
   refine ⟨hi2, bD.1, bD.2, ?_⟩
   show DI (vcs h.f h.cs d.md d.y d.rs d.ws) _
   cases hv : cW h.f h.cs d.md d.y d.rs d.ws with
   | true =>
     obtain ⟨e1, e2, e3, e4⟩ := oq (n := h.n) hv
     have hv' := hv
     unfold cW at hv'
     simp only [decide_eq_true_eq] at hv'
     have hcode := (ol hv'.1 hv'.2.1 hv'.2.2).1
     rw [e3, hcode]
     simp only [evn, e4, decide_true, if_true]
     exact ni.dn.com ((ni.done c3 hso hv'.1).2 hv'.2.1 hv'.2.2) (by show (h.n : Int) + 1 = _; rw [hi.vi.len])
   | false =>
     obtain ⟨e1, e2, e3, e4⟩ := ii (n := h.n) hv
     rw [e3]
     by_cases hc : bl h.f h.cs d.md d.y d.rs d.ws = 0
     ·have hm : dm h.f d.md d.y d.rs d.ws = 0 := by
       unfold bl at hc
       by_cases q : dm h.f d.md d.y d.rs d.ws = 0
       ·exact q
       ·rw [if_neg q] at hc; exact hc
      have hz : (wk d.ws 8).length = 0 := by
       by_cases q : (wk d.ws 8).length = 0
       ·exact q
       ·exfalso
        unfold bl at hc
        rw [if_pos hm, if_neg q] at hc
        unfold cW at hv
        simp [hm, q, hc] at hv
      rw [hc]
      simp only [evn, e4, decide_true, if_true]
      exact ni.dn.look ((ni.done c3 hso hm).1 hz) rfl
     ·rw [decide_eq_false hc]
      simp only [Bool.false_eq_true, if_false]
      exact ni.dn
 | tear d c1 c2 c3 =>
   obtain ⟨o, ho, hso⟩ := ni.some_ _ d c3
   rw [lE (.inr (.inr c1)) c2 ho, if_pos c1]
   have hisd : isd x (evn (bl h.f h.cs d.md d.y d.rs d.ws) (eQ h.f h.cs d.md d.y d.rs d.ws x.keep)) = decide (eQ h.f h.cs d.md d.y d.rs d.ws x.keep ≠ 0) := by unfold isd; rw [if_neg (by omega), if_pos c1]; rfl
   rw [hisd]
   refine ⟨hi2, fun s d hd => (by cases hd), fun _ _ => rfl, ?_⟩
   show DI (tcs h.f h.cs d.md d.y d.rs d.ws x.keep) _
   rcases jW (f := h.f) (cs := h.cs) (md := d.md) (y := d.y) (rs := d.rs) (ws := d.ws) (keep := x.keep) with q | ⟨q1, q2, q3, q4, q5⟩
   ·rw [fI q, q]
    simp only [ne_eq, not_true_eq_false, decide_false, Bool.false_eq_true, if_false]
    exact ni.dn
   ·have hn := jV q1
    rw [q1, hn, decide_eq_true (by omega)]
    simp only [evn, if_true]
    have := (ni.done c3 hso q3).2 q4 q5
    rw [hi.vi.len] at this
    exact ni.dn.com this rfl
 | abort d c1 c2 c3 =>
   obtain ⟨o, ho, hso⟩ := ni.some_ _ d c3
   rw [lE (.inr (.inl c1)) c2 ho, if_neg (by omega)]
   have hisd : isd x ev0 = false := by unfold isd; rw [if_neg (by omega), if_neg (by omega)]
   rw [hisd]
   simp only [Bool.false_eq_true, if_false]
   exact ni.sit hi2 (fun q hq => by cases hq) (fun _ => rfl)
theorem NI.run : ∀ (l : List ax) {h : HSt} {b : Bk}, NI h b → NI (fu h b l).1 (fu h b l).2 := by
 intro l
 induction l with
 | nil => intro h b ni; exact ni
 | cons x r ih => intro h b ni; exact ih (ni.step x)
theorem sr {α : Type} (f : α → Int) : ∀ (m a : Nat) (l : List α), l.map f = (List.range' a m).map (fun i => ((i : Nat) : Int)) → (∀ d, d ∈ l → (a : Int) ≤ f d) ∧ ∀ k : Nat, a ≤ k → k < a + m → ∃ d, d ∈ l ∧ f d = (k : Int) ∧ kf f (k : Int) l = [d] := by
 intro m
 induction m with
 | zero =>
   intro a l h
   have : l = [] := by
    cases l with
    | nil => rfl
    | cons x r => simp at h
   subst this
   exact ⟨fun d hd => by simp at hd, fun k h1 h2 => by omega⟩
 | succ m ih =>
   intro a l h
   cases l with
   | nil => simp [List.range'] at h
   | cons x r =>
     simp only [List.range', List.map_cons, List.cons.injEq] at h
     obtain ⟨h1, h2⟩ := h
     obtain ⟨g1, g2⟩ := ih (a + 1) r h2
     refine ⟨fun d hd => ?_, fun k k1 k2 => ?_⟩
     ·rcases List.mem_cons.1 hd with q | q
      ·rw [q, h1]; exact Int.le_refl _
      ·have := g1 d q; omega
     ·by_cases e : k = a
      ·subst e
       refine ⟨x, by simp, h1, ?_⟩
       unfold kf
       rw [List.filter_cons_of_pos (by simp [h1])]
       have : r.filter (fun x => decide (f x = (k : Int))) = [] := by
        rw [List.filter_eq_nil_iff]
        intro y hy q
        have := g1 y hy
        simp at q
        omega
       rw [this]
      ·obtain ⟨d, q1, q2, q3⟩ := g2 k (by omega) (by omega)
       refine ⟨d, by simp [q1], q2, ?_⟩
       unfold kf at q3 ⊢
       rw [List.filter_cons_of_neg (by simp [h1]; omega)]
       exact q3
theorem DI.one {cs : List (List Ver)} {ds : List Dn} (h : DI cs ds) {k : Nat} (h1 : 1 ≤ k) (h2 : k ≤ cs.length) : ∃ d, d ∈ ds ∧ d.n = (k : Int) ∧ kf Dn.n (k : Int) ds = [d] := by
 obtain ⟨d, q1, q2, q3⟩ := (sr Dn.n cs.length 1 (cms ds) h.num).2 k h1 (by omega)
 rw [ny (by omega)] at q3
 unfold cms at q1
 exact ⟨d, (List.mem_filter.1 q1).1, q2, q3⟩
theorem DI.world {cs : List (List Ver)} {ds : List Dn} (h : DI cs ds) {v : Nat → Ver} {n : Nat} (hn : n < cs.length) (hv : Sm v (wc (cs.take n))) : cmo v (kf Dn.n ((n : Int) + 1) ds) = true ∧ Sm (cmw v (kf Dn.n ((n : Int) + 1) ds)) (wc (cs.take (n + 1))) ∧ (kf Dn.n ((n : Int) + 1) ds).length = 1 := by
 obtain ⟨d, q1, q2, q3⟩ := h.one (k := n + 1) (by omega) (by omega)
 have c1 : ((n + 1 : Nat) : Int) = (n : Int) + 1 := by omega
 rw [c1] at q2 q3
 rw [q3]
 have hd := h.ok d q1
 obtain ⟨k1, k2, k3⟩ := hd.com (by omega)
 have e1 : (d.n - 1).toNat = n := by omega
 rw [e1] at k2 k3
 refine ⟨?_, ?_, rfl⟩
 ·simp only [cmo, Bool.and_true, Bool.or_eq_true, decide_eq_true_eq]
  by_cases c : d.md = 2
  ·left; rw [jY hv]; exact k3 c
  ·right; exact c
 ·simp only [cmw]
  have hcm : cs[n]? = some cs[n] := List.getElem?_eq_getElem hn
  have htk : cs.take (n + 1) = cs.take n ++ [cs[n]] := by rw [List.take_add_one, hcm]; rfl
  have e2 : cs.getD n [] = cs[n] := by rw [List.getD_eq_getElem?_getD, hcm]; rfl
  rw [htk, od]
  have := k2 v
  rw [e2] at this
  exact this.trans (hv.wvs cs[n])
theorem DI.looks {cs : List (List Ver)} {ds : List Dn} (h : DI cs ds) {v : Nat → Ver} {n : Nat} (hv : Sm v (wc (cs.take n))) : lko v (kf Dn.at_ (n : Int) (lks ds)) = true := by
 have key : ∀ l : List Dn, (∀ d, d ∈ l → fo cs d ∧ d.n = 0 ∧ d.at_ = (n : Int)) → lko v l = true := by
  intro l
  induction l with
  | nil => intro _; rfl
  | cons d r ih =>
    intro hl
    obtain ⟨h1, h2, h3⟩ := hl d (by simp)
    simp only [lko, Bool.and_eq_true]
    refine ⟨?_, ih (fun x hx => hl x (by simp [hx]))⟩
    have := (h1.look h2).2
    rw [h3, Int.toNat_natCast] at this
    rw [jY hv]
    exact this
 refine key _ (fun d hd => ?_)
 unfold kf lks at hd
 have h1 := List.mem_filter.1 hd
 have h2 := List.mem_filter.1 h1.1
 have h3 := h1.2
 have h4 := h2.2
 simp at h3 h4
 exact ⟨h.ok d h2.1, h4.1, h3⟩
theorem DI.ser {cs : List (List Ver)} {ds : List Dn} (h : DI cs ds) : YtldkeaeohceckacGreat.ser ds = true := by
 have h0 := (nu ds 0).1
 have hle : mxn 0 ds ≤ cs.length := by
  rcases kY ds 0 with q | ⟨d, q1, q2⟩
  ·omega
  ·have := (h.ok d q1).hi; omega
 have key : ∀ (m n : Nat) (v : Nat → Ver), n + m ≤ cs.length → Sm v (wc (cs.take n)) → srs ds m (n + 1) v true = true := by
  intro m
  induction m with
  | zero => intro n v _ _; rfl
  | succ m ih =>
    intro n v hn hv
    obtain ⟨g1, g2, g3⟩ := h.world (by omega) hv
    have c1 : ((n + 1 : Nat) : Int) = (n : Int) + 1 := by omega
    have e1 : sr1 ds (n + 1) v true = (cmw v (kf Dn.n ((n : Int) + 1) ds), true) := by
     unfold sr1
     rw [if_pos (by omega), c1, rB]
     dsimp only
     rw [kK (by omega), g1]
     have := h.looks g2
     rw [c1] at this
     rw [this]
     rfl
    simp only [srs]
    rw [e1]
    exact ih (n + 1) _ (by omega) g2
 unfold YtldkeaeohceckacGreat.ser
 simp only [srs]
 have e0 : sr1 ds 0 (fun _ => dv) true = (fun _ => dv, true) := by
  unfold sr1
  rw [if_neg (by omega)]
  dsimp only
  rw [kK (by omega)]
  have := h.looks (v := fun _ => dv) (n := 0) (by rw [List.take_zero]; exact Sm.refl _)
  rw [show ((0 : Nat) : Int) = 0 from rfl] at this ⊢
  rw [this]
  rfl
 rw [e0]
 exact key _ 0 _ (by omega) (by rw [List.take_zero]; exact Sm.refl _)
theorem yj (l : List ax) : DI (fu dY bk0 l).1.cs (ntd l) := (yk.run l).dn
theorem vq (l : List ax) : ser (ntd l) = true := (yj l).ser
structure Dk where
 op : Nat → Dn
 out : List Dn
def dk0 : Dk := ⟨fun _ => ⟨0, 0, 0, []⟩, []⟩
def dz (h : HSt) (s : Int) : Bool := decide (0 ≤ s ∧ s < 5) && (h.seat s.toNat).isSome
def lv (k : Dk) (x : ax) (e : Ev) (last : Int) : Dk := if x.d = 1 ∧ e.c = 0 then ⟨upd k.op x.s.toNat ⟨0, if x.md = 3 then x.at_ else last, x.md, []⟩, k.out⟩ else k
def iq (k : Dk) (x : ax) (e : Ev) : Dk :=
 if (x.d = 6 ∧ e.c = 0) ∨ (x.d = 10 ∧ 0 < e.n) then ⟨upd k.op x.s.toNat { k.op x.s.toNat with n := e.n }, k.out ++ [{ k.op x.s.toNat with n := e.n }]⟩
 else if e.c ≠ 0 then k
 else if 2 ≤ x.d ∧ x.d ≤ 5 then ⟨upd k.op x.s.toNat { k.op x.s.toNat with acts := (k.op x.s.toNat).acts ++ [eU x e] }, k.out⟩
 else k
def be (h : HSt) (k : Dk) (x : ax) : Dk := if dz h x.s = true then iq (lv k x (hev h x) h.n) x (hev h x) else lv k x (hev h x) h.n
def jN : HSt → Dk → List ax → HSt × Dk
 | h, k, [] => (h, k)
 | h, k, x :: r => jN (hdo h x) (be h k x) r
structure DR (h : HSt) (b : Bk) (k : Dk) : Prop where
 out : b.dn = k.out
 op : ∀ s, b.op s = (h.seat s).map (fun _ => k.op s)
theorem yI : DR dY bk0 dk0 := ⟨rfl, fun _ => rfl⟩
section
variable {h : HSt} {b : Bk} {k : Dk} {x : ax} {e : Ev}
theorem DR.none_ (r : DR h b k) {s : Nat} (hs : h.seat s = none) : b.op s = none := by rw [r.op s, hs]; rfl
theorem DR.some_ (r : DR h b k) {s : Nat} {d : Dp} (hs : h.seat s = some d) : b.op s = some (k.op s) := by rw [r.op s, hs]; rfl
theorem fT (hs : 0 ≤ x.s ∧ x.s < 5 → h.seat x.s.toNat = none) : dz h x.s = false := by
 unfold dz
 by_cases c : 0 ≤ x.s ∧ x.s < 5
 ·rw [hs c]; simp
 ·rw [decide_eq_false c]; rfl
theorem jA {d : Dp} (hs : 0 ≤ x.s ∧ x.s < 5) (hd : h.seat x.s.toNat = some d) : dz h x.s = true := by
 unfold dz
 rw [hd, decide_eq_true hs]; rfl
theorem cP (k : Dk) (hx : ¬ (x.d = 1 ∧ e.c = 0)) (last : Int) : lv k x e last = k := by unfold lv; rw [if_neg hx]
theorem dV (k : Dk) (h1 : x.d = 6 → e.c ≠ 0) (h2 : x.d = 10 → ¬ 0 < e.n) (h3 : e.c ≠ 0 ∨ ¬ (2 ≤ x.d ∧ x.d ≤ 5)) : iq k x e = k := by
 unfold iq
 rw [if_neg (fun q => by rcases q with ⟨q1, q2⟩ | ⟨q1, q2⟩; exact h1 q1 q2; exact h2 q1 q2)]
 split
 ·rfl
 ·rename_i q
  rw [if_neg (h3.resolve_left q)]
theorem DR.sit (r : DR h b k) {s : Int} {d' : Dp} (o' : Dn) : DR (YtldkeaeohceckacGreat.sit h s (some d')) ⟨upd b.op s.toNat (some o'), b.dn⟩ ⟨upd k.op s.toNat o', k.out⟩ := ⟨r.out, fun j => by
 show upd b.op s.toNat (some o') j = (upd h.seat s.toNat (some d') j).map (fun _ => upd k.op s.toNat o' j)
 unfold upd
 by_cases q : j = s.toNat
 ·rw [if_pos q, if_pos q, if_pos q]; rfl
 ·rw [if_neg q, if_neg q, if_neg q]; exact r.op j⟩
theorem DR.same (r : DR h b k) {h' : HSt} (hs : ∀ s, (h'.seat s).isSome = (h.seat s).isSome) : DR h' b k := ⟨r.out, fun s => by
 rw [r.op s]
 have := hs s
 cases h1 : h.seat s <;> cases h2 : h'.seat s <;> simp_all⟩
theorem rF {s : Int} {d d' : Dp} (hd : h.seat s.toNat = some d) (j : Nat) : ((YtldkeaeohceckacGreat.sit h s (some d')).seat j).isSome = (h.seat j).isSome := by
 show (upd h.seat s.toNat (some d') j).isSome = _
 unfold upd
 by_cases q : j = s.toNat
 ·rw [if_pos q, q, hd]; rfl
 ·rw [if_neg q]
theorem DR.on (r : DR h b k) {d d' : Dp} {e : Ev} (hx : 2 ≤ x.d ∧ x.d ≤ 5) (hs : 0 ≤ x.s ∧ x.s < 5) (hd : h.seat x.s.toNat = some d) (hd' : hdo h x = YtldkeaeohceckacGreat.sit h x.s (some d')) (he : hev h x = e) : DR (hdo h x) (aY b x e h.n) (be h k x) := by
 have hb := r.some_ hd
 unfold be
 rw [he, if_pos (jA hs hd), cP k (by omega), hd', mP hx hs hb]
 by_cases c : e.c = 0
 ·rw [if_pos c]
  unfold iq
  rw [if_neg (by omega), if_neg (fun q => q c), if_pos hx]
  exact r.sit _
 ·rw [if_neg c, dV k (by omega) (by omega) (.inl c)]
  exact r.same (rF hd)
theorem DR.end_ (r : DR h b k) {d : Dp} {e : Ev} (hx : x.d = 6 ∨ x.d = 7 ∨ x.d = 10) (hs : 0 ≤ x.s ∧ x.s < 5) (hd : h.seat x.s.toNat = some d) (he : hev h x = e) (hn : 0 ≤ e.n) (h' : HSt) (hs' : h'.seat = if x.d = 10 then (fun _ => none) else upd h.seat x.s.toNat none) (hh : hdo h x = h') : DR (hdo h x) (aY b x e h.n) (be h k x) := by
 have hb := r.some_ hd
 unfold be
 rw [he, if_pos (jA hs hd), cP k (by omega), hh, lE hx hs hb]
 have dI : ∀ kk : Nat → Dn, (∀ j, j ≠ x.s.toNat → kk j = k.op j) → ∀ s, (if x.d = 10 then (fun _ => none) else upd b.op x.s.toNat none) s = (h'.seat s).map (fun _ => kk s) := fun kk hkk s => by
  rw [hs']
  by_cases c : x.d = 10
  ·rw [if_pos c, if_pos c]; rfl
  ·rw [if_neg c, if_neg c]
   unfold upd
   by_cases q : s = x.s.toNat
   ·rw [if_pos q, if_pos q]; rfl
   ·rw [if_neg q, if_neg q, hkk s q]; exact r.op s
 by_cases c : isd x e = true
 ·rw [if_pos c]
  have c2 : (x.d = 6 ∧ e.c = 0) ∨ (x.d = 10 ∧ 0 < e.n) := by
   unfold isd at c
   rcases hx with q | q | q
   ·rw [if_pos q] at c; exact .inl ⟨q, of_decide_eq_true c⟩
   ·rw [if_neg (by omega), if_neg (by omega)] at c; simp at c
   ·rw [if_neg (by omega), if_pos q] at c
    have := of_decide_eq_true c
    exact .inr ⟨q, by omega⟩
  unfold iq
  rw [if_pos c2]
  refine ⟨?_, dI _ (fun j hj => aq _ _ _ hj)⟩
  show b.dn ++ _ = k.out ++ _
  rw [r.out]
 ·rw [if_neg c]
  have c1 : x.d = 6 → e.c ≠ 0 := fun q q2 => c (by unfold isd; rw [if_pos q]; exact decide_eq_true q2)
  have c2 : x.d = 10 → ¬ 0 < e.n := fun q q2 => c (by unfold isd; rw [if_neg (by omega), if_pos q]; exact decide_eq_true (by omega))
  rw [dV k c1 c2 (.inr (by omega))]
  exact ⟨r.out, dI _ (fun _ _ => rfl)⟩
end
theorem uz (f : Nat → List Ver) (n : Nat) (cs : List (List Ver)) (md y : Int) (rs : List Int) (ws : List Ver) : 0 ≤ fV f n cs md y rs ws := by unfold fV; split <;> omega
theorem uH (f : Nat → List Ver) (cs : List (List Ver)) (md y : Int) (rs : List Int) (ws : List Ver) (keep : Int) : 0 ≤ eQ f cs md y rs ws keep := by unfold eQ; split <;> omega
theorem DR.step {h : HSt} {b : Bk} {k : Dk} (r : DR h b k) (x : ax) : DR (hdo h x) (aY b x (hev h x) h.n) (be h k x) := by
 have hk := ko h x
 generalize hh : hdo h x = h2 at *
 generalize he : hev h x = e at *
 have dn : be h k x = if dz h x.s = true then iq (lv k x e h.n) x e else lv k x e h.n := by unfold be; rw [he]
 cases hk with
 | kind c => rw [gQ (by omega), dn, cP k (by omega), dV k (by omega) (by omega) (.inl (by decide)), ite_self]; exact r
 | clear c => rw [gQ (by omega), dn, cP k (by omega), dV k (by omega) (by omega) (.inr (by omega)), ite_self]; exact r.same (fun _ => rfl)
 | crash c =>
   rw [dn, cP k (by omega), dV k (by omega) (by omega) (.inr (by omega)), ite_self]
   have : aY b x ev0 h.n = ⟨fun _ => none, b.dn⟩ := by unfold aY; rw [if_neg (by omega), if_neg (by omega), if_neg (by omega), if_pos c]
   rw [this]
   exact ⟨r.out, fun _ => rfl⟩
 | range c1 c2 =>
   rw [eh (by omega) (fun _ q => c2 q.2) (fun _ => by unfold fB; rw [if_neg c2]), dn, cP k (fun q => absurd q.2 (by decide)), fT (fun q => absurd q c2)]
   exact r
 | began c1 c2 c3 c4 =>
   have hb : aY b x (evc 0) h.n = ⟨upd b.op x.s.toNat (some ⟨0, if x.md = 3 then x.at_ else (h.n : Int), x.md, []⟩), b.dn⟩ := by unfold aY; rw [if_pos c1, if_pos ⟨rfl, c2.1, c2.2⟩]
   rw [hb, dn, fT (fun _ => c3)]
   have hb2 : lv k x (evc 0) h.n = ⟨upd k.op x.s.toNat ⟨0, if x.md = 3 then x.at_ else (h.n : Int), x.md, []⟩, k.out⟩ := by unfold lv; rw [if_pos ⟨c1, rfl⟩]
   rw [hb2]
   exact r.sit _
 | beganNot c1 c2 c3 c4 =>
   rw [eh (by omega) (fun _ q => c4 q.1) (fun q => absurd c1 q), dn, cP k (fun q => c4 q.2), fT (fun _ => c3)]
   exact r
 | none_ c1 c2 c3 =>
   rw [eh (by omega) (fun q => by omega) (fun _ => by unfold fB; rw [if_pos c2]; exact r.none_ c3), dn, cP k (by omega), fT (fun _ => c3)]
   exact r
 | there d0 c1 c2 c3 =>
   rw [eh (by omega) (fun _ q => absurd q.1 (by decide)) (fun q => absurd c1 q), dn, cP k (fun q => absurd q.2 (by decide)), dV k (by omega) (by omega) (.inl (by decide)), ite_self]
   exact r
 | get d0 c1 c2 c3 => rw [← hh]; exact r.on (by omega) c2 c3 hh he
 | put d0 c1 c2 c3 => rw [← hh]; exact r.on (by omega) c2 c3 hh he
 | drop d0 c1 c2 c3 => rw [← hh]; exact r.on (by omega) c2 c3 hh he
 | list d0 c1 c2 c3 => rw [← hh]; exact r.on (by omega) c2 c3 hh he
 | commit d0 c1 c2 c3 => rw [← hh]; exact r.end_ (.inl c1) c2 c3 he (uz ..) _ (by rw [if_neg (by omega)]) hh
 | tear d0 c1 c2 c3 => rw [← hh]; exact r.end_ (.inr (.inr c1)) c2 c3 he (uH ..) _ (by rw [if_pos c1]) hh
 | abort d0 c1 c2 c3 => rw [← hh]; exact r.end_ (.inr (.inl c1)) c2 c3 he (Int.le_refl _) _ (by rw [if_neg (by omega)]; rfl) hh
theorem DR.run : ∀ (l : List ax) {h : HSt} {b : Bk} {k : Dk}, DR h b k → (jN h k l).1 = (fu h b l).1 ∧ DR (fu h b l).1 (fu h b l).2 (jN h k l).2 := by
 intro l
 induction l with
 | nil => intro h b k r; exact ⟨rfl, r⟩
 | cons x l ih => intro h b k r; exact ih (r.step x)
theorem sP (l : List ax) : (jN dY dk0 l).2.out = ntd l := ((DR.run l yI).2).out.symm
end
section
open Go.RowKit Srt
attribute [local go_sem ↓] Go.wp_at_zero Go.wp_at_succ
structure wO (w : World) (g o : Nat) (x : Dx) : Prop where
 c0 : w.cell? ⟨g, o, none⟩ = some (.int .i64 x.d.n)
 c1 : w.cell? ⟨g, o + 1, none⟩ = some (.int .i64 x.d.at_)
 c2 : w.cell? ⟨g, o + 2, none⟩ = some (.int .i64 x.d.md)
 c3 : w.cell? ⟨g, o + 3, none⟩ = some (.slice x.a x.d.acts.length x.c)
def nP (w : World) (a : Option Addr) (L : List Dx) : Prop := 0 < L.length → ∃ g o, a = some ⟨g, o, none⟩ ∧ ∀ i x, L[i]? = some x → wO w g (o + i * 4) x
theorem wO.kp {S : List Nat} {w w' : World} {g o : Nat} {x : Dx} (h : wO w g o x) (hk : Kp S w w') (hg : g ∉ S) : wO w' g o x := ⟨hk.cell hg h.c0, hk.cell hg h.c1, hk.cell hg h.c2, hk.cell hg h.c3⟩
theorem nP.kp {S : List Nat} {w w' : World} {a : Option Addr} {L : List Dx} (h : nP w a L) (hk : Kp S w w') (hg : 0 < L.length → ∀ x, x ∈ obd a → x ∉ S) : nP w' a L := fun hp => by
 obtain ⟨g, o, e, h1⟩ := h hp
 exact ⟨g, o, e, fun i x hx => (h1 i x hx).kp hk (hg hp g (by rw [e]; simp [obd]))⟩
def LkT (pb : Nat) (L : List Dx) : ao where
 holds B w F := ∃ a c, w.heap[pb]? = some (.cells #[.slice a L.length c] 27 (0, 0)) ∧ nP w a L ∧ F = pb :: (if L.length = 0 then [] else obd a) ∧ (∀ x, x ∈ F → B ≤ x ∧ x < w.heap.size) ∧ (0 < L.length → pb ∉ obd a) ∧ L.length ≤ c
 kp := fun ⟨a, c, h1, h2, h3, h4, h5, h6⟩ hk hS => ⟨a, c, by rw [hk.block pb (ah h1) (hS pb (by rw [h3]; simp))]; exact h1, h2.kp hk (fun hp x hx => hS x (by rw [h3, if_neg (by omega)]; simp [hx])), h3, fun x hx => ⟨(h4 x hx).1, Nat.lt_of_lt_of_le (h4 x hx).2 hk.size⟩, h5, h6⟩
 lo := fun ⟨_, _, _, _, _, h4, _, _⟩ => h4
 base := fun ⟨a, c, h1, h2, h3, h4, h5, h6⟩ hC => ⟨a, c, h1, h2, h3, fun x hx => ⟨Nat.le_trans hC (h4 x hx).1, (h4 x hx).2⟩, h5, h6⟩
theorem vy {B pb g o c c' : Nat} {w : World} {F : List Nat} {x : Dx} {L : List Dx} {a' : Option Addr} (h : (LkT pb (x :: L)).holds B w F) (hc : w.cell? ⟨pb, 0, none⟩ = some (.slice (some ⟨g, o, none⟩) (L.length + 1) c)) (ha : 0 < L.length → a' = some ⟨g, o + 4, none⟩) (hl : L.length ≤ c') : Ch (LkT pb L) B w F (w.setCell ⟨pb, 0, none⟩ (.slice a' L.length c')) := by
 obtain ⟨a, c1, h1, h2, h3, h4, h5, h6⟩ := h
 have hp : 0 < (x :: L).length := by simp
 have e0 := af (i := 0) h1 rfl
 rw [hc] at e0
 simp only [Option.some.injEq] at e0
 obtain ⟨rfl, _, rfl⟩ := Value.slice.inj e0
 obtain ⟨g', o', e, hx⟩ := h2 hp
 simp only [Option.some.injEq, Addr.mk.injEq, and_true] at e
 obtain ⟨rfl, rfl⟩ := e
 have hne : pb ≠ g := fun q => h5 hp (by rw [q]; simp [obd])
 have hk : Kp [pb] w (w.setCell ⟨pb, 0, none⟩ (.slice a' L.length c')) := (Kp.refl [pb] w).setCell (.inl (by simp)) _
 have hpF : pb ∈ F := by rw [h3]; simp
 have hgF : g ∈ F := by rw [h3, if_neg (by omega)]; simp [obd]
 refine ⟨pb :: (if L.length = 0 then [] else obd a'), ⟨a', c', ?_, fun hq => ⟨g, o + 4, ha hq, fun i y hy => ?_⟩, rfl, fun y hy => ?_, fun hq => ?_, hl⟩, hk.mono (fun y hy => .inl (by rw [List.mem_singleton.1 hy]; exact hpF)), fun y hy => ?_⟩
 ·rw [an _ _ h1]; rfl
 ·have := (hx (i + 1) y (by simpa using hy)).kp hk (by simp; exact fun q => hne q.symm)
  rwa [show o + (i + 1) * 4 = o + 4 + i * 4 by omega] at this
 ·rcases List.mem_cons.1 hy with q | q
  ·rw [q]; exact ⟨(h4 pb hpF).1, Nat.lt_of_lt_of_le (h4 pb hpF).2 hk.size⟩
  ·split at q
   ·simp at q
   ·rw [ha (by omega)] at q
    simp [obd] at q
    rw [q]; exact ⟨(h4 g hgF).1, Nat.lt_of_lt_of_le (h4 g hgF).2 hk.size⟩
 ·rw [ha hq]; simp [obd]; exact hne
 ·rcases List.mem_cons.1 hy with q | q
  ·rw [q]; exact .inl hpF
  ·split at q
   ·simp at q
   ·rw [ha (by omega)] at q
    simp [obd] at q
    rw [q]; exact .inl hgF
theorem jb {w w' : World} {p0 p1 : Addr} {x0 x1 : Value} {q : Nat} {cs : List Value} (h : w.cell? p0 = some x0 ∧ w.cell? p1 = some x1 ∧ w.rangeAt q 0 cs) (hk : Kp [] w w') : w'.cell? p0 = some x0 ∧ w'.cell? p1 = some x1 ∧ w'.rangeAt q 0 cs :=
 ⟨hk.cell (by simp) h.1, hk.cell (by simp) h.2.1, fun j u hu => hk.cell (by simp) (h.2.2 j u hu)⟩
theorem aE {w : World} {p : Nat} {u : Nat → Ver} {T : TypeId} (h : w.heap[p]? = some (.cells (ay u) T (0, 0))) : w.rangeAt p 0 (ay u).toList := fun j v hv => by
 rw [Nat.zero_add]
 exact af h (by simpa using hv)
def zx (v : Nat → Ver) (u : Int) (L : List Dx) (w0 : World) (pb : Nat) (r : List ao) (e : Ending) (w' : World) : Prop := ∃ L', e = .returned (.bool (btw v u (L.map Dx.d)).1) ∧ L'.map Dx.d = (btw v u (L.map Dx.d)).2 ∧ (∀ x, x ∈ L' → x ∈ L) ∧ L'.length ≤ L.length ∧ Zoo w0 w' (LkT pb L' :: r)
theorem wV {w0 w : World} {pb : Nat} {L : List Dx} {r : List ao} (h : Zoo w0 w (LkT pb L :: r)) : w.frozen? ⟨pb, 0, none⟩ = false := by
 obtain ⟨F, ⟨a, c, h1, _⟩, _⟩ := bi h
 exact ak 0 h1
theorem oR {w0 w : World} {pb g o c c' : Nat} {x : Dx} {L : List Dx} {a' : Option Addr} {r : List ao} (h : Zoo w0 w (LkT pb (x :: L) :: r)) (hc : w.cell? ⟨pb, 0, none⟩ = some (.slice (some ⟨g, o, none⟩) (L.length + 1) c)) (ha : 0 < L.length → a' = some ⟨g, o + 4, none⟩) (hl : L.length ≤ c') : Zoo w0 (w.setCell ⟨pb, 0, none⟩ (.slice a' L.length c')) (LkT pb L :: r) := by
 obtain ⟨F, h1, h2⟩ := bi h
 exact h2 _ _ (vy h1 hc ha hl)
theorem iD {w0 w : World} {pb : Nat} {L : List Dx} {r : List ao} (h : Zoo w0 w (LkT pb L :: r)) : ∃ a c, w.cell? ⟨pb, 0, none⟩ = some (.slice a L.length c) ∧ nP w a L ∧ L.length ≤ c := by
 obtain ⟨F, ⟨a, c, h1, h2, _, _, _, h6⟩, _⟩ := bi h
 exact ⟨a, c, af h1 rfl, h2, h6⟩
theorem aH {w0 w : World} {A B : ao} {r : List ao} (h : Zoo w0 w (A :: B :: r)) : Zoo w0 w (A :: r) := (bB h).tail
theorem mR (v : Nat → Ver) (u : Int) (pb : Nat) (L : List Dx) (w0 w : World) (r : List ao) (hz : Zoo w0 w (LkT pb L :: r)) (ha : ∀ x, x ∈ L → (∀ W, Kp [] w0 W → bM W x.a x.d.acts) ∧ dy x.d.acts) :
 Calls Tryz.prog 40 #[.agg (ay v), .int .i64 u, .pointer (some ⟨pb, 0, none⟩)] w fun e w' => zx v u L w0 pb r e w' := by
 have HA := ag ha
 have HZ0 := ag (bB (hz.box (ay v) 45))
 clear hz ha
 go_enter Tryz.func40, Tryz.ntmps40
 go_wp2_with fail
 generalize w.heap.size = q at *
 go_loopw [6, 7] (fun _ _ wr => Hid (∃ L' : List Dx, btw v u (L'.map Dx.d) = btw v u (L.map Dx.d) ∧ (∀ x, x ∈ L' → x ∈ L) ∧ L'.length ≤ L.length ∧ Zoo w0 wr (LkT pb L' :: au q (ay v) 45 :: r))) (fun _ _ wr => match wr.cell? ⟨pb, 0, none⟩ with | some (.slice _ n _) => n | _ => 0)
 case atStart => exact ⟨L, rfl, fun _ hx => hx, Nat.le_refl _, ae HZ0⟩
 case round =>
  obtain ⟨L1, m1, m2, m3, hz⟩ := ae hrel
  have HZ := ag hz
  have HM := ag (And.intro m1 (And.intro m2 m3))
  obtain ⟨a, c, hcell, hdx, hlec⟩ := iD hz
  have hqv := Zoo.var (bB hz)
  clear hz hrel m1 m2 m3 HZ0
  cases L1 with
  | nil =>
    dsimp only [List.length_nil] at hcell
    go_wp2_with fail
    go_ret
    refine ⟨[], ?_, ?_, fun x hx => by simp at hx, by simp, aH (ae HZ)⟩
    ·rw [← (ae HM).1]; rfl
    ·rw [← (ae HM).1]; rfl
  | cons x L' =>
    obtain ⟨g, o, rfl, hx⟩ := hdx (by simp)
    have h0 := hx 0 x (by simp)
    simp only [Nat.zero_mul, Nat.add_zero] at h0
    have c1 := h0.c1
    have c3 : wr.cell? ⟨g, o + 3, none⟩ = _ := h0.c3
    clear hx h0
    have hac := ae HA x ((ae HM).2.1 x (by simp))
    obtain ⟨⟨xn, xa, xm, xacts⟩, xp, xc⟩ := x
    dsimp only at c1 c3 hac
    have HAC := ag (hac.1 _ (ae HZ).kp)
    have hok := hac.2
    clear hac
    obtain ⟨lx, hlx⟩ : ∃ lx, xacts.length = lx := ⟨_, rfl⟩
    rw [hlx] at c3
    have HLX := ag hlx
    clear hlx
    obtain ⟨n, hn⟩ : ∃ n, (⟨⟨xn, xa, xm, xacts⟩, xp, xc⟩ :: L').length = n := ⟨_, rfl⟩
    rw [hn] at hcell hlec
    have hn1 : 0 < n := by rw [← hn]; simp
    have hnl : L'.length + 1 = n := by rw [← hn]; simp
    have HN := ag hnl.symm
    have hlc : L'.length ≤ c - 1 := by omega
    have j1 : (0 : Int) < (n : Int) := by omega
    have hnl' : n - 1 = L'.length := by omega
    clear hn
    by_cases hau : xa ≤ u
    ·have hau' : xa ≤ u := hau
     have HG := ag (And.intro hcell (And.intro c3 (aE hqv)))
     go_wp2_with fail
     clear hqv
     refine wp_region_held_drew (S := fun w' => w'.cell? ⟨pb, 0, none⟩ = some (.slice (some ⟨g, o, none⟩) n c) ∧ w'.cell? ⟨g, o + 3, none⟩ = some (.slice xp lx xc) ∧ w'.rangeAt q 0 (ay v).toList) (by kernel_rfl) (jb (ae HG) (Kp.refl [] wr).drew) (fun hHeld => ?_)
     have HKD := ag ((Kp.refl [] wr).drew)
     generalize World.drew _ = WD at HKD hHeld ⊢
     refine dA (i := 0) rfl (by kernel_rfl) (by kernel_rfl) (by kernel_rfl) (fun _ _ _ h => h) (lL (by rfl) _ rfl q 0 rfl v (fun _ h => h.2.2)) hHeld ?_
     try simp only [Act.put, sx, sy, sz]
     refine tk 1 ?_ rfl (by kernel_rfl) (fun _ _ _ h => h) (by rfl) ?_ hHeld ?_;rotate_left;· intro w hSw;(try dsimp only at hSw);go_simp;try with_reducible rfl
     try simp only [Act.put, sx, sy, sz]
     refine tk 2 ?_ rfl (by kernel_rfl) (fun _ _ _ h => h) (by rfl) ?_ hHeld ?_;rotate_left;· intro w hSw;(try dsimp only at hSw);go_simp;try with_reducible rfl
     try simp only [Act.put, sx, sy, sz]
     refine tk 3 ?_ rfl (by kernel_rfl) (fun _ _ _ h => h) (by rfl) ?_ hHeld ?_;rotate_left;· intro w hSw;(try dsimp only at hSw);go_simp;try with_reducible rfl
     try simp only [Act.put, sx, sy, sz]
     refine tk 4 ?_ rfl (by kernel_rfl) (fun _ _ _ h => h) (by rfl) ?_ hHeld ?_;rotate_left;· intro w hSw;(try dsimp only at hSw);go_simp;try with_reducible rfl
     try simp only [Act.put, sx, sy, sz]
     refine bK (i := 5) (j := 9) rfl rfl (by kernel_rfl) (fun K hK => ?_) (fun K hK => ?_)
     ·go_simp
      rw [← ae HLX]
      refine (gV v xp xc xacts _ ((ae HAC).kp0 (ae HKD)) hok).mono ?_
      rintro e w3 ⟨rfl, hk3⟩
      have HK3 := ag ((ae HKD).trans0 hk3)
      clear hk3
      rw [ae HLX]
      go_wp2_with fail
      refine hK.out _ _ (jb (ae HG) (ae HK3)) (fun hHeld2 => ?_)
      clear hK K hHeld
      have hHeld := hHeld2
      clear hHeld2
      try simp only [Act.put, sx, sy, sz]
      refine tk 6 ?_ rfl (by kernel_rfl) (fun _ _ _ h => h) (by rfl) ?_ hHeld ?_;rotate_left;· intro w hSw;(try dsimp only at hSw);go_simp;try with_reducible rfl
      try simp only [Act.put, sx, sy, sz]
      refine tk 7 ?_ rfl (by kernel_rfl) (fun _ _ _ h => h) (by rfl) ?_ hHeld ?_;rotate_left;· intro w hSw;(try dsimp only at hSw);go_simp;try with_reducible rfl
      try simp only [Act.put, sx, sy, sz]
      refine tk 8 ?_ rfl (by kernel_rfl) (fun _ _ _ h => h) (by rfl) ?_ hHeld ?_;rotate_left;· intro w hSw;(try dsimp only at hSw);go_simp;try with_reducible rfl
      try simp only [Act.put, sx, sy, sz]
      refine aj (i := 9) rfl (by kernel_rfl) (fun K hK => ?_)
      go_simp
      have HKA := ag ((ae HK3).alloc (.cells (ay (fun _ => dv)) 45))
      have HB3 := ag (heap_alloc_new w3 (.cells (ay (fun _ => dv)) 45))
      have SS := jb (ae HG) (ae HKA)
      rw [bI] at HKA HB3 SS
      have hp3 := (ae HK3).size
      refine hK.out _ _ (SS) (fun hHeld2 => ?_)
      clear hK K hHeld
      have hHeld := hHeld2
      clear hHeld2
      try simp only [Act.put, sx, sy, sz]
      clear SS
      generalize hp3e : w3.heap.size = p3 at *
      clear hp3e
      refine aj (i := 10) rfl (by kernel_rfl) (fun K hK => ?_)
      rw [if_pos (by rfl)]
      refine wp_store_row 45 _ _ rfl p3 (ay (rpw v xacts)) rfl rfl 45 _ (ae HB3) Tryz.size45 rfl (aS _) ?_
      have HKE := ag ((ae HKA).trans (fL (cs := ay (rpw v xacts)) (ae HB3)).2 (fun x hx => .inr (by rw [List.mem_singleton.1 hx]; exact hp3)))
      refine hK.out _ _ (jb (ae HG) (ae HKE)) (fun hHeld2 => ?_)
      clear hK K hHeld
      have hHeld := hHeld2
      clear hHeld2
      simp only [Act.put]
      refine tk 11 ?_ rfl (by kernel_rfl) (fun _ _ _ h => h) (by rfl) ?_ hHeld ?_;rotate_left;· intro w hSw;(try dsimp only at hSw);go_simp;try with_reducible rfl
      try simp only [Act.put, sx, sy, sz]
      refine wpAnyH_done (by kernel_rfl) ?_ _
      generalize World.setRow _ _ _ = W12 at HKE ⊢
      clear hHeld
      have HZ2 := ag ((ae HZ).kp0 (ae HKE))
      cases hro : rpo v xacts with
      | false =>
        have HRO := ag hro
        clear hro
        go_wp2_with fail
        go_ret
        refine ⟨⟨⟨xn, xa, xm, xacts⟩, xp, xc⟩ :: L', ?_, ?_, (ae HM).2.1, (ae HM).2.2, aH (ae HZ2)⟩
        ·rw [← (ae HM).1]; simp [btw, hau', ae HRO]
        ·rw [← (ae HM).1]; simp [btw, hau', ae HRO]
      | true =>
        have HRO := ag hro
        clear hro
        have hc2 : W12.cell? ⟨pb, 0, none⟩ = some (.slice (some ⟨g, o, none⟩) n c) := (ae HKE).cell (by simp) (ae HG).1
        have hf2 := wV (ae HZ2)
        go_wp2_with fail
        have HZ3 := ag (oR (c' := c - 1) (a' := if c = 1 then some ⟨g, o, none⟩ else some ⟨g, o + 4, none⟩) (ae HZ2) (by rw [← ae HN]; exact hc2) (fun q => if_neg (by omega)) hlc)
        obtain ⟨a9, c9, e9, _⟩ := iD (ae HZ3)
        exact ⟨⟨L', by rw [← (ae HM).1]; simp [btw, hau', ae HRO], fun y hy => (ae HM).2.1 y (by simp [hy]), by have := (ae HM).2.2; simp at this; omega, ae HZ3⟩, by rw [e9, hcell]; dsimp only; omega⟩
     ·go_simp
      have HKA := ag ((ae HKD).alloc (.cells (ay (fun _ => dv)) 45))
      have HB3 := ag (heap_alloc_new WD (.cells (ay (fun _ => dv)) 45))
      have SS := jb (ae HG) (ae HKA)
      rw [bI] at HKA HB3 SS
      have hp3 := (ae HKD).size
      refine hK.out _ _ (SS) (fun hHeld2 => ?_)
      clear hK K hHeld
      have hHeld := hHeld2
      clear hHeld2
      try simp only [Act.put, sx, sy, sz]
      clear SS
      generalize hp3e : WD.heap.size = p3 at *
      clear hp3e
      have HB4 := HB3
      refine aj (i := 5) rfl (by kernel_rfl) (fun K hK => ?_)
      go_simp
      rw [← ae HLX]
      refine (gV v xp xc xacts _ ((ae HAC).kp0 (ae HKA)) hok).mono ?_
      rintro e w3 ⟨rfl, hk3⟩; have HKR := ag hk3
      have HK3 := ag ((ae HKA).trans0 hk3)
      clear hk3
      rw [ae HLX]
      go_wp2_with fail
      refine hK.out _ _ (jb (ae HG) (ae HK3)) (fun hHeld2 => ?_)
      clear hK K hHeld
      have hHeld := hHeld2
      clear hHeld2
      try simp only [Act.put, sx, sy, sz]
      refine tk 6 ?_ rfl (by kernel_rfl) (fun _ _ _ h => h) (by rfl) ?_ hHeld ?_;rotate_left;· intro w hSw;(try dsimp only at hSw);go_simp;try with_reducible rfl
      try simp only [Act.put, sx, sy, sz]
      refine tk 7 ?_ rfl (by kernel_rfl) (fun _ _ _ h => h) (by rfl) ?_ hHeld ?_;rotate_left;· intro w hSw;(try dsimp only at hSw);go_simp;try with_reducible rfl
      try simp only [Act.put, sx, sy, sz]
      refine tk 8 ?_ rfl (by kernel_rfl) (fun _ _ _ h => h) (by rfl) ?_ hHeld ?_;rotate_left;· intro w hSw;(try dsimp only at hSw);go_simp;try with_reducible rfl
      try simp only [Act.put, sx, sy, sz]
      have HB5 := ag (((ae HKR).block p3 (ah (ae HB3)) (by simp)).trans (ae HB3))
      refine aj (i := 10) rfl (by kernel_rfl) (fun K hK => ?_)
      rw [if_pos (by rfl)]
      refine wp_store_row 45 _ _ rfl p3 (ay (rpw v xacts)) rfl rfl 45 _ (ae HB5) Tryz.size45 rfl (aS _) ?_
      have HKE := ag ((ae HK3).trans (fL (cs := ay (rpw v xacts)) (ae HB5)).2 (fun x hx => .inr (by rw [List.mem_singleton.1 hx]; exact hp3)))
      refine hK.out _ _ (jb (ae HG) (ae HKE)) (fun hHeld2 => ?_)
      clear hK K hHeld
      have hHeld := hHeld2
      clear hHeld2
      simp only [Act.put]
      refine tk 11 ?_ rfl (by kernel_rfl) (fun _ _ _ h => h) (by rfl) ?_ hHeld ?_;rotate_left;· intro w hSw;(try dsimp only at hSw);go_simp;try with_reducible rfl
      try simp only [Act.put, sx, sy, sz]
      refine wpAnyH_done (by kernel_rfl) ?_ _
      generalize World.setRow _ _ _ = W12 at HKE ⊢
      clear hHeld
      have HZ2 := ag ((ae HZ).kp0 (ae HKE))
      cases hro : rpo v xacts with
      | false =>
        have HRO := ag hro
        clear hro
        go_wp2_with fail
        go_ret
        refine ⟨⟨⟨xn, xa, xm, xacts⟩, xp, xc⟩ :: L', ?_, ?_, (ae HM).2.1, (ae HM).2.2, aH (ae HZ2)⟩
        ·rw [← (ae HM).1]; simp [btw, hau', ae HRO]
        ·rw [← (ae HM).1]; simp [btw, hau', ae HRO]
      | true =>
        have HRO := ag hro
        clear hro
        have hc2 : W12.cell? ⟨pb, 0, none⟩ = some (.slice (some ⟨g, o, none⟩) n c) := (ae HKE).cell (by simp) (ae HG).1
        have hf2 := wV (ae HZ2)
        go_wp2_with fail
        have HZ3 := ag (oR (c' := c - 1) (a' := if c = 1 then some ⟨g, o, none⟩ else some ⟨g, o + 4, none⟩) (ae HZ2) (by rw [← ae HN]; exact hc2) (fun q => if_neg (by omega)) hlc)
        obtain ⟨a9, c9, e9, _⟩ := iD (ae HZ3)
        exact ⟨⟨L', by rw [← (ae HM).1]; simp [btw, hau', ae HRO], fun y hy => (ae HM).2.1 y (by simp [hy]), by have := (ae HM).2.2; simp at this; omega, ae HZ3⟩, by rw [e9, hcell]; dsimp only; omega⟩
    ·have hau' : ¬ xa ≤ u := hau
     go_wp2_with fail
     go_ret
     refine ⟨⟨⟨xn, xa, xm, xacts⟩, xp, xc⟩ :: L', ?_, ?_, (ae HM).2.1, (ae HM).2.2, aH (ae HZ)⟩
     ·rw [← (ae HM).1]; simp only [List.map_cons, btw]; rw [if_neg (by omega)]; rfl
     ·rw [← (ae HM).1]; simp only [List.map_cons, btw]; rw [if_neg (by omega)]
end
section
open Go.RowKit
def aJ (os : List ao) : ao where
 holds B w F := ce B w os F
 kp := fun h hk hS => ce.kp hk h hS
 lo := fun h => h.lo
 base := fun h hC => ce.base hC h
theorem dQ {B : Nat} {w : World} : ∀ {us vs : List ao} {X : List Nat}, ce B w (us ++ vs) X → ∃ F Y, ce B w us F ∧ ce B w vs Y ∧ (∀ x, x ∈ F → x ∉ Y) ∧ X = F ++ Y
 | [], vs, X, h => ⟨[], X, rfl, h, fun _ hx => by simp at hx, rfl⟩
 | o :: us, vs, X, ⟨F, Y, h1, h2, h3, e⟩ => by
   obtain ⟨F1, Y1, k1, k2, k3, rfl⟩ := dQ h2
   refine ⟨F ++ F1, Y1, ⟨F, F1, h1, k1, fun x hx hy => h3 x hx (by simp [hy]), rfl⟩, k2, fun x hx hy => ?_, by rw [e, List.append_assoc]⟩
   rcases List.mem_append.1 hx with q | q
   ·exact h3 x q (by simp [hy])
   ·exact k3 x q hy
theorem ew {B : Nat} {w : World} : ∀ {us vs : List ao} {F Y : List Nat}, ce B w us F → ce B w vs Y → (∀ x, x ∈ F → x ∉ Y) → ce B w (us ++ vs) (F ++ Y)
 | [], vs, F, Y, h1, h2, _ => by rw [show F = [] from h1]; exact h2
 | o :: us, vs, F, Y, ⟨F1, F2, h1, h2, h3, e⟩, k, hd => by
   subst e
   refine ⟨F1, F2 ++ Y, h1, ew h2 k (fun x hx => hd x (by simp [hx])), fun x hx hy => ?_, by rw [List.append_assoc]⟩
   rcases List.mem_append.1 hy with q | q
   ·exact h3 x hx q
   ·exact hd x (by simp [hx]) q
section
variable {w0 w w' : World} {os us r : List ao}
theorem gW (h : Zoo w0 w (aJ os :: r)) : Zoo w0 w (os ++ r) := by
 obtain ⟨X, ⟨F, Y, h1, h2, h3, rfl⟩, hk⟩ := h
 exact ⟨F ++ Y, ew h1 h2 h3, hk⟩
theorem bR (h : Zoo w0 w (os ++ r)) : Zoo w0 w (aJ os :: r) := by
 obtain ⟨X, h1, hk⟩ := h
 obtain ⟨F, Y, k1, k2, k3, rfl⟩ := dQ h1
 exact ⟨F ++ Y, ⟨F, Y, k1, k2, k3, rfl⟩, hk⟩
end
abbrev Sd := Option (Nat × Dp)
def bz : Sd → ao
 | none => aJ []
 | some x => au x.1 (cn x.2.md x.2.y (cq x.2.rs x.2.ws)) 175
def sp (o : Sd) : Value := .pointer (o.map fun x => ⟨x.1, 0, none⟩)
def aK (vb : Nat) (st : Nat → Sd) : Array Value := #[.pointer (some ⟨vb, 0, none⟩), sp (st 0), sp (st 1), sp (st 2), sp (st 3), sp (st 4)]
def bD (st : Nat → Sd) : List ao := [bz (st 0), bz (st 1), bz (st 2), bz (st 3), bz (st 4)]
def Sts (st : Nat → Sd) (seat : Nat → Option Dp) : Prop := ∀ s, (st s).map Prod.snd = seat s
def hth (hb vb tb gb : Nat) (h : HSt) (st : Nat → Sd) : List ao := au hb (aK vb st) 67 :: bh vb tb gb h.f h.n h.cs [] :: bD st
def ix (hb : Nat) (h : HSt) : ao where
 holds B w F := ∃ vb tb gb st, Sts st h.seat ∧ bT h ∧ ce B w (hth hb vb tb gb h st) F
 kp := fun ⟨vb, tb, gb, st, h1, h2, h3⟩ hk hS => ⟨vb, tb, gb, st, h1, h2, ce.kp hk h3 hS⟩
 lo := fun ⟨_, _, _, _, _, _, h⟩ => h.lo
 base := fun ⟨vb, tb, gb, st, h1, h2, h3⟩ hC => ⟨vb, tb, gb, st, h1, h2, ce.base hC h3⟩
def az (w0 w : World) (hb vb tb gb : Nat) (h : HSt) (st : Nat → Sd) (r : List ao) : Prop := Zoo w0 w (au hb (aK vb st) 67 :: bh vb tb gb h.f h.n h.cs [] :: (bD st ++ r))
section
variable {w0 w w' : World} {hb vb tb gb : Nat} {h h' : HSt} {st : Nat → Sd} {r : List ao}
theorem mv (hz : Zoo w0 w (ix hb h :: r)) : ∃ vb tb gb st, Sts st h.seat ∧ bT h ∧ az w0 w hb vb tb gb h st r := by
 obtain ⟨X, ⟨F, Y, ⟨vb, tb, gb, st, h1, h2, k⟩, h4, h5, rfl⟩, hk⟩ := hz
 exact ⟨vb, tb, gb, st, h1, h2, F ++ Y, ew k h4 h5, hk⟩
theorem kq (hs : Sts st h.seat) (hi : bT h) (hz : az w0 w hb vb tb gb h st r) : Zoo w0 w (ix hb h :: r) := by
 obtain ⟨X, h1, hk⟩ := hz
 obtain ⟨F, Y, k1, k2, k3, rfl⟩ := dQ (us := hth hb vb tb gb h st) (vs := r) h1
 exact ⟨F ++ Y, ⟨F, Y, ⟨vb, tb, gb, st, hs, hi, k1⟩, k2, k3, rfl⟩, hk⟩
theorem az.kp0 (hz : az w0 w hb vb tb gb h st r) (hk : Kp [] w w') : az w0 w' hb vb tb gb h st r := Zoo.kp0 hz hk
theorem az.vlt (hz : az w0 w hb vb tb gb h st r) : Zoo w0 w (bh vb tb gb h.f h.n h.cs [] :: au hb (aK vb st) 67 :: (bD st ++ r)) := bB hz
theorem az.of_vlt {vb : Nat} {f : Nat → List Ver} {n : Nat} {cs : List (List Ver)} {seat : Nat → Option Dp} (hz : Zoo w0 w (bh vb tb gb f n cs [] :: au hb (aK vb st) 67 :: (bD st ++ r))) : az w0 w hb vb tb gb ⟨f, n, cs, seat⟩ st r := bB hz
theorem az.box (hz : az w0 w hb vb tb gb h st r) : w.heap[hb]? = some (.cells (aK vb st) 67 (0, 0)) := Zoo.var hz
theorem az.c0 (hz : az w0 w hb vb tb gb h st r) : w.cell? ⟨hb, 0, none⟩ = some (.pointer (some ⟨vb, 0, none⟩)) := af hz.box rfl
theorem qa (vb : Nat) (st : Nat → Sd) {s : Nat} (hs : s < 5) : (aK vb st)[1 + s]? = some (sp (st s)) := by
 rcases (show s = 0 ∨ s = 1 ∨ s = 2 ∨ s = 3 ∨ s = 4 by omega) with e | e | e | e | e <;> subst e <;> rfl
theorem az.cs_ (hz : az w0 w hb vb tb gb h st r) {s : Nat} (hs : s < 5) : w.cell? ⟨hb, 1 + s, none⟩ = some (sp (st s)) := af hz.box (qa vb st hs)
theorem az.fz (hz : az w0 w hb vb tb gb h st r) (i : Nat) : w.frozen? ⟨hb, i, none⟩ = false := ak i hz.box
theorem az.lt (hz : az w0 w hb vb tb gb h st r) : hb < w.heap.size := ah hz.box
theorem az.v0 (hz : az w0 w hb vb tb gb h st r) : w.cell? ⟨vb, 0, none⟩ = some (.pointer (some ⟨tb, 0, none⟩)) := by
 obtain ⟨F, ⟨Ft, Fg, k⟩, _⟩ := bW hz
 exact k.c0
theorem az.vlt_ (hz : az w0 w hb vb tb gb h st r) : vb < w.heap.size := by
 obtain ⟨F, ⟨Ft, Fg, k⟩, _⟩ := bW hz
 exact (k.lo vb k.vF).2
theorem gy (st : Nat → Sd) {s : Nat} (hs : s < 5) : ∃ l1 l2, bD st = l1 ++ bz (st s) :: l2 ∧ ∀ d, bD (upd st s d) = l1 ++ bz d :: l2 := by
 rcases (show s = 0 ∨ s = 1 ∨ s = 2 ∨ s = 3 ∨ s = 4 by omega) with e | e | e | e | e <;> subst e
 ·exact ⟨[], [bz (st 1), bz (st 2), bz (st 3), bz (st 4)], rfl, fun d => by simp [bD, upd]⟩
 ·exact ⟨[bz (st 0)], [bz (st 2), bz (st 3), bz (st 4)], rfl, fun d => by simp [bD, upd]⟩
 ·exact ⟨[bz (st 0), bz (st 1)], [bz (st 3), bz (st 4)], rfl, fun d => by simp [bD, upd]⟩
 ·exact ⟨[bz (st 0), bz (st 1), bz (st 2)], [bz (st 4)], rfl, fun d => by simp [bD, upd]⟩
 ·exact ⟨[bz (st 0), bz (st 1), bz (st 2), bz (st 3)], [], rfl, fun d => by simp [bD, upd]⟩
theorem az.out (hz : az w0 w hb vb tb gb h st r) {s : Nat} (hs : s < 5) : ∃ rest, Zoo w0 w (bh vb tb gb h.f h.n h.cs [] :: bz (st s) :: rest) ∧
 ∀ (w' : World) (tb' : Nat) (f : Nat → List Ver) (n : Nat) (cs : List (List Ver)) (d : Sd) (seat : Nat → Option Dp), sp d = sp (st s) → Zoo w0 w' (bh vb tb' gb f n cs [] :: bz d :: rest) → az w0 w' hb vb tb' gb ⟨f, n, cs, seat⟩ (upd st s d) r := by
 obtain ⟨l1, l2, e1, e2⟩ := gy st hs
 have hc : ∀ d, sp d = sp (st s) → aK vb (upd st s d) = aK vb st := fun d hd => by
  rcases (show s = 0 ∨ s = 1 ∨ s = 2 ∨ s = 3 ∨ s = 4 by omega) with e | e | e | e | e <;> subst e <;> simp [aK, upd, hd]
 refine ⟨au hb (aK vb st) 67 :: (l1 ++ (l2 ++ r)), ?_, fun w' tb' f n cs d seat hd hz' => ?_⟩
 ·have h1 := az.vlt hz
  rw [e1, List.append_assoc] at h1
  refine h1.perm (List.Perm.cons _ ?_)
  exact (List.perm_middle (l₁ := au hb (aK vb st) 67 :: l1))
 ·refine az.of_vlt ?_
  rw [e2, hc d hd, List.append_assoc]
  refine hz'.perm (List.Perm.cons _ ?_)
  exact (List.perm_middle (l₁ := au hb (aK vb st) 67 :: l1)).symm
theorem az.out2 (hz : az w0 w hb vb tb gb h st r) {s : Nat} (hs : s < 5) : ∃ rest, Zoo w0 w (bh vb tb gb h.f h.n h.cs [] :: bz (st s) :: rest) ∧
 ∀ (w' : World) (tb' : Nat) (f : Nat → List Ver) (n : Nat) (cs : List (List Ver)) (d : Sd) (P : ao) (seat : Nat → Option Dp), sp d = sp (st s) → Zoo w0 w' (bh vb tb' gb f n cs [] :: bz d :: P :: rest) → az w0 w' hb vb tb' gb ⟨f, n, cs, seat⟩ (upd st s d) (P :: r) := by
 obtain ⟨l1, l2, e1, e2⟩ := gy st hs
 have hc : ∀ d, sp d = sp (st s) → aK vb (upd st s d) = aK vb st := fun d hd => by
  rcases (show s = 0 ∨ s = 1 ∨ s = 2 ∨ s = 3 ∨ s = 4 by omega) with e | e | e | e | e <;> subst e <;> simp [aK, upd, hd]
 refine ⟨au hb (aK vb st) 67 :: (l1 ++ (l2 ++ r)), ?_, fun w' tb' f n cs d P seat hd hz' => ?_⟩
 ·have h1 := az.vlt hz
  rw [e1, List.append_assoc] at h1
  refine h1.perm (List.Perm.cons _ ?_)
  exact (List.perm_middle (l₁ := au hb (aK vb st) 67 :: l1))
 ·refine az.of_vlt ?_
  rw [e2, hc d hd, List.append_assoc]
  refine hz'.perm (List.Perm.cons _ ?_)
  have p1 := (List.perm_middle (l₁ := au hb (aK vb st) 67 :: l1) (a := bz d) (l₂ := l2 ++ (P :: r))).symm
  refine List.Perm.trans (List.Perm.cons _ ?_) p1
  have p2 := (List.perm_middle (l₁ := au hb (aK vb st) 67 :: (l1 ++ l2)) (a := P) (l₂ := r)).symm
  have e3 : ∀ q : List ao, au hb (aK vb st) 67 :: (l1 ++ (l2 ++ q)) = (au hb (aK vb st) 67 :: (l1 ++ l2)) ++ q := fun q => by simp
  show (P :: au hb (aK vb st) 67 :: (l1 ++ (l2 ++ r))).Perm (au hb (aK vb st) 67 :: (l1 ++ (l2 ++ (P :: r))))
  rw [e3, e3]
  exact p2
theorem nB (vb : Nat) (st : Nat → Sd) {s : Nat} (hs : s < 5) (d : Sd) : (aK vb st).setIfInBounds (1 + s) (sp d) = aK vb (upd st s d) := by
 rcases (show s = 0 ∨ s = 1 ∨ s = 2 ∨ s = 3 ∨ s = 4 by omega) with e | e | e | e | e <;> subst e <;> simp [aK, upd]
theorem az.sit {s : Nat} (hs : s < 5) (d : Sd) (k : Zoo w0 w (au hb (aK vb st) 67 :: bh vb tb gb h.f h.n h.cs [] :: (bD (upd st s d) ++ r))) :
 az w0 (w.setCell ⟨hb, 1 + s, none⟩ (sp d)) hb vb tb gb h (upd st s d) r := by
 obtain ⟨F, ⟨hbx, h2, h3⟩, k2⟩ := bi k
 refine k2 _ _ ⟨F, ⟨?_, h2, h3⟩, ?_, fun x hx => .inl hx⟩
 ·rw [an _ _ hbx, nB vb st hs d]
 ·rw [h2]
  exact (Kp.refl [hb] w).setCell (.inl (by simp)) _
theorem cF (hz : Zoo w0 w r) : Zoo w0 w (bz none :: r) := bR (os := []) hz
theorem az.leave (hz : az w0 w hb vb tb gb h st r) {s : Nat} (hs : s < 5) : az w0 (w.setCell ⟨hb, 1 + s, none⟩ (.pointer none)) hb vb tb gb h (upd st s none) (bz (st s) :: r) := by
 obtain ⟨l1, l2, e1, e2⟩ := gy st hs
 generalize hA : au hb (aK vb st) 67 :: bh vb tb gb h.f h.n h.cs [] :: l1 = A
 have h1 : Zoo w0 w (A ++ bz (st s) :: (l2 ++ r)) := by
  have := hz
  unfold az at this
  rw [e1, List.append_assoc] at this
  rw [← hA]
  exact this
 have h2 := (cF h1).perm ((List.Perm.cons _ List.perm_middle).trans (List.Perm.swap _ _ _))
 have h3 := h2.perm (List.Perm.cons _ (List.perm_middle (l₁ := A)).symm)
 have h4 : Zoo w0 w (bz (st s) :: ((A ++ bz none :: l2) ++ r)) := by rw [List.append_assoc]; exact h3
 have h5 := h4.perm (List.perm_middle (l₁ := A ++ bz none :: l2)).symm
 have h6 : Zoo w0 w (au hb (aK vb st) 67 :: bh vb tb gb h.f h.n h.cs [] :: (bD (upd st s none) ++ (bz (st s) :: r))) := by
  rw [e2]
  rw [← hA] at h5
  exact h5
 exact az.sit hs none h6
theorem az.join {d : Sd} (hz : Zoo w0 w (bh vb tb gb h.f h.n h.cs [] :: bz d :: au hb (aK vb st) 67 :: (bD st ++ r))) {s : Nat} (hs : s < 5) (hn : st s = none) : az w0 (w.setCell ⟨hb, 1 + s, none⟩ (sp d)) hb vb tb gb h (upd st s d) r := by
 obtain ⟨l1, l2, e1, e2⟩ := gy st hs
 refine az.sit (h := h) (st := st) hs d ?_
 rw [e1, hn, List.append_assoc] at hz
 have h1 : Zoo w0 w ((bh vb tb gb h.f h.n h.cs [] :: bz d :: au hb (aK vb st) 67 :: l1) ++ bz none :: (l2 ++ r)) := hz
 have h2 := h1.drop_
 rw [e2, List.append_assoc]
 refine h2.perm ?_
 have p1 : (bh vb tb gb h.f h.n h.cs [] :: bz d :: au hb (aK vb st) 67 :: (l1 ++ (l2 ++ r))).Perm (au hb (aK vb st) 67 :: bh vb tb gb h.f h.n h.cs [] :: bz d :: (l1 ++ (l2 ++ r))) := List.perm_middle (l₁ := [bh vb tb gb h.f h.n h.cs [], bz d])
 exact p1.trans (List.Perm.cons _ (List.Perm.cons _ List.perm_middle.symm))
theorem az.leaveAll (hz : az w0 w hb vb tb gb h st r) (hb' : w'.heap[hb]? = some (.cells (aK vb (fun _ => none)) 67 (0, 0))) (hk : Kp [hb] w w') : az w0 w' hb vb tb gb ⟨h.f, h.n, h.cs, fun _ => none⟩ (fun _ => none) r := by
 have h1 : Zoo w0 w ((au hb (aK vb st) 67 :: bh vb tb gb h.f h.n h.cs [] :: bD st) ++ r) := hz
 have h2 : Zoo w0 w (au hb (aK vb st) 67 :: bh vb tb gb h.f h.n h.cs [] :: r) := by
  have h5 : Zoo w0 w (bD st ++ (au hb (aK vb st) 67 :: bh vb tb gb h.f h.n h.cs [] :: r)) := by
   refine h1.perm ?_
   have p : ((au hb (aK vb st) 67 :: bh vb tb gb h.f h.n h.cs [] :: bD st) ++ r).Perm ((bD st ++ [au hb (aK vb st) 67, bh vb tb gb h.f h.n h.cs []]) ++ r) := (List.perm_append_comm (l₁ := [au hb (aK vb st) 67, bh vb tb gb h.f h.n h.cs []]) (l₂ := bD st)).append_right r
   rw [List.append_assoc] at p
   exact p
  exact (bR h5).tail
 obtain ⟨F, ⟨hbx, e2, e3⟩, k2⟩ := bi h2
 have h4 : Zoo w0 w' (au hb (aK vb (fun _ => none)) 67 :: bh vb tb gb h.f h.n h.cs [] :: r) := k2 _ _ ⟨F, ⟨hb', e2, e3⟩, by rw [e2]; exact hk, fun x hx => .inl hx⟩
 have h6 := cF (cF (cF (cF (cF h4))))
 exact h6.perm ((List.perm_append_comm (l₁ := bD (fun _ => none)) (l₂ := [au hb (aK vb (fun _ => none)) 67, bh vb tb gb h.f h.n h.cs []])).append_right r)
theorem az.ded (hz : az w0 w hb vb tb gb h st r) {s D : Nat} {d : Dp} (hs : s < 5) (hd : st s = some (D, d)) : Ded w D d.md d.y d.rs d.ws := by
 obtain ⟨rest, h1, _⟩ := hz.out hs
 rw [hd] at h1
 obtain ⟨F, h2, _⟩ := bW h1
 exact h2.1
theorem az.new (hz : az w0 w hb vb tb gb h st r) (c : Array Value) (T : TypeId) : az w0 (w.alloc (.cells c T)) hb vb tb gb h st (au w.heap.size c T :: r) := by
 have h1 := Zoo.box hz c T
 exact h1.perm (List.perm_middle (l₁ := au hb (aK vb st) 67 :: bh vb tb gb h.f h.n h.cs [] :: bD st)).symm
theorem az.two (hz : az w0 w hb vb tb gb h st r) (c : Array Value) (T : TypeId) (c2 : Array Value) (T2 : TypeId) : az w0 ((w.alloc (.cells c T)).alloc (.cells c2 T2)) hb vb tb gb h st (au (w.heap.size + 1) c2 T2 :: au w.heap.size c T :: r) := by
 have h1 := (hz.new c T).new c2 T2
 rw [show (w.alloc (.cells c T)).heap.size = w.heap.size + 1 by simp] at h1
 exact h1
theorem az.perm {r' : List ao} (hz : az w0 w hb vb tb gb h st r) (hp : r.Perm r') : az w0 w hb vb tb gb h st r' := Zoo.perm hz (List.Perm.cons _ (List.Perm.cons _ (List.Perm.append_left _ hp)))
theorem az.var {p : Nat} {c : Array Value} {T : TypeId} (hz : az w0 w hb vb tb gb h st r) (hm : au p c T ∈ r) : w.heap[p]? = some (.cells c T (0, 0)) := ai hz (by simp [hm])
theorem az.at_ {l1 l2 : List ao} {o : ao} (hz : az w0 w hb vb tb gb h st (l1 ++ o :: l2)) : ∃ F, o.holds w0.heap.size w F ∧ ∀ (o' : ao) (w' : World), Ch o' w0.heap.size w F w' → az w0 w' hb vb tb gb h st (l1 ++ o' :: l2) := by
 have hz' : Zoo w0 w ((au hb (aK vb st) 67 :: bh vb tb gb h.f h.n h.cs [] :: (bD st ++ l1)) ++ o :: l2) := by
  have := hz
  unfold az at this
  rw [← List.append_assoc] at this
  exact this
 obtain ⟨F, h1, h2⟩ := hz'.at_
 refine ⟨F, h1, fun o' w' hc => ?_⟩
 have := h2 o' w' hc
 unfold az
 rw [← List.append_assoc]
 exact this
theorem az.drop {l1 l2 : List ao} {o : ao} (hz : az w0 w hb vb tb gb h st (l1 ++ o :: l2)) : az w0 w hb vb tb gb h st (l1 ++ l2) := by
 have h1 : az w0 w hb vb tb gb h st (o :: (l1 ++ l2)) := hz.perm List.perm_middle
 exact Zoo.drop_ (l1 := au hb (aK vb st) 67 :: bh vb tb gb h.f h.n h.cs [] :: bD st) h1
theorem az.tail {o : ao} (hz : az w0 w hb vb tb gb h st (o :: r)) : az w0 w hb vb tb gb h st r := az.drop (l1 := []) hz
theorem az.setAt {l1 l2 : List ao} {p : Nat} {c : Array Value} {T : TypeId} (hz : az w0 w hb vb tb gb h st (l1 ++ au p c T :: l2)) (i : Nat) (v : Value) : az w0 (w.setCell ⟨p, i, none⟩ v) hb vb tb gb h st (l1 ++ au p (c.setIfInBounds i v) T :: l2) := by
 obtain ⟨F, ⟨hbx, h2, h3⟩, k2⟩ := hz.at_
 exact k2 _ _ ⟨F, ⟨an _ _ hbx, h2, h3⟩, by rw [h2]; exact (Kp.refl [p] w).setCell (.inl (by simp)) _, fun x hx => .inl hx⟩
theorem az.set0 {p : Nat} {c : Array Value} {T : TypeId} (hz : az w0 w hb vb tb gb h st (au p c T :: r)) (i : Nat) (v : Value) : az w0 (w.setCell ⟨p, i, none⟩ v) hb vb tb gb h st (au p (c.setIfInBounds i v) T :: r) := az.setAt (l1 := []) hz i v
theorem az.ne2 {p p2 : Nat} {c c2 : Array Value} {T T2 : TypeId} (hz : az w0 w hb vb tb gb h st (au p c T :: au p2 c2 T2 :: r)) : p ≠ p2 := by
 obtain ⟨X, ⟨F0, Y0, _, ⟨F1, Y1, _, k, _, _⟩, _, _⟩, _⟩ := hz
 obtain ⟨F, Y, k1, ⟨F2, Y2, h2, ⟨F3, Y3, h3, k3, _, e3⟩, hd, e2⟩, _, _⟩ := dQ k
 intro e
 subst e
 exact hd p (by rw [h2.2.1]; simp) (by rw [e3, h3.2.1]; simp)
end
end
section
open Go.RowKit Srt
attribute [local go_sem ↓] Go.wp_at_zero Go.wp_at_succ
theorem yh (a : Option Addr) : ob a = obd a := by cases a <;> rfl
def uf (a : Option Addr) (n : Nat) (d : Nat → Dx) : ao where
 holds B w F := SlD w a n d ∧ F = obd a ∧ ∀ x, x ∈ F → B ≤ x ∧ x < w.heap.size
 kp := fun ⟨h1, h2, h3⟩ hk hS => ⟨h1.kp hk (fun x hx => hS x (by rw [h2]; exact hx)), h2, fun x hx => ⟨(h3 x hx).1, Nat.lt_of_lt_of_le (h3 x hx).2 hk.size⟩⟩
 lo := fun ⟨_, _, h3⟩ => h3
 base := fun ⟨h1, h2, h3⟩ hC => ⟨h1, h2, fun x hx => ⟨Nat.le_trans hC (h3 x hx).1, (h3 x hx).2⟩⟩
def CmT (a : Option Addr) (C : List Dx) : ao where
 holds B w F := nP w a C ∧ F = obd a ∧ ∀ x, x ∈ F → B ≤ x ∧ x < w.heap.size
 kp := fun ⟨h1, h2, h3⟩ hk hS => ⟨h1.kp hk (fun _ x hx => hS x (by rw [h2]; exact hx)), h2, fun x hx => ⟨(h3 x hx).1, Nat.lt_of_lt_of_le (h3 x hx).2 hk.size⟩⟩
 lo := fun ⟨_, _, h3⟩ => h3
 base := fun ⟨h1, h2, h3⟩ hC => ⟨h1, h2, fun x hx => ⟨Nat.le_trans hC (h3 x hx).1, (h3 x hx).2⟩⟩
def dx0 : Dx := ⟨⟨0, 0, 0, []⟩, none, 0⟩
def dfn (xs : List Dx) (i : Nat) : Dx := xs.getD i dx0
theorem tq {xs : List Dx} {i : Nat} (h : i < xs.length) : xs[i]? = some (dfn xs i) := by
 rw [List.getElem?_eq_getElem h]
 simp [dfn, List.getD_eq_getElem?_getD, List.getElem?_eq_getElem h]
theorem xJ (xs : List Dx) : sg (dfn xs) 0 xs.length = xs := by
 apply List.ext_getElem?
 intro i
 by_cases h : i < xs.length
 ·rw [wR _ _ _ _ h, tq h, Nat.zero_add]
 ·rw [List.getElem?_eq_none (by rw [iY]; omega), List.getElem?_eq_none (by omega)]
theorem sq {B : Nat} {w : World} {a : Option Addr} {n cap : Nat} {xs : List Dx} (h : bn 36 4 B w a n cap (aP xs)) (hn : n = xs.length) : SlD w a n (dfn xs) := by
 intro hp
 rcases h.2 with ⟨_, e, _⟩ | ⟨g, cur, e, h1, h2, h3, h4, h5, h6⟩
 ·omega
 ·refine ⟨g, e, cur, h2, fun i hi => ?_⟩
  obtain ⟨c0, c1, c2, c3⟩ := fg (tq (xs := xs) (i := i) (by omega))
  have key : ∀ {j : Nat} {v : Value}, (aP xs)[j]? = some v → cur[j]? = some v := fun {j v} hv => by
   rw [← h6, List.getElem?_take] at hv
   split at hv
   ·simpa using hv
   ·cases hv
  exact ⟨key c0, key c1, key c2, key c3⟩
section
variable {w0 w w' : World} {l1 r : List ao} {a : Option Addr} {n cap : Nat} {d : Nat → Dx} {xs : List Dx}
theorem so (hz : Zoo w0 w (l1 ++ KwT 36 4 a n cap (aP xs) :: r)) (hn : n = xs.length) : Zoo w0 w (l1 ++ uf a n (dfn xs) :: r) := by
 obtain ⟨F, ⟨h1, h2⟩, k2⟩ := hz.at_
 have hl := h1.lo
 exact k2 _ _ ⟨F, ⟨sq h1 hn, by rw [h2, yh], fun x hx => hl x (by rw [← h2]; exact hx)⟩, Kp.refl _ _, fun x hx => .inl hx⟩
theorem rE (hz : Zoo w0 w (l1 ++ uf a n d :: r)) : Zoo w0 w (l1 ++ CmT a (sg d 0 n) :: r) := by
 obtain ⟨F, ⟨h1, h2, h3⟩, k2⟩ := hz.at_
 refine k2 _ _ ⟨F, ⟨fun hp => ?_, h2, h3⟩, Kp.refl _ _, fun x hx => .inl hx⟩
 rw [iY] at hp
 obtain ⟨g, e, hr⟩ := h1 hp
 refine ⟨g, 0, e, fun i x hx => ?_⟩
 have hi : i < n := by have := (List.getElem?_eq_some_iff.1 hx).1; rw [iY] at this; exact this
 rw [wR _ _ _ _ hi, Nat.zero_add] at hx
 cases hx
 obtain ⟨c0, c1, c2, c3⟩ := hr.cells hi
 rw [Nat.zero_add]
 exact ⟨c0, c1, c2, c3⟩
theorem lK {f : Nat} {key : Dx → Int} (hc : Cmp f key) (hz : Zoo w0 w (l1 ++ uf a n d :: r)) (hn : n ≤ 100000) :
 Calls Tryz.prog 34 #[.slice a n cap, .func (.func f) #[] #[]] w fun e w' => e = .returned (.tuple #[]) ∧ ∃ d', Hid (Stb key 0 n d d' ∧ aM key d' 0 n) ∧ Hid (Zoo w0 w' (l1 ++ uf a n d' :: r)) := by
 obtain ⟨F, ⟨h1, h2, h3⟩, k2⟩ := hz.at_
 refine (mY hc a n cap d w h1 hn).mono ?_
 rintro e w' ⟨rfl, d', g1, g2, g3, g4⟩
 exact ⟨rfl, d', ⟨g3, g4⟩, k2 _ _ ⟨F, ⟨g1, h2, fun x hx => ⟨(h3 x hx).1, Nat.lt_of_lt_of_le (h3 x hx).2 g2.size⟩⟩, by rw [h2]; exact g2, fun x hx => .inl hx⟩⟩
theorem vz {pb c : Nat} {L : List Dx} (hz : Zoo w0 w (au pb #[.slice a L.length c] 27 :: CmT a L :: r)) (hl : L.length ≤ c) : Zoo w0 w (LkT pb L :: r) := by
 have h2 : Zoo w0 w ([au pb #[.slice a L.length c] 27, CmT a L] ++ r) := hz
 obtain ⟨F, h3, k2⟩ := bi (bR h2)
 obtain ⟨F1, Y1, ⟨b1, b2, b3⟩, ⟨F2, Y2, ⟨c1, c2, c3⟩, e2, _, e3⟩, d1, e1⟩ := h3
 have eY : Y1 = F2 := by rw [e3, show Y2 = [] from e2, List.append_nil]
 refine k2 _ _ ⟨pb :: (if L.length = 0 then [] else obd a), ⟨a, c, b1, c1, rfl, fun x hx => ?_, fun hp hm => ?_, hl⟩, Kp.refl _ _, fun x hx => .inl ?_⟩
 ·rcases List.mem_cons.1 hx with q | q
  ·rw [q]; exact ⟨b3, ah b1⟩
  ·split at q
   ·simp at q
   ·exact c3 x (by rw [c2]; exact q)
 ·exact d1 pb (by rw [b2]; simp) (by rw [eY, c2]; exact hm)
 ·rw [e1, b2, eY, c2]
  rcases List.mem_cons.1 hx with q | q
  ·rw [q]; simp
  ·split at q
   ·simp at q
   ·simp [q]
theorem bN {p : Nat} {c c' : Array Value} {T : TypeId} (hz : Zoo w0 w (l1 ++ au p c T :: r)) : Zoo w0 (w.setRow p c') (l1 ++ au p c' T :: r) := by
 obtain ⟨F, ⟨hb, h2, h3⟩, k2⟩ := hz.at_
 obtain ⟨z1, z2⟩ := fL (cs := c') hb
 exact k2 _ _ ⟨F, ⟨z1, h2, h3⟩, by rw [h2]; exact z2, fun x hx => .inl hx⟩
theorem yT {C : List Dx} (hz : Zoo w0 w (l1 ++ CmT a C :: r)) : nP w a C := by
 obtain ⟨F, h1, _⟩ := hz.at_
 exact h1.1
end
theorem pO (pb : Nat) (C L : List Dx) (aC : Option Addr) (cC : Nat) (w0 w : World) (hz : Zoo w0 w [LkT pb L, CmT aC C]) (hC : ∀ x, x ∈ C → ((∀ W, Kp [] w0 W → bM W x.a x.d.acts) ∧ dy x.d.acts) ∧ 0 < x.d.n ∧ x.d.n ≤ 1000) (hL : ∀ x, x ∈ L → (∀ W, Kp [] w0 W → bM W x.a x.d.acts) ∧ dy x.d.acts) (hm : C.length ≤ 1000) :
 Calls Tryz.prog 39 #[.slice aC C.length cC, .func (.func 40) #[] #[.pointer (some ⟨pb, 0, none⟩)]] w fun e w' => e = .returned (.bool (ep (fun _ => dv) 0 (C.map Dx.d) (L.map Dx.d))) ∧ Kp [] w0 w' := by
 have HC := ag hC
 have HL := ag hL
 obtain ⟨R, hR⟩ : ∃ R, ep (fun _ => dv) 0 (C.map Dx.d) (L.map Dx.d) = R := ⟨_, rfl⟩
 rw [hR]
 have HR := ag hR
 have HZ0 := ag ((hz.box (ay (fun _ => dv)) 45).perm (List.Perm.trans (List.Perm.swap _ _ _) (List.Perm.cons _ (List.Perm.swap _ _ _))))
 clear hz hC hL hR
 obtain ⟨m, hmm⟩ : ∃ m, C.length = m := ⟨_, rfl⟩
 rw [hmm]
 rw [hmm] at hm
 have HM := ag hmm
 clear hmm
 rw [bI] at HZ0
 go_enter Tryz.func39, Tryz.ntmps39
 go_wp2_with fail
 generalize w.heap.size = q at *
 go_loopw [6, 8, 9, 12] (fun x _ _ y wr => ∃ (k : Nat) (gr : Int), k ≤ m ∧ x = .int .i64 gr ∧ y = .int .i64 k ∧ Hid (∃ vk L', Zoo w0 wr [LkT pb L', CmT aC C, au q (ay vk) 45] ∧ ep vk gr ((C.drop k).map Dx.d) (L'.map Dx.d) = R ∧ ∀ x, x ∈ L' → x ∈ L)) (fun _ _ _ y _ => m - (intOf y).toNat)
 case atStart => exact ⟨0, 0, Nat.zero_le _, rfl, rfl, fun _ => dv, L, ae HZ0, ae HR, fun _ hx => hx⟩
 case round =>
  obtain ⟨k, gr, hk, rfl, rfl, HI⟩ := hrel
  obtain ⟨vk, L', hz, hr, hs⟩ := ae HI
  have HZ := ag hz
  have HRR := ag hr
  have HS := ag hs
  clear hz hr hs HI HZ0
  have hqv := ai (ae HZ) (mt (mt (mh)))
  by_cases hlt : k < m
  ·have i1 : (k : Int) < (m : Int) := by omega
   have i0 : (0 : Int) ≤ (k : Int) := by omega
   have hln : k < C.length := by have := ae HM; omega
   obtain ⟨b, o, rfl, hb⟩ := yT (l1 := [LkT pb L']) (ae HZ) (by omega)
   obtain ⟨x, hx⟩ : ∃ x, C[k]? = some x := ⟨_, List.getElem?_eq_getElem hln⟩
   have hdr : C.drop k = x :: C.drop (k + 1) := by
    rw [List.drop_eq_getElem_cons hln]
    rw [List.getElem?_eq_getElem hln] at hx
    rw [Option.some.inj hx]
   have HDR := ag hdr
   have hat := hb k x hx
   have hcx := ae HC x (List.mem_of_getElem? hx)
   have q0 := hat.c0
   have q1 := hat.c1
   have q2 : wr.cell? ⟨b, o + k * 4 + 1 + 1, none⟩ = _ := hat.c2
   have q3 : wr.cell? ⟨b, o + k * 4 + 1 + 1 + 1, none⟩ = _ := hat.c3
   clear hat hb hx hdr
   obtain ⟨⟨xn, xa, xm, xacts⟩, xp, xc⟩ := x
   dsimp only at q0 q1 q2 q3 hcx
   have HCX := ag hcx.1.1
   have hok := hcx.1.2
   have n0 := hcx.2.1
   have n1 := hcx.2.2
   clear hcx
   obtain ⟨lx, hlx⟩ : ∃ lx, xacts.length = lx := ⟨_, rfl⟩
   rw [hlx] at q3
   have HLX := ag hlx
   clear hlx
   have HZ1 := ag ((((ae HZ).box #[.int .i64 xn, .int .i64 xa, .int .i64 xm, .slice xp lx xc] 36).perm (List.Perm.swap _ _ _)))
   have hqv1 : (wr.alloc (.cells #[.int .i64 xn, .int .i64 xa, .int .i64 xm, .slice xp lx xc] 36)).heap[q]? = some (.cells (ay vk) 45 (0, 0)) := ai (ae HZ1) (mt (mt (mt (mh))))
   have e1 : IntKind.i64.wrap (xn - 1) = xn - 1 := bv _ (by omega) (by omega)
   go_wp2_with (refine wpList_load_row rfl 45 _ rfl q rfl 45 _ (0, 0) _ hqv1 Tryz.underlying45 rfl Tryz.size45 ?_)
   refine (mR vk (xn - 1) pb L' w0 _ _ (ae HZ1) (fun x hx => ae HL x (ae HS x hx))).mono ?_
   rintro e w2 ⟨L2, rfl, hb2, hb3, hb4, hz2⟩
   have HB2 := ag (And.intro hb2 hb3)
   have HZ2 := ag hz2
   clear hb2 hb3 hb4 hz2 HZ1 hqv1 hqv q0 q1 q2 q3
   generalize wr.heap.size = g at *
   have hrl : ep vk gr ((C.drop k).map Dx.d) (L'.map Dx.d) = ((btw vk (xn - 1) (L'.map Dx.d)).1 && ((rpo vk xacts || decide (xm ≠ 2)) && ep (rpw vk xacts) xn ((C.drop (k + 1)).map Dx.d) (L2.map Dx.d))) := by
    rw [ae HDR, (ae HB2).1]
    rfl
   rw [ae HRR] at hrl
   have HRL := ag hrl
   clear hrl
   generalize (btw vk (xn - 1) (L'.map Dx.d)).1 = b1 at *
   have hbx := ai (ae HZ2) (mt (mh))
   have hqv := ai (ae HZ2) (mt (mt (mt (mh))))
   have b0' : w2.cell? ⟨g, 0, none⟩ = some (.int .i64 xn) := af hbx rfl
   have b2' : w2.cell? ⟨g, 2, none⟩ = some (.int .i64 xm) := af hbx rfl
   have b3' : w2.cell? ⟨g, 3, none⟩ = some (.slice xp lx xc) := af hbx rfl
   cases b1 with
   | false =>
     go_wp2_with fail
     go_ret
     exact ⟨by rw [ae HRL]; rfl, (ae HZ2).kp⟩
   | true =>
     go_wp2_with (refine wpList_load_row rfl 45 _ rfl q rfl 45 _ (0, 0) _ hqv Tryz.underlying45 rfl Tryz.size45 ?_)
     rw [← ae HLX]
     refine (gV vk xp xc xacts _ (ae HCX _ (ae HZ2).kp) hok).mono ?_
     rintro e w3 ⟨rfl, hk3⟩
     rw [ae HLX]
     have HZ3 := ag ((ae HZ2).kp0 hk3)
     clear hk3 hqv hbx b0' b2' b3'
     have hqv := ai (ae HZ3) (mt (mt (mt (mh))))
     have HZ4 := ag (bN (l1 := [LkT pb L2, au g #[.int .i64 xn, .int .i64 xa, .int .i64 xm, .slice xp lx xc] 36, CmT (some ⟨b, o, none⟩) C]) (c' := ay (rpw vk xacts)) (ae HZ3))
     have hbx4 := ai (ae HZ4) (mt (mh))
     have b0 : (w3.setRow q (ay (rpw vk xacts))).cell? ⟨g, 0, none⟩ = some (.int .i64 xn) := af hbx4 rfl
     have b2 : (w3.setRow q (ay (rpw vk xacts))).cell? ⟨g, 2, none⟩ = some (.int .i64 xm) := af hbx4 rfl
     clear hbx4
     cases hro : rpo vk xacts with
     | true =>
       have HRO := ag hro
       clear hro
       go_wp2_with (refine wpList_store_row rfl 45 _ _ rfl q (ay (rpw vk xacts)) rfl rfl 45 _ hqv Tryz.size45 rfl (aS _) ?_)
       refine ⟨⟨k + 1, xn, by omega, rfl, by go_num, rpw vk xacts, L2, aH (ae HZ4), ?_, fun x hx => ae HS x ((ae HB2).2 x hx)⟩, by simp [intOf]; omega⟩
       rw [ae HRL, ae HRO]
       simp
     | false =>
       have HRO := ag hro
       clear hro
       by_cases hmd : xm = 2
       ·subst hmd
        go_wp2_with (refine wpList_store_row rfl 45 _ _ rfl q (ay (rpw vk xacts)) rfl rfl 45 _ hqv Tryz.size45 rfl (aS _) ?_)
        go_ret
        exact ⟨by rw [ae HRL, ae HRO]; rfl, (ae HZ4).kp⟩
       ·go_wp2_with (refine wpList_store_row rfl 45 _ _ rfl q (ay (rpw vk xacts)) rfl rfl 45 _ hqv Tryz.size45 rfl (aS _) ?_)
        refine ⟨⟨k + 1, xn, by omega, rfl, by go_num, rpw vk xacts, L2, aH (ae HZ4), ?_, fun x hx => ae HS x ((ae HB2).2 x hx)⟩, by simp [intOf]; omega⟩
        rw [ae HRL, ae HRO]
        simp [hmd]
  ·have i1 : ¬ (k : Int) < (m : Int) := by omega
   go_wp2_with (refine wpList_load_row rfl 45 _ rfl q rfl 45 _ (0, 0) _ hqv Tryz.underlying45 rfl Tryz.size45 ?_)
   refine (mR vk gr pb L' w0 _ _ (ae HZ) (fun x hx => ae HL x (ae HS x hx))).mono ?_
   rintro e w2 ⟨L2, rfl, hb2, hb3, hb4, hz2⟩
   have hr := ae HRR
   rw [List.drop_eq_nil_of_le (by have := ae HM; omega)] at hr
   simp only [List.map_nil, ep] at hr
   rw [hr]
   have HK := ag hz2.kp
   clear hb2 hb3 hb4 hz2 hr
   go_wp2_with fail
   go_ret
   exact ⟨rfl, ae HK⟩
theorem ss (key : Dn → Int) (k : Int) (ys : List Dx) : kf key k (ys.map Dx.d) = (kf (fun x => key x.d) k ys).map Dx.d := by
 unfold kf
 rw [List.filter_map]
 rfl
theorem rz (key : Dn → Int) {ys : List Dx} (h : iw (fun x => key x.d) ys) : iw key (ys.map Dx.d) := by
 unfold iw at *
 rw [List.pairwise_map]
 exact h
theorem iU {key : Dn → Int} {xs : List Dx} {n : Nat} {d' : Nat → Dx} (hn : n = xs.length) (h1 : Stb (fun x : Dx => key x.d) 0 n (dfn xs) d') (h2 : aM (fun x : Dx => key x.d) d' 0 n) {ds : List Dn} (hm : xs.map Dx.d = ds) :
 iw key ((sg d' 0 n).map Dx.d) ∧ (∀ k, kf key k ((sg d' 0 n).map Dx.d) = kf key k ds) ∧ ∀ x, x ∈ sg d' 0 n → x ∈ xs := by
 have ho : ∀ k, kf (fun x : Dx => key x.d) k (sg d' 0 n) = kf (fun x : Dx => key x.d) k xs := fun k => by
  have := h1.ord k
  rw [Nat.sub_zero] at this
  rw [this]
  subst hn
  rw [xJ]
 refine ⟨rz key (uL n 0 (by rw [Nat.zero_add]; exact h2)), fun k => ?_, fun x hx => nw ho hx⟩
 rw [ss, ho, ← hm, ss]
theorem gw (a : Option Addr) (c : Nat) (ds : List Dn) (w : World) (h : fp w a ds) (hok : iu ds) (hn : ∀ d, d ∈ ds → d.n ≤ 1000) :
 Calls Tryz.prog 14 #[.slice a ds.length c] w fun e w' => e = .returned (.bool (ser ds)) ∧ Kp [] w w' := by
 have hmf : ∀ (fn : Fn) (first cap : Array Value) (w : World), (Instr.makeFunc fn first cap).run Tryz.prog w = .ok (.func fn first cap) w := fun _ _ _ _ => rfl
 have HD := ag h
 have HO := ag hok
 have HN := ag hn
 have hm := hok.1
 clear h hok hn
 obtain ⟨m, hmm⟩ : ∃ m, ds.length = m := ⟨_, rfl⟩
 have HP1 := ag (zN zL a c ds w w (Kp.refl [] w) (ae HD) hm)
 rw [hmm] at HP1
 rw [hmm]
 have HM := ag hmm
 rw [hmm] at hm
 clear hmm
 go_enter Tryz.func14, Tryz.ntmps14
 go_wp2_with fail
 refine (ae HP1).mono ?_
 rintro e w1 ⟨a1, c1, xs, rfl, x1, x2, x3, x4⟩
 have HX := ag (And.intro x1 x2)
 have hn1 : xs.length ≤ 1000 := by
  have h1 := congrArg List.length x1
  rw [List.length_map] at h1
  have h2 := List.length_filter_le (fun d : Dn => decide (0 < d.n)) ds
  have := ae HM
  omega
 have HZ1 := ag (so (l1 := []) ((cg (Kp.refl [] w)).cons (o := KwT 36 4 a1 xs.length c1 (aP xs)) (F := ob a1) ⟨x3, rfl⟩ x4) rfl)
 clear x1 x2 x3 x4 HP1
 obtain ⟨n1, hnn1⟩ : ∃ n1, n1 = xs.length := ⟨_, rfl⟩
 rw [← hnn1] at HZ1 hn1 ⊢
 have HN1 := ag hnn1
 clear hnn1
 go_wp2_with fail
 refine (lK (l1 := []) (cap := c1) Ab (ae HZ1) (by omega)).mono ?_
 rintro e w2 ⟨rfl, d1, HS1, HZ2⟩
 clear HZ1
 have HP2 := ag (zN zM a c ds w w2 (ae HZ2).kp (ae HD) (by have := ae HM; omega))
 rw [ae HM] at HP2
 go_wp2_with fail
 refine (ae HP2).mono ?_
 rintro e w3 ⟨a3, c3, ys, rfl, y1, y2, y3, y4⟩
 have HY := ag (And.intro y1 y2)
 have hn3 : ys.length ≤ 1000 := by
  have h1 := congrArg List.length y1
  rw [List.length_map] at h1
  have h2 := List.length_filter_le (fun d : Dn => decide (d.n = 0 ∧ 0 ≤ d.at_)) ds
  have := ae HM
  omega
 have hle3 := y3.le
 have HZ3 := ag (so (l1 := []) ((ae HZ2).cons (o := KwT 36 4 a3 ys.length c3 (aP ys)) (F := ob a3) ⟨y3, rfl⟩ y4) rfl)
 clear y1 y2 y3 y4 HP2 HZ2
 obtain ⟨n3, hnn3⟩ : ∃ n3, n3 = ys.length := ⟨_, rfl⟩
 rw [← hnn3] at HZ3 hn3 hle3 ⊢
 have HN3 := ag hnn3
 clear hnn3
 have HZ4 := ag ((ae HZ3).box #[.slice a3 n3 c3] 27)
 clear HZ3
 go_wp2_with fail
 generalize w3.heap.size = pb at *
 generalize w3.alloc (.cells #[.slice a3 n3 c3] 27) = w4 at *
 refine (lK (l1 := [au pb #[.slice a3 n3 c3] 27]) (cap := c3) Ad (ae HZ4) (by omega)).mono ?_
 rintro e w5 ⟨rfl, d3, HS3, HZ5⟩
 clear HZ4
 have hl3 : (sg d3 0 n3).length = n3 := iY d3 n3 0
 have hl1 : (sg d1 0 n1).length = n1 := iY d1 n1 0
 have hz6 := rE (l1 := [au pb #[.slice a3 n3 c3] 27]) (ae HZ5)
 have hz7 : Zoo w w5 (au pb #[.slice a3 (sg d3 0 n3).length c3] 27 :: CmT a3 (sg d3 0 n3) :: [uf a1 n1 d1]) := by rw [hl3]; exact hz6
 have hz8 := vz hz7 (by omega)
 have HZ9 := ag (rE (l1 := [LkT pb (sg d3 0 n3)]) hz8)
 clear hz6 hz7 hz8 HZ5
 have hs1 := iU (key := Dn.n) (ae HN1) (ae HS1).1 (ae HS1).2 (ae HX).1
 have hs3 := iU (key := Dn.at_) (ae HN3) (ae HS3).1 (ae HS3).2 (ae HY).1
 have memX : ∀ x, x ∈ xs → x.d ∈ ds ∧ 0 < x.d.n := fun x hx => by
  have h1 : x.d ∈ xs.map Dx.d := List.mem_map_of_mem hx
  rw [(ae HX).1] at h1
  have h2 := List.mem_filter.1 h1
  exact ⟨h2.1, by simpa using h2.2⟩
 have memY : ∀ x, x ∈ ys → x.d ∈ ds := fun x hx => by
  have h1 : x.d ∈ ys.map Dx.d := List.mem_map_of_mem hx
  rw [(ae HY).1] at h1
  exact (List.mem_filter.1 h1).1
 have hcall := pO pb (sg d1 0 n1) (sg d3 0 n3) a1 c1 w w5 (ae HZ9)
  (fun x hx => ⟨⟨fun W hW => ((ae HX).2 x (hs1.2.2 x hx)).kp0 hW, (ae HO).2 _ (memX x (hs1.2.2 x hx)).1⟩, (memX x (hs1.2.2 x hx)).2, ae HN _ (memX x (hs1.2.2 x hx)).1⟩)
  (fun x hx => ⟨fun W hW => ((ae HY).2 x (hs3.2.2 x hx)).kp0 hW, (ae HO).2 _ (memY x (hs3.2.2 x hx))⟩) (by omega)
 rw [rI (ds := ds) hs1.1 hs3.1 hs1.2.1 hs3.2.1, hl1] at hcall
 have HCL := ag hcall
 have hpc := iD (ae HZ9)
 clear hcall hs1 hs3 memX memY hpc
 go_wp2_with fail
 refine (ae HCL).mono ?_
 rintro e w6 ⟨rfl, hk6⟩
 have HK6 := ag hk6
 clear hk6
 go_wp2_with fail
 go_ret
 exact ⟨rfl, ae HK6⟩
end
section
open Go.RowKit
attribute [local go_sem ↓] Go.wp_at_zero Go.wp_at_succ
theorem dI (k : Int) (w : World) : Calls Tryz.prog 70 #[.int .i64 k] w fun e w' => e = .returned (.bool (bE k)) ∧ w' = w := by
 go_enter Tryz.func70, Tryz.ntmps70
 go_wp2
 all_goals
  go_ret
  exact ⟨eF (by simp [bE]; omega), rfl⟩
def dat (st : Nat → Sd) (s : Int) : Sd := if 0 ≤ s ∧ s < 5 then st s.toNat else none
theorem dW {st : Nat → Sd} {j : Nat} (hj : j < 5) : dat st (j : Int) = st j := by unfold dat; rw [if_pos (by omega), Int.toNat_natCast]
theorem pm {st : Nat → Sd} {s : Int} (hs : ¬ (0 ≤ s ∧ s < 5)) : dat st s = none := if_neg hs
theorem dN {s : Int} (hs : 0 ≤ s ∧ s < 5) : ∃ j : Nat, s = (j : Int) ∧ j < 5 := ⟨s.toNat, by omega, by omega⟩
section
variable {w0 w : World} {hb vb tb gb : Nat} {h : HSt} {st : Nat → Sd} {r : List ao}
theorem yz (s : Int) (hz : az w0 w hb vb tb gb h st r) : Calls Tryz.prog 106 #[.pointer (some ⟨hb, 0, none⟩), .int .i64 s] w fun e w' => e = .returned (sp (dat st s)) ∧ w' = w := by
 by_cases hs : 0 ≤ s ∧ s < 5
 ·obtain ⟨j, rfl, hj⟩ := dN hs
  have hsb : bE (j : Int) = true := decide_eq_true hs
  have i0 : (0 : Int) ≤ (j : Int) := by omega
  have i5 : (j : Int) < 5 := by omega
  have c1 := hz.cs_ hj
  rw [dW hj]
  clear hz
  generalize sp (st j) = o at *
  go_enter Tryz.func106, Tryz.ntmps106
  go_wp2_with fail
  refine (dI (j : Int) _).mono ?_
  rintro e w' ⟨rfl, hw'⟩
  subst w'
  rw [hsb]
  go_wp2_with fail
  go_ret
  exact ⟨rfl, rfl⟩
 ·have hsb : bE s = false := decide_eq_false hs
  rw [pm hs]
  clear hz
  go_enter Tryz.func106, Tryz.ntmps106
  go_wp2_with fail
  refine (dI s _).mono ?_
  rintro e w' ⟨rfl, hw'⟩
  subst w'
  rw [hsb]
  go_wp2_with fail
  go_ret
  exact ⟨rfl, rfl⟩
theorem lh (s : Int) (hz : az w0 w hb vb tb gb h st r) : Calls Tryz.prog 78 #[.pointer (some ⟨hb, 0, none⟩), .int .i64 s] w fun e w' => e = .returned (.bool (dat st s).isSome) ∧ w' = w := by
 have HD := ag (yz s hz)
 clear hz
 cases ho : dat st s with
 | none =>
   rw [ho] at HD
   go_enter Tryz.func78, Tryz.ntmps78
   go_wp2_with fail
   refine (ae HD).mono ?_
   rintro e w' ⟨rfl, hw'⟩
   subst w'
   rw [show sp none = .pointer none from rfl]
   go_wp2_with fail
   go_ret
   exact ⟨rfl, rfl⟩
 | some x =>
   rw [ho] at HD
   go_enter Tryz.func78, Tryz.ntmps78
   go_wp2_with fail
   refine (ae HD).mono ?_
   rintro e w' ⟨rfl, hw'⟩
   subst w'
   rw [show sp (some x) = .pointer (some ⟨x.1, 0, none⟩) from rfl]
   go_wp2_with fail
   go_ret
   exact ⟨rfl, rfl⟩
def bP (st : Nat → Sd) (s : Int) : Int := if 0 ≤ s ∧ s < 5 then (if (st s.toNat).isSome = true then 0 else 7) else 1
theorem eZ (s : Int) (hz : az w0 w hb vb tb gb h st r) : Calls Tryz.prog 80 #[.pointer (some ⟨hb, 0, none⟩), .int .i64 s] w fun e w' => e = .returned (.tuple #[sp (dat st s), .int .i64 (bP st s)]) ∧ w' = w := by
 have HB := ag (lh s hz)
 by_cases hs : 0 ≤ s ∧ s < 5
 ·obtain ⟨j, rfl, hj⟩ := dN hs
  have hsb : bE (j : Int) = true := decide_eq_true hs
  have i0 : (0 : Int) ≤ (j : Int) := by omega
  have i5 : (j : Int) < 5 := by omega
  have c1 := hz.cs_ hj
  rw [dW hj] at HB ⊢
  have hf : bP st (j : Int) = if (st j).isSome = true then 0 else 7 := by unfold bP; rw [if_pos hs, Int.toNat_natCast]
  rw [hf]
  clear hz hf
  generalize st j = o at *
  cases o with
  | none =>
    go_enter Tryz.func80, Tryz.ntmps80
    go_wp2_with fail
    refine (dI (j : Int) _).mono ?_
    rintro e w' ⟨rfl, hw'⟩
    subst w'
    rw [hsb]
    go_wp2_with fail
    refine (ae HB).mono ?_
    rintro e w' ⟨rfl, hw'⟩
    subst w'
    rw [show Option.isSome (none : Sd) = false from rfl]
    go_wp2_with fail
    go_ret2
    exact ⟨rfl, rfl⟩
  | some x =>
    go_enter Tryz.func80, Tryz.ntmps80
    go_wp2_with fail
    refine (dI (j : Int) _).mono ?_
    rintro e w' ⟨rfl, hw'⟩
    subst w'
    rw [hsb]
    go_wp2_with fail
    refine (ae HB).mono ?_
    rintro e w' ⟨rfl, hw'⟩
    subst w'
    rw [show Option.isSome (some x) = true from rfl]
    go_wp2_with fail
    go_ret2
    exact ⟨rfl, rfl⟩
 ·have hsb : bE s = false := decide_eq_false hs
  have hf : bP st s = 1 := by unfold bP; rw [if_neg hs]
  rw [pm hs, hf]
  clear hz HB hf
  go_enter Tryz.func80, Tryz.ntmps80
  go_wp2_with fail
  refine (dI s _).mono ?_
  rintro e w' ⟨rfl, hw'⟩
  subst w'
  rw [hsb]
  go_wp2_with fail
  go_ret2
  exact ⟨rfl, rfl⟩
theorem jr (hz : az w0 w hb vb tb gb h st r) : Calls Tryz.prog 49 #[.pointer (some ⟨hb, 0, none⟩)] w fun e w' => e = .returned (.tuple #[]) ∧ Hid (az w0 w' hb vb tb gb ⟨h.f, h.n, h.cs, fun _ => none⟩ (fun _ => none) r) := by
 have hbx := hz.box
 have c1 := hz.cs_ (s := 0) (by omega)
 have c2 := hz.cs_ (s := 1) (by omega)
 have c3 := hz.cs_ (s := 2) (by omega)
 have c4 := hz.cs_ (s := 3) (by omega)
 have c5 := hz.cs_ (s := 4) (by omega)
 have f1 := hz.fz 1
 have f2 := hz.fz 2
 have f3 := hz.fz 3
 have f4 := hz.fz 4
 have f5 := hz.fz 5
 have HZ := ag hz
 clear hz
 go_enter Tryz.func49, Tryz.ntmps49
 go_wp2_with fail
 go_end0
 refine ⟨rfl, (ae HZ).leaveAll ?_ ?_⟩
 ·rw [an _ _ (an _ _ (an _ _ (an _ _ (an _ _ hbx))))]
  rfl
 ·exact (((((Kp.refl [hb] w).setCell (.inl (by simp)) _).setCell (.inl (by simp)) _).setCell (.inl (by simp)) _).setCell (.inl (by simp)) _).setCell (.inl (by simp)) _
theorem jd (w : World) (cs : Array Value) (k : Nat) (v : Value) (hk : k < 5) (hv : cs[k]? = some v) :
 (Instr.index 65 (.agg cs) (.int .i64 (k : Int))).run Tryz.prog w = .ok v w := by
 have hn : (k : Int) < 5 := by omega
 simp [Instr.index, run_underlying Tryz.underlying65, asIntOf, hk, hv, go_sem]
theorem zP (st : Nat → Sd) : ∃ A : Array Value, #[sp (st 0), sp (st 1), sp (st 2), sp (st 3), sp (st 4)] = A ∧ ∀ k, k < 5 → A[k]? = some (sp (st k)) := by
 refine ⟨_, rfl, fun k hk => ?_⟩
 rcases (show k = 0 ∨ k = 1 ∨ k = 2 ∨ k = 3 ∨ k = 4 by omega) with e | e | e | e | e <;> subst e <;> rfl
theorem vJ (hs : Sts st h.seat) (hz : az w0 w hb vb tb gb h st r) : Calls Tryz.prog 47 #[.pointer (some ⟨hb, 0, none⟩)] w fun e w' => e = .returned (.int .i64 (bm h.n h.seat 5)) ∧ w' = w := by
 have c0 := hz.c0
 have v0 := hz.v0
 have c1 := hz.cs_ (s := 0) (by omega)
 have c2 := hz.cs_ (s := 1) (by omega)
 have c3 := hz.cs_ (s := 2) (by omega)
 have c4 := hz.cs_ (s := 3) (by omega)
 have c5 := hz.cs_ (s := 4) (by omega)
 have HZ := ag hz
 clear hz
 go_enter Tryz.func47, Tryz.ntmps47
 go_wp2_with fail
 refine (sm (ae HZ).vlt).mono ?_
 rintro e w' ⟨rfl, hw'⟩
 subst w'
 go_wp2_with fail
 obtain ⟨A, hA, hAk⟩ := zP st
 rw [hA]
 clear hA c0 v0 c1 c2 c3 c4 c5
 go_loop [3, 18] (fun x i => ∃ k : Nat, k ≤ 5 ∧ x = .int .i64 (bm h.n h.seat k) ∧ i = .int .i64 k) (fun _ i => 5 - (intOf i).toNat)
 case atStart => exact ⟨0, by omega, rfl, rfl⟩
 case round =>
  obtain ⟨k, hk, rfl, rfl⟩ := hrel
  by_cases hlt : k < 5
  ·have i0 : (0 : Int) ≤ (k : Int) := by omega
   have i1 : (k : Int) < 5 := by omega
   have hk1 := hs k
   have HD := ag (fun D d (hd : st k = some (D, d)) => (ae HZ).ded hlt hd)
   have hx0 := hAk k hlt
   have hls : bm h.n h.seat (k + 1) = match h.seat k with | some d => if d.y < bm h.n h.seat k then d.y else bm h.n h.seat k | none => bm h.n h.seat k := rfl
   have HLS := ag hls
   clear hls
   cases ho : st k with
   | none =>
     rw [ho] at hx0 hk1
     have hx := fun w => jd w A k _ hlt hx0
     rw [show sp none = .pointer none from rfl] at hx
     have e1 : bm h.n h.seat (k + 1) = bm h.n h.seat k := by rw [ae HLS, ← hk1]; rfl
     have E1 := ag e1
     clear e1 HLS hk1
     go_wp2_with fail
     exact ⟨⟨k + 1, by omega, by rw [ae E1], by go_num⟩, by simp [intOf]; omega⟩
   | some xx =>
     obtain ⟨D, d⟩ := xx
     rw [ho] at hx0 hk1
     have hx := fun w => jd w A k _ hlt hx0
     rw [show sp (some (D, d)) = .pointer (some ⟨D, 0, none⟩) from rfl] at hx
     have e1 : bm h.n h.seat (k + 1) = if d.y < bm h.n h.seat k then d.y else bm h.n h.seat k := by rw [ae HLS, ← hk1]; rfl
     have E1 := ag e1
     have HD1 := ag (ae HD D d ho)
     clear e1 HLS hk1 HD
     generalize bm h.n h.seat k = z at *
     go_wp2_with fail
     refine (Aa _ (ae HD1)).mono ?_
     rintro e w' ⟨rfl, hw'⟩
     subst w'
     by_cases hlt2 : d.y < z
     ·rw [if_pos hlt2] at E1
      go_wp2_with fail
      exact ⟨⟨k + 1, by omega, by rw [ae E1], by go_num⟩, by simp [intOf]; omega⟩
     ·rw [if_neg hlt2] at E1
      go_wp2_with fail
      exact ⟨⟨k + 1, by omega, by rw [ae E1], by go_num⟩, by simp [intOf]; omega⟩
  ·have e : k = 5 := by omega
   subst e
   go_wp2
   go_ret
   exact ⟨rfl, rfl⟩
end
theorem zV (w : World) : Calls Tryz.prog 18 #[] w fun e w' => ∃ hb, e = .returned (.pointer (some ⟨hb, 0, none⟩)) ∧ ∃ F, (ix hb ⟨fun _ => [dv], 0, [], fun _ => none⟩).holds w.heap.size w' F ∧ Kp [] w w' := by
 go_enter Tryz.func18, Tryz.ntmps18
 go_wp2_with fail
 refine (Al w).mono ?_
 rintro e w1 ⟨vb, tb, gb, F, rfl, h1, k1⟩
 go_wp2_with fail
 go_ret
 have hz0 : Zoo w w1 [bh vb tb gb (fun _ => [dv]) 0 [] []] := (cg (Kp.refl [] w)).cons h1 k1
 have hz1 := cF (cF (cF (cF (cF (hz0.box (aK vb (fun _ => none)) 67)))))
 have hz2 : az w _ w1.heap.size vb tb gb ⟨fun _ => [dv], 0, [], fun _ => none⟩ (fun _ => none) [] := hz1.perm ((List.perm_append_comm (l₁ := bD (fun _ => none)) (l₂ := [au w1.heap.size (aK vb (fun _ => none)) 67, bh vb tb gb (fun _ => [dv]) 0 [] []])).append_right [])
 have hz3 := kq (fun _ => rfl) jq hz2
 obtain ⟨F', h5, _⟩ := bi hz3
 exact ⟨_, rfl, F', h5, hz3.kp⟩
end
section
open Go.RowKit
def PsT (a : Option Addr) (cap : Nat) (L : List Ver) : ao where
 holds B w F := w.ownsRow B 98 3 (.slice a L.length cap) L.length (aw L) ∧ F = ob a
 kp := fun ⟨h1, h2⟩ hk hS => ⟨dt h1 hk (fun g hg => hS g (by
  rw [h2]
  cases a with
  | none => simp [Value.ownBlock] at hg
  | some ad => simp [Value.ownBlock] at hg; simp [ob, hg])), h2⟩
 lo := fun ⟨h1, h2⟩ x hx => by
  rw [h2] at hx
  rcases h1.2 with ⟨hn, _⟩ | ⟨g, cap', cur, hv, h3, h4, h5⟩
  ·simp only [Value.slice.injEq] at hn
   rw [hn.1] at hx
   simp [ob] at hx
  ·simp only [Value.slice.injEq] at hv
   rw [hv.1] at hx
   simp [ob] at hx
   subst hx
   exact ⟨h3, ah h4⟩
 base := fun ⟨h1, h2⟩ hC => ⟨cE h1 hC, h2⟩
theorem xX {w0 w : World} {r : List ao} (hz : Zoo w0 w r) : Zoo w0 w (PsT none 0 [] :: r) := by
 obtain ⟨X, h1, hk⟩ := hz
 exact ⟨X, ⟨[], X, ⟨World.ownsRow_nil _ _ _ _, rfl⟩, h1, fun _ hx => by simp at hx, rfl⟩, hk⟩
section
variable {w0 w : World} {vb tb gb : Nat} {f : Nat → List Ver} {n : Nat} {cs : List (List Ver)} {r : List ao} {D : Nat} {md y : Int} {rs : List Int} {ws : List Ver}
theorem yr (fr to_ : Int) (hz : Zoo w0 w (bh vb tb gb f n cs [] :: au D (cn md y (cq rs ws)) 175 :: r)) :
 Calls Tryz.prog 83 #[.pointer (some ⟨D, 0, none⟩), .pointer (some ⟨tb, 0, none⟩), .int .i64 fr, .int .i64 to_] w fun e w' => ∃ a cap, e = .returned (.tuple #[.slice a (dls f n y ws rs fr to_).1.length cap, .int .i64 (dls f n y ws rs fr to_).2.1]) ∧ Hid (Zoo w0 w' (bh vb tb gb f n cs [] :: au D (cn md y (cq (dls f n y ws rs fr to_).2.2 ws)) 175 :: PsT a cap (dls f n y ws rs fr to_).1 :: r)) := by
 have hz' := hz
 obtain ⟨X, ⟨Fv, Y, ⟨Ft, Fg, k1⟩, ⟨F, Z, ⟨h1, h2, h3⟩, _, _, e2⟩, hd, _⟩, _⟩ := hz'
 have hF : D ∉ Ft := fun hm => hd D (k1.tF D hm) (by rw [e2, h2]; simp)
 obtain ⟨F, ⟨h1, h2, h3⟩, k2⟩ := bW hz
 refine (vV fr to_ w k1.t h1 hF).mono ?_
 rintro e w' ⟨a, cap, rfl, ho, hd2, hk⟩
 refine ⟨a, cap, rfl, ?_⟩
 have hB : w0.heap.size ≤ w.heap.size := hz.kp.size
 have hlo : ∀ x ∈ ob a, w.heap.size ≤ x := fun x hx => by
  cases a with
  | none => simp [ob] at hx
  | some ad =>
    simp only [ob, List.mem_singleton] at hx
    subst hx
    exact es ho rfl
 have h5 := k2 (aJ [au D (cn md y (cq (dls f n y ws rs fr to_).2.2 ws)) 175, PsT a cap (dls f n y ws rs fr to_).1]) w' ⟨F ++ (ob a ++ []), ⟨F, ob a ++ [], ⟨hd2, h2, h3⟩, ⟨ob a, [], ⟨cE ho hB, rfl⟩, rfl, fun _ _ hy => by simp at hy, rfl⟩, fun x hx hy => ?_, rfl⟩, by rw [h2]; exact hk, fun x hx => ?_⟩
 ·have h6 := h5.perm (List.Perm.swap _ _ _)
  have h7 := gW h6
  exact h7.perm (List.perm_middle (l₁ := [au D (cn md y (cq (dls f n y ws rs fr to_).2.2 ws)) 175, PsT a cap (dls f n y ws rs fr to_).1]))
 ·rw [List.append_nil] at hy
  have := hlo x hy
  rw [h2] at hx
  rw [List.mem_singleton.1 hx] at this
  have := ah h1
  omega
 ·rcases List.mem_append.1 hx with q | q
  ·exact .inl q
  ·rw [List.append_nil] at q
   exact .inr (hlo x q)
end
section
variable {w0 w : World} {hb vb tb gb : Nat} {h : HSt} {st : Nat → Sd} {r : List ao} {s D : Nat} {d : Dp}
theorem zW (k : Int) (hs : s < 5) (hd : st s = some (D, d)) (hz : az w0 w hb vb tb gb h st r) :
 Calls Tryz.prog 81 #[.pointer (some ⟨D, 0, none⟩), .pointer (some ⟨tb, 0, none⟩), .int .i64 k] w fun e w' => e = .returned (.tuple #[.agg #[.bool (dg h.f h.n d.y d.ws k).t, .string (dg h.f h.n d.y d.ws k).s], .int .i64 (dg h.f h.n d.y d.ws k).a]) ∧ Hid (az w0 w' hb vb tb gb h (upd st s (some (D, { d with rs := dr h.f h.n d.y d.rs d.ws k }))) r) := by
 obtain ⟨rest, h1, h2⟩ := hz.out hs
 rw [hd] at h1 h2
 refine (zS k h1).mono ?_
 rintro e w' ⟨rfl, HZ⟩
 exact ⟨rfl, h2 w' tb h.f h.n h.cs (some (D, { d with rs := dr h.f h.n d.y d.rs d.ws k })) h.seat rfl (ae HZ)⟩
theorem wX (k : Int) (t : Bool) (b : ByteArray) (hsz : b.size ≤ maxLen) (hs : s < 5) (hd : st s = some (D, d)) (hz : az w0 w hb vb tb gb h st r) :
 Calls Tryz.prog 82 #[.pointer (some ⟨D, 0, none⟩), .int .i64 k, .agg #[.bool t, .string b]] w fun e w' => e = .returned (.int .i64 (dpc d.md k t b)) ∧ Hid (az w0 w' hb vb tb gb h (upd st s (some (D, { d with ws := dpw d.md d.ws k t b }))) r) := by
 obtain ⟨rest, h1, h2⟩ := hz.out hs
 rw [hd] at h1 h2
 refine (ze k t b hsz h1).mono ?_
 rintro e w' ⟨rfl, HZ⟩
 exact ⟨rfl, h2 w' tb h.f h.n h.cs (some (D, { d with ws := dpw d.md d.ws k t b })) h.seat rfl (ae HZ)⟩
theorem yx (fr to_ : Int) (hs : s < 5) (hd : st s = some (D, d)) (hz : az w0 w hb vb tb gb h st r) :
 Calls Tryz.prog 83 #[.pointer (some ⟨D, 0, none⟩), .pointer (some ⟨tb, 0, none⟩), .int .i64 fr, .int .i64 to_] w fun e w' => ∃ a cap, e = .returned (.tuple #[.slice a (dls h.f h.n d.y d.ws d.rs fr to_).1.length cap, .int .i64 (dls h.f h.n d.y d.ws d.rs fr to_).2.1]) ∧ Hid (az w0 w' hb vb tb gb h (upd st s (some (D, { d with rs := (dls h.f h.n d.y d.ws d.rs fr to_).2.2 }))) (PsT a cap (dls h.f h.n d.y d.ws d.rs fr to_).1 :: r)) := by
 obtain ⟨rest, h1, h2⟩ := hz.out2 hs
 rw [hd] at h1 h2
 refine (yr fr to_ h1).mono ?_
 rintro e w' ⟨a, cap, rfl, HZ⟩
 exact ⟨a, cap, rfl, h2 w' tb h.f h.n h.cs (some (D, { d with rs := (dls h.f h.n d.y d.ws d.rs fr to_).2.2 })) (PsT a cap (dls h.f h.n d.y d.ws d.rs fr to_).1) h.seat rfl (ae HZ)⟩
theorem az.dedr (hz : az w0 w hb vb tb gb h st r) (hm : bz (some (D, d)) ∈ r) : Ded w D d.md d.y d.rs d.ws := ai (p := D) hz (mt (mt (List.mem_append_right _ hm)))
theorem sE (hi : bT h) (hw : WOk d.ws) (hm : bz (some (D, d)) ∈ r) (hz : az w0 w hb vb tb gb h st r) :
 Calls Tryz.prog 84 #[.pointer (some ⟨vb, 0, none⟩), .pointer (some ⟨D, 0, none⟩)] w fun e w' => e = .returned (.tuple #[.int .i64 (fV h.f h.n h.cs d.md d.y d.rs d.ws), .int .i64 (bl h.f h.cs d.md d.y d.rs d.ws)]) ∧ Hid (az w0 w' hb vb tb gb ⟨vf h.f h.n h.cs d.md d.y d.rs d.ws, vn h.f h.n h.cs d.md d.y d.rs d.ws, vcs h.f h.cs d.md d.y d.rs d.ws, h.seat⟩ st r) := by
 refine (tV hi.vi (hz.dedr hm) hw hz.vlt).mono ?_
 rintro e w' ⟨rfl, HZ⟩
 exact ⟨rfl, az.of_vlt (ae HZ)⟩
theorem yw (keep : Int) (hi : bT h) (hw : WOk d.ws) (hm : bz (some (D, d)) ∈ r) (hz : az w0 w hb vb tb gb h st r) :
 Calls Tryz.prog 85 #[.pointer (some ⟨vb, 0, none⟩), .pointer (some ⟨D, 0, none⟩), .int .i64 keep] w fun e w' => e = .returned (.tuple #[.int .i64 (eQ h.f h.cs d.md d.y d.rs d.ws keep), .int .i64 (bl h.f h.cs d.md d.y d.rs d.ws)]) ∧ ∃ tb', Hid (az w0 w' hb vb tb' gb ⟨cw (tcs h.f h.cs d.md d.y d.rs d.ws keep), (tcs h.f h.cs d.md d.y d.rs d.ws keep).length, tcs h.f h.cs d.md d.y d.rs d.ws keep, h.seat⟩ st r) := by
 refine (yZ keep hi.vi (hz.dedr hm) hw hz.vlt).mono ?_
 rintro e w' ⟨rfl, tb', HZ⟩
 exact ⟨rfl, tb', az.of_vlt (ae HZ)⟩
theorem vK (hz : az w0 w hb vb tb gb h st r) :
 Calls Tryz.prog 48 #[.pointer (some ⟨vb, 0, none⟩)] w fun e w' => e = .returned (.tuple #[]) ∧ ∃ tb', Hid (az w0 w' hb vb tb' gb ⟨cw h.cs, h.cs.length, h.cs, h.seat⟩ st r) := by
 refine (wI hz.vlt).mono ?_
 rintro e w' ⟨rfl, tb', _, HZ⟩
 exact ⟨rfl, tb', az.of_vlt (ae HZ)⟩
theorem vL (y : Int) (hz : az w0 w hb vb tb gb h st r) :
 Calls Tryz.prog 46 #[.pointer (some ⟨tb, 0, none⟩), .int .i64 y] w fun e w' => e = .returned (.int .i64 (cln h.f y 8 : Nat)) ∧ Hid (az w0 w' hb vb tb gb ⟨clm h.f y 8, h.n, h.cs, h.seat⟩ st r) := by
 obtain ⟨F, ⟨Ft, Fg, k⟩, k2⟩ := bi hz.vlt
 refine (rn y w k.t).mono ?_
 rintro e w' ⟨rfl, F', h1, h2, h3⟩
 exact ⟨rfl, az.of_vlt (k2 _ _ (k.table h1 h2 h3))⟩
theorem yy (hz : az w0 w hb vb tb gb h st r) : Calls Tryz.prog 20 #[.pointer (some ⟨tb, 0, none⟩)] w fun e w' => e = .returned (.int .i64 h.n) ∧ w' = w := sm hz.vlt
end
end
end Go.Proofs.YtldkeaeohceckacGreat
