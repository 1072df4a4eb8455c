/- Bound together for a claim. -/
import Derived.Test.YtldkeaeohceckacGreatM3
import Derived.BigRegion
import Derived.Deep.MidRow
import Derived.Deep.AppendLies
import Derived.Deep.RegionLaw
import Derived.BigQuiet
namespace Go.Proofs.YtldkeaeohceckacGreat
set_option maxRecDepth 20000
set_option maxHeartbeats 64000000
section
open Go.RowKit
attribute [local go_sem ↓] Go.wp_at_zero Go.wp_at_succ
def xcs (x : ax) : Array Value := #[.int .i64 x.d, .int .i64 x.s, .int .i64 x.md, .int .i64 x.at_, .int .i64 x.key, .int .i64 x.to_, .int .i64 x.keep, .string x.b]
def ecl (v : Ev) (a : Option Addr) (cap : Nat) : Array Value := #[.int .i64 v.c, .int .i64 v.n, .bool v.t, .string v.s, .slice a v.l.length cap]
theorem Sts.put {st : Nat → Sd} {seat : Nat → Option Dp} (h : Sts st seat) (s : Nat) (d : Sd) : Sts (upd st s d) (upd seat s (d.map Prod.snd)) := fun j => by
 simp only [upd]
 split
 ·rfl
 ·exact h j
theorem rg {α : Type} {g : Nat → α} {k : Nat} {v : α} (h : g k = v) : upd g k v = g := by
 funext j
 unfold upd
 split
 ·rename_i e; rw [e, h]
 ·rfl
section
variable {w0 w : World} {hb vb tb gb : Nat} {h : HSt} {st : Nat → Sd} {r : List ao}
theorem az.as {h' : HSt} (hz : az w0 w hb vb tb gb h st r) (e1 : h'.f = h.f) (e2 : h'.n = h.n) (e3 : h'.cs = h.cs) : az w0 w hb vb tb gb h' st r := by
 unfold az at hz ⊢
 rw [e1, e2, e3]
 exact hz
theorem sD {md at_ : Int} (hb0 : ba h.f h.n md at_ = 0) (hz : az w0 w hb vb tb gb h st r) :
 Calls Tryz.prog 79 #[.pointer (some ⟨vb, 0, none⟩), .int .i64 md, .int .i64 at_] w fun e w' => ∃ D, e = .returned (.tuple #[.pointer (some ⟨D, 0, none⟩), .int .i64 0]) ∧ Hid (az w0 w' hb vb tb gb h st (bz (some (D, ⟨md, bat h.n md at_, [], []⟩)) :: r)) := by
 refine (wJ hb0 hz.vlt).mono ?_
 rintro e w' ⟨D, rfl, HZ⟩
 refine ⟨D, rfl, ?_⟩
 have h1 := ae HZ
 have p1 : Zoo w0 w' (bz (some (D, ⟨md, bat h.n md at_, [], []⟩)) :: au hb (aK vb st) 67 :: bh vb tb gb h.f h.n h.cs [] :: (bD st ++ r)) := h1.perm ((List.Perm.swap _ _ _).trans (List.Perm.cons _ (List.Perm.swap _ _ _)))
 exact p1.perm (List.perm_middle (l₁ := au hb (aK vb st) 67 :: bh vb tb gb h.f h.n h.cs [] :: bD st)).symm
theorem vI {md at_ z : Int} (hb0 : ba h.f h.n md at_ = z) (h0 : z ≠ 0) (hz : az w0 w hb vb tb gb h st r) :
 Calls Tryz.prog 79 #[.pointer (some ⟨vb, 0, none⟩), .int .i64 md, .int .i64 at_] w fun e w' => e = .returned (.tuple #[.pointer none, .int .i64 z]) ∧ Hid (az w0 w' hb vb tb gb h st r) := by
 refine (zf hb0 h0 hz.vlt).mono ?_
 rintro e w' ⟨rfl, HZ⟩
 exact ⟨rfl, bB (ae HZ)⟩
theorem az.sitNew {D : Nat} {d : Dp} {l1 l2 : List ao} (hz : az w0 w hb vb tb gb h st (l1 ++ bz (some (D, d)) :: l2)) {s : Nat} (hs : s < 5) (hn : st s = none) : az w0 (w.setCell ⟨hb, 1 + s, none⟩ (.pointer (some ⟨D, 0, none⟩))) hb vb tb gb h (upd st s (some (D, d))) (l1 ++ l2) := by
 have h1 := hz.perm (List.perm_middle (l₁ := l1))
 have h2 : Zoo w0 w (bh vb tb gb h.f h.n h.cs [] :: bz (some (D, d)) :: au hb (aK vb st) 67 :: (bD st ++ (l1 ++ l2))) := by
  have p := Zoo.perm h1 (List.perm_middle (l₁ := au hb (aK vb st) 67 :: bh vb tb gb h.f h.n h.cs [] :: bD st))
  exact p.perm ((List.Perm.cons _ (List.Perm.swap _ _ _)).trans (List.Perm.swap _ _ _))
 exact az.join h2 hs hn
def Ak (w0 : World) (hb vb tb gb : Nat) (r : List ao) (h' : HSt) (v : Ev) (e : Ending) (w' : World) : Prop := ∃ st', e = .returned (.int .i64 v.c) ∧ v = evc v.c ∧ Sts st' h'.seat ∧ Hid (az w0 w' hb vb tb gb h' st' r)
theorem vM (x : ax) (hx : x.d = 1) (hs : Sts st h.seat) (hz : az w0 w hb vb tb gb h st r) :
 Calls Tryz.prog 50 #[.pointer (some ⟨hb, 0, none⟩), .agg #[.int .i64 x.d, .int .i64 x.s, .int .i64 x.md, .int .i64 x.at_, .int .i64 x.key, .int .i64 x.to_, .int .i64 x.keep, .string x.b]] w fun e w' => Ak w0 hb vb tb gb r (hdo h x) (hev h x) e w' := by
 have HS := ag hs
 have HX := ag (hz.new (xcs x) 55)
 by_cases hsx : 0 ≤ x.s ∧ x.s < 5
 ·obtain ⟨j, hj, h5⟩ := dN hsx
  have hjs : x.s.toNat = j := by omega
  have hsb : bE (j : Int) = true := decide_eq_true (by omega)
  have i0 : (0 : Int) ≤ (j : Int) := by omega
  have i5 : (j : Int) < 5 := by omega
  cases hsd : st j with
  | some xx =>
    have hsj : h.seat j = some xx.2 := by rw [← hs j, hsd]; rfl
    have heq := (aW.there (h := h) (x := x) xx.2 hx hsx (by rw [hjs]; exact hsj)).eq
    rw [heq.1, heq.2]
    clear heq hz hs
    have hda : dat st (j : Int) = some xx := by rw [dW h5, hsd]
    obtain ⟨xd, xs, xm, xa, xk, xt, xp, xb⟩ := x
    dsimp only [xcs] at *
    subst hx hj
    go_enter Tryz.func50, Tryz.ntmps50
    go_wp2_with fail
    generalize w.alloc (.cells #[.int .i64 1, .int .i64 (j : Int), .int .i64 xm, .int .i64 xa, .int .i64 xk, .int .i64 xt, .int .i64 xp, .string xb] 55) = W at HX ⊢
    generalize w.heap.size = q at HX ⊢
    have hq := (ae HX).var (mh)
    have x1 : W.cell? ⟨q, 1, none⟩ = some (.int .i64 (j : Int)) := af hq rfl
    clear hq
    refine (dI (j : Int) _).mono ?_
    rintro e w' ⟨rfl, hw'⟩
    subst w'
    rw [hsb]
    go_wp2_with fail
    refine (lh (j : Int) (ae HX)).mono ?_
    rintro e w' ⟨rfl, hw'⟩
    subst w'
    rw [hda, show Option.isSome (some xx) = true from rfl]
    go_wp2_with fail
    go_ret
    exact ⟨st, rfl, rfl, ae HS, (ae HX).tail⟩
  | none =>
    have hsj : h.seat j = none := by rw [← hs j, hsd]; rfl
    have hda : dat st (j : Int) = none := by rw [dW h5, hsd]
    by_cases hb0 : ba h.f h.n x.md x.at_ = 0
    ·have heq := (aW.began (h := h) (x := x) hx hsx (by rw [hjs]; exact hsj) hb0).eq
     rw [heq.1, heq.2]
     clear heq hz hs
     have HB0 := ag hb0
     clear hb0
     obtain ⟨xd, xs, xm, xa, xk, xt, xp, xb⟩ := x
     dsimp only [xcs] at *
     subst hx hj
     go_enter Tryz.func50, Tryz.ntmps50
     go_wp2_with fail
     generalize w.alloc (.cells #[.int .i64 1, .int .i64 (j : Int), .int .i64 xm, .int .i64 xa, .int .i64 xk, .int .i64 xt, .int .i64 xp, .string xb] 55) = W at HX ⊢
     generalize w.heap.size = q at HX ⊢
     have hq := (ae HX).var (mh)
     have x1 : W.cell? ⟨q, 1, none⟩ = some (.int .i64 (j : Int)) := af hq rfl
     have x2 : W.cell? ⟨q, 2, none⟩ = some (.int .i64 xm) := af hq rfl
     have x3 : W.cell? ⟨q, 3, none⟩ = some (.int .i64 xa) := af hq rfl
     clear hq
     refine (dI (j : Int) _).mono ?_
     rintro e w' ⟨rfl, hw'⟩
     subst w'
     rw [hsb]
     go_wp2_with fail
     refine (lh (j : Int) (ae HX)).mono ?_
     rintro e w' ⟨rfl, hw'⟩
     subst w'
     rw [hda, show Option.isSome (none : Sd) = false from rfl]
     have c0 := (ae HX).c0
     have HV := ag (fun W' (hk : Kp [] W W') => sD (ae HB0) ((ae HX).kp0 hk))
     go_wp2_with fail
     go_region_with (go_at_call 79; refine (ae HV _ ((Kp.refl [] W).drewN _)).mono ?_; rintro e w' ⟨D, rfl, HY⟩)
     all_goals
      have hq2 := (ae HY).var (mt (mh))
      have y1 : w'.cell? ⟨q, 1, none⟩ = some (.int .i64 (j : Int)) := af hq2 rfl
      have c2 := (ae HY).cs_ h5
      have f2 := (ae HY).fz (1 + j)
      rw [hsd] at c2
      clear hq2 x1 x2 x3 c0 HV
      go_wp2_with fail
      go_region
     all_goals
      go_wp2_with fail
      go_ret
      exact ⟨upd st j (some (D, _)), rfl, rfl, by show Sts _ (upd h.seat ((j : Int).toNat) _); rw [hjs]; exact (ae HS).put j _, ((((ae HY).sitNew (l1 := []) h5 hsd).tail).kp0 (Kp.refl [] _).drew).as rfl rfl rfl⟩
    ·have heq := (aW.beganNot (h := h) (x := x) hx hsx (by rw [hjs]; exact hsj) hb0).eq
     rw [heq.1, heq.2]
     clear heq hz hs
     have HB0 := ag hb0
     clear hb0
     generalize hzz : ba h.f h.n x.md x.at_ = z at HB0 ⊢
     have HZ0 := ag hzz
     clear hzz
     obtain ⟨xd, xs, xm, xa, xk, xt, xp, xb⟩ := x
     dsimp only [xcs] at *
     subst hx hj
     go_enter Tryz.func50, Tryz.ntmps50
     go_wp2_with fail
     generalize w.alloc (.cells #[.int .i64 1, .int .i64 (j : Int), .int .i64 xm, .int .i64 xa, .int .i64 xk, .int .i64 xt, .int .i64 xp, .string xb] 55) = W at HX ⊢
     generalize w.heap.size = q at HX ⊢
     have hq := (ae HX).var (mh)
     have x1 : W.cell? ⟨q, 1, none⟩ = some (.int .i64 (j : Int)) := af hq rfl
     have x2 : W.cell? ⟨q, 2, none⟩ = some (.int .i64 xm) := af hq rfl
     have x3 : W.cell? ⟨q, 3, none⟩ = some (.int .i64 xa) := af hq rfl
     clear hq
     refine (dI (j : Int) _).mono ?_
     rintro e w' ⟨rfl, hw'⟩
     subst w'
     rw [hsb]
     go_wp2_with fail
     refine (lh (j : Int) (ae HX)).mono ?_
     rintro e w' ⟨rfl, hw'⟩
     subst w'
     rw [hda, show Option.isSome (none : Sd) = false from rfl]
     have c0 := (ae HX).c0
     have HV := ag (fun W' (hk : Kp [] W W') => vI (ae HZ0) (ae HB0) ((ae HX).kp0 hk))
     go_wp2_with fail
     go_region_with (go_at_call 79; refine (ae HV _ ((Kp.refl [] W).drewN _)).mono ?_; rintro e w' ⟨rfl, HY⟩)
     all_goals
      have hq2 := (ae HY).var (mh)
      have y1 : w'.cell? ⟨q, 1, none⟩ = some (.int .i64 (j : Int)) := af hq2 rfl
      have c2 := (ae HY).cs_ h5
      have f2 := (ae HY).fz (1 + j)
      rw [hsd] at c2
      clear hq2 x1 x2 x3 c0 HV
      go_wp2_with fail
      go_region
     all_goals
      go_wp2_with fail
      go_ret
      exact ⟨st, rfl, rfl, ae HS, by have h9 := (ae HY).leave h5; rw [rg hsd] at h9; exact (h9.tail.tail).kp0 (Kp.refl [] _).drew⟩
 ·have heq := (aW.range (h := h) (x := x) (by omega) hsx).eq
  rw [heq.1, heq.2]
  clear heq hz hs
  have hsb : bE x.s = false := decide_eq_false hsx
  obtain ⟨xd, xs, xm, xa, xk, xt, xp, xb⟩ := x
  dsimp only [xcs] at *
  subst hx
  go_enter Tryz.func50, Tryz.ntmps50
  go_wp2_with fail
  refine (dI xs _).mono ?_
  rintro e w' ⟨rfl, hw'⟩
  subst w'
  rw [hsb]
  go_wp2_with fail
  go_ret
  exact ⟨st, rfl, rfl, ae HS, (ae HX).tail⟩
end
def bU (w0 : World) (hb vb gb : Nat) (r : List ao) (h' : HSt) (v : Ev) (e : Ending) (w' : World) : Prop := ∃ tb' st' a cap, e = .returned (.agg #[.int .i64 v.c, .int .i64 v.n, .bool v.t, .string v.s, .slice a v.l.length cap]) ∧ Sts st' h'.seat ∧ Hid (az w0 w' hb vb tb' gb h' st' (PsT a cap v.l :: r))
structure EvF (w : World) (p : Nat) (a b c d e : Value) : Prop where
 c0 : w.cell? ⟨p, 0, none⟩ = some a
 c1 : w.cell? ⟨p, 1, none⟩ = some b
 c2 : w.cell? ⟨p, 2, none⟩ = some c
 c3 : w.cell? ⟨p, 3, none⟩ = some d
 c4 : w.cell? ⟨p, 4, none⟩ = some e
 f0 : w.frozen? ⟨p, 0, none⟩ = false
 f1 : w.frozen? ⟨p, 1, none⟩ = false
 f2 : w.frozen? ⟨p, 2, none⟩ = false
 f3 : w.frozen? ⟨p, 3, none⟩ = false
 f4 : w.frozen? ⟨p, 4, none⟩ = false
theorem evF {w : World} {p : Nat} {a b c d e : Value} {T : TypeId} (h : w.heap[p]? = some (.cells #[a, b, c, d, e] T (0, 0))) : EvF w p a b c d e :=
 ⟨af h rfl, af h rfl, af h rfl, af h rfl, af h rfl, ak _ h, ak _ h, ak _ h, ak _ h, ak _ h⟩
section
variable {w0 w : World} {hb vb tb gb : Nat} {h : HSt} {st : Nat → Sd} {r : List ao}
theorem az.ps {tb' : Nat} {h' : HSt} {st' : Nat → Sd} {w' : World} (hz : az w0 w' hb vb tb' gb h' st' r) : az w0 w' hb vb tb' gb h' st' (PsT none 0 [] :: r) := Zoo.perm (xX hz) (List.perm_middle (l₁ := au hb (aK vb st') 67 :: bh vb tb' gb h'.f h'.n h'.cs [] :: bD st')).symm
theorem az.fin {W : World} {p q : Nat} {c xc : Array Value} {T U : TypeId} (hz : az w0 W hb vb tb gb h st (au p c T :: au q xc U :: r)) (a b c' d e : Value) : az w0 (((((W.setCell ⟨p, 0, none⟩ a).setCell ⟨p, 1, none⟩ b).setCell ⟨p, 2, none⟩ c').setCell ⟨p, 3, none⟩ d).setCell ⟨p, 4, none⟩ e) hb vb tb gb h st r := (((((hz.set0 0 a).set0 1 b).set0 2 c').set0 3 d).set0 4 e).tail.tail
theorem wZ (hs : Sts st h.seat) {x : ax} (hx : 2 ≤ x.d ∧ x.d ≤ 10 ∧ x.d ≠ 8 ∧ x.d ≠ 9) (hf : ¬ bP st x.s = 0) : hdo h x = h ∧ hev h x = evc (bP st x.s) := by
 unfold bP at hf ⊢
 by_cases hsx : 0 ≤ x.s ∧ x.s < 5
 ·rw [if_pos hsx] at hf ⊢
  cases hd : st x.s.toNat with
  | none =>
    have : h.seat x.s.toNat = none := by rw [← hs, hd]; rfl
    exact (aW.none_ (h := h) (x := x) hx hsx this).eq
  | some y => rw [hd] at hf; exact absurd rfl hf
 ·rw [if_neg hsx]
  exact (aW.range (h := h) (x := x) (by omega) hsx).eq
theorem zY {s : Int} (hf : bP st s = 0) : ∃ (j D : Nat) (d : Dp), s = (j : Int) ∧ j < 5 ∧ st j = some (D, d) := by
 unfold bP at hf
 split at hf
 ·rename_i hsx
  obtain ⟨j, rfl, h5⟩ := dN hsx
  rw [Int.toNat_natCast] at hf
  cases hd : st j with
  | none => rw [hd] at hf; exact absurd hf (by simp)
  | some y => exact ⟨j, y.1, y.2, rfl, h5, hd⟩
 ·exact absurd hf (by simp)
theorem iE (x : ax) (hx : 2 ≤ x.d ∧ x.d ≤ 5) (hf : ¬ bP st x.s = 0) (hs : Sts st h.seat) (hz : az w0 w hb vb tb gb h st r) :
 Calls Tryz.prog 51 #[.pointer (some ⟨hb, 0, none⟩), .agg #[.int .i64 x.d, .int .i64 x.s, .int .i64 x.md, .int .i64 x.at_, .int .i64 x.key, .int .i64 x.to_, .int .i64 x.keep, .string x.b]] w fun e w' => bU w0 hb vb gb r (hdo h x) (hev h x) e w' := by
 have heq := wZ hs (x := x) (by omega) hf
 rw [heq.1, heq.2]
 clear heq
 have HS := ag hs
 have HX := ag (hz.two (xcs x) 55 #[.int .i64 0, .int .i64 0, .bool false, .string ⟨#[]⟩, .slice none 0 0] 74)
 clear hz hs
 generalize hzz : bP st x.s = z at hf ⊢
 have HZ0 := ag hzz
 have hzb : (z != 0) = true := by simpa using hf
 clear hzz hf
 obtain ⟨xd, xs, xm, xa, xk, xt, xp, xb⟩ := x
 dsimp only [xcs] at *
 go_enter Tryz.func51, Tryz.ntmps51
 go_wp2_with fail
 generalize (w.alloc (.cells #[.int .i64 xd, .int .i64 xs, .int .i64 xm, .int .i64 xa, .int .i64 xk, .int .i64 xt, .int .i64 xp, .string xb] 55)).alloc (.cells #[.int .i64 0, .int .i64 0, .bool false, .string ⟨#[]⟩, .slice none 0 0] 74) = W at HX ⊢
 generalize w.heap.size = q at HX ⊢
 generalize q + 1 = p at HX ⊢
 have hq := (ae HX).var (mt (mh))
 have x1 : W.cell? ⟨q, 1, none⟩ = some (.int .i64 xs) := af hq rfl
 clear hq
 refine (eZ xs (ae HX)).mono ?_
 rintro e w' ⟨rfl, hw'⟩
 subst w'
 rw [ae HZ0]
 generalize sp (dat st xs) = o
 have HE := ag ((ae HX).new #[.int .i64 z, .int .i64 0, .bool false, .string ⟨#[]⟩, .slice none 0 0] 74)
 have pl := ah ((ae HX).var (mh))
 obtain ⟨e0, e1, e2, e3, e4, g0, g1, g2, g3, g4⟩ := evF ((ae HX).var (mh))
 go_wp2_with fail
 refine bodyPost_ret (v := .agg #[.int .i64 z, .int .i64 0, .bool false, .string ⟨#[]⟩, .slice none 0 0]) (by simp [results, Tryz.results51, go_sem, e0, e1, e2, e3, e4, pl]) rfl ?_
 exact ⟨tb, st, none, 0, rfl, ae HS, (((ae HX).fin _ _ _ _ _).new _ _).tail.ps⟩
end
section
variable {w0 w : World} {hb vb tb gb : Nat} {h : HSt} {st : Nat → Sd} {r : List ao}
theorem yB (x : ax) (hx : x.d = 3) {j D : Nat} {d : Dp} (hj : x.s = (j : Int)) (h5 : j < 5) (hsd : st j = some (D, d)) (hs : Sts st h.seat) (hz : az w0 w hb vb tb gb h st r) (hsz : x.b.size ≤ maxLen) :
 Calls Tryz.prog 51 #[.pointer (some ⟨hb, 0, none⟩), .agg #[.int .i64 x.d, .int .i64 x.s, .int .i64 x.md, .int .i64 x.at_, .int .i64 x.key, .int .i64 x.to_, .int .i64 x.keep, .string x.b]] w fun e w' => bU w0 hb vb gb r (hdo h x) (hev h x) e w' := by
 have HS := ag hs
 have HX := ag (hz.two (xcs x) 55 #[.int .i64 0, .int .i64 0, .bool false, .string ⟨#[]⟩, .slice none 0 0] 74)
 have hjs : x.s.toNat = j := by omega
 have i0 : (0 : Int) ≤ (j : Int) := by omega
 have i5 : (j : Int) < 5 := by omega
 have hsj : h.seat j = some d := by rw [← hs j, hsd]; rfl
 have heq := (aW.put (h := h) (x := x) d hx ⟨by omega, by omega⟩ (by rw [hjs]; exact hsj)).eq
 rw [heq.1, heq.2]
 clear heq hz hs hsj
 have hda : dat st (j : Int) = some (D, d) := by rw [dW h5, hsd]
 have hfc : bP st (j : Int) = 0 := by unfold bP; rw [if_pos ⟨i0, i5⟩, Int.toNat_natCast, hsd]; rfl
 obtain ⟨xd, xs, xm, xa, xk, xt, xp, xb⟩ := x
 dsimp only [xcs] at *
 subst hx hj
 go_enter Tryz.func51, Tryz.ntmps51
 go_wp2_with fail
 generalize (w.alloc (.cells #[.int .i64 3, .int .i64 (j : Int), .int .i64 xm, .int .i64 xa, .int .i64 xk, .int .i64 xt, .int .i64 xp, .string xb] 55)).alloc (.cells #[.int .i64 0, .int .i64 0, .bool false, .string ⟨#[]⟩, .slice none 0 0] 74) = W at HX ⊢
 generalize w.heap.size = q at HX ⊢
 generalize q + 1 = p at HX ⊢
 have hq := (ae HX).var (mt (mh))
 have x0 : W.cell? ⟨q, 0, none⟩ = some (.int .i64 3) := af hq rfl
 have x1 : W.cell? ⟨q, 1, none⟩ = some (.int .i64 (j : Int)) := af hq rfl
 have x4 : W.cell? ⟨q, 4, none⟩ = some (.int .i64 xk) := af hq rfl
 have x5 : W.cell? ⟨q, 5, none⟩ = some (.int .i64 xt) := af hq rfl
 have x6 : W.cell? ⟨q, 6, none⟩ = some (.int .i64 xp) := af hq rfl
 have x7 : W.cell? ⟨q, 7, none⟩ = some (.string xb) := af hq rfl
 have ql := ah hq
 clear hq
 refine (eZ (j : Int) (ae HX)).mono ?_
 rintro e w' ⟨rfl, hw'⟩
 subst w'
 rw [hda, hfc]
 rw [show sp (some (D, d)) = .pointer (some ⟨D, 0, none⟩) from rfl]
 have HE := ag ((ae HX).new #[.int .i64 0, .int .i64 0, .bool false, .string ⟨#[]⟩, .slice none 0 0] 74)
 have pl := ah ((ae HX).var (mh))
 have hl := (ae HX).lt
 have vl := (ae HX).vlt_
 have c0 := (ae HX).c0
 have v0 := (ae HX).v0
 obtain ⟨e0, e1, e2, e3, e4, g0, g1, g2, g3, g4⟩ := evF ((ae HX).var (mh))
 go_wp2_with fail
 generalize W.alloc (.cells #[.int .i64 0, .int .i64 0, .bool false, .string ⟨#[]⟩, .slice none 0 0] 74) = W2 at HE ⊢
 generalize W.heap.size = pe at HE ⊢
 clear e0 e1 e2 e3 e4 g0 g1 g2 g3 g4 x0 x1 x4 x5 x6 x7 ql pl hl vl c0 v0
 refine (wX xk true xb hsz h5 hsd (ae HE)).mono ?_
 rintro e w3 ⟨rfl, HY⟩
 have hep := (ae HY).var (mh)
 have hpp := (ae HY).var (mt (mh))
 obtain ⟨a0, a1, a2, a3, a4, b0, b1, b2, b3, b4⟩ := evF hep
 obtain ⟨e0, e1, e2, e3, e4, g0, g1, g2, g3, g4⟩ := evF hpp
 have pl := ah hpp
 have el := ah hep
 clear hep hpp HE
 have hne := (ae HY).ne2
 go_wp2_with fail
 refine bodyPost_ret (v := .agg #[.int .i64 (dpc d.md xk true xb), .int .i64 0, .bool false, .string ⟨#[]⟩, .slice none 0 0]) (by simp [results, Tryz.results51, go_sem, e0, e1, e2, e3, e4]) rfl ?_
 exact ⟨tb, _, none, 0, rfl, by show Sts _ (upd h.seat ((j : Int).toNat) _); rw [hjs]; exact (ae HS).put j (some (D, _)), ((((ae HY).set0 0 _).tail).fin _ _ _ _ _).ps.as rfl rfl rfl⟩
theorem vO (x : ax) (hx : x.d = 4) {j D : Nat} {d : Dp} (hj : x.s = (j : Int)) (h5 : j < 5) (hsd : st j = some (D, d)) (hs : Sts st h.seat) (hz : az w0 w hb vb tb gb h st r) (hsz : x.b.size ≤ maxLen) :
 Calls Tryz.prog 51 #[.pointer (some ⟨hb, 0, none⟩), .agg #[.int .i64 x.d, .int .i64 x.s, .int .i64 x.md, .int .i64 x.at_, .int .i64 x.key, .int .i64 x.to_, .int .i64 x.keep, .string x.b]] w fun e w' => bU w0 hb vb gb r (hdo h x) (hev h x) e w' := by
 have HS := ag hs
 have HX := ag (hz.two (xcs x) 55 #[.int .i64 0, .int .i64 0, .bool false, .string ⟨#[]⟩, .slice none 0 0] 74)
 have hjs : x.s.toNat = j := by omega
 have i0 : (0 : Int) ≤ (j : Int) := by omega
 have i5 : (j : Int) < 5 := by omega
 have hsj : h.seat j = some d := by rw [← hs j, hsd]; rfl
 have heq := (aW.drop (h := h) (x := x) d hx ⟨by omega, by omega⟩ (by rw [hjs]; exact hsj)).eq
 rw [heq.1, heq.2]
 clear heq hz hs hsj
 have hda : dat st (j : Int) = some (D, d) := by rw [dW h5, hsd]
 have hfc : bP st (j : Int) = 0 := by unfold bP; rw [if_pos ⟨i0, i5⟩, Int.toNat_natCast, hsd]; rfl
 obtain ⟨xd, xs, xm, xa, xk, xt, xp, xb⟩ := x
 dsimp only [xcs] at *
 subst hx hj
 go_enter Tryz.func51, Tryz.ntmps51
 go_wp2_with fail
 generalize (w.alloc (.cells #[.int .i64 4, .int .i64 (j : Int), .int .i64 xm, .int .i64 xa, .int .i64 xk, .int .i64 xt, .int .i64 xp, .string xb] 55)).alloc (.cells #[.int .i64 0, .int .i64 0, .bool false, .string ⟨#[]⟩, .slice none 0 0] 74) = W at HX ⊢
 generalize w.heap.size = q at HX ⊢
 generalize q + 1 = p at HX ⊢
 have hq := (ae HX).var (mt (mh))
 have x0 : W.cell? ⟨q, 0, none⟩ = some (.int .i64 4) := af hq rfl
 have x1 : W.cell? ⟨q, 1, none⟩ = some (.int .i64 (j : Int)) := af hq rfl
 have x4 : W.cell? ⟨q, 4, none⟩ = some (.int .i64 xk) := af hq rfl
 have x5 : W.cell? ⟨q, 5, none⟩ = some (.int .i64 xt) := af hq rfl
 have x6 : W.cell? ⟨q, 6, none⟩ = some (.int .i64 xp) := af hq rfl
 have x7 : W.cell? ⟨q, 7, none⟩ = some (.string xb) := af hq rfl
 have ql := ah hq
 clear hq
 refine (eZ (j : Int) (ae HX)).mono ?_
 rintro e w' ⟨rfl, hw'⟩
 subst w'
 rw [hda, hfc]
 rw [show sp (some (D, d)) = .pointer (some ⟨D, 0, none⟩) from rfl]
 have HE := ag ((ae HX).new #[.int .i64 0, .int .i64 0, .bool false, .string ⟨#[]⟩, .slice none 0 0] 74)
 have pl := ah ((ae HX).var (mh))
 have hl := (ae HX).lt
 have vl := (ae HX).vlt_
 have c0 := (ae HX).c0
 have v0 := (ae HX).v0
 obtain ⟨e0, e1, e2, e3, e4, g0, g1, g2, g3, g4⟩ := evF ((ae HX).var (mh))
 go_wp2_with fail
 generalize W.alloc (.cells #[.int .i64 0, .int .i64 0, .bool false, .string ⟨#[]⟩, .slice none 0 0] 74) = W2 at HE ⊢
 generalize W.heap.size = pe at HE ⊢
 clear e0 e1 e2 e3 e4 g0 g1 g2 g3 g4 x0 x1 x4 x5 x6 x7 ql pl hl vl c0 v0
 refine (wX xk false ⟨#[]⟩ (Nat.zero_le _) h5 hsd (ae HE)).mono ?_
 rintro e w3 ⟨rfl, HY⟩
 have hep := (ae HY).var (mh)
 have hpp := (ae HY).var (mt (mh))
 obtain ⟨a0, a1, a2, a3, a4, b0, b1, b2, b3, b4⟩ := evF hep
 obtain ⟨e0, e1, e2, e3, e4, g0, g1, g2, g3, g4⟩ := evF hpp
 have pl := ah hpp
 have el := ah hep
 clear hep hpp HE
 have hne := (ae HY).ne2
 go_wp2_with fail
 refine bodyPost_ret (v := .agg #[.int .i64 (dpc d.md xk false ⟨#[]⟩), .int .i64 0, .bool false, .string ⟨#[]⟩, .slice none 0 0]) (by simp [results, Tryz.results51, go_sem, e0, e1, e2, e3, e4]) rfl ?_
 exact ⟨tb, _, none, 0, rfl, by show Sts _ (upd h.seat ((j : Int).toNat) _); rw [hjs]; exact (ae HS).put j (some (D, _)), ((((ae HY).set0 0 _).tail).fin _ _ _ _ _).ps.as rfl rfl rfl⟩
end
section
variable {w0 w : World} {hb vb tb gb : Nat} {h : HSt} {st : Nat → Sd} {r : List ao}
theorem yC (x : ax) (hx : x.d = 2) {j D : Nat} {d : Dp} (hj : x.s = (j : Int)) (h5 : j < 5) (hsd : st j = some (D, d)) (hs : Sts st h.seat) (hz : az w0 w hb vb tb gb h st r) :
 Calls Tryz.prog 51 #[.pointer (some ⟨hb, 0, none⟩), .agg #[.int .i64 x.d, .int .i64 x.s, .int .i64 x.md, .int .i64 x.at_, .int .i64 x.key, .int .i64 x.to_, .int .i64 x.keep, .string x.b]] w fun e w' => bU w0 hb vb gb r (hdo h x) (hev h x) e w' := by
 have HS := ag hs
 have HX := ag (hz.two (xcs x) 55 #[.int .i64 0, .int .i64 0, .bool false, .string ⟨#[]⟩, .slice none 0 0] 74)
 have hjs : x.s.toNat = j := by omega
 have i0 : (0 : Int) ≤ (j : Int) := by omega
 have i5 : (j : Int) < 5 := by omega
 have hsj : h.seat j = some d := by rw [← hs j, hsd]; rfl
 have heq := (aW.get (h := h) (x := x) d hx ⟨by omega, by omega⟩ (by rw [hjs]; exact hsj)).eq
 rw [heq.1, heq.2]
 clear heq hz hs hsj
 have hda : dat st (j : Int) = some (D, d) := by rw [dW h5, hsd]
 have hfc : bP st (j : Int) = 0 := by unfold bP; rw [if_pos ⟨i0, i5⟩, Int.toNat_natCast, hsd]; rfl
 obtain ⟨xd, xs, xm, xa, xk, xt, xp, xb⟩ := x
 dsimp only [xcs] at *
 subst hx hj
 go_enter Tryz.func51, Tryz.ntmps51
 go_wp2_with fail
 generalize (w.alloc (.cells #[.int .i64 2, .int .i64 (j : Int), .int .i64 xm, .int .i64 xa, .int .i64 xk, .int .i64 xt, .int .i64 xp, .string xb] 55)).alloc (.cells #[.int .i64 0, .int .i64 0, .bool false, .string ⟨#[]⟩, .slice none 0 0] 74) = W at HX ⊢
 generalize w.heap.size = q at HX ⊢
 generalize q + 1 = p at HX ⊢
 have hq := (ae HX).var (mt (mh))
 have x0 : W.cell? ⟨q, 0, none⟩ = some (.int .i64 2) := af hq rfl
 have x1 : W.cell? ⟨q, 1, none⟩ = some (.int .i64 (j : Int)) := af hq rfl
 have x4 : W.cell? ⟨q, 4, none⟩ = some (.int .i64 xk) := af hq rfl
 have x5 : W.cell? ⟨q, 5, none⟩ = some (.int .i64 xt) := af hq rfl
 have x6 : W.cell? ⟨q, 6, none⟩ = some (.int .i64 xp) := af hq rfl
 have x7 : W.cell? ⟨q, 7, none⟩ = some (.string xb) := af hq rfl
 have ql := ah hq
 clear hq
 refine (eZ (j : Int) (ae HX)).mono ?_
 rintro e w' ⟨rfl, hw'⟩
 subst w'
 rw [hda, hfc]
 rw [show sp (some (D, d)) = .pointer (some ⟨D, 0, none⟩) from rfl]
 have HE := ag ((ae HX).new #[.int .i64 0, .int .i64 0, .bool false, .string ⟨#[]⟩, .slice none 0 0] 74)
 have pl := ah ((ae HX).var (mh))
 have hl := (ae HX).lt
 have vl := (ae HX).vlt_
 have c0 := (ae HX).c0
 have v0 := (ae HX).v0
 obtain ⟨e0, e1, e2, e3, e4, g0, g1, g2, g3, g4⟩ := evF ((ae HX).var (mh))
 go_wp2_with fail
 generalize W.alloc (.cells #[.int .i64 0, .int .i64 0, .bool false, .string ⟨#[]⟩, .slice none 0 0] 74) = W2 at HE ⊢
 generalize W.heap.size = pe at HE ⊢
 clear e0 e1 e2 e3 e4 g0 g1 g2 g3 g4 x0 x1 x4 x5 x6 x7 ql pl hl vl c0 v0
 have c0 := (ae HE).c0
 have v0 := (ae HE).v0
 have hq := (ae HE).var (mt (mt (mh)))
 have x4 : W2.cell? ⟨q, 4, none⟩ = some (.int .i64 xk) := af hq rfl
 clear hq
 have HG := ag (fun W' (hk : Kp [] W2 W') => zW xk h5 hsd ((ae HE).kp0 hk))
 go_region_with (go_at_call 81; refine (ae HG _ (Kp.refl [] W2).drew).mono ?_; rintro e w3 ⟨rfl, HY⟩; (have hep := (ae HY).var (mh)); (obtain ⟨a0, a1, a2, a3, a4, b0, b1, b2, b3, b4⟩ := evF hep); clear hep)
 all_goals
  have hpp := (ae HY).var (mt (mh))
  obtain ⟨e0, e1, e2, e3, e4, g0, g1, g2, g3, g4⟩ := evF hpp
  have pl := ah hpp
  clear hpp
  have hne := (ae HY).ne2
  go_wp2_with fail
  refine bodyPost_ret (v := .agg #[.int .i64 (dg h.f h.n d.y d.ws xk).a, .int .i64 0, .bool (dg h.f h.n d.y d.ws xk).t, .string (dg h.f h.n d.y d.ws xk).s, .slice none 0 0]) (by simp [results, Tryz.results51, go_sem, e0, e1, e2, e3, e4]) rfl ?_
  exact ⟨tb, _, none, 0, rfl, by show Sts _ (upd h.seat ((j : Int).toNat) _); rw [hjs]; exact (ae HS).put j (some (D, _)), ((((((ae HY).set0 2 _).set0 3 _).set0 0 _).tail).fin _ _ _ _ _).ps.as rfl rfl rfl⟩
end
section
variable {w0 w : World} {hb vb tb gb : Nat} {h : HSt} {st : Nat → Sd} {r : List ao}
theorem vN (x : ax) (hx : x.d = 5) {j D : Nat} {d : Dp} (hj : x.s = (j : Int)) (h5 : j < 5) (hsd : st j = some (D, d)) (hs : Sts st h.seat) (hz : az w0 w hb vb tb gb h st r) :
 Calls Tryz.prog 51 #[.pointer (some ⟨hb, 0, none⟩), .agg #[.int .i64 x.d, .int .i64 x.s, .int .i64 x.md, .int .i64 x.at_, .int .i64 x.key, .int .i64 x.to_, .int .i64 x.keep, .string x.b]] w fun e w' => bU w0 hb vb gb r (hdo h x) (hev h x) e w' := by
 have HS := ag hs
 have HX := ag (hz.two (xcs x) 55 #[.int .i64 0, .int .i64 0, .bool false, .string ⟨#[]⟩, .slice none 0 0] 74)
 have hjs : x.s.toNat = j := by omega
 have i0 : (0 : Int) ≤ (j : Int) := by omega
 have i5 : (j : Int) < 5 := by omega
 have hsj : h.seat j = some d := by rw [← hs j, hsd]; rfl
 have heq := (aW.list (h := h) (x := x) d hx ⟨by omega, by omega⟩ (by rw [hjs]; exact hsj)).eq
 rw [heq.1, heq.2]
 clear heq hz hs hsj
 have hda : dat st (j : Int) = some (D, d) := by rw [dW h5, hsd]
 have hfc : bP st (j : Int) = 0 := by unfold bP; rw [if_pos ⟨i0, i5⟩, Int.toNat_natCast, hsd]; rfl
 obtain ⟨xd, xs, xm, xa, xk, xt, xp, xb⟩ := x
 dsimp only [xcs] at *
 subst hx hj
 go_enter Tryz.func51, Tryz.ntmps51
 go_wp2_with fail
 generalize (w.alloc (.cells #[.int .i64 5, .int .i64 (j : Int), .int .i64 xm, .int .i64 xa, .int .i64 xk, .int .i64 xt, .int .i64 xp, .string xb] 55)).alloc (.cells #[.int .i64 0, .int .i64 0, .bool false, .string ⟨#[]⟩, .slice none 0 0] 74) = W at HX ⊢
 generalize w.heap.size = q at HX ⊢
 generalize q + 1 = p at HX ⊢
 have hq := (ae HX).var (mt (mh))
 have x0 : W.cell? ⟨q, 0, none⟩ = some (.int .i64 5) := af hq rfl
 have x1 : W.cell? ⟨q, 1, none⟩ = some (.int .i64 (j : Int)) := af hq rfl
 have x4 : W.cell? ⟨q, 4, none⟩ = some (.int .i64 xk) := af hq rfl
 have x5 : W.cell? ⟨q, 5, none⟩ = some (.int .i64 xt) := af hq rfl
 have x6 : W.cell? ⟨q, 6, none⟩ = some (.int .i64 xp) := af hq rfl
 have x7 : W.cell? ⟨q, 7, none⟩ = some (.string xb) := af hq rfl
 have ql := ah hq
 clear hq
 refine (eZ (j : Int) (ae HX)).mono ?_
 rintro e w' ⟨rfl, hw'⟩
 subst w'
 rw [hda, hfc]
 rw [show sp (some (D, d)) = .pointer (some ⟨D, 0, none⟩) from rfl]
 have HE := ag ((ae HX).new #[.int .i64 0, .int .i64 0, .bool false, .string ⟨#[]⟩, .slice none 0 0] 74)
 have pl := ah ((ae HX).var (mh))
 have hl := (ae HX).lt
 have vl := (ae HX).vlt_
 have c0 := (ae HX).c0
 have v0 := (ae HX).v0
 obtain ⟨e0, e1, e2, e3, e4, g0, g1, g2, g3, g4⟩ := evF ((ae HX).var (mh))
 go_wp2_with fail
 generalize W.alloc (.cells #[.int .i64 0, .int .i64 0, .bool false, .string ⟨#[]⟩, .slice none 0 0] 74) = W2 at HE ⊢
 generalize W.heap.size = pe at HE ⊢
 clear e0 e1 e2 e3 e4 g0 g1 g2 g3 g4 x0 x1 x4 x5 x6 x7 ql pl hl vl c0 v0
 have c0 := (ae HE).c0
 have v0 := (ae HE).v0
 have hq := (ae HE).var (mt (mt (mh)))
 have x4 : W2.cell? ⟨q, 4, none⟩ = some (.int .i64 xk) := af hq rfl
 have x5 : W2.cell? ⟨q, 5, none⟩ = some (.int .i64 xt) := af hq rfl
 clear hq
 have HG := ag (fun W' (hk : Kp [] W2 W') => yx xk xt h5 hsd ((ae HE).kp0 hk))
 go_region_with (go_at_call 83; refine (ae HG _ (Kp.refl [] W2).drew).mono ?_; rintro e w3 ⟨a, cap, rfl, HY0⟩; (have HY := ag ((ae HY0).perm (List.perm_middle (l₁ := [_, _, _])).symm)); clear HY0; (have hep := (ae HY).var (mh)); (obtain ⟨a0, a1, a2, a3, a4, b0, b1, b2, b3, b4⟩ := evF hep); clear hep)
 all_goals
  have hpp := (ae HY).var (mt (mh))
  obtain ⟨e0, e1, e2, e3, e4, g0, g1, g2, g3, g4⟩ := evF hpp
  have pl := ah hpp
  clear hpp
  have hne := (ae HY).ne2
  go_wp2_with fail
  refine bodyPost_ret (v := .agg #[.int .i64 (dls h.f h.n d.y d.ws d.rs xk xt).2.1, .int .i64 0, .bool false, .string ⟨#[]⟩, .slice a (dls h.f h.n d.y d.ws d.rs xk xt).1.length cap]) (by simp [results, Tryz.results51, go_sem, e0, e1, e2, e3, e4]) rfl ?_
  exact ⟨tb, _, a, cap, rfl, by show Sts _ (upd h.seat ((j : Int).toNat) _); rw [hjs]; exact (ae HS).put j (some (D, _)), (((((ae HY).set0 4 _).set0 0 _).tail).fin _ _ _ _ _).as rfl rfl rfl⟩
end
section
variable {w0 w : World} {hb vb tb gb : Nat} {h : HSt} {st : Nat → Sd} {r : List ao}
theorem jv (x : ax) (hx : x.d = 6 ∨ x.d = 7 ∨ x.d = 10) (hf : ¬ bP st x.s = 0) (hs : Sts st h.seat) (hz : az w0 w hb vb tb gb h st r) :
 Calls Tryz.prog 52 #[.pointer (some ⟨hb, 0, none⟩), .agg #[.int .i64 x.d, .int .i64 x.s, .int .i64 x.md, .int .i64 x.at_, .int .i64 x.key, .int .i64 x.to_, .int .i64 x.keep, .string x.b]] w fun e w' => bU w0 hb vb gb r (hdo h x) (hev h x) e w' := by
 have heq := wZ hs (x := x) (by omega) hf
 rw [heq.1, heq.2]
 clear heq
 have HS := ag hs
 have HX := ag (hz.two (xcs x) 55 #[.int .i64 0, .int .i64 0, .bool false, .string ⟨#[]⟩, .slice none 0 0] 74)
 clear hz hs
 generalize hzz : bP st x.s = z at hf ⊢
 have HZ0 := ag hzz
 have hzb : (z != 0) = true := by simpa using hf
 clear hzz hf
 obtain ⟨xd, xs, xm, xa, xk, xt, xp, xb⟩ := x
 dsimp only [xcs] at *
 go_enter Tryz.func52, Tryz.ntmps52
 go_wp2_with fail
 generalize (w.alloc (.cells #[.int .i64 xd, .int .i64 xs, .int .i64 xm, .int .i64 xa, .int .i64 xk, .int .i64 xt, .int .i64 xp, .string xb] 55)).alloc (.cells #[.int .i64 0, .int .i64 0, .bool false, .string ⟨#[]⟩, .slice none 0 0] 74) = W at HX ⊢
 generalize w.heap.size = q at HX ⊢
 generalize q + 1 = p at HX ⊢
 have hq := (ae HX).var (mt (mh))
 have x1 : W.cell? ⟨q, 1, none⟩ = some (.int .i64 xs) := af hq rfl
 clear hq
 refine (eZ xs (ae HX)).mono ?_
 rintro e w' ⟨rfl, hw'⟩
 subst w'
 rw [ae HZ0]
 generalize sp (dat st xs) = o
 have HE := ag ((ae HX).new #[.int .i64 z, .int .i64 0, .bool false, .string ⟨#[]⟩, .slice none 0 0] 74)
 have pl := ah ((ae HX).var (mh))
 obtain ⟨e0, e1, e2, e3, e4, g0, g1, g2, g3, g4⟩ := evF ((ae HX).var (mh))
 go_wp2_with fail
 refine bodyPost_ret (v := .agg #[.int .i64 z, .int .i64 0, .bool false, .string ⟨#[]⟩, .slice none 0 0]) (by simp [results, Tryz.results52, go_sem, e0, e1, e2, e3, e4, pl]) rfl ?_
 exact ⟨tb, st, none, 0, rfl, ae HS, (((ae HX).fin _ _ _ _ _).new _ _).tail.ps⟩
theorem nD (x : ax) (hx : x.d = 6) {j D : Nat} {d : Dp} (hj : x.s = (j : Int)) (h5 : j < 5) (hsd : st j = some (D, d)) (hs : Sts st h.seat) (hz : az w0 w hb vb tb gb h st r) (hi : bT h) :
 Calls Tryz.prog 52 #[.pointer (some ⟨hb, 0, none⟩), .agg #[.int .i64 x.d, .int .i64 x.s, .int .i64 x.md, .int .i64 x.at_, .int .i64 x.key, .int .i64 x.to_, .int .i64 x.keep, .string x.b]] w fun e w' => bU w0 hb vb gb r (hdo h x) (hev h x) e w' := by
 have HS := ag hs
 have HX := ag (hz.two (xcs x) 55 #[.int .i64 0, .int .i64 0, .bool false, .string ⟨#[]⟩, .slice none 0 0] 74)
 have hjs : x.s.toNat = j := by omega
 have i0 : (0 : Int) ≤ (j : Int) := by omega
 have i5 : (j : Int) < 5 := by omega
 have hsj : h.seat j = some d := by rw [← hs j, hsd]; rfl
 have heq := (aW.commit (h := h) (x := x) d hx ⟨by omega, by omega⟩ (by rw [hjs]; exact hsj)).eq
 rw [heq.1, heq.2]
 clear heq hz hs hsj
 have hda : dat st (j : Int) = some (D, d) := by rw [dW h5, hsd]
 have hfc : bP st (j : Int) = 0 := by unfold bP; rw [if_pos ⟨i0, i5⟩, Int.toNat_natCast, hsd]; rfl
 have HI := ag hi
 have HW := ag (hi.ok j d (by rw [← ae HS j, hsd]; rfl))
 clear hi
 obtain ⟨xd, xs, xm, xa, xk, xt, xp, xb⟩ := x
 dsimp only [xcs] at *
 subst hx hj
 go_enter Tryz.func52, Tryz.ntmps52
 go_wp2_with fail
 generalize (w.alloc (.cells #[.int .i64 6, .int .i64 (j : Int), .int .i64 xm, .int .i64 xa, .int .i64 xk, .int .i64 xt, .int .i64 xp, .string xb] 55)).alloc (.cells #[.int .i64 0, .int .i64 0, .bool false, .string ⟨#[]⟩, .slice none 0 0] 74) = W at HX ⊢
 generalize w.heap.size = q at HX ⊢
 generalize q + 1 = p at HX ⊢
 have hq := (ae HX).var (mt (mh))
 have x0 : W.cell? ⟨q, 0, none⟩ = some (.int .i64 6) := af hq rfl
 have x1 : W.cell? ⟨q, 1, none⟩ = some (.int .i64 (j : Int)) := af hq rfl
 have x4 : W.cell? ⟨q, 4, none⟩ = some (.int .i64 xk) := af hq rfl
 have x5 : W.cell? ⟨q, 5, none⟩ = some (.int .i64 xt) := af hq rfl
 have x6 : W.cell? ⟨q, 6, none⟩ = some (.int .i64 xp) := af hq rfl
 have x7 : W.cell? ⟨q, 7, none⟩ = some (.string xb) := af hq rfl
 have ql := ah hq
 clear hq
 refine (eZ (j : Int) (ae HX)).mono ?_
 rintro e w' ⟨rfl, hw'⟩
 subst w'
 rw [hda, hfc]
 rw [show sp (some (D, d)) = .pointer (some ⟨D, 0, none⟩) from rfl]
 have HE := ag ((ae HX).new #[.int .i64 0, .int .i64 0, .bool false, .string ⟨#[]⟩, .slice none 0 0] 74)
 have pl := ah ((ae HX).var (mh))
 have hl := (ae HX).lt
 have vl := (ae HX).vlt_
 have c0 := (ae HX).c0
 have v0 := (ae HX).v0
 obtain ⟨e0, e1, e2, e3, e4, g0, g1, g2, g3, g4⟩ := evF ((ae HX).var (mh))
 go_wp2_with fail
 generalize W.alloc (.cells #[.int .i64 0, .int .i64 0, .bool false, .string ⟨#[]⟩, .slice none 0 0] 74) = W2 at HE ⊢
 generalize W.heap.size = pe at HE ⊢
 clear e0 e1 e2 e3 e4 g0 g1 g2 g3 g4 x0 x1 x4 x5 x6 x7 ql pl hl vl c0 v0
 have c2 := (ae HE).cs_ h5
 have f2 := (ae HE).fz (1 + j)
 have hq := (ae HE).var (mt (mt (mh)))
 have x1 : W2.cell? ⟨q, 1, none⟩ = some (.int .i64 (j : Int)) := af hq rfl
 clear hq
 have HL := ag ((ae HE).leave h5)
 rw [hsd] at HL
 go_region
 have HL2 := ag (((ae HL).kp0 (Kp.refl [] _).drew).perm (List.perm_middle (l₁ := [_, _, _])).symm)
 clear HL HE HX c2 f2 x1
 generalize World.drew _ = W3 at HL2 ⊢
 have hq := (ae HL2).var (mt (mt (mh)))
 have x0 : W3.cell? ⟨q, 0, none⟩ = some (.int .i64 6) := af hq rfl
 have x6 : W3.cell? ⟨q, 6, none⟩ = some (.int .i64 xp) := af hq rfl
 clear hq
 have c0 := (ae HL2).c0
 go_wp2_with fail
 refine (sE (ae HI) (ae HW) (mt (mt (mt (mh)))) (ae HL2)).mono ?_
 rintro e w4 ⟨rfl, HY⟩
 clear x0 x6 c0 HL2
 have hep := (ae HY).var (mh)
 have hpp := (ae HY).var (mt (mh))
 obtain ⟨a0, a1, a2, a3, a4, b0, b1, b2, b3, b4⟩ := evF hep
 obtain ⟨e0, e1, e2, e3, e4, g0, g1, g2, g3, g4⟩ := evF hpp
 clear hep hpp
 have hne := (ae HY).ne2
 go_wp2_with fail
 refine bodyPost_ret (v := .agg #[.int .i64 (bl h.f h.cs d.md d.y d.rs d.ws), .int .i64 (fV h.f h.n h.cs d.md d.y d.rs d.ws), .bool false, .string ⟨#[]⟩, .slice none 0 0]) (by simp [results, Tryz.results52, go_sem, e0, e1, e2, e3, e4]) rfl ?_
 exact ⟨tb, _, none, 0, rfl, by show Sts _ (upd h.seat ((j : Int).toNat) none); rw [hjs]; exact (ae HS).put j none, (((((ae HY).set0 1 _).set0 0 _).tail).fin _ _ _ _ _).tail.ps.as rfl rfl rfl⟩
theorem qc (x : ax) (hx : x.d = 7) {j D : Nat} {d : Dp} (hj : x.s = (j : Int)) (h5 : j < 5) (hsd : st j = some (D, d)) (hs : Sts st h.seat) (hz : az w0 w hb vb tb gb h st r) (hi : bT h) :
 Calls Tryz.prog 52 #[.pointer (some ⟨hb, 0, none⟩), .agg #[.int .i64 x.d, .int .i64 x.s, .int .i64 x.md, .int .i64 x.at_, .int .i64 x.key, .int .i64 x.to_, .int .i64 x.keep, .string x.b]] w fun e w' => bU w0 hb vb gb r (hdo h x) (hev h x) e w' := by
 have HS := ag hs
 have HX := ag (hz.two (xcs x) 55 #[.int .i64 0, .int .i64 0, .bool false, .string ⟨#[]⟩, .slice none 0 0] 74)
 have hjs : x.s.toNat = j := by omega
 have i0 : (0 : Int) ≤ (j : Int) := by omega
 have i5 : (j : Int) < 5 := by omega
 have hsj : h.seat j = some d := by rw [← hs j, hsd]; rfl
 have heq := (aW.abort (h := h) (x := x) d hx ⟨by omega, by omega⟩ (by rw [hjs]; exact hsj)).eq
 rw [heq.1, heq.2]
 clear heq hz hs hsj
 have hda : dat st (j : Int) = some (D, d) := by rw [dW h5, hsd]
 have hfc : bP st (j : Int) = 0 := by unfold bP; rw [if_pos ⟨i0, i5⟩, Int.toNat_natCast, hsd]; rfl
 have HI := ag hi
 have HW := ag (hi.ok j d (by rw [← ae HS j, hsd]; rfl))
 clear hi
 obtain ⟨xd, xs, xm, xa, xk, xt, xp, xb⟩ := x
 dsimp only [xcs] at *
 subst hx hj
 go_enter Tryz.func52, Tryz.ntmps52
 go_wp2_with fail
 generalize (w.alloc (.cells #[.int .i64 7, .int .i64 (j : Int), .int .i64 xm, .int .i64 xa, .int .i64 xk, .int .i64 xt, .int .i64 xp, .string xb] 55)).alloc (.cells #[.int .i64 0, .int .i64 0, .bool false, .string ⟨#[]⟩, .slice none 0 0] 74) = W at HX ⊢
 generalize w.heap.size = q at HX ⊢
 generalize q + 1 = p at HX ⊢
 have hq := (ae HX).var (mt (mh))
 have x0 : W.cell? ⟨q, 0, none⟩ = some (.int .i64 7) := af hq rfl
 have x1 : W.cell? ⟨q, 1, none⟩ = some (.int .i64 (j : Int)) := af hq rfl
 have x4 : W.cell? ⟨q, 4, none⟩ = some (.int .i64 xk) := af hq rfl
 have x5 : W.cell? ⟨q, 5, none⟩ = some (.int .i64 xt) := af hq rfl
 have x6 : W.cell? ⟨q, 6, none⟩ = some (.int .i64 xp) := af hq rfl
 have x7 : W.cell? ⟨q, 7, none⟩ = some (.string xb) := af hq rfl
 have ql := ah hq
 clear hq
 refine (eZ (j : Int) (ae HX)).mono ?_
 rintro e w' ⟨rfl, hw'⟩
 subst w'
 rw [hda, hfc]
 rw [show sp (some (D, d)) = .pointer (some ⟨D, 0, none⟩) from rfl]
 have HE := ag ((ae HX).new #[.int .i64 0, .int .i64 0, .bool false, .string ⟨#[]⟩, .slice none 0 0] 74)
 have pl := ah ((ae HX).var (mh))
 have hl := (ae HX).lt
 have vl := (ae HX).vlt_
 have c0 := (ae HX).c0
 have v0 := (ae HX).v0
 obtain ⟨e0, e1, e2, e3, e4, g0, g1, g2, g3, g4⟩ := evF ((ae HX).var (mh))
 go_wp2_with fail
 generalize W.alloc (.cells #[.int .i64 0, .int .i64 0, .bool false, .string ⟨#[]⟩, .slice none 0 0] 74) = W2 at HE ⊢
 generalize W.heap.size = pe at HE ⊢
 clear e0 e1 e2 e3 e4 g0 g1 g2 g3 g4 x0 x1 x4 x5 x6 x7 ql pl hl vl c0 v0
 have c2 := (ae HE).cs_ h5
 have f2 := (ae HE).fz (1 + j)
 have hq := (ae HE).var (mt (mt (mh)))
 have x1 : W2.cell? ⟨q, 1, none⟩ = some (.int .i64 (j : Int)) := af hq rfl
 clear hq
 have HL := ag ((ae HE).leave h5)
 rw [hsd] at HL
 go_region
 have HL2 := ag (((ae HL).kp0 (Kp.refl [] _).drew).perm (List.perm_middle (l₁ := [_, _, _])).symm)
 clear HL HE HX c2 f2 x1
 generalize World.drew _ = W3 at HL2 ⊢
 have hq := (ae HL2).var (mt (mt (mh)))
 have x0 : W3.cell? ⟨q, 0, none⟩ = some (.int .i64 7) := af hq rfl
 have x6 : W3.cell? ⟨q, 6, none⟩ = some (.int .i64 xp) := af hq rfl
 clear hq
 have c0 := (ae HL2).c0
 have HY := HL2
 have hep := (ae HY).var (mh)
 have hpp := (ae HY).var (mt (mh))
 obtain ⟨a0, a1, a2, a3, a4, b0, b1, b2, b3, b4⟩ := evF hep
 obtain ⟨e0, e1, e2, e3, e4, g0, g1, g2, g3, g4⟩ := evF hpp
 clear hep hpp
 have hne := (ae HY).ne2
 go_wp2_with fail
 refine bodyPost_ret (v := .agg #[.int .i64 0, .int .i64 0, .bool false, .string ⟨#[]⟩, .slice none 0 0]) (by simp [results, Tryz.results52, go_sem, e0, e1, e2, e3, e4]) rfl ?_
 exact ⟨tb, _, none, 0, rfl, by show Sts _ (upd h.seat ((j : Int).toNat) none); rw [hjs]; exact (ae HS).put j none, (((ae HY).tail).fin _ _ _ _ _).tail.ps.as rfl rfl rfl⟩
end
theorem sK (a b c d e x y : Value) : ((#[a, b, c, d, e] : Array Value).setIfInBounds 1 x).setIfInBounds 0 y = #[y, x, c, d, e] := rfl
section
variable {w0 w : World} {hb vb tb gb : Nat} {h : HSt} {st : Nat → Sd} {r : List ao}
theorem sO (x : ax) (hx : x.d = 10) {j D : Nat} {d : Dp} (hj : x.s = (j : Int)) (h5 : j < 5) (hsd : st j = some (D, d)) (hs : Sts st h.seat) (hz : az w0 w hb vb tb gb h st r) (hi : bT h) :
 Calls Tryz.prog 52 #[.pointer (some ⟨hb, 0, none⟩), .agg #[.int .i64 x.d, .int .i64 x.s, .int .i64 x.md, .int .i64 x.at_, .int .i64 x.key, .int .i64 x.to_, .int .i64 x.keep, .string x.b]] w fun e w' => bU w0 hb vb gb r (hdo h x) (hev h x) e w' := by
 have HS := ag hs
 have HX := ag (hz.two (xcs x) 55 #[.int .i64 0, .int .i64 0, .bool false, .string ⟨#[]⟩, .slice none 0 0] 74)
 have hjs : x.s.toNat = j := by omega
 have i0 : (0 : Int) ≤ (j : Int) := by omega
 have i5 : (j : Int) < 5 := by omega
 have hsj : h.seat j = some d := by rw [← hs j, hsd]; rfl
 have heq := (aW.tear (h := h) (x := x) d hx ⟨by omega, by omega⟩ (by rw [hjs]; exact hsj)).eq
 rw [heq.1, heq.2]
 clear heq hz hs hsj
 have hda : dat st (j : Int) = some (D, d) := by rw [dW h5, hsd]
 have hfc : bP st (j : Int) = 0 := by unfold bP; rw [if_pos ⟨i0, i5⟩, Int.toNat_natCast, hsd]; rfl
 have HI := ag hi
 have HW := ag (hi.ok j d (by rw [← ae HS j, hsd]; rfl))
 clear hi
 obtain ⟨xd, xs, xm, xa, xk, xt, xp, xb⟩ := x
 dsimp only [xcs] at *
 subst hx hj
 go_enter Tryz.func52, Tryz.ntmps52
 go_wp2_with fail
 generalize (w.alloc (.cells #[.int .i64 10, .int .i64 (j : Int), .int .i64 xm, .int .i64 xa, .int .i64 xk, .int .i64 xt, .int .i64 xp, .string xb] 55)).alloc (.cells #[.int .i64 0, .int .i64 0, .bool false, .string ⟨#[]⟩, .slice none 0 0] 74) = W at HX ⊢
 generalize w.heap.size = q at HX ⊢
 generalize q + 1 = p at HX ⊢
 have hq := (ae HX).var (mt (mh))
 have x0 : W.cell? ⟨q, 0, none⟩ = some (.int .i64 10) := af hq rfl
 have x1 : W.cell? ⟨q, 1, none⟩ = some (.int .i64 (j : Int)) := af hq rfl
 have x4 : W.cell? ⟨q, 4, none⟩ = some (.int .i64 xk) := af hq rfl
 have x5 : W.cell? ⟨q, 5, none⟩ = some (.int .i64 xt) := af hq rfl
 have x6 : W.cell? ⟨q, 6, none⟩ = some (.int .i64 xp) := af hq rfl
 have x7 : W.cell? ⟨q, 7, none⟩ = some (.string xb) := af hq rfl
 have ql := ah hq
 clear hq
 refine (eZ (j : Int) (ae HX)).mono ?_
 rintro e w' ⟨rfl, hw'⟩
 subst w'
 rw [hda, hfc]
 rw [show sp (some (D, d)) = .pointer (some ⟨D, 0, none⟩) from rfl]
 have HE := ag ((ae HX).new #[.int .i64 0, .int .i64 0, .bool false, .string ⟨#[]⟩, .slice none 0 0] 74)
 have pl := ah ((ae HX).var (mh))
 have hl := (ae HX).lt
 have vl := (ae HX).vlt_
 have c0 := (ae HX).c0
 have v0 := (ae HX).v0
 obtain ⟨e0, e1, e2, e3, e4, g0, g1, g2, g3, g4⟩ := evF ((ae HX).var (mh))
 go_wp2_with fail
 generalize W.alloc (.cells #[.int .i64 0, .int .i64 0, .bool false, .string ⟨#[]⟩, .slice none 0 0] 74) = W2 at HE ⊢
 generalize W.heap.size = pe at HE ⊢
 clear e0 e1 e2 e3 e4 g0 g1 g2 g3 g4 x0 x1 x4 x5 x6 x7 ql pl hl vl c0 v0
 have c2 := (ae HE).cs_ h5
 have f2 := (ae HE).fz (1 + j)
 have hq := (ae HE).var (mt (mt (mh)))
 have x1 : W2.cell? ⟨q, 1, none⟩ = some (.int .i64 (j : Int)) := af hq rfl
 clear hq
 have HL := ag ((ae HE).leave h5)
 rw [hsd] at HL
 go_region
 have HL2 := ag (((ae HL).kp0 (Kp.refl [] _).drew).perm (List.perm_middle (l₁ := [_, _, _])).symm)
 clear HL HE HX c2 f2 x1
 generalize World.drew _ = W3 at HL2 ⊢
 have hq := (ae HL2).var (mt (mt (mh)))
 have x0 : W3.cell? ⟨q, 0, none⟩ = some (.int .i64 10) := af hq rfl
 have x6 : W3.cell? ⟨q, 6, none⟩ = some (.int .i64 xp) := af hq rfl
 clear hq
 have c0 := (ae HL2).c0
 have HG := ag (fun W' (hk : Kp [] W3 W') => yw xp (ae HI) (ae HW) (mt (mt (mt (mh)))) ((ae HL2).kp0 hk))
 go_wp2_with fail
 go_region_with (go_at_call 85; refine (ae HG _ (Kp.refl [] W3).drew).mono ?_; rintro e w4 ⟨rfl, tb', HY⟩; (have hep := (ae HY).var (mh)); (obtain ⟨a0, a1, a2, a3, a4, b0, b1, b2, b3, b4⟩ := evF hep); clear hep)
 all_goals
  have HY2 := ag (((ae HY).set0 1 (.int .i64 (eQ h.f h.cs d.md d.y d.rs d.ws xp))).set0 0 (.int .i64 (bl h.f h.cs d.md d.y d.rs d.ws)))
  clear a0 a1 a2 a3 a4 b0 b1 b2 b3 b4 HY HG x0 x6 c0
  rw [sK] at HY2
  go_wp2_with fail
  refine (jr (ae HY2)).mono ?_
  rintro e w5 ⟨rfl, HY⟩
  clear HY2
  have hep := (ae HY).var (mh)
  have hpp := (ae HY).var (mt (mh))
  obtain ⟨a0, a1, a2, a3, a4, b0, b1, b2, b3, b4⟩ := evF hep
  obtain ⟨e0, e1, e2, e3, e4, g0, g1, g2, g3, g4⟩ := evF hpp
  clear hep hpp
  have hne := (ae HY).ne2
  go_wp2_with fail
  refine bodyPost_ret (v := .agg #[.int .i64 (bl h.f h.cs d.md d.y d.rs d.ws), .int .i64 (eQ h.f h.cs d.md d.y d.rs d.ws xp), .bool false, .string ⟨#[]⟩, .slice none 0 0]) (by simp [results, Tryz.results52, go_sem, e0, e1, e2, e3, e4]) rfl ?_
  exact ⟨tb', _, none, 0, rfl, fun _ => rfl, (((ae HY).tail).fin _ _ _ _ _).tail.ps.as rfl rfl rfl⟩
end
section
variable {w0 w : World} {hb vb tb gb : Nat} {h : HSt} {st : Nat → Sd} {r : List ao}
theorem vT (x : ax) (hs : Sts st h.seat) (hz : az w0 w hb vb tb gb h st r) (hx : x.d < 1 ∨ 10 < x.d) :
 Calls Tryz.prog 22 #[.pointer (some ⟨hb, 0, none⟩), .agg #[.int .i64 x.d, .int .i64 x.s, .int .i64 x.md, .int .i64 x.at_, .int .i64 x.key, .int .i64 x.to_, .int .i64 x.keep, .string x.b]] w fun e w' => bU w0 hb vb gb r (hdo h x) (hev h x) e w' := by
 have heq := (aW.kind (h := h) (x := x) hx).eq
 rw [heq.1, heq.2]
 clear heq
 have HS := ag hs
 have HX := ag (hz.two (xcs x) 55 #[.int .i64 3, .int .i64 0, .bool false, .string ⟨#[]⟩, .slice none 0 0] 74)
 clear hz hs
 obtain ⟨xd, xs, xm, xa, xk, xt, xp, xb⟩ := x
 dsimp only [xcs] at *
 have k1 : (xd == 1) = false := beq_eq_false_iff_ne.2 (by omega)
 have k2 : (xd == 2) = false := beq_eq_false_iff_ne.2 (by omega)
 have k3 : (xd == 3) = false := beq_eq_false_iff_ne.2 (by omega)
 have k4 : (xd == 4) = false := beq_eq_false_iff_ne.2 (by omega)
 have k5 : (xd == 5) = false := beq_eq_false_iff_ne.2 (by omega)
 have k6 : (xd == 6) = false := beq_eq_false_iff_ne.2 (by omega)
 have k7 : (xd == 7) = false := beq_eq_false_iff_ne.2 (by omega)
 have k8 : (xd == 8) = false := beq_eq_false_iff_ne.2 (by omega)
 have k9 : (xd == 9) = false := beq_eq_false_iff_ne.2 (by omega)
 have k10 : (xd == 10) = false := beq_eq_false_iff_ne.2 (by omega)
 go_enter Tryz.func22, Tryz.ntmps22
 go_wp2_with fail
 refine bodyPost_ret (v := .agg #[.int .i64 3, .int .i64 0, .bool false, .string ⟨#[]⟩, .slice none 0 0]) (by simp [results, Tryz.results22, go_sem]) rfl ?_
 exact ⟨tb, st, none, 0, rfl, ae HS, (ae HX).tail.tail.ps⟩
theorem sY (x : ax) (hs : Sts st h.seat) (hz : az w0 w hb vb tb gb h st r) (hx : x.d = 9) :
 Calls Tryz.prog 22 #[.pointer (some ⟨hb, 0, none⟩), .agg #[.int .i64 x.d, .int .i64 x.s, .int .i64 x.md, .int .i64 x.at_, .int .i64 x.key, .int .i64 x.to_, .int .i64 x.keep, .string x.b]] w fun e w' => bU w0 hb vb gb r (hdo h x) (hev h x) e w' := by
 have heq := (aW.crash (h := h) (x := x) hx).eq
 rw [heq.1, heq.2]
 clear heq
 have HS := ag hs
 have HX := ag (hz.two (xcs x) 55 #[.int .i64 0, .int .i64 0, .bool false, .string ⟨#[]⟩, .slice none 0 0] 74)
 have c0 := hz.c0
 have hl := hz.lt
 clear hz hs
 obtain ⟨xd, xs, xm, xa, xk, xt, xp, xb⟩ := x
 dsimp only [xcs] at *
 subst hx
 go_enter Tryz.func22, Tryz.ntmps22
 go_wp2_with fail
 generalize (w.alloc (.cells #[.int .i64 9, .int .i64 xs, .int .i64 xm, .int .i64 xa, .int .i64 xk, .int .i64 xt, .int .i64 xp, .string xb] 55)).alloc (.cells #[.int .i64 0, .int .i64 0, .bool false, .string ⟨#[]⟩, .slice none 0 0] 74) = W at HX ⊢
 generalize w.heap.size = q at HX ⊢
 generalize q + 1 = p at HX ⊢
 refine (vK (ae HX)).mono ?_
 rintro e w1 ⟨rfl, tb', H1⟩
 clear HX
 go_wp2_with fail
 refine (jr (ae H1)).mono ?_
 rintro e w2 ⟨rfl, HY⟩
 clear H1
 obtain ⟨e0, e1, e2, e3, e4, g0, g1, g2, g3, g4⟩ := evF ((ae HY).var (mh))
 go_wp2_with fail
 refine bodyPost_ret (v := .agg #[.int .i64 0, .int .i64 0, .bool false, .string ⟨#[]⟩, .slice none 0 0]) (by simp [results, Tryz.results22, go_sem, e0, e1, e2, e3, e4]) rfl ?_
 exact ⟨tb', _, none, 0, rfl, fun _ => rfl, ((ae HY).fin _ _ _ _ _).ps.as rfl rfl rfl⟩
theorem ta (x : ax) (hs : Sts st h.seat) (hz : az w0 w hb vb tb gb h st r) (hx : x.d = 1) :
 Calls Tryz.prog 22 #[.pointer (some ⟨hb, 0, none⟩), .agg #[.int .i64 x.d, .int .i64 x.s, .int .i64 x.md, .int .i64 x.at_, .int .i64 x.key, .int .i64 x.to_, .int .i64 x.keep, .string x.b]] w fun e w' => bU w0 hb vb gb r (hdo h x) (hev h x) e w' := by
 have HS := ag hs
 have HX := ag (hz.two (xcs x) 55 #[.int .i64 0, .int .i64 0, .bool false, .string ⟨#[]⟩, .slice none 0 0] 74)
 clear hz hs
 have HB := ag (fun W (hz : az w0 W hb vb tb gb h st (au (w.heap.size + 1) #[.int .i64 0, .int .i64 0, .bool false, .string ⟨#[]⟩, .slice none 0 0] 74 :: au w.heap.size (xcs x) 55 :: r)) => vM x hx (ae HS) hz)
 generalize hdo h x = h' at *
 generalize hev h x = v at *
 obtain ⟨xd, xs, xm, xa, xk, xt, xp, xb⟩ := x
 dsimp only [xcs] at *
 subst hx
 go_enter Tryz.func22, Tryz.ntmps22
 go_wp2_with fail
 have HB2 := ag (ae HB _ (ae HX))
 clear HB
 generalize (w.alloc (.cells #[.int .i64 1, .int .i64 xs, .int .i64 xm, .int .i64 xa, .int .i64 xk, .int .i64 xt, .int .i64 xp, .string xb] 55)).alloc (.cells #[.int .i64 0, .int .i64 0, .bool false, .string ⟨#[]⟩, .slice none 0 0] 74) = W at HX HB2 ⊢
 generalize w.heap.size = q at HX HB2 ⊢
 generalize q + 1 = p at HX HB2 ⊢
 refine (ae HB2).mono ?_
 rintro e w1 ⟨st', rfl, hv, hs', HY⟩
 have HS' := ag hs'
 have HV := ag hv
 clear HX HB2 hs' hv
 obtain ⟨e0, e1, e2, e3, e4, g0, g1, g2, g3, g4⟩ := evF ((ae HY).var (mh))
 go_wp2_with fail
 refine bodyPost_ret (v := .agg #[.int .i64 v.c, .int .i64 0, .bool false, .string ⟨#[]⟩, .slice none 0 0]) (by simp [results, Tryz.results22, go_sem, e0, e1, e2, e3, e4]) rfl ?_
 rw [ae HV]
 exact ⟨tb, st', none, 0, rfl, ae HS', ((ae HY).fin _ _ _ _ _).ps⟩
theorem sX (x : ax) (hz : az w0 w hb vb tb gb h st r) (hx : x.d = 2) (hc : ∀ {w : World} {r : List ao}, az w0 w hb vb tb gb h st r → Calls Tryz.prog 51 #[.pointer (some ⟨hb, 0, none⟩), .agg #[.int .i64 x.d, .int .i64 x.s, .int .i64 x.md, .int .i64 x.at_, .int .i64 x.key, .int .i64 x.to_, .int .i64 x.keep, .string x.b]] w fun e w' => bU w0 hb vb gb r (hdo h x) (hev h x) e w') :
 Calls Tryz.prog 22 #[.pointer (some ⟨hb, 0, none⟩), .agg #[.int .i64 x.d, .int .i64 x.s, .int .i64 x.md, .int .i64 x.at_, .int .i64 x.key, .int .i64 x.to_, .int .i64 x.keep, .string x.b]] w fun e w' => bU w0 hb vb gb r (hdo h x) (hev h x) e w' := by
 have HX := ag (hz.two (xcs x) 55 #[.int .i64 0, .int .i64 0, .bool false, .string ⟨#[]⟩, .slice none 0 0] 74)
 clear hz
 have HB := ag (hc (ae HX))
 clear hc
 generalize hdo h x = h' at *
 generalize hev h x = v at *
 obtain ⟨xd, xs, xm, xa, xk, xt, xp, xb⟩ := x
 dsimp only [xcs] at *
 subst hx
 go_enter Tryz.func22, Tryz.ntmps22
 go_wp2_with fail
 generalize (w.alloc (.cells #[.int .i64 2, .int .i64 xs, .int .i64 xm, .int .i64 xa, .int .i64 xk, .int .i64 xt, .int .i64 xp, .string xb] 55)).alloc (.cells #[.int .i64 0, .int .i64 0, .bool false, .string ⟨#[]⟩, .slice none 0 0] 74) = W at HX HB ⊢
 generalize w.heap.size = q at HX HB ⊢
 generalize q + 1 = p at HX HB ⊢
 refine (ae HB).mono ?_
 rintro e w1 ⟨tb', st', a, cap, rfl, hs', HY0⟩
 have HY := ag ((ae HY0).perm (List.perm_middle (l₁ := [_, _])).symm)
 have HS' := ag hs'
 clear HX HB hs' HY0
 obtain ⟨e0, e1, e2, e3, e4, g0, g1, g2, g3, g4⟩ := evF ((ae HY).var (mh))
 go_wp2_with fail
 refine bodyPost_ret (v := .agg #[.int .i64 v.c, .int .i64 v.n, .bool v.t, .string v.s, .slice a v.l.length cap]) (by simp [results, Tryz.results22, go_sem, e0, e1, e2, e3, e4]) rfl ?_
 exact ⟨tb', st', a, cap, rfl, ae HS', (ae HY).fin _ _ _ _ _⟩
theorem sW (x : ax) (hz : az w0 w hb vb tb gb h st r) (hx : x.d = 3) (hc : ∀ {w : World} {r : List ao}, az w0 w hb vb tb gb h st r → Calls Tryz.prog 51 #[.pointer (some ⟨hb, 0, none⟩), .agg #[.int .i64 x.d, .int .i64 x.s, .int .i64 x.md, .int .i64 x.at_, .int .i64 x.key, .int .i64 x.to_, .int .i64 x.keep, .string x.b]] w fun e w' => bU w0 hb vb gb r (hdo h x) (hev h x) e w') :
 Calls Tryz.prog 22 #[.pointer (some ⟨hb, 0, none⟩), .agg #[.int .i64 x.d, .int .i64 x.s, .int .i64 x.md, .int .i64 x.at_, .int .i64 x.key, .int .i64 x.to_, .int .i64 x.keep, .string x.b]] w fun e w' => bU w0 hb vb gb r (hdo h x) (hev h x) e w' := by
 have HX := ag (hz.two (xcs x) 55 #[.int .i64 0, .int .i64 0, .bool false, .string ⟨#[]⟩, .slice none 0 0] 74)
 clear hz
 have HB := ag (hc (ae HX))
 clear hc
 generalize hdo h x = h' at *
 generalize hev h x = v at *
 obtain ⟨xd, xs, xm, xa, xk, xt, xp, xb⟩ := x
 dsimp only [xcs] at *
 subst hx
 go_enter Tryz.func22, Tryz.ntmps22
 go_wp2_with fail
 generalize (w.alloc (.cells #[.int .i64 3, .int .i64 xs, .int .i64 xm, .int .i64 xa, .int .i64 xk, .int .i64 xt, .int .i64 xp, .string xb] 55)).alloc (.cells #[.int .i64 0, .int .i64 0, .bool false, .string ⟨#[]⟩, .slice none 0 0] 74) = W at HX HB ⊢
 generalize w.heap.size = q at HX HB ⊢
 generalize q + 1 = p at HX HB ⊢
 refine (ae HB).mono ?_
 rintro e w1 ⟨tb', st', a, cap, rfl, hs', HY0⟩
 have HY := ag ((ae HY0).perm (List.perm_middle (l₁ := [_, _])).symm)
 have HS' := ag hs'
 clear HX HB hs' HY0
 obtain ⟨e0, e1, e2, e3, e4, g0, g1, g2, g3, g4⟩ := evF ((ae HY).var (mh))
 go_wp2_with fail
 refine bodyPost_ret (v := .agg #[.int .i64 v.c, .int .i64 v.n, .bool v.t, .string v.s, .slice a v.l.length cap]) (by simp [results, Tryz.results22, go_sem, e0, e1, e2, e3, e4]) rfl ?_
 exact ⟨tb', st', a, cap, rfl, ae HS', (ae HY).fin _ _ _ _ _⟩
theorem sV (x : ax) (hz : az w0 w hb vb tb gb h st r) (hx : x.d = 4) (hc : ∀ {w : World} {r : List ao}, az w0 w hb vb tb gb h st r → Calls Tryz.prog 51 #[.pointer (some ⟨hb, 0, none⟩), .agg #[.int .i64 x.d, .int .i64 x.s, .int .i64 x.md, .int .i64 x.at_, .int .i64 x.key, .int .i64 x.to_, .int .i64 x.keep, .string x.b]] w fun e w' => bU w0 hb vb gb r (hdo h x) (hev h x) e w') :
 Calls Tryz.prog 22 #[.pointer (some ⟨hb, 0, none⟩), .agg #[.int .i64 x.d, .int .i64 x.s, .int .i64 x.md, .int .i64 x.at_, .int .i64 x.key, .int .i64 x.to_, .int .i64 x.keep, .string x.b]] w fun e w' => bU w0 hb vb gb r (hdo h x) (hev h x) e w' := by
 have HX := ag (hz.two (xcs x) 55 #[.int .i64 0, .int .i64 0, .bool false, .string ⟨#[]⟩, .slice none 0 0] 74)
 clear hz
 have HB := ag (hc (ae HX))
 clear hc
 generalize hdo h x = h' at *
 generalize hev h x = v at *
 obtain ⟨xd, xs, xm, xa, xk, xt, xp, xb⟩ := x
 dsimp only [xcs] at *
 subst hx
 go_enter Tryz.func22, Tryz.ntmps22
 go_wp2_with fail
 generalize (w.alloc (.cells #[.int .i64 4, .int .i64 xs, .int .i64 xm, .int .i64 xa, .int .i64 xk, .int .i64 xt, .int .i64 xp, .string xb] 55)).alloc (.cells #[.int .i64 0, .int .i64 0, .bool false, .string ⟨#[]⟩, .slice none 0 0] 74) = W at HX HB ⊢
 generalize w.heap.size = q at HX HB ⊢
 generalize q + 1 = p at HX HB ⊢
 refine (ae HB).mono ?_
 rintro e w1 ⟨tb', st', a, cap, rfl, hs', HY0⟩
 have HY := ag ((ae HY0).perm (List.perm_middle (l₁ := [_, _])).symm)
 have HS' := ag hs'
 clear HX HB hs' HY0
 obtain ⟨e0, e1, e2, e3, e4, g0, g1, g2, g3, g4⟩ := evF ((ae HY).var (mh))
 go_wp2_with fail
 refine bodyPost_ret (v := .agg #[.int .i64 v.c, .int .i64 v.n, .bool v.t, .string v.s, .slice a v.l.length cap]) (by simp [results, Tryz.results22, go_sem, e0, e1, e2, e3, e4]) rfl ?_
 exact ⟨tb', st', a, cap, rfl, ae HS', (ae HY).fin _ _ _ _ _⟩
theorem sU (x : ax) (hz : az w0 w hb vb tb gb h st r) (hx : x.d = 5) (hc : ∀ {w : World} {r : List ao}, az w0 w hb vb tb gb h st r → Calls Tryz.prog 51 #[.pointer (some ⟨hb, 0, none⟩), .agg #[.int .i64 x.d, .int .i64 x.s, .int .i64 x.md, .int .i64 x.at_, .int .i64 x.key, .int .i64 x.to_, .int .i64 x.keep, .string x.b]] w fun e w' => bU w0 hb vb gb r (hdo h x) (hev h x) e w') :
 Calls Tryz.prog 22 #[.pointer (some ⟨hb, 0, none⟩), .agg #[.int .i64 x.d, .int .i64 x.s, .int .i64 x.md, .int .i64 x.at_, .int .i64 x.key, .int .i64 x.to_, .int .i64 x.keep, .string x.b]] w fun e w' => bU w0 hb vb gb r (hdo h x) (hev h x) e w' := by
 have HX := ag (hz.two (xcs x) 55 #[.int .i64 0, .int .i64 0, .bool false, .string ⟨#[]⟩, .slice none 0 0] 74)
 clear hz
 have HB := ag (hc (ae HX))
 clear hc
 generalize hdo h x = h' at *
 generalize hev h x = v at *
 obtain ⟨xd, xs, xm, xa, xk, xt, xp, xb⟩ := x
 dsimp only [xcs] at *
 subst hx
 go_enter Tryz.func22, Tryz.ntmps22
 go_wp2_with fail
 generalize (w.alloc (.cells #[.int .i64 5, .int .i64 xs, .int .i64 xm, .int .i64 xa, .int .i64 xk, .int .i64 xt, .int .i64 xp, .string xb] 55)).alloc (.cells #[.int .i64 0, .int .i64 0, .bool false, .string ⟨#[]⟩, .slice none 0 0] 74) = W at HX HB ⊢
 generalize w.heap.size = q at HX HB ⊢
 generalize q + 1 = p at HX HB ⊢
 refine (ae HB).mono ?_
 rintro e w1 ⟨tb', st', a, cap, rfl, hs', HY0⟩
 have HY := ag ((ae HY0).perm (List.perm_middle (l₁ := [_, _])).symm)
 have HS' := ag hs'
 clear HX HB hs' HY0
 obtain ⟨e0, e1, e2, e3, e4, g0, g1, g2, g3, g4⟩ := evF ((ae HY).var (mh))
 go_wp2_with fail
 refine bodyPost_ret (v := .agg #[.int .i64 v.c, .int .i64 v.n, .bool v.t, .string v.s, .slice a v.l.length cap]) (by simp [results, Tryz.results22, go_sem, e0, e1, e2, e3, e4]) rfl ?_
 exact ⟨tb', st', a, cap, rfl, ae HS', (ae HY).fin _ _ _ _ _⟩
theorem pd (x : ax) (hz : az w0 w hb vb tb gb h st r) (hx : x.d = 6) (hc : ∀ {w : World} {r : List ao}, az w0 w hb vb tb gb h st r → Calls Tryz.prog 52 #[.pointer (some ⟨hb, 0, none⟩), .agg #[.int .i64 x.d, .int .i64 x.s, .int .i64 x.md, .int .i64 x.at_, .int .i64 x.key, .int .i64 x.to_, .int .i64 x.keep, .string x.b]] w fun e w' => bU w0 hb vb gb r (hdo h x) (hev h x) e w') :
 Calls Tryz.prog 22 #[.pointer (some ⟨hb, 0, none⟩), .agg #[.int .i64 x.d, .int .i64 x.s, .int .i64 x.md, .int .i64 x.at_, .int .i64 x.key, .int .i64 x.to_, .int .i64 x.keep, .string x.b]] w fun e w' => bU w0 hb vb gb r (hdo h x) (hev h x) e w' := by
 have HX := ag (hz.two (xcs x) 55 #[.int .i64 0, .int .i64 0, .bool false, .string ⟨#[]⟩, .slice none 0 0] 74)
 clear hz
 have HB := ag (hc (ae HX))
 clear hc
 generalize hdo h x = h' at *
 generalize hev h x = v at *
 obtain ⟨xd, xs, xm, xa, xk, xt, xp, xb⟩ := x
 dsimp only [xcs] at *
 subst hx
 go_enter Tryz.func22, Tryz.ntmps22
 go_wp2_with fail
 generalize (w.alloc (.cells #[.int .i64 6, .int .i64 xs, .int .i64 xm, .int .i64 xa, .int .i64 xk, .int .i64 xt, .int .i64 xp, .string xb] 55)).alloc (.cells #[.int .i64 0, .int .i64 0, .bool false, .string ⟨#[]⟩, .slice none 0 0] 74) = W at HX HB ⊢
 generalize w.heap.size = q at HX HB ⊢
 generalize q + 1 = p at HX HB ⊢
 refine (ae HB).mono ?_
 rintro e w1 ⟨tb', st', a, cap, rfl, hs', HY0⟩
 have HY := ag ((ae HY0).perm (List.perm_middle (l₁ := [_, _])).symm)
 have HS' := ag hs'
 clear HX HB hs' HY0
 obtain ⟨e0, e1, e2, e3, e4, g0, g1, g2, g3, g4⟩ := evF ((ae HY).var (mh))
 go_wp2_with fail
 refine bodyPost_ret (v := .agg #[.int .i64 v.c, .int .i64 v.n, .bool v.t, .string v.s, .slice a v.l.length cap]) (by simp [results, Tryz.results22, go_sem, e0, e1, e2, e3, e4]) rfl ?_
 exact ⟨tb', st', a, cap, rfl, ae HS', (ae HY).fin _ _ _ _ _⟩
theorem oZ (x : ax) (hz : az w0 w hb vb tb gb h st r) (hx : x.d = 7) (hc : ∀ {w : World} {r : List ao}, az w0 w hb vb tb gb h st r → Calls Tryz.prog 52 #[.pointer (some ⟨hb, 0, none⟩), .agg #[.int .i64 x.d, .int .i64 x.s, .int .i64 x.md, .int .i64 x.at_, .int .i64 x.key, .int .i64 x.to_, .int .i64 x.keep, .string x.b]] w fun e w' => bU w0 hb vb gb r (hdo h x) (hev h x) e w') :
 Calls Tryz.prog 22 #[.pointer (some ⟨hb, 0, none⟩), .agg #[.int .i64 x.d, .int .i64 x.s, .int .i64 x.md, .int .i64 x.at_, .int .i64 x.key, .int .i64 x.to_, .int .i64 x.keep, .string x.b]] w fun e w' => bU w0 hb vb gb r (hdo h x) (hev h x) e w' := by
 have HX := ag (hz.two (xcs x) 55 #[.int .i64 0, .int .i64 0, .bool false, .string ⟨#[]⟩, .slice none 0 0] 74)
 clear hz
 have HB := ag (hc (ae HX))
 clear hc
 generalize hdo h x = h' at *
 generalize hev h x = v at *
 obtain ⟨xd, xs, xm, xa, xk, xt, xp, xb⟩ := x
 dsimp only [xcs] at *
 subst hx
 go_enter Tryz.func22, Tryz.ntmps22
 go_wp2_with fail
 generalize (w.alloc (.cells #[.int .i64 7, .int .i64 xs, .int .i64 xm, .int .i64 xa, .int .i64 xk, .int .i64 xt, .int .i64 xp, .string xb] 55)).alloc (.cells #[.int .i64 0, .int .i64 0, .bool false, .string ⟨#[]⟩, .slice none 0 0] 74) = W at HX HB ⊢
 generalize w.heap.size = q at HX HB ⊢
 generalize q + 1 = p at HX HB ⊢
 refine (ae HB).mono ?_
 rintro e w1 ⟨tb', st', a, cap, rfl, hs', HY0⟩
 have HY := ag ((ae HY0).perm (List.perm_middle (l₁ := [_, _])).symm)
 have HS' := ag hs'
 clear HX HB hs' HY0
 obtain ⟨e0, e1, e2, e3, e4, g0, g1, g2, g3, g4⟩ := evF ((ae HY).var (mh))
 go_wp2_with fail
 refine bodyPost_ret (v := .agg #[.int .i64 v.c, .int .i64 v.n, .bool v.t, .string v.s, .slice a v.l.length cap]) (by simp [results, Tryz.results22, go_sem, e0, e1, e2, e3, e4]) rfl ?_
 exact ⟨tb', st', a, cap, rfl, ae HS', (ae HY).fin _ _ _ _ _⟩
theorem mA (x : ax) (hz : az w0 w hb vb tb gb h st r) (hx : x.d = 10) (hc : ∀ {w : World} {r : List ao}, az w0 w hb vb tb gb h st r → Calls Tryz.prog 52 #[.pointer (some ⟨hb, 0, none⟩), .agg #[.int .i64 x.d, .int .i64 x.s, .int .i64 x.md, .int .i64 x.at_, .int .i64 x.key, .int .i64 x.to_, .int .i64 x.keep, .string x.b]] w fun e w' => bU w0 hb vb gb r (hdo h x) (hev h x) e w') :
 Calls Tryz.prog 22 #[.pointer (some ⟨hb, 0, none⟩), .agg #[.int .i64 x.d, .int .i64 x.s, .int .i64 x.md, .int .i64 x.at_, .int .i64 x.key, .int .i64 x.to_, .int .i64 x.keep, .string x.b]] w fun e w' => bU w0 hb vb gb r (hdo h x) (hev h x) e w' := by
 have HX := ag (hz.two (xcs x) 55 #[.int .i64 0, .int .i64 0, .bool false, .string ⟨#[]⟩, .slice none 0 0] 74)
 clear hz
 have HB := ag (hc (ae HX))
 clear hc
 generalize hdo h x = h' at *
 generalize hev h x = v at *
 obtain ⟨xd, xs, xm, xa, xk, xt, xp, xb⟩ := x
 dsimp only [xcs] at *
 subst hx
 go_enter Tryz.func22, Tryz.ntmps22
 go_wp2_with fail
 generalize (w.alloc (.cells #[.int .i64 10, .int .i64 xs, .int .i64 xm, .int .i64 xa, .int .i64 xk, .int .i64 xt, .int .i64 xp, .string xb] 55)).alloc (.cells #[.int .i64 0, .int .i64 0, .bool false, .string ⟨#[]⟩, .slice none 0 0] 74) = W at HX HB ⊢
 generalize w.heap.size = q at HX HB ⊢
 generalize q + 1 = p at HX HB ⊢
 refine (ae HB).mono ?_
 rintro e w1 ⟨tb', st', a, cap, rfl, hs', HY0⟩
 have HY := ag ((ae HY0).perm (List.perm_middle (l₁ := [_, _])).symm)
 have HS' := ag hs'
 clear HX HB hs' HY0
 obtain ⟨e0, e1, e2, e3, e4, g0, g1, g2, g3, g4⟩ := evF ((ae HY).var (mh))
 go_wp2_with fail
 refine bodyPost_ret (v := .agg #[.int .i64 v.c, .int .i64 v.n, .bool v.t, .string v.s, .slice a v.l.length cap]) (by simp [results, Tryz.results22, go_sem, e0, e1, e2, e3, e4]) rfl ?_
 exact ⟨tb', st', a, cap, rfl, ae HS', (ae HY).fin _ _ _ _ _⟩
end
section
variable {w0 w : World} {hb vb tb gb : Nat} {h : HSt} {st : Nat → Sd} {r : List ao}
theorem sZ (x : ax) (hs : Sts st h.seat) (hz : az w0 w hb vb tb gb h st r) (hx : x.d = 8) :
 Calls Tryz.prog 22 #[.pointer (some ⟨hb, 0, none⟩), .agg #[.int .i64 x.d, .int .i64 x.s, .int .i64 x.md, .int .i64 x.at_, .int .i64 x.key, .int .i64 x.to_, .int .i64 x.keep, .string x.b]] w fun e w' => bU w0 hb vb gb r (hdo h x) (hev h x) e w' := by
 have heq := (aW.clear (h := h) (x := x) hx).eq
 rw [heq.1, heq.2]
 clear heq
 have HS := ag hs
 have HX := ag (hz.two (xcs x) 55 #[.int .i64 0, .int .i64 0, .bool false, .string ⟨#[]⟩, .slice none 0 0] 74)
 have hl := hz.lt
 have vl := hz.vlt_
 clear hz hs
 have HLE := ag (fun W r (hz : az w0 W hb vb tb gb h st r) => vJ (ae HS) hz)
 generalize bm h.n h.seat 5 = y at *
 obtain ⟨xd, xs, xm, xa, xk, xt, xp, xb⟩ := x
 dsimp only [xcs] at *
 subst hx
 go_enter Tryz.func22, Tryz.ntmps22
 go_wp2_with fail
 generalize (w.alloc (.cells #[.int .i64 8, .int .i64 xs, .int .i64 xm, .int .i64 xa, .int .i64 xk, .int .i64 xt, .int .i64 xp, .string xb] 55)).alloc (.cells #[.int .i64 0, .int .i64 0, .bool false, .string ⟨#[]⟩, .slice none 0 0] 74) = W at HX ⊢
 generalize w.heap.size = q at HX ⊢
 generalize q + 1 = p at HX ⊢
 have HXD := ag ((ae HX).kp0 (Kp.refl [] _).drew)
 clear HX
 have c0 := (ae HXD).c0
 have v0 := (ae HXD).v0
 refine wp_region_held_drew (S := fun w' => w'.cell? ⟨hb, 0, none⟩ = some (.pointer (some ⟨vb, 0, none⟩)) ∧ w'.cell? ⟨vb, 0, none⟩ = some (.pointer (some ⟨tb, 0, none⟩))) (by kernel_rfl) (⟨c0, v0⟩) (fun hHeld => ?_)
 refine tk 0 ?_ rfl (by kernel_rfl) (fun _ _ _ h => h) (by rfl) ?_ hHeld ?_;rotate_left;· intro w hSw;(try dsimp only at hSw);go_simp;try with_reducible rfl
 try simp only [Act.put, sx, sy, sz]
 refine tk 1 ?_ rfl (by kernel_rfl) (fun _ _ _ h => h) (by rfl) ?_ hHeld ?_;rotate_left;· intro w hSw;(try dsimp only at hSw);go_simp;try with_reducible rfl
 try simp only [Act.put, sx, sy, sz]
 refine tk 2 ?_ rfl (by kernel_rfl) (fun _ _ _ h => h) (by rfl) ?_ hHeld ?_;rotate_left;· intro w hSw;(try dsimp only at hSw);go_simp;try with_reducible rfl
 try simp only [Act.put, sx, sy, sz]
 refine tk 3 ?_ rfl (by kernel_rfl) (fun _ _ _ h => h) (by rfl) ?_ hHeld ?_;rotate_left;· intro w hSw;(try dsimp only at hSw);go_simp;try with_reducible rfl
 try simp only [Act.put, sx, sy, sz]
 refine tk 4 ?_ rfl (by kernel_rfl) (fun _ _ _ h => h) (by rfl) ?_ hHeld ?_;rotate_left;· intro w hSw;(try dsimp only at hSw);go_simp;try with_reducible rfl
 try simp only [Act.put, sx, sy, sz]
 refine tk 5 ?_ rfl (by kernel_rfl) (fun _ _ _ h => h) (by rfl) ?_ hHeld ?_;rotate_left;· intro w hSw;(try dsimp only at hSw);go_simp;try with_reducible rfl
 try simp only [Act.put, sx, sy, sz]
 refine tk 6 ?_ rfl (by kernel_rfl) (fun _ _ _ h => h) (by rfl) ?_ hHeld ?_;rotate_left;· intro w hSw;(try dsimp only at hSw);go_simp;try with_reducible rfl
 try simp only [Act.put, sx, sy, sz]
 refine tk 7 ?_ rfl (by kernel_rfl) (fun _ _ _ h => h) (by rfl) ?_ hHeld ?_;rotate_left;· intro w hSw;(try dsimp only at hSw);go_simp;try with_reducible rfl
 try simp only [Act.put, sx, sy, sz]
 refine aj (i := 8) rfl (by kernel_rfl) (fun K hK => ?_)
 go_simp
 refine (ae HLE _ _ (ae HXD)).mono ?_
 rintro e w' ⟨rfl, hw'⟩
 subst w'
 go_wp2_with fail
 refine hK.out _ _ (⟨c0, v0⟩) (fun hHeld2 => ?_)
 clear hK K hHeld
 have hHeld := hHeld2
 clear hHeld2
 try simp only [Act.put, sx, sy, sz]
 refine aj (i := 9) rfl (by kernel_rfl) (fun K hK => ?_)
 go_simp
 refine (vL y (ae HXD)).mono ?_
 rintro e w3 ⟨rfl, HY⟩
 go_wp2_with fail
 refine hK.out _ _ (⟨(ae HY).c0, (ae HY).v0⟩) (fun hHeld2 => ?_)
 clear hK K hHeld
 have hHeld := hHeld2
 clear hHeld2
 try simp only [Act.put, sx, sy, sz]
 refine tk 10 ?_ rfl (by kernel_rfl) (fun _ _ _ h => h) (by rfl) ?_ hHeld ?_;rotate_left;· intro w hSw;(try dsimp only at hSw);go_simp;try with_reducible rfl
 try simp only [Act.put, sx, sy, sz]
 refine aj (i := 11) rfl (by kernel_rfl) (fun K hK => ?_)
 go_simp
 obtain ⟨e0, e1, e2, e3, e4, g0, g1, g2, g3, g4⟩ := evF ((ae HY).var (mh))
 go_simp
 have HF := ag ((((((ae HY).set0 0 (.int .i64 0)).set0 1 (.int .i64 (cln h.f y 8 : Nat))).set0 2 (.bool false)).set0 3 (.string ⟨#[]⟩)).set0 4 (.slice none 0 0))
 go_wp2_with fail
 refine hK.out _ _ (⟨(ae HF).c0, (ae HF).v0⟩) (fun hHeld2 => ?_)
 clear hK K hHeld
 have hHeld := hHeld2
 clear hHeld2
 try simp only [Act.put, sx, sy, sz]
 refine wpAnyH_done (by kernel_rfl) ?_ _
 go_wp2_with fail
 refine bodyPost_ret (v := .agg #[.int .i64 0, .int .i64 (cln h.f y 8 : Nat), .bool false, .string ⟨#[]⟩, .slice none 0 0]) (by simp [results, Tryz.results22, go_sem, e0, e1, e2, e3, e4]) rfl ?_
 exact ⟨tb, st, none, 0, rfl, ae HS, ((ae HY).fin _ _ _ _ _).ps.as rfl rfl rfl⟩
theorem Au (x : ax) (hsz : x.b.size ≤ maxLen) (hs : Sts st h.seat) (hi : bT h) (hz : az w0 w hb vb tb gb h st r) :
 Calls Tryz.prog 22 #[.pointer (some ⟨hb, 0, none⟩), .agg #[.int .i64 x.d, .int .i64 x.s, .int .i64 x.md, .int .i64 x.at_, .int .i64 x.key, .int .i64 x.to_, .int .i64 x.keep, .string x.b]] w fun e w' => bU w0 hb vb gb r (hdo h x) (hev h x) e w' := by
 by_cases c0 : x.d < 1 ∨ 10 < x.d
 ·exact vT x hs hz c0
 by_cases c1 : x.d = 1
 ·exact ta x hs hz c1
 by_cases c8 : x.d = 8
 ·exact sZ x hs hz c8
 by_cases c9 : x.d = 9
 ·exact sY x hs hz c9
 by_cases hf : bP st x.s = 0
 ·obtain ⟨j, D, d, hj, h5, hsd⟩ := zY hf
  by_cases c2 : x.d = 2
  ·exact sX x hz c2 (fun hz' => yC x c2 hj h5 hsd hs hz')
  by_cases c3 : x.d = 3
  ·exact sW x hz c3 (fun hz' => yB x c3 hj h5 hsd hs hz' hsz)
  by_cases c4 : x.d = 4
  ·exact sV x hz c4 (fun hz' => vO x c4 hj h5 hsd hs hz' hsz)
  by_cases c5 : x.d = 5
  ·exact sU x hz c5 (fun hz' => vN x c5 hj h5 hsd hs hz')
  by_cases c6 : x.d = 6
  ·exact pd x hz c6 (fun hz' => nD x c6 hj h5 hsd hs hz' hi)
  by_cases c7 : x.d = 7
  ·exact oZ x hz c7 (fun hz' => qc x c7 hj h5 hsd hs hz' hi)
  ·exact mA x hz (by omega) (fun hz' => sO x (by omega) hj h5 hsd hs hz' hi)
 ·by_cases c2 : x.d = 2
  ·exact sX x hz c2 (fun hz' => iE x (by omega) hf hs hz')
  by_cases c3 : x.d = 3
  ·exact sW x hz c3 (fun hz' => iE x (by omega) hf hs hz')
  by_cases c4 : x.d = 4
  ·exact sV x hz c4 (fun hz' => iE x (by omega) hf hs hz')
  by_cases c5 : x.d = 5
  ·exact sU x hz c5 (fun hz' => iE x (by omega) hf hs hz')
  by_cases c6 : x.d = 6
  ·exact pd x hz c6 (fun hz' => jv x (by omega) hf hs hz')
  by_cases c7 : x.d = 7
  ·exact oZ x hz c7 (fun hz' => jv x (by omega) hf hs hz')
  ·exact mA x hz (by omega) (fun hz' => jv x (by omega) hf hs hz')
theorem yv (x : ax) (hsz : x.b.size ≤ maxLen) (hz : Zoo w0 w (ix hb h :: r)) :
 Calls Tryz.prog 22 #[.pointer (some ⟨hb, 0, none⟩), .agg #[.int .i64 x.d, .int .i64 x.s, .int .i64 x.md, .int .i64 x.at_, .int .i64 x.key, .int .i64 x.to_, .int .i64 x.keep, .string x.b]] w fun e w' => ∃ a cap, e = .returned (.agg #[.int .i64 (hev h x).c, .int .i64 (hev h x).n, .bool (hev h x).t, .string (hev h x).s, .slice a (hev h x).l.length cap]) ∧ Hid (Zoo w0 w' (ix hb (hdo h x) :: PsT a cap (hev h x).l :: r)) := by
 obtain ⟨vb, tb, gb, st, hs, hi, hz'⟩ := mv hz
 refine (Au x hsz hs hi hz').mono ?_
 rintro e w' ⟨tb', st', a, cap, rfl, hs', HY⟩
 exact ⟨a, cap, rfl, kq hs' (hi.step x) (ae HY)⟩
end
end
section
open Go.RowKit
theorem Tryz.info43 : (Tryz.prog.info? 43).map (fun i => (i.zero, i.size, i.bytes)) = some (some (.agg #[.int .i64 0, .int .i64 0, .int .i64 0, .bool false, .string ByteArray.empty, .slice none 0 0]), 6, 72) := by kernel_rfl
structure Ax where
 x : Ac
 a : Option Addr
 c : Nat
def axc (y : Ax) : List Value := [.int .i64 y.x.kd, .int .i64 y.x.key, .int .i64 y.x.to_, .bool y.x.t, .string y.x.s, .slice y.a y.x.l.length y.c]
def bS (ys : List Ax) : List Value := ys.flatMap axc
theorem jE (xs ys : List Ax) : bS (xs ++ ys) = bS xs ++ bS ys := by simp [bS]
theorem iK : ∀ {ys : List Ax} {i j : Nat} {y : Ax} {v : Value}, ys[i]? = some y → j < 6 → (axc y)[j]? = some v → (bS ys)[i * 6 + j]? = some v := by
 intro ys
 induction ys with
 | nil => intro i j y v h; simp at h
 | cons z r ih =>
   intro i j y v h hj hv
   have e : bS (z :: r) = axc z ++ bS r := rfl
   have hl : (axc z).length = 6 := rfl
   rw [e]
   cases i with
   | zero =>
     simp at h
     subst h
     rw [List.getElem?_append_left (by rw [hl]; omega), show 0 * 6 + j = j by omega]
     exact hv
   | succ i =>
     simp at h
     rw [List.getElem?_append_right (by rw [hl]; omega), hl, show (i + 1) * 6 + j - 6 = i * 6 + j by omega]
     exact ih h hj hv
def axT (y : Ax) : ao := KwT 98 3 y.a y.x.l.length y.c (aw y.x.l)
def cV (a : Option Addr) (c : Nat) (ys : List Ax) : ao := aJ (KwT 43 6 a ys.length c (bS ys) :: ys.map axT)
structure Ob where
 b : Nat
 d : Dn
 ys : List Ax
 a : Option Addr
 c : Nat
def obc (o : Ob) : Array Value := #[.int .i64 o.d.n, .int .i64 o.d.at_, .int .i64 o.d.md, .slice o.a o.ys.length o.c]
def cu : Option Ob → ao
 | none => aJ []
 | some o => aJ [au o.b (obc o) 36, cV o.a o.c o.ys]
def bp (o : Option Ob) : Value := .pointer (o.map fun x => ⟨x.b, 0, none⟩)
structure Dy where
 x : Dx
 ys : List Ax
def dyT (y : Dy) : ao := cV y.x.a y.x.c y.ys
def bkc (st : Nat → Option Ob) (a : Option Addr) (n c : Nat) : Array Value := #[bp (st 0), bp (st 1), bp (st 2), bp (st 3), bp (st 4), .slice a n c]
def gj (st : Nat → Option Ob) : List ao := [cu (st 0), cu (st 1), cu (st 2), cu (st 3), cu (st 4)]
structure fY (st : Nat → Option Ob) (ys : List Dy) (b : Bk) : Prop where
 op : ∀ s, (st s).map Ob.d = b.op s
 oa : ∀ s o, st s = some o → o.d.acts = o.ys.map Ax.x
 dn : ys.map (fun y => y.x.d) = b.dn
 da : ∀ y, y ∈ ys → y.x.d.acts = y.ys.map Ax.x
def bth (bb : Nat) (st : Nat → Option Ob) (a : Option Addr) (c : Nat) (ys : List Dy) : List ao := au bb (bkc st a ys.length c) 111 :: KwT 36 4 a ys.length c (aP (ys.map Dy.x)) :: (ys.map dyT ++ gj st)
def BkT (bb : Nat) (b : Bk) : ao where
 holds B w F := ∃ st a c ys, fY st ys b ∧ ce B w (bth bb st a c ys) F
 kp := fun ⟨st, a, c, ys, h1, h2⟩ hk hS => ⟨st, a, c, ys, h1, ce.kp hk h2 hS⟩
 lo := fun ⟨_, _, _, _, _, h⟩ => h.lo
 base := fun ⟨st, a, c, ys, h1, h2⟩ hC => ⟨st, a, c, ys, h1, ce.base hC h2⟩
def aX (w0 w : World) (bb : Nat) (st : Nat → Option Ob) (a : Option Addr) (c : Nat) (ys : List Dy) (r : List ao) : Prop := Zoo w0 w (bth bb st a c ys ++ r)
section
variable {w0 w w' : World} {bb : Nat} {b : Bk} {st : Nat → Option Ob} {a : Option Addr} {c : Nat} {ys : List Dy} {r : List ao}
theorem gR (hz : Zoo w0 w (BkT bb b :: r)) : ∃ st a c ys, fY st ys b ∧ aX w0 w bb st a c ys r := by
 obtain ⟨X, ⟨F, Y, ⟨st, a, c, ys, h1, k⟩, h4, h5, rfl⟩, hk⟩ := hz
 exact ⟨st, a, c, ys, h1, F ++ Y, ew k h4 h5, hk⟩
theorem bw (hs : fY st ys b) (hz : aX w0 w bb st a c ys r) : Zoo w0 w (BkT bb b :: r) := by
 obtain ⟨X, h1, hk⟩ := hz
 obtain ⟨F, Y, k1, k2, k3, rfl⟩ := dQ (us := bth bb st a c ys) (vs := r) h1
 exact ⟨F ++ Y, ⟨F, Y, ⟨st, a, c, ys, hs, k1⟩, k2, k3, rfl⟩, hk⟩
theorem aX.kp0 (hz : aX w0 w bb st a c ys r) (hk : Kp [] w w') : aX w0 w' bb st a c ys r := Zoo.kp0 hz hk
theorem aX.box (hz : aX w0 w bb st a c ys r) : w.heap[bb]? = some (.cells (bkc st a ys.length c) 111 (0, 0)) := Zoo.var hz
theorem nN (st : Nat → Option Ob) (a : Option Addr) (n c : Nat) {s : Nat} (hs : s < 5) : (bkc st a n c)[s]? = some (bp (st s)) := by
 rcases (show s = 0 ∨ s = 1 ∨ s = 2 ∨ s = 3 ∨ s = 4 by omega) with e | e | e | e | e <;> subst e <;> rfl
theorem aX.cs_ (hz : aX w0 w bb st a c ys r) {s : Nat} (hs : s < 5) : w.cell? ⟨bb, s, none⟩ = some (bp (st s)) := af hz.box (nN st a _ c hs)
theorem aX.c5 (hz : aX w0 w bb st a c ys r) : w.cell? ⟨bb, 5, none⟩ = some (.slice a ys.length c) := af hz.box rfl
theorem aX.fz (hz : aX w0 w bb st a c ys r) (i : Nat) : w.frozen? ⟨bb, i, none⟩ = false := ak i hz.box
theorem aX.lt (hz : aX w0 w bb st a c ys r) : bb < w.heap.size := ah hz.box
theorem vo (st : Nat → Option Ob) {s : Nat} (hs : s < 5) : ∃ l1 l2, gj st = l1 ++ cu (st s) :: l2 ∧ ∀ d, gj (upd st s d) = l1 ++ cu d :: l2 := by
 rcases (show s = 0 ∨ s = 1 ∨ s = 2 ∨ s = 3 ∨ s = 4 by omega) with e | e | e | e | e <;> subst e
 ·exact ⟨[], [cu (st 1), cu (st 2), cu (st 3), cu (st 4)], rfl, fun d => by simp [gj, upd]⟩
 ·exact ⟨[cu (st 0)], [cu (st 2), cu (st 3), cu (st 4)], rfl, fun d => by simp [gj, upd]⟩
 ·exact ⟨[cu (st 0), cu (st 1)], [cu (st 3), cu (st 4)], rfl, fun d => by simp [gj, upd]⟩
 ·exact ⟨[cu (st 0), cu (st 1), cu (st 2)], [cu (st 4)], rfl, fun d => by simp [gj, upd]⟩
 ·exact ⟨[cu (st 0), cu (st 1), cu (st 2), cu (st 3)], [], rfl, fun d => by simp [gj, upd]⟩
theorem lF (st : Nat → Option Ob) (a : Option Addr) (n c : Nat) {s : Nat} (hs : s < 5) (d : Option Ob) : (bkc st a n c).setIfInBounds s (bp d) = bkc (upd st s d) a n c := by
 rcases (show s = 0 ∨ s = 1 ∨ s = 2 ∨ s = 3 ∨ s = 4 by omega) with e | e | e | e | e <;> subst e <;> simp [bkc, upd]
theorem aX.out (hz : aX w0 w bb st a c ys r) {s : Nat} (hs : s < 5) : ∃ l1 l2, (∀ d, gj (upd st s d) = l1 ++ cu d :: l2) ∧
 Zoo w0 w (cu (st s) :: au bb (bkc st a ys.length c) 111 :: KwT 36 4 a ys.length c (aP (ys.map Dy.x)) :: (ys.map dyT ++ (l1 ++ (l2 ++ r)))) := by
 obtain ⟨l1, l2, e1, e2⟩ := vo st hs
 refine ⟨l1, l2, e2, ?_⟩
 have h1 : Zoo w0 w (bth bb st a c ys ++ r) := hz
 unfold bth at h1
 rw [e1] at h1
 refine h1.perm ?_
 have p := (List.perm_middle (l₁ := au bb (bkc st a ys.length c) 111 :: KwT 36 4 a ys.length c (aP (ys.map Dy.x)) :: (ys.map dyT ++ l1)) (a := cu (st s)) (l₂ := l2 ++ r))
 simpa [List.append_assoc] using p
theorem aX.back {l1 l2 : List ao} {s : Nat} {d : Option Ob} {a' : Option Addr} {c' : Nat} {ys' : List Dy} (h2 : ∀ d, gj (upd st s d) = l1 ++ cu d :: l2) (hz : Zoo w0 w (cu d :: au bb (bkc (upd st s d) a' ys'.length c') 111 :: KwT 36 4 a' ys'.length c' (aP (ys'.map Dy.x)) :: (ys'.map dyT ++ (l1 ++ (l2 ++ r))))) : aX w0 w bb (upd st s d) a' c' ys' r := by
 unfold aX bth
 rw [h2]
 refine hz.perm ?_
 have p := (List.perm_middle (l₁ := au bb (bkc (upd st s d) a' ys'.length c') 111 :: KwT 36 4 a' ys'.length c' (aP (ys'.map Dy.x)) :: (ys'.map dyT ++ l1)) (a := cu d) (l₂ := l2 ++ r)).symm
 simpa [List.append_assoc] using p
theorem co (hz : Zoo w0 w r) : Zoo w0 w (cu none :: r) := bR (os := []) hz
theorem jj {o : Ob} (hz : Zoo w0 w (cu (some o) :: r)) : Zoo w0 w (au o.b (obc o) 36 :: cV o.a o.c o.ys :: r) := gW hz
theorem kg {o : Ob} (hz : Zoo w0 w (au o.b (obc o) 36 :: cV o.a o.c o.ys :: r)) : Zoo w0 w (cu (some o) :: r) := bR (os := [_, _]) hz
theorem jG {ac : Option Addr} {cc : Nat} {zs : List Ax} (hz : Zoo w0 w (cV ac cc zs :: r)) : Zoo w0 w (KwT 43 6 ac zs.length cc (bS zs) :: (zs.map axT ++ r)) := gW hz
theorem ic {ac : Option Addr} {cc : Nat} {zs : List Ax} (hz : Zoo w0 w (KwT 43 6 ac zs.length cc (bS zs) :: (zs.map axT ++ r))) : Zoo w0 w (cV ac cc zs :: r) := bR (os := _ :: zs.map axT) hz
theorem fC {ac ac' : Option Addr} {cc cc' : Nat} {zs : List Ax} {y : Ax} (hz : Zoo w0 w (axT y :: cV ac cc zs :: r)) (h1 : bn 43 6 w0.heap.size w' ac' (zs.length + 1) cc' (bS zs ++ axc y)) (h2 : Kp (ob ac) w w') (h3 : ∀ x ∈ ob ac', x ∈ ob ac ∨ w.heap.size ≤ x) : Zoo w0 w' (cV ac' cc' (zs ++ [y]) :: r) := by
 have k1 : Zoo w0 w (KwT 43 6 ac zs.length cc (bS zs) :: (zs.map axT ++ axT y :: r)) := jG (bB hz)
 have k2 := cS (l1 := []) k1 h1 h2 h3
 refine ic ?_
 have e1 : (zs ++ [y]).length = zs.length + 1 := by simp
 have e2 : bS (zs ++ [y]) = bS zs ++ axc y := by rw [jE]; simp [bS]
 rw [e1, e2, List.map_append]
 simpa using k2
theorem fU {ac : Option Addr} {cc : Nat} {zs : List Ax} {l1 : List ao} (hz : Zoo w0 w (l1 ++ cV ac cc zs :: r)) : bn 43 6 w0.heap.size w ac zs.length cc (bS zs) := by
 have h1 : Zoo w0 w (cV ac cc zs :: (l1 ++ r)) := hz.perm List.perm_middle
 exact bq (l1 := []) (jG h1)
theorem zj {os : List ao} {ac : Option Addr} {cc : Nat} {zs : List Ax} (hz : Zoo w0 w os) (hm : cV ac cc zs ∈ os) : bM w ac (zs.map Ax.x) := by
 obtain ⟨l1, l2, rfl⟩ := List.append_of_mem hm
 have h1 : Zoo w0 w (cV ac cc zs :: (l1 ++ l2)) := hz.perm List.perm_middle
 have h2 := jG h1
 have hrow := bq (l1 := []) h2
 intro hp
 rw [List.length_map] at hp
 obtain ⟨y0, hy0⟩ : ∃ y, zs[0]? = some y := ⟨_, List.getElem?_eq_getElem hp⟩
 obtain ⟨g, e, _⟩ := hrow.cell (iK (j := 0) hy0 (by omega) rfl)
 refine ⟨g, 0, e, fun i x hx => ?_⟩
 rw [List.getElem?_map] at hx
 cases hz2 : zs[i]? with
 | none => rw [hz2] at hx; cases hx
 | some y =>
   rw [hz2] at hx
   simp only [Option.map_some, Option.some.injEq] at hx
   subst hx
   have key : ∀ {j : Nat} {v : Value}, j < 6 → (axc y)[j]? = some v → w.cell? ⟨g, 0 + i * 6 + j, none⟩ = some v := fun {j v} hj hv => by
    obtain ⟨g', e', hc⟩ := hrow.cell (iK hz2 hj hv)
    rw [e] at e'
    simp only [Option.some.injEq, Addr.mk.injEq, and_true] at e'
    rw [Nat.zero_add, e']
    exact hc
   have hm2 : axT y ∈ KwT 43 6 ac zs.length cc (bS zs) :: (zs.map axT ++ (l1 ++ l2)) := List.mem_cons_of_mem _ (List.mem_append_left _ (List.mem_map_of_mem (List.mem_of_getElem? hz2)))
   obtain ⟨k1, k2, ek⟩ := List.append_of_mem hm2
   have h3 : Zoo w0 w (k1 ++ axT y :: k2) := by rw [← ek]; exact h2
   exact ⟨by simpa using key (j := 0) (by omega) rfl, key (j := 1) (by omega) rfl, key (j := 2) (by omega) rfl, key (j := 3) (by omega) rfl, key (j := 4) (by omega) rfl, y.a, y.c, key (j := 5) (by omega) rfl, iV (bq h3)⟩
end
end
section
open Go.RowKit
attribute [local go_sem ↓] Go.wp_at_zero Go.wp_at_succ
theorem wE : fY (fun _ => none) [] bk0 := ⟨fun _ => rfl, fun _ _ h => (by cases h), rfl, fun _ h => by simp at h⟩
theorem yX {w0 w : World} {r : List ao} (hz : Zoo w0 w r) : Calls Tryz.prog 19 #[] w fun e w' => ∃ bb, e = .returned (.pointer (some ⟨bb, 0, none⟩)) ∧ Hid (Zoo w0 w' (BkT bb bk0 :: r)) := by
 have h1 := co (co (co (co (co hz))))
 have h2 := (du 36 4 h1).box (bkc (fun _ => none) none 0 0) 111
 have HZ := ag (bw (b := bk0) (st := fun _ => none) (a := none) (c := 0) (ys := []) wE h2)
 clear h1 h2 hz
 go_enter Tryz.func19, Tryz.ntmps19
 go_wp2_with fail
 go_ret
 exact ⟨w.heap.size, rfl, ae HZ⟩
section
variable {w0 w : World} {bb : Nat} {b : Bk} {st : Nat → Option Ob} {a : Option Addr} {c : Nat} {ys : List Dy} {r : List ao}
def bst (st : Nat → Option Ob) (s : Int) : Option Ob := if 0 ≤ s ∧ s < 5 then st s.toNat else none
theorem dh (s : Int) (hz : aX w0 w bb st a c ys r) : Calls Tryz.prog 71 #[.pointer (some ⟨bb, 0, none⟩), .int .i64 s] w fun e w' => e = .returned (bp (bst st s)) ∧ w' = w := by
 by_cases hs : 0 ≤ s ∧ s < 5
 ·obtain ⟨j, rfl, hj⟩ := dN hs
  have hsb : bE (j : Int) = true := decide_eq_true hs
  have i0 : (0 : Int) ≤ (j : Int) := by omega
  have i5 : (j : Int) < 5 := by omega
  have c1 := hz.cs_ hj
  have e1 : bst st (j : Int) = st j := by unfold bst; rw [if_pos hs, Int.toNat_natCast]
  rw [e1]
  clear hz e1
  generalize bp (st j) = p at *
  go_enter Tryz.func71, Tryz.ntmps71
  go_wp2_with fail
  refine (dI (j : Int) _).mono ?_
  rintro e w' ⟨rfl, hw'⟩
  subst w'
  rw [hsb]
  go_wp2_with fail
  go_ret
  exact ⟨rfl, rfl⟩
 ·have hsb : bE s = false := decide_eq_false hs
  have e1 : bst st s = none := by unfold bst; rw [if_neg hs]
  rw [e1]
  clear hz e1
  go_enter Tryz.func71, Tryz.ntmps71
  go_wp2_with fail
  refine (dI s _).mono ?_
  rintro e w' ⟨rfl, hw'⟩
  subst w'
  rw [hsb]
  go_wp2_with fail
  go_ret
  exact ⟨rfl, rfl⟩
theorem aX.new (hz : aX w0 w bb st a c ys r) (cs : Array Value) (T : TypeId) : aX w0 (w.alloc (.cells cs T)) bb st a c ys (au w.heap.size cs T :: r) := by
 have h1 := Zoo.box hz cs T
 exact h1.perm (List.perm_middle (l₁ := bth bb st a c ys)).symm
theorem aX.two (hz : aX w0 w bb st a c ys r) (cs : Array Value) (T : TypeId) (c2 : Array Value) (T2 : TypeId) : aX w0 ((w.alloc (.cells cs T)).alloc (.cells c2 T2)) bb st a c ys (au (w.heap.size + 1) c2 T2 :: au w.heap.size cs T :: r) := by
 have h1 := (hz.new cs T).new c2 T2
 rw [show (w.alloc (.cells cs T)).heap.size = w.heap.size + 1 by simp] at h1
 exact h1
theorem aX.var {p : Nat} {cs : Array Value} {T : TypeId} (hz : aX w0 w bb st a c ys r) (hm : au p cs T ∈ r) : w.heap[p]? = some (.cells cs T (0, 0)) := ai hz (List.mem_append_right _ hm)
theorem aX.tail {o : ao} (hz : aX w0 w bb st a c ys (o :: r)) : aX w0 w bb st a c ys r := Zoo.drop_ (l1 := bth bb st a c ys) hz
theorem aX.setAt {l1 l2 : List ao} {p : Nat} {cs : Array Value} {T : TypeId} (hz : aX w0 w bb st a c ys (l1 ++ au p cs T :: l2)) (i : Nat) (v : Value) : aX w0 (w.setCell ⟨p, i, none⟩ v) bb st a c ys (l1 ++ au p (cs.setIfInBounds i v) T :: l2) := by
 have hz' : Zoo w0 w ((bth bb st a c ys ++ l1) ++ au p cs T :: l2) := by
  have := hz
  unfold aX at this
  rw [← List.append_assoc] at this
  exact this
 obtain ⟨F, ⟨hbx, h2, h3⟩, k2⟩ := hz'.at_
 have := k2 (au p (cs.setIfInBounds i v) T) (w.setCell ⟨p, i, none⟩ v) ⟨F, ⟨an _ _ hbx, h2, h3⟩, by rw [h2]; exact (Kp.refl [p] w).setCell (.inl (by simp)) _, fun x hx => .inl hx⟩
 unfold aX
 rw [← List.append_assoc]
 exact this
theorem aX.leaveAll {w' : World} (hz : aX w0 w bb st a c ys r) (hb' : w'.heap[bb]? = some (.cells (bkc (fun _ => none) a ys.length c) 111 (0, 0))) (hk : Kp [bb] w w') : aX w0 w' bb (fun _ => none) a c ys r := by
 have h1 : Zoo w0 w ((au bb (bkc st a ys.length c) 111 :: KwT 36 4 a ys.length c (aP (ys.map Dy.x)) :: ys.map dyT) ++ (gj st ++ r)) := by
  have := hz
  unfold aX bth at this
  simpa [List.append_assoc] using this
 have h2 : Zoo w0 w (gj st ++ ((au bb (bkc st a ys.length c) 111 :: KwT 36 4 a ys.length c (aP (ys.map Dy.x)) :: ys.map dyT) ++ r)) := by
  refine h1.perm ?_
  rw [← List.append_assoc, ← List.append_assoc]
  exact List.Perm.append_right r List.perm_append_comm
 have h3 := (bR h2).tail
 obtain ⟨F, ⟨hbx, e2, e3⟩, k2⟩ := bi h3
 have h4 : Zoo w0 w' (au bb (bkc (fun _ => none) a ys.length c) 111 :: ((KwT 36 4 a ys.length c (aP (ys.map Dy.x)) :: ys.map dyT) ++ r)) := k2 _ _ ⟨F, ⟨hb', e2, e3⟩, by rw [e2]; exact hk, fun x hx => .inl hx⟩
 have h5 := co (co (co (co (co h4))))
 have h6 : Zoo w0 w' (gj (fun _ => none) ++ ((au bb (bkc (fun _ => none) a ys.length c) 111 :: KwT 36 4 a ys.length c (aP (ys.map Dy.x)) :: ys.map dyT) ++ r)) := h5
 unfold aX bth
 refine h6.perm ?_
 rw [← List.append_assoc]
 refine List.Perm.append_right r ?_
 exact List.perm_append_comm
theorem fA (hz : aX w0 w bb st a c ys r) : Calls Tryz.prog 45 #[.pointer (some ⟨bb, 0, none⟩)] w fun e w' => e = .returned (.tuple #[]) ∧ Hid (aX w0 w' bb (fun _ => none) a c ys r) := by
 have hbx := hz.box
 have c1 := hz.cs_ (s := 0) (by omega)
 have c2 := hz.cs_ (s := 1) (by omega)
 have c3 := hz.cs_ (s := 2) (by omega)
 have c4 := hz.cs_ (s := 3) (by omega)
 have c5 := hz.cs_ (s := 4) (by omega)
 have f1 := hz.fz 0
 have f2 := hz.fz 1
 have f3 := hz.fz 2
 have f4 := hz.fz 3
 have f5 := hz.fz 4
 have HZ := ag hz
 clear hz
 go_enter Tryz.func45, Tryz.ntmps45
 go_wp2_with fail
 go_end0
 refine ⟨rfl, (ae HZ).leaveAll ?_ ?_⟩
 ·rw [an _ _ (an _ _ (an _ _ (an _ _ (an _ _ hbx))))]
  rfl
 ·exact (((((Kp.refl [bb] w).setCell (.inl (by simp)) _).setCell (.inl (by simp)) _).setCell (.inl (by simp)) _).setCell (.inl (by simp)) _).setCell (.inl (by simp)) _
theorem fY.leave (h : fY st ys b) : fY (fun _ => none) ys ⟨fun _ => none, b.dn⟩ := ⟨fun _ => rfl, fun _ _ h => (by cases h), h.dn, h.da⟩
theorem fY.sit (h : fY st ys b) (s : Nat) (d : Option Ob) (hd : ∀ o, d = some o → o.d.acts = o.ys.map Ax.x) : fY (upd st s d) ys ⟨upd b.op s (d.map Ob.d), b.dn⟩ := by
 refine ⟨fun k => ?_, fun k o ho => ?_, h.dn, h.da⟩
 ·show (upd st s d k).map Ob.d = upd b.op s (d.map Ob.d) k
  unfold upd
  split
  ·rfl
  ·exact h.op k
 ·unfold upd at ho
  split at ho
  ·exact hd o ho
  ·exact h.oa k o ho
end
def Aj (l : List Ver) (w : World) (e : Ending) (w' : World) : Prop := ∃ a c, e = .returned (.slice a l.length c) ∧ bn 98 3 w.heap.size w' a l.length c (aw l) ∧ Kp [] w w'
theorem uM {w : World} {a : Option Addr} {l : List Ver} {c : Nat} (h : SlO w a l) : Src Tryz.prog 3 41 (.slice a l.length c) l.length (aw l) w := by
 by_cases hp : 0 < l.length
 ·obtain ⟨g, o, rfl, hs⟩ := h hp
  refine Src.ofSlice w Tryz.underlying41 ⟨g, o, none⟩ l.length c (aw l) (by rw [bj]) (fun j u hj => ?_) (eP l)
  rw [ca]
  exact hs j u hj
 ·have e : l = [] := List.eq_nil_of_length_eq_zero (by omega)
  subst e
  cases a with
  | none => exact Src.ofNil w Tryz.underlying41 c
  | some ad => exact Src.ofSlice w Tryz.underlying41 ad 0 c [] (by simp) (by simp) (by simp)
theorem mM (a : Option Addr) (c : Nat) (l : List Ver) (w : World) (h : SlO w a l) (hm : l.length ≤ 1000) :
 Calls Tryz.prog 53 #[.slice a l.length c] w fun e w' => Aj l w e w' := by
 have hu := Tryz.underlying41
 have HS := ag (uM (c := c) h)
 clear h
 obtain ⟨n, hn⟩ : ∃ n, l.length = n := ⟨_, rfl⟩
 have HN := ag hn
 rw [hn] at hm HS ⊢
 clear hn
 go_enter Tryz.func53, Tryz.ntmps53
 go_wp2_with (at_builtin; refine bC (by rfl) (.const (.slice none 0 0)) (.tmp 3) 41 (by rfl) hu Tryz.info98 rfl (by omega) (mr 98 3 w.heap.size w) (Nat.le_refl _) (.slice a n c) (aw l) n (by rfl) (by rfl) (ae HS) (by omega) n (by omega) ?_; intro a2 cap2 w2 g1 g2 g3)
 go_ret
 refine ⟨a2, cap2, by rw [ae HN]; rfl, ?_, ae g2⟩
 rw [ae HN]
 exact ae g1
theorem jp (x : ax) (v : Ev) (la : Option Addr) (lc : Nat) (w : World) :
 Calls Tryz.prog 72 #[.agg (xcs x), .agg (ecl v la lc)] w fun e w' => e = .returned (.bool (isd x v)) ∧ Kp [] w w' := by
 have hk : Kp [] w ((w.alloc (.cells (xcs x) 55)).alloc (.cells (ecl v la lc) 74)) := ((Kp.refl [] w).alloc _).alloc _
 obtain ⟨xd, xs, xm, xa, xk, xt, xp, xb⟩ := x
 obtain ⟨vc, vn, vt, vs, vl⟩ := v
 unfold isd
 dsimp only [xcs, ecl] at *
 generalize vl.length = n at *
 by_cases h6 : xd = 6
 ·subst h6
  rw [if_pos rfl]
  go_enter Tryz.func72, Tryz.ntmps72
  go_wp2_with fail
  go_ret
  exact ⟨by simp [Bool.beq_eq_decide_eq], hk⟩
 ·rw [if_neg h6]
  by_cases h10 : xd = 10
  ·subst h10
   rw [if_pos rfl]
   go_enter Tryz.func72, Tryz.ntmps72
   go_wp2_with fail
   go_ret
   exact ⟨by simp; rfl, hk⟩
  ·rw [if_neg h10]
   go_enter Tryz.func72, Tryz.ntmps72
   go_wp2_with fail
   go_ret
   exact ⟨rfl, hk⟩
def hs0 : HSt := ⟨fun _ => [dv], 0, [], fun _ => none⟩
end
section
open Go.RowKit
section
variable {w0 w W w2 : World} {V : ao} {r : List ao} {a : Option Addr} {cap : Nat} {us : List (Nat → Ver)}
end
theorem ge {ops : Array Oper} {S : World → Prop} {op : Oper} {a : Act} (hw : Region.wanted op (yielded ops a.tmps) = true) (x : Operand) (ho : op.op = .load 48 x) (b o : Nat) (hx : a.eval x = .pointer (some ⟨b, o, none⟩)) (u : Nat → Ver) (hS : ∀ w, S w → w.rangeAt b o (ay u).toList) : YieldsIf Tryz.prog ops S op (.agg (ay u)) a := by
 have h := yieldsIf_load_mid (P := Tryz.prog) hw 48 x ho b o hx (ay u).toList _ hS Tryz.underlying48 rfl Tryz.size48
 rw [Array.toArray_toList] at h
 exact h
end
section
open Go.RowKit
attribute [local go_sem ↓] Go.wp_at_zero Go.wp_at_succ
section
variable {w0 w : World} {hb vb tb gb : Nat} {h : HSt} {st : Nat → Sd} {r : List ao}
end
theorem th {f : Nat → List Ver} {n : Nat} {y : Int} {ws : List Ver} : ∀ (m k : Nat) (acc : List Ver) (rs : List Int), (dgo f n y ws k m acc rs).1.length ≤ acc.length + m := by
 intro m
 induction m with
 | zero => intro k acc rs; simp [dgo]
 | succ m ih =>
   intro k acc rs
   simp only [dgo]
   split
   ·split
    ·have := ih (k + 1) (acc ++ [⟨k, (dg f n y ws k).t, (dg f n y ws k).s⟩]) (dr f n y rs ws k)
     simp at this
     omega
    ·have := ih (k + 1) acc (dr f n y rs ws k)
     omega
   ·simp
theorem oU (h : HSt) (x : ax) : (hev h x).l.length ≤ 8 := by
 have hk := ko h x
 generalize hdo h x = h2 at *
 generalize hev h x = e at *
 cases hk with
 | list d c1 c2 c3 =>
   show (dls h.f h.n d.y d.ws d.rs x.key x.to_).1.length ≤ 8
   unfold dls
   split
   ·rename_i q
    simp only [aN, decide_eq_true_eq] at q
    have := th (f := h.f) (n := h.n) (y := d.y) (ws := d.ws) (x.to_ + 1 - x.key).toNat x.key.toNat [] d.rs
    simp at this
    omega
   ·simp
 | _ => simp [evc, evn, ev0]
theorem cH {w : World} {b o : Nat} {v : Value} (h : w.cell? ⟨b, o, none⟩ = some v) : b < w.heap.size := by
 rcases Nat.lt_or_ge b w.heap.size with q | q
 ·exact q
 ·have : w.heap[b]? = none := Array.getElem?_eq_none q
  simp [World.cell?, this] at h
section
variable {w0 w : World} {hb : Nat} {h : HSt} {os : List ao}
theorem nm {a : Option Addr} {cap : Nat} {l : List Ver} (hz : Zoo w0 w os) (hm : PsT a cap l ∈ os) : SlO w a l := by
 obtain ⟨F, h1, _⟩ := ku hz hm
 exact dE h1 rfl
end
section
variable {w0 w : World} {bb : Nat} {b : Bk} {st : Nat → Option Ob} {a : Option Addr} {c : Nat} {ys : List Dy} {r : List ao}
def ob0 (g : Nat) (at_ md : Int) : Ob := ⟨g, ⟨0, at_, md, []⟩, [], none, 0⟩
theorem aX.join (hz : aX w0 w bb st a c ys r) {s : Nat} (hs : s < 5) (at_ md : Int) :
 aX w0 ((w.alloc (.cells #[.int .i64 0, .int .i64 at_, .int .i64 md, .slice none 0 0] 36)).setCell ⟨bb, s, none⟩ (.pointer (some ⟨w.heap.size, 0, none⟩))) bb (upd st s (some (ob0 w.heap.size at_ md))) a c ys r := by
 obtain ⟨l1, l2, e2, hz1⟩ := hz.out hs
 have h1 := hz1.tail
 have h2 := du 43 6 h1
 have h3 : Zoo w0 w (cV none 0 [] :: _) := ic (zs := []) h2
 have h4 := h3.box (obc (ob0 w.heap.size at_ md)) 36
 have h5 := kg (o := ob0 w.heap.size at_ md) h4
 refine aX.back (d := some (ob0 w.heap.size at_ md)) e2 ?_
 change Zoo w0 (w.alloc (.cells #[.int .i64 0, .int .i64 at_, .int .i64 md, .slice none 0 0] 36)) _ at h5
 obtain ⟨F, ⟨hbx, q2, q3⟩, k2⟩ := bW h5
 refine k2 _ _ ⟨F, ⟨?_, q2, q3⟩, ?_, fun x hx => .inl hx⟩
 ·rw [an _ _ hbx]
  have := lF st a ys.length c hs (some (ob0 w.heap.size at_ md))
  rw [← this]
  rfl
 ·rw [q2]
  exact (Kp.refl [bb] _).setCell (.inl (by simp)) _
theorem tU (x : ax) (v : Ev) (la : Option Addr) (lc : Nat) (last : Int) (hx : x.d = 1) (hz : Zoo w0 w (BkT bb b :: r)) :
 Calls Tryz.prog 42 #[.pointer (some ⟨bb, 0, none⟩), .agg (xcs x), .agg (ecl v la lc), .int .i64 last] w fun e w' => e = .returned (.tuple #[]) ∧ Hid (Zoo w0 w' (BkT bb (aY b x v last) :: r)) := by
 obtain ⟨st, a, c, ys, hb5, hbk⟩ := gR hz
 have HB5 := ag hb5
 have HBK := ag (hbk.two (xcs x) 55 (ecl v la lc) 74)
 have HN := ag (show aY b x v last = if v.c = 0 ∧ 0 ≤ x.s ∧ x.s < 5 then ⟨upd b.op x.s.toNat (some ⟨0, if x.md = 3 then x.at_ else last, x.md, []⟩), b.dn⟩ else b by unfold aY; rw [if_pos hx])
 clear hz hb5 hbk
 obtain ⟨xd, xs, xm, xa, xk, xt, xp, xb⟩ := x
 obtain ⟨vc, vn, vt, vs, vl⟩ := v
 dsimp only [xcs, ecl] at *
 subst hx
 generalize vl.length = n at *
 by_cases hc : vc = 0
 ·subst hc
  by_cases hs : 0 ≤ xs ∧ xs < 5
  ·obtain ⟨j, rfl, hj⟩ := dN hs
   have hsb : bE (j : Int) = true := decide_eq_true hs
   have i0 : (0 : Int) ≤ (j : Int) := by omega
   have i5 : (j : Int) < 5 := by omega
   have fin : ∀ at_, (if xm = 3 then xa else last) = at_ → ∀ W {o1 o2 : ao}, aX w0 W bb st a c ys (o1 :: o2 :: r) → Zoo w0 ((W.alloc (.cells #[.int .i64 0, .int .i64 at_, .int .i64 xm, .slice none 0 0] 36)).setCell ⟨bb, j, none⟩ (.pointer (some ⟨W.heap.size, 0, none⟩))) (BkT bb (aY b ⟨1, j, xm, xa, xk, xt, xp, xb⟩ ⟨0, vn, vt, vs, vl⟩ last) :: r) := fun at_ hat W o1 o2 hW => by
    refine bw ?_ (hW.tail.tail.join hj at_ xm)
    have h1 := (ae HB5).sit j (some (ob0 W.heap.size at_ xm)) (fun o ho => by cases ho; rfl)
    rw [ae HN, if_pos ⟨rfl, hs⟩, hat]
    exact h1
   have HF := ag fin
   clear fin
   by_cases h3 : xm = 3
   ·skip
    subst h3
    go_enter Tryz.func42, Tryz.ntmps42
    go_wp2_with fail
    generalize (w.alloc (.cells #[.int .i64 1, .int .i64 (j : Int), .int .i64 3, .int .i64 xa, .int .i64 xk, .int .i64 xt, .int .i64 xp, .string xb] 55)).alloc (.cells #[.int .i64 0, .int .i64 vn, .bool vt, .string vs, .slice la n lc] 74) = W at HBK ⊢
    generalize w.heap.size + 1 = q6 at HBK ⊢
    generalize w.heap.size = q5 at HBK ⊢
    refine (dI (j : Int) _).mono ?_
    rintro e w' ⟨rfl, hw'⟩
    subst w'
    rw [hsb]
    have hx := (ae HBK).var (mt (mh))
    have hv := (ae HBK).var (mh)
    have x1 : W.cell? ⟨q5, 1, none⟩ = some (.int .i64 (j : Int)) := af hx rfl
    have x2 : W.cell? ⟨q5, 2, none⟩ = some (.int .i64 3) := af hx rfl
    have x3 : W.cell? ⟨q5, 3, none⟩ = some (.int .i64 xa) := af hx rfl
    clear hx hv
    have c1 := (ae HBK).cs_ hj
    have f1 := (ae HBK).fz j
    have hbl := (ae HBK).lt
    have hbn : bb ≠ W.heap.size := by omega
    have hq5 := cH x1
    have hq5n : q5 ≠ W.heap.size := by omega
    generalize hbp : bp (st j) = p1 at *
    clear hbp
    go_wp2_with fail
    go_region
    go_wp2_with fail
    go_end0
    refine ⟨rfl, ?_⟩
    have z := ae HF xa (by simp) W (ae HBK)
    rw [World.setCell_alloc_past _ bb j _ hbl] at z
    exact z.kp0 (Kp.refl [] _).drew
   ·skip
    skip
    go_enter Tryz.func42, Tryz.ntmps42
    go_wp2_with fail
    generalize (w.alloc (.cells #[.int .i64 1, .int .i64 (j : Int), .int .i64 xm, .int .i64 xa, .int .i64 xk, .int .i64 xt, .int .i64 xp, .string xb] 55)).alloc (.cells #[.int .i64 0, .int .i64 vn, .bool vt, .string vs, .slice la n lc] 74) = W at HBK ⊢
    generalize w.heap.size + 1 = q6 at HBK ⊢
    generalize w.heap.size = q5 at HBK ⊢
    refine (dI (j : Int) _).mono ?_
    rintro e w' ⟨rfl, hw'⟩
    subst w'
    rw [hsb]
    have hx := (ae HBK).var (mt (mh))
    have hv := (ae HBK).var (mh)
    have x1 : W.cell? ⟨q5, 1, none⟩ = some (.int .i64 (j : Int)) := af hx rfl
    have x2 : W.cell? ⟨q5, 2, none⟩ = some (.int .i64 xm) := af hx rfl
    have x3 : W.cell? ⟨q5, 3, none⟩ = some (.int .i64 xa) := af hx rfl
    clear hx hv
    have c1 := (ae HBK).cs_ hj
    have f1 := (ae HBK).fz j
    have hbl := (ae HBK).lt
    have hbn : bb ≠ W.heap.size := by omega
    have hq5 := cH x1
    have hq5n : q5 ≠ W.heap.size := by omega
    generalize hbp : bp (st j) = p1 at *
    clear hbp
    go_wp2_with fail
    go_region
    go_wp2_with fail
    go_end0
    refine ⟨rfl, ?_⟩
    have z := ae HF last (by simp [h3]) W (ae HBK)
    rw [World.setCell_alloc_past _ bb j _ hbl] at z
    exact z.kp0 (Kp.refl [] _).drew
  ·have hsb : bE xs = false := decide_eq_false hs
   have hbn : aY b ⟨1, xs, xm, xa, xk, xt, xp, xb⟩ ⟨0, vn, vt, vs, vl⟩ last = b := by rw [ae HN, if_neg (fun q => hs q.2)]
   rw [hbn]
   have HB := ag (fun W {o1 o2 : ao} (h : aX w0 W bb st a c ys (o1 :: o2 :: r)) => bw (ae HB5) h.tail.tail)
   clear hbn
   go_enter Tryz.func42, Tryz.ntmps42
   go_wp2_with fail
   refine (dI xs _).mono ?_
   rintro e w' ⟨rfl, hw'⟩
   subst w'
   rw [hsb]
   go_wp2_with fail
   refine bodyPost_ret (v := .tuple #[]) (by simp [results, Tryz.results42, go_sem]) rfl ?_
   exact ⟨rfl, ae HB _ (ae HBK)⟩
 ·have hbn : aY b ⟨1, xs, xm, xa, xk, xt, xp, xb⟩ ⟨vc, vn, vt, vs, vl⟩ last = b := by rw [ae HN, if_neg (fun q => hc q.1)]
  rw [hbn]
  have HB := ag (fun W {o1 o2 : ao} (h : aX w0 W bb st a c ys (o1 :: o2 :: r)) => bw (ae HB5) h.tail.tail)
  clear hbn
  go_enter Tryz.func42, Tryz.ntmps42
  go_wp2_with fail
  refine bodyPost_ret (v := .tuple #[]) (by simp [results, Tryz.results42, go_sem]) rfl ?_
  exact ⟨rfl, ae HB _ (ae HBK)⟩
end
theorem bd {ops : Array Oper} {o : Oper} {ac : Act} {w : World} {K : Act → World → Prop} {Q : Exit → Act → World → Prop} {E : Prop} (hw : Region.wanted o (yielded ops ac.tmps) = true) (s x : Operand) (t : TypeId)
 (ho : o.op = .call { callee := .builtin .append, args := #[s, x], argTypes := #[t, t] }) {e : TypeId} {k by_ : Nat} {z : Value} (hu : Tryz.prog.underlying t = some (.slice e)) (hi : (Tryz.prog.info? e).map (fun i => (i.zero, i.size, i.bytes)) = some (some z, k, by_)) (hz : z.cells.size = k) (hby : by_ ≤ 1000)
 {B : Nat} {a : Option Addr} {n cap : Nat} {xs : List Value} (h : bn e k B w a n cap xs) (hB : B ≤ w.heap.size) (xv : Value) (news : List Value) (m : Nat)
 (hs : ac.eval s = .slice a n cap) (hx : ac.eval x = xv) (hsrc : Src Tryz.prog k t xv m news w) (hm : n + m ≤ 100000) (N : Nat) (hN : n + m = N)
 (kk : ∀ a' cap' w', Hid (bn e k B w' a' N cap' (xs ++ news)) → Hid (Kp (ob a) w w') → Hid (∀ x ∈ ob a', x ∈ ob a ∨ w.heap.size ≤ x) → K (ac.put o.dst (.slice a' N cap')) w') :
 if Region.wanted o (yielded ops ac.tmps) = true then Oper.wp Tryz.prog o ac w K Q else E := by
 subst hN
 obtain ⟨a', cap', w', hr, h1, h2, h3⟩ := ms hu hi hz hby h hB o.type xv news m hsrc hm
 rw [if_pos hw]
 unfold Oper.wp execOp
 simp only [ho, resolve, invoke, builtin, Sem.run_bind, Sem.run_pure, Result.andThen_ok, List.map_toArray, List.map_cons, List.map_nil, hs, hx, hr]
 exact kk a' cap' w' h1 h2 h3
section
variable {w0 w W w' : World} {bb : Nat} {b : Bk} {st : Nat → Option Ob} {a : Option Addr} {c : Nat} {ys : List Dy} {r : List ao}
theorem aX.put {o A : ao} (h : Zoo w0 w (o :: (bth bb st a c ys ++ (A :: r)))) : aX w0 w bb st a c ys (A :: o :: r) := by
 have p1 := (List.perm_middle (l₁ := bth bb st a c ys ++ [A]) (a := o) (l₂ := r)).symm
 simp only [List.append_assoc, List.cons_append, List.nil_append] at p1
 exact h.perm p1
theorem aX.nil {A : ao} (h : aX w0 w bb st a c ys (A :: r)) : aX w0 w bb st a c ys (A :: KwT 98 3 none 0 0 [] :: r) := aX.put (du 98 3 h)
theorem aX.cons {A o : ao} {F : List Nat} {w' : World} (h : aX w0 w bb st a c ys (A :: r)) (ho : o.holds w.heap.size w' F) (hk : Kp [] w w') : aX w0 w' bb st a c ys (A :: o :: r) := aX.put (Zoo.cons h ho hk)
structure Gon (w0 W : World) (bb : Nat) (st : Nat → Option Ob) (a : Option Addr) (c : Nat) (ys : List Dy) (r : List ao) (j : Nat) (o : Ob) (y : Ax) (q : Nat) (l1 l2 : List ao) : Prop where
 e2 : ∀ d, gj (upd st j d) = l1 ++ cu d :: l2
 zoo : Zoo w0 W (axT y :: cV o.a o.c o.ys :: au o.b (obc o) 36 :: au q (axc y).toArray 43 :: au bb (bkc st a ys.length c) 111 :: KwT 36 4 a ys.length c (aP (ys.map Dy.x)) :: (ys.map dyT ++ (l1 ++ (l2 ++ r))))
theorem Gon.mk_ {q : Nat} {y : Ax} (hz : aX w0 W bb st a c ys (au q (axc y).toArray 43 :: axT y :: r)) {j : Nat} (hj : j < 5) {o : Ob} (ho : st j = some o) : ∃ l1 l2, Gon w0 W bb st a c ys r j o y q l1 l2 := by
 obtain ⟨l1, l2, e2, h1⟩ := hz.out hj
 rw [ho] at h1
 have h2 := jj h1
 refine ⟨l1, l2, e2, ?_⟩
 have p : (au o.b (obc o) 36 :: cV o.a o.c o.ys :: au bb (bkc st a ys.length c) 111 :: KwT 36 4 a ys.length c (aP (ys.map Dy.x)) :: (ys.map dyT ++ (l1 ++ (l2 ++ (au q (axc y).toArray 43 :: axT y :: r))))).Perm
  (axT y :: cV o.a o.c o.ys :: au o.b (obc o) 36 :: au q (axc y).toArray 43 :: au bb (bkc st a ys.length c) 111 :: KwT 36 4 a ys.length c (aP (ys.map Dy.x)) :: (ys.map dyT ++ (l1 ++ (l2 ++ r)))) := by
  have p1 := List.perm_middle (l₁ := au o.b (obc o) 36 :: cV o.a o.c o.ys :: au bb (bkc st a ys.length c) 111 :: KwT 36 4 a ys.length c (aP (ys.map Dy.x)) :: (ys.map dyT ++ (l1 ++ l2))) (a := au q (axc y).toArray 43) (l₂ := axT y :: r)
  have p2 := List.perm_middle (l₁ := au q (axc y).toArray 43 :: au o.b (obc o) 36 :: cV o.a o.c o.ys :: au bb (bkc st a ys.length c) 111 :: KwT 36 4 a ys.length c (aP (ys.map Dy.x)) :: (ys.map dyT ++ (l1 ++ l2))) (a := axT y) (l₂ := r)
  have p3 : (axT y :: au q (axc y).toArray 43 :: au o.b (obc o) 36 :: cV o.a o.c o.ys :: (au bb (bkc st a ys.length c) 111 :: KwT 36 4 a ys.length c (aP (ys.map Dy.x)) :: (ys.map dyT ++ (l1 ++ (l2 ++ r))))).Perm (axT y :: cV o.a o.c o.ys :: au o.b (obc o) 36 :: au q (axc y).toArray 43 :: (au bb (bkc st a ys.length c) 111 :: KwT 36 4 a ys.length c (aP (ys.map Dy.x)) :: (ys.map dyT ++ (l1 ++ (l2 ++ r))))) :=
   List.Perm.cons _ ((List.Perm.swap _ _ _).trans ((List.Perm.cons _ (List.Perm.swap _ _ _)).trans (List.Perm.swap _ _ _)))
  simp only [List.append_assoc, List.cons_append] at p1 p2
  exact (p1.trans p2).trans p3
 exact h2.perm p
theorem Gon.fin {j q : Nat} {o : Ob} {y : Ax} {l1 l2 : List ao} {a2 : Option Addr} {c2 : Nat} (h : Gon w0 W bb st a c ys r j o y q l1 l2) (hj : j < 5) (ho : st j = some o) {W2 : World} (hz : Zoo w0 W2 (cV a2 c2 (o.ys ++ [y]) :: au o.b (obc o) 36 :: au q (axc y).toArray 43 :: au bb (bkc st a ys.length c) 111 :: KwT 36 4 a ys.length c (aP (ys.map Dy.x)) :: (ys.map dyT ++ (l1 ++ (l2 ++ r))))) :
 aX w0 (W2.setCell ⟨o.b, 3, none⟩ (.slice a2 (o.ys.length + 1) c2)) bb (upd st j (some ⟨o.b, ⟨o.d.n, o.d.at_, o.d.md, o.d.acts ++ [y.x]⟩, o.ys ++ [y], a2, c2⟩)) a c ys r := by
 obtain ⟨F, ⟨hbx, q2, q3⟩, k2⟩ := bW hz
 have h1 : Zoo w0 (W2.setCell ⟨o.b, 3, none⟩ (.slice a2 (o.ys.length + 1) c2)) (cV a2 c2 (o.ys ++ [y]) :: au o.b (obc ⟨o.b, ⟨o.d.n, o.d.at_, o.d.md, o.d.acts ++ [y.x]⟩, o.ys ++ [y], a2, c2⟩) 36 :: au q (axc y).toArray 43 :: au bb (bkc st a ys.length c) 111 :: KwT 36 4 a ys.length c (aP (ys.map Dy.x)) :: (ys.map dyT ++ (l1 ++ (l2 ++ r)))) := by
  refine k2 _ _ ⟨F, ⟨?_, q2, q3⟩, ?_, fun x hx => .inl hx⟩
  ·rw [an _ _ hbx]
   simp [obc]
  ·rw [q2]
   exact (Kp.refl [o.b] _).setCell (.inl (by simp)) _
 have h2 := kg (o := ⟨o.b, ⟨o.d.n, o.d.at_, o.d.md, o.d.acts ++ [y.x]⟩, o.ys ++ [y], a2, c2⟩) (bB h1)
 have h3 := aH h2
 refine aX.back (d := some ⟨o.b, ⟨o.d.n, o.d.at_, o.d.md, o.d.acts ++ [y.x]⟩, o.ys ++ [y], a2, c2⟩) h.e2 ?_
 have e1 : bkc (upd st j (some ⟨o.b, ⟨o.d.n, o.d.at_, o.d.md, o.d.acts ++ [y.x]⟩, o.ys ++ [y], a2, c2⟩)) a ys.length c = bkc st a ys.length c := by
  rcases (show j = 0 ∨ j = 1 ∨ j = 2 ∨ j = 3 ∨ j = 4 by omega) with e | e | e | e | e <;> subst e <;> simp [bkc, upd, ho, bp]
 rw [e1]
 exact h3
end
theorem wH {w0 w : World} {bb : Nat} {b : Bk} {r : List ao} (x : ax) (v : Ev) (la : Option Addr) (lc : Nat) (last : Int) (hx : 2 ≤ x.d ∧ x.d ≤ 5) (hls : SlO w la v.l) (hll : v.l.length ≤ 1000) (hb : ∀ s o, b.op s = some o → o.acts.length ≤ 1000) (hz : Zoo w0 w (BkT bb b :: r)) :
 Calls Tryz.prog 43 #[.pointer (some ⟨bb, 0, none⟩), .agg (xcs x), .agg (ecl v la lc)] w fun e w' => e = .returned (.tuple #[]) ∧ Hid (Zoo w0 w' (BkT bb (aY b x v last) :: r)) := by
 have hu := Tryz.underlying26
 obtain ⟨st, a, c, ys, hb5, hbk⟩ := gR hz
 have HB5 := ag hb5
 have HBK := ag (hbk.two (xcs x) 55 (ecl v la lc) 74)
 have HLS := ag (hls.kp0 (((Kp.refl [] w).alloc (.cells (xcs x) 55)).alloc (.cells (ecl v la lc) 74)))
 have hop : fB b x.s = (bst st x.s).map Ob.d := by
  unfold fB bst
  split
  ·exact (hb5.op _).symm
  ·rfl
 have HN0 := ag (show aY b x v last = match fB b x.s with | none => b | some d => if v.c = 0 then ⟨upd b.op x.s.toNat (some { d with acts := d.acts ++ [eU x v] }), b.dn⟩ else b by unfold aY; rw [if_neg (by omega), if_pos hx]; rfl)
 rw [hop] at HN0
 have hbop := hb5.op
 have hoa := hb5.oa
 clear hz hb5 hbk hls hop
 obtain ⟨xd, xs, xm, xa, xk, xt, xp, xb⟩ := x
 obtain ⟨vc, vn, vt, vs, vl⟩ := v
 dsimp only [xcs, ecl] at *
 obtain ⟨ln, hln⟩ : ∃ ln, vl.length = ln := ⟨_, rfl⟩
 rw [hln] at HBK HLS ⊢
 have HLL := ag hln
 clear hln
 cases hbst : bst st xs with
 | none =>
   have hbn : aY b ⟨xd, xs, xm, xa, xk, xt, xp, xb⟩ ⟨vc, vn, vt, vs, vl⟩ last = b := by rw [ae HN0, hbst]; rfl
   rw [hbn]
   have HB := ag (fun W {o1 o2 : ao} (h : aX w0 W bb st a c ys (o1 :: o2 :: r)) => bw (ae HB5) h.tail.tail)
   clear hbn hbop hoa
   go_enter Tryz.func43, Tryz.ntmps43
   go_wp2_with fail
   refine (dh xs (ae HBK)).mono ?_
   rintro e w' ⟨rfl, hw'⟩
   subst w'
   rw [hbst]
   dsimp only [bp, Option.map_none]
   go_wp2_with fail
   refine bodyPost_ret (v := .tuple #[]) (by simp [results, Tryz.results43, go_sem]) rfl ?_
   exact ⟨rfl, ae HB _ (ae HBK)⟩
 | some o =>
   rw [hbst] at HN0
   dsimp only [Option.map_some] at HN0
   by_cases hc : vc = 0
   ·subst hc
    have hs : 0 ≤ xs ∧ xs < 5 := by
     unfold bst at hbst
     split at hbst
     ·assumption
     ·cases hbst
    obtain ⟨j, hjx, hj⟩ := dN hs
    have hjs : xs.toNat = j := by omega
    have hst : st j = some o := by unfold bst at hbst; rw [if_pos hs, hjs] at hbst; exact hbst
    have hlen : o.ys.length ≤ 1000 := by
     have h1 := hbop j
     rw [hst] at h1
     have h2 := hb j _ h1.symm
     rw [hoa j o hst, List.length_map] at h2
     exact h2
    clear hbop hoa hb hs hjx
    by_cases hk2 : xd = 2
    ·skip
     subst hk2
     have HBN := ag (show aY b ⟨2, xs, xm, xa, xk, xt, xp, xb⟩ ⟨0, vn, vt, vs, vl⟩ last = ⟨upd b.op j (some ⟨o.d.n, o.d.at_, o.d.md, o.d.acts ++ [⟨2, xk, 0, vt, vs, []⟩]⟩), b.dn⟩ by rw [ae HN0, if_pos rfl, hjs]; rfl)
     go_enter Tryz.func43, Tryz.ntmps43
     go_wp2_with fail
     generalize (w.alloc (.cells #[.int .i64 2, .int .i64 xs, .int .i64 xm, .int .i64 xa, .int .i64 xk, .int .i64 xt, .int .i64 xp, .string xb] 55)).alloc (.cells #[.int .i64 0, .int .i64 vn, .bool vt, .string vs, .slice la ln lc] 74) = W at HBK HLS ⊢
     generalize w.heap.size + 1 = q5 at HBK ⊢
     generalize w.heap.size = q4 at HBK ⊢
     refine (dh xs (ae HBK)).mono ?_
     rintro e w' ⟨rfl, hw'⟩
     subst w'
     rw [hbst]
     dsimp only [bp, Option.map_some]
     have hx := (ae HBK).var (mt (mh))
     have hv := (ae HBK).var (mh)
     have x0 : W.cell? ⟨q4, 0, none⟩ = some (.int .i64 2) := af hx rfl
     have x1 : W.cell? ⟨q4, 1, none⟩ = some (.int .i64 xs) := af hx rfl
     have x4 : W.cell? ⟨q4, 4, none⟩ = some (.int .i64 xk) := af hx rfl
     have x5 : W.cell? ⟨q4, 5, none⟩ = some (.int .i64 xt) := af hx rfl
     have x7 : W.cell? ⟨q4, 7, none⟩ = some (.string xb) := af hx rfl
     have v0 : W.cell? ⟨q5, 0, none⟩ = some (.int .i64 0) := af hv rfl
     have v2 : W.cell? ⟨q5, 2, none⟩ = some (.bool vt) := af hv rfl
     have v3 : W.cell? ⟨q5, 3, none⟩ = some (.string vs) := af hv rfl
     have v4 : W.cell? ⟨q5, 4, none⟩ = some (.slice la ln lc) := af hv rfl
     have hq4 := ah hx
     have hq5 := ah hv
     have n4 : q4 ≠ W.heap.size := by omega
     have n5 : q5 ≠ W.heap.size := by omega
     clear hx hv
     have HB1 := ag ((ae HBK).new #[.int .i64 2, .int .i64 xk, .int .i64 0, .bool vt, .string vs, .slice none 0 0] 43).nil
     go_wp2_with fail
     generalize W.alloc (.cells #[.int .i64 2, .int .i64 xk, .int .i64 0, .bool vt, .string vs, .slice none 0 0] 43) = W1 at HB1 ⊢
     generalize W.heap.size = q7 at HB1 ⊢
     clear n4 n5 hq4 hq5 x0 x1 x4 x5 x7 v0 v2 v3 v4 HLS
     obtain ⟨l1, l2, hg⟩ := Gon.mk_ (y := ⟨⟨2, xk, 0, vt, vs, []⟩, none, 0⟩) (ae HB1) hj hst
     have HG := ag hg
     have hrow := fU (l1 := [axT ⟨⟨2, xk, 0, vt, vs, []⟩, none, 0⟩]) hg.zoo
     have HROW := ag hrow
     have hobx := ai hg.zoo (mt (mt (mh)))
     have hq7 := ai hg.zoo (mt (mt (mt (mh))))
     have o3 : W1.cell? ⟨o.b, 3, none⟩ = some (.slice o.a o.ys.length o.c) := af hobx rfl
     have fo3 := ak 3 hobx
     have hol := ah hobx
     have hq7l := ah hq7
     have hBw := Zoo.base hg.zoo
     have ya0 : W1.cell? ⟨q7, 0, none⟩ = some (.int .i64 2) := af hq7 rfl
     have ya1 : W1.cell? ⟨q7, 1, none⟩ = some (.int .i64 xk) := af hq7 rfl
     have ya2 : W1.cell? ⟨q7, 2, none⟩ = some (.int .i64 0) := af hq7 rfl
     have ya3 : W1.cell? ⟨q7, 3, none⟩ = some (.bool vt) := af hq7 rfl
     have ya4 : W1.cell? ⟨q7, 4, none⟩ = some (.string vs) := af hq7 rfl
     have ya5 : W1.cell? ⟨q7, 5, none⟩ = some (.slice none 0 0) := af hq7 rfl
     clear hg hrow hobx hq7 HB1 HBK
     obtain ⟨n, hn⟩ : ∃ n, o.ys.length = n := ⟨_, rfl⟩
     rw [hn] at o3
     have HROW2 : Hid (bn 43 6 w0.heap.size W1 o.a n o.c (bS o.ys)) := by rw [← hn]; exact ae HROW
     have HN := ag hn
     have hn1000 : n ≤ 1000 := by rw [← hn]; exact hlen
     clear hn HROW hlen
     have far := fun (W2 : World) (a2 : Option Addr) (c2 : Nat) (g1 : Hid (bn 43 6 w0.heap.size W2 a2 (n + 1) c2 (bS o.ys ++ [.int .i64 2, .int .i64 xk, .int .i64 0, .bool vt, .string vs, .slice none 0 0]))) (g2 : Hid (Kp (ob o.a) (W1.alloc (.cells #[.int .i64 2, .int .i64 xk, .int .i64 0, .bool vt, .string vs, .slice none 0 0] 43)).drew W2)) (g3 : Hid (∀ x ∈ ob a2, x ∈ ob o.a ∨ (W1.alloc (.cells #[.int .i64 2, .int .i64 xk, .int .i64 0, .bool vt, .string vs, .slice none 0 0] 43)).drew.heap.size ≤ x)) => fC (y := ⟨⟨2, xk, 0, vt, vs, []⟩, none, 0⟩) (ac := o.a) (cc := o.c) (zs := o.ys) (((ae HG).zoo).kp0 (((Kp.refl [] W1).alloc (.cells #[.int .i64 2, .int .i64 xk, .int .i64 0, .bool vt, .string vs, .slice none 0 0] 43)).drew)) (by rw [ae HN]; exact ae g1) (ae g2) (ae g3)
     have FAR := ag far
     clear far
     go_wp2_with fail
     go_region_law (refine bd (by rfl) (.tmp 50) (.tmp 52) 26 (by rfl) hu Tryz.info43 rfl (by omega) ((ae HROW2).kp0 (((Kp.refl [] W1).alloc _).drew)) (by simp; omega) (.slice (some ⟨W1.heap.size, 0, none⟩) 1 1) [.int .i64 2, .int .i64 xk, .int .i64 0, .bool vt, .string vs, .slice none 0 0] 1 (by rfl) (by rfl) (aQ (cs := #[.int .i64 2, .int .i64 xk, .int .i64 0, .bool vt, .string vs, .slice none 0 0]) (T := 43) (fr := (0, 0)) hu (heap_alloc_new W1 _) rfl (by simp [Value.oneCell'])) (by omega) (n + 1) rfl ?_; intro a2 c2 w2 g1 g2 g3; have HZ2 := ag (ae FAR w2 a2 c2 g1 g2 g3); have hob2 := ai (ae HZ2) (mt (mh)); have r0 : w2.cell? ⟨o.b, 3, none⟩ = some (.slice o.a o.ys.length o.c) := af hob2 rfl; have r1 := ak 3 hob2; clear g1 g2 g3 hob2)
     all_goals
      go_wp2_with fail
      go_end0
      refine ⟨rfl, ?_⟩
      have z := (ae HG).fin hj hst (ae HZ2)
      rw [ae HN] at z
      refine bw ?_ (z.tail.tail)
      have s1 := (ae HB5).sit j (some ⟨o.b, ⟨o.d.n, o.d.at_, o.d.md, o.d.acts ++ [⟨2, xk, 0, vt, vs, []⟩]⟩, o.ys ++ [⟨⟨2, xk, 0, vt, vs, []⟩, none, 0⟩], a2, c2⟩) (fun z hz => by cases hz; simp [(ae HB5).oa j o hst])
      rw [ae HBN]
      exact s1
    by_cases hk3 : xd = 3
    ·skip
     subst hk3
     have HBN := ag (show aY b ⟨3, xs, xm, xa, xk, xt, xp, xb⟩ ⟨0, vn, vt, vs, vl⟩ last = ⟨upd b.op j (some ⟨o.d.n, o.d.at_, o.d.md, o.d.acts ++ [⟨3, xk, 0, true, xb, []⟩]⟩), b.dn⟩ by rw [ae HN0, if_pos rfl, hjs]; rfl)
     go_enter Tryz.func43, Tryz.ntmps43
     go_wp2_with fail
     generalize (w.alloc (.cells #[.int .i64 3, .int .i64 xs, .int .i64 xm, .int .i64 xa, .int .i64 xk, .int .i64 xt, .int .i64 xp, .string xb] 55)).alloc (.cells #[.int .i64 0, .int .i64 vn, .bool vt, .string vs, .slice la ln lc] 74) = W at HBK HLS ⊢
     generalize w.heap.size + 1 = q5 at HBK ⊢
     generalize w.heap.size = q4 at HBK ⊢
     refine (dh xs (ae HBK)).mono ?_
     rintro e w' ⟨rfl, hw'⟩
     subst w'
     rw [hbst]
     dsimp only [bp, Option.map_some]
     have hx := (ae HBK).var (mt (mh))
     have hv := (ae HBK).var (mh)
     have x0 : W.cell? ⟨q4, 0, none⟩ = some (.int .i64 3) := af hx rfl
     have x1 : W.cell? ⟨q4, 1, none⟩ = some (.int .i64 xs) := af hx rfl
     have x4 : W.cell? ⟨q4, 4, none⟩ = some (.int .i64 xk) := af hx rfl
     have x5 : W.cell? ⟨q4, 5, none⟩ = some (.int .i64 xt) := af hx rfl
     have x7 : W.cell? ⟨q4, 7, none⟩ = some (.string xb) := af hx rfl
     have v0 : W.cell? ⟨q5, 0, none⟩ = some (.int .i64 0) := af hv rfl
     have v2 : W.cell? ⟨q5, 2, none⟩ = some (.bool vt) := af hv rfl
     have v3 : W.cell? ⟨q5, 3, none⟩ = some (.string vs) := af hv rfl
     have v4 : W.cell? ⟨q5, 4, none⟩ = some (.slice la ln lc) := af hv rfl
     have hq4 := ah hx
     have hq5 := ah hv
     have n4 : q4 ≠ W.heap.size := by omega
     have n5 : q5 ≠ W.heap.size := by omega
     clear hx hv
     have HB1 := ag ((ae HBK).new #[.int .i64 3, .int .i64 xk, .int .i64 0, .bool true, .string xb, .slice none 0 0] 43).nil
     go_wp2_with fail
     generalize W.alloc (.cells #[.int .i64 3, .int .i64 xk, .int .i64 0, .bool true, .string xb, .slice none 0 0] 43) = W1 at HB1 ⊢
     generalize W.heap.size = q7 at HB1 ⊢
     clear n4 n5 hq4 hq5 x0 x1 x4 x5 x7 v0 v2 v3 v4 HLS
     obtain ⟨l1, l2, hg⟩ := Gon.mk_ (y := ⟨⟨3, xk, 0, true, xb, []⟩, none, 0⟩) (ae HB1) hj hst
     have HG := ag hg
     have hrow := fU (l1 := [axT ⟨⟨3, xk, 0, true, xb, []⟩, none, 0⟩]) hg.zoo
     have HROW := ag hrow
     have hobx := ai hg.zoo (mt (mt (mh)))
     have hq7 := ai hg.zoo (mt (mt (mt (mh))))
     have o3 : W1.cell? ⟨o.b, 3, none⟩ = some (.slice o.a o.ys.length o.c) := af hobx rfl
     have fo3 := ak 3 hobx
     have hol := ah hobx
     have hq7l := ah hq7
     have hBw := Zoo.base hg.zoo
     have ya0 : W1.cell? ⟨q7, 0, none⟩ = some (.int .i64 3) := af hq7 rfl
     have ya1 : W1.cell? ⟨q7, 1, none⟩ = some (.int .i64 xk) := af hq7 rfl
     have ya2 : W1.cell? ⟨q7, 2, none⟩ = some (.int .i64 0) := af hq7 rfl
     have ya3 : W1.cell? ⟨q7, 3, none⟩ = some (.bool true) := af hq7 rfl
     have ya4 : W1.cell? ⟨q7, 4, none⟩ = some (.string xb) := af hq7 rfl
     have ya5 : W1.cell? ⟨q7, 5, none⟩ = some (.slice none 0 0) := af hq7 rfl
     clear hg hrow hobx hq7 HB1 HBK
     obtain ⟨n, hn⟩ : ∃ n, o.ys.length = n := ⟨_, rfl⟩
     rw [hn] at o3
     have HROW2 : Hid (bn 43 6 w0.heap.size W1 o.a n o.c (bS o.ys)) := by rw [← hn]; exact ae HROW
     have HN := ag hn
     have hn1000 : n ≤ 1000 := by rw [← hn]; exact hlen
     clear hn HROW hlen
     have far := fun (W2 : World) (a2 : Option Addr) (c2 : Nat) (g1 : Hid (bn 43 6 w0.heap.size W2 a2 (n + 1) c2 (bS o.ys ++ [.int .i64 3, .int .i64 xk, .int .i64 0, .bool true, .string xb, .slice none 0 0]))) (g2 : Hid (Kp (ob o.a) (W1.alloc (.cells #[.int .i64 3, .int .i64 xk, .int .i64 0, .bool true, .string xb, .slice none 0 0] 43)).drew W2)) (g3 : Hid (∀ x ∈ ob a2, x ∈ ob o.a ∨ (W1.alloc (.cells #[.int .i64 3, .int .i64 xk, .int .i64 0, .bool true, .string xb, .slice none 0 0] 43)).drew.heap.size ≤ x)) => fC (y := ⟨⟨3, xk, 0, true, xb, []⟩, none, 0⟩) (ac := o.a) (cc := o.c) (zs := o.ys) (((ae HG).zoo).kp0 (((Kp.refl [] W1).alloc (.cells #[.int .i64 3, .int .i64 xk, .int .i64 0, .bool true, .string xb, .slice none 0 0] 43)).drew)) (by rw [ae HN]; exact ae g1) (ae g2) (ae g3)
     have FAR := ag far
     clear far
     go_wp2_with fail
     go_region_law (refine bd (by rfl) (.tmp 50) (.tmp 52) 26 (by rfl) hu Tryz.info43 rfl (by omega) ((ae HROW2).kp0 (((Kp.refl [] W1).alloc _).drew)) (by simp; omega) (.slice (some ⟨W1.heap.size, 0, none⟩) 1 1) [.int .i64 3, .int .i64 xk, .int .i64 0, .bool true, .string xb, .slice none 0 0] 1 (by rfl) (by rfl) (aQ (cs := #[.int .i64 3, .int .i64 xk, .int .i64 0, .bool true, .string xb, .slice none 0 0]) (T := 43) (fr := (0, 0)) hu (heap_alloc_new W1 _) rfl (by simp [Value.oneCell'])) (by omega) (n + 1) rfl ?_; intro a2 c2 w2 g1 g2 g3; have HZ2 := ag (ae FAR w2 a2 c2 g1 g2 g3); have hob2 := ai (ae HZ2) (mt (mh)); have r0 : w2.cell? ⟨o.b, 3, none⟩ = some (.slice o.a o.ys.length o.c) := af hob2 rfl; have r1 := ak 3 hob2; clear g1 g2 g3 hob2)
     all_goals
      go_wp2_with fail
      go_end0
      refine ⟨rfl, ?_⟩
      have z := (ae HG).fin hj hst (ae HZ2)
      rw [ae HN] at z
      refine bw ?_ (z.tail.tail)
      have s1 := (ae HB5).sit j (some ⟨o.b, ⟨o.d.n, o.d.at_, o.d.md, o.d.acts ++ [⟨3, xk, 0, true, xb, []⟩]⟩, o.ys ++ [⟨⟨3, xk, 0, true, xb, []⟩, none, 0⟩], a2, c2⟩) (fun z hz => by cases hz; simp [(ae HB5).oa j o hst])
      rw [ae HBN]
      exact s1
    by_cases hk4 : xd = 4
    ·skip
     subst hk4
     have HBN := ag (show aY b ⟨4, xs, xm, xa, xk, xt, xp, xb⟩ ⟨0, vn, vt, vs, vl⟩ last = ⟨upd b.op j (some ⟨o.d.n, o.d.at_, o.d.md, o.d.acts ++ [⟨4, xk, 0, false, ⟨#[]⟩, []⟩]⟩), b.dn⟩ by rw [ae HN0, if_pos rfl, hjs]; rfl)
     go_enter Tryz.func43, Tryz.ntmps43
     go_wp2_with fail
     generalize (w.alloc (.cells #[.int .i64 4, .int .i64 xs, .int .i64 xm, .int .i64 xa, .int .i64 xk, .int .i64 xt, .int .i64 xp, .string xb] 55)).alloc (.cells #[.int .i64 0, .int .i64 vn, .bool vt, .string vs, .slice la ln lc] 74) = W at HBK HLS ⊢
     generalize w.heap.size + 1 = q5 at HBK ⊢
     generalize w.heap.size = q4 at HBK ⊢
     refine (dh xs (ae HBK)).mono ?_
     rintro e w' ⟨rfl, hw'⟩
     subst w'
     rw [hbst]
     dsimp only [bp, Option.map_some]
     have hx := (ae HBK).var (mt (mh))
     have hv := (ae HBK).var (mh)
     have x0 : W.cell? ⟨q4, 0, none⟩ = some (.int .i64 4) := af hx rfl
     have x1 : W.cell? ⟨q4, 1, none⟩ = some (.int .i64 xs) := af hx rfl
     have x4 : W.cell? ⟨q4, 4, none⟩ = some (.int .i64 xk) := af hx rfl
     have x5 : W.cell? ⟨q4, 5, none⟩ = some (.int .i64 xt) := af hx rfl
     have x7 : W.cell? ⟨q4, 7, none⟩ = some (.string xb) := af hx rfl
     have v0 : W.cell? ⟨q5, 0, none⟩ = some (.int .i64 0) := af hv rfl
     have v2 : W.cell? ⟨q5, 2, none⟩ = some (.bool vt) := af hv rfl
     have v3 : W.cell? ⟨q5, 3, none⟩ = some (.string vs) := af hv rfl
     have v4 : W.cell? ⟨q5, 4, none⟩ = some (.slice la ln lc) := af hv rfl
     have hq4 := ah hx
     have hq5 := ah hv
     have n4 : q4 ≠ W.heap.size := by omega
     have n5 : q5 ≠ W.heap.size := by omega
     clear hx hv
     have HB1 := ag ((ae HBK).new #[.int .i64 4, .int .i64 xk, .int .i64 0, .bool false, .string ⟨#[]⟩, .slice none 0 0] 43).nil
     go_wp2_with fail
     generalize W.alloc (.cells #[.int .i64 4, .int .i64 xk, .int .i64 0, .bool false, .string ⟨#[]⟩, .slice none 0 0] 43) = W1 at HB1 ⊢
     generalize W.heap.size = q7 at HB1 ⊢
     clear n4 n5 hq4 hq5 x0 x1 x4 x5 x7 v0 v2 v3 v4 HLS
     obtain ⟨l1, l2, hg⟩ := Gon.mk_ (y := ⟨⟨4, xk, 0, false, ⟨#[]⟩, []⟩, none, 0⟩) (ae HB1) hj hst
     have HG := ag hg
     have hrow := fU (l1 := [axT ⟨⟨4, xk, 0, false, ⟨#[]⟩, []⟩, none, 0⟩]) hg.zoo
     have HROW := ag hrow
     have hobx := ai hg.zoo (mt (mt (mh)))
     have hq7 := ai hg.zoo (mt (mt (mt (mh))))
     have o3 : W1.cell? ⟨o.b, 3, none⟩ = some (.slice o.a o.ys.length o.c) := af hobx rfl
     have fo3 := ak 3 hobx
     have hol := ah hobx
     have hq7l := ah hq7
     have hBw := Zoo.base hg.zoo
     have ya0 : W1.cell? ⟨q7, 0, none⟩ = some (.int .i64 4) := af hq7 rfl
     have ya1 : W1.cell? ⟨q7, 1, none⟩ = some (.int .i64 xk) := af hq7 rfl
     have ya2 : W1.cell? ⟨q7, 2, none⟩ = some (.int .i64 0) := af hq7 rfl
     have ya3 : W1.cell? ⟨q7, 3, none⟩ = some (.bool false) := af hq7 rfl
     have ya4 : W1.cell? ⟨q7, 4, none⟩ = some (.string ⟨#[]⟩) := af hq7 rfl
     have ya5 : W1.cell? ⟨q7, 5, none⟩ = some (.slice none 0 0) := af hq7 rfl
     clear hg hrow hobx hq7 HB1 HBK
     obtain ⟨n, hn⟩ : ∃ n, o.ys.length = n := ⟨_, rfl⟩
     rw [hn] at o3
     have HROW2 : Hid (bn 43 6 w0.heap.size W1 o.a n o.c (bS o.ys)) := by rw [← hn]; exact ae HROW
     have HN := ag hn
     have hn1000 : n ≤ 1000 := by rw [← hn]; exact hlen
     clear hn HROW hlen
     have far := fun (W2 : World) (a2 : Option Addr) (c2 : Nat) (g1 : Hid (bn 43 6 w0.heap.size W2 a2 (n + 1) c2 (bS o.ys ++ [.int .i64 4, .int .i64 xk, .int .i64 0, .bool false, .string ⟨#[]⟩, .slice none 0 0]))) (g2 : Hid (Kp (ob o.a) (W1.alloc (.cells #[.int .i64 4, .int .i64 xk, .int .i64 0, .bool false, .string ⟨#[]⟩, .slice none 0 0] 43)).drew W2)) (g3 : Hid (∀ x ∈ ob a2, x ∈ ob o.a ∨ (W1.alloc (.cells #[.int .i64 4, .int .i64 xk, .int .i64 0, .bool false, .string ⟨#[]⟩, .slice none 0 0] 43)).drew.heap.size ≤ x)) => fC (y := ⟨⟨4, xk, 0, false, ⟨#[]⟩, []⟩, none, 0⟩) (ac := o.a) (cc := o.c) (zs := o.ys) (((ae HG).zoo).kp0 (((Kp.refl [] W1).alloc (.cells #[.int .i64 4, .int .i64 xk, .int .i64 0, .bool false, .string ⟨#[]⟩, .slice none 0 0] 43)).drew)) (by rw [ae HN]; exact ae g1) (ae g2) (ae g3)
     have FAR := ag far
     clear far
     go_wp2_with fail
     go_region_law (refine bd (by rfl) (.tmp 50) (.tmp 52) 26 (by rfl) hu Tryz.info43 rfl (by omega) ((ae HROW2).kp0 (((Kp.refl [] W1).alloc _).drew)) (by simp; omega) (.slice (some ⟨W1.heap.size, 0, none⟩) 1 1) [.int .i64 4, .int .i64 xk, .int .i64 0, .bool false, .string ⟨#[]⟩, .slice none 0 0] 1 (by rfl) (by rfl) (aQ (cs := #[.int .i64 4, .int .i64 xk, .int .i64 0, .bool false, .string ⟨#[]⟩, .slice none 0 0]) (T := 43) (fr := (0, 0)) hu (heap_alloc_new W1 _) rfl (by simp [Value.oneCell'])) (by omega) (n + 1) rfl ?_; intro a2 c2 w2 g1 g2 g3; have HZ2 := ag (ae FAR w2 a2 c2 g1 g2 g3); have hob2 := ai (ae HZ2) (mt (mh)); have r0 : w2.cell? ⟨o.b, 3, none⟩ = some (.slice o.a o.ys.length o.c) := af hob2 rfl; have r1 := ak 3 hob2; clear g1 g2 g3 hob2)
     all_goals
      go_wp2_with fail
      go_end0
      refine ⟨rfl, ?_⟩
      have z := (ae HG).fin hj hst (ae HZ2)
      rw [ae HN] at z
      refine bw ?_ (z.tail.tail)
      have s1 := (ae HB5).sit j (some ⟨o.b, ⟨o.d.n, o.d.at_, o.d.md, o.d.acts ++ [⟨4, xk, 0, false, ⟨#[]⟩, []⟩]⟩, o.ys ++ [⟨⟨4, xk, 0, false, ⟨#[]⟩, []⟩, none, 0⟩], a2, c2⟩) (fun z hz => by cases hz; simp [(ae HB5).oa j o hst])
      rw [ae HBN]
      exact s1
    ·have hk5 : xd = 5 := by omega
     subst hk5
     have HBN := ag (show aY b ⟨5, xs, xm, xa, xk, xt, xp, xb⟩ ⟨0, vn, vt, vs, vl⟩ last = ⟨upd b.op j (some ⟨o.d.n, o.d.at_, o.d.md, o.d.acts ++ [⟨5, xk, xt, false, ⟨#[]⟩, vl⟩]⟩), b.dn⟩ by rw [ae HN0, if_pos rfl, hjs]; rfl)
     go_enter Tryz.func43, Tryz.ntmps43
     go_wp2_with fail
     generalize (w.alloc (.cells #[.int .i64 5, .int .i64 xs, .int .i64 xm, .int .i64 xa, .int .i64 xk, .int .i64 xt, .int .i64 xp, .string xb] 55)).alloc (.cells #[.int .i64 0, .int .i64 vn, .bool vt, .string vs, .slice la ln lc] 74) = W at HBK HLS ⊢
     generalize w.heap.size + 1 = q5 at HBK ⊢
     generalize w.heap.size = q4 at HBK ⊢
     refine (dh xs (ae HBK)).mono ?_
     rintro e w' ⟨rfl, hw'⟩
     subst w'
     rw [hbst]
     dsimp only [bp, Option.map_some]
     have hx := (ae HBK).var (mt (mh))
     have hv := (ae HBK).var (mh)
     have x0 : W.cell? ⟨q4, 0, none⟩ = some (.int .i64 5) := af hx rfl
     have x1 : W.cell? ⟨q4, 1, none⟩ = some (.int .i64 xs) := af hx rfl
     have x4 : W.cell? ⟨q4, 4, none⟩ = some (.int .i64 xk) := af hx rfl
     have x5 : W.cell? ⟨q4, 5, none⟩ = some (.int .i64 xt) := af hx rfl
     have x7 : W.cell? ⟨q4, 7, none⟩ = some (.string xb) := af hx rfl
     have v0 : W.cell? ⟨q5, 0, none⟩ = some (.int .i64 0) := af hv rfl
     have v2 : W.cell? ⟨q5, 2, none⟩ = some (.bool vt) := af hv rfl
     have v3 : W.cell? ⟨q5, 3, none⟩ = some (.string vs) := af hv rfl
     have v4 : W.cell? ⟨q5, 4, none⟩ = some (.slice la ln lc) := af hv rfl
     have hq4 := ah hx
     have hq5 := ah hv
     have n4 : q4 ≠ W.heap.size := by omega
     have n5 : q5 ≠ W.heap.size := by omega
     clear hx hv
     have HB0 := ag ((ae HBK).new #[.int .i64 5, .int .i64 xk, .int .i64 0, .bool false, .string ⟨#[]⟩, .slice none 0 0] 43)
     have HLS0 := ag ((ae HLS).kp0 ((Kp.refl [] W).alloc (.cells #[.int .i64 5, .int .i64 xk, .int .i64 0, .bool false, .string ⟨#[]⟩, .slice none 0 0] 43)))
     go_wp2_with fail
     generalize W.alloc (.cells #[.int .i64 5, .int .i64 xk, .int .i64 0, .bool false, .string ⟨#[]⟩, .slice none 0 0] 43) = W0 at HB0 HLS0 ⊢
     generalize W.heap.size = q7 at HB0 n4 n5 ⊢
     clear hq4 hq5 x0 x1 x4 x5 x7 v0 v2 v3 v4 HLS
     have HBD := ag ((ae HB0).kp0 (Kp.refl [] _).drew)
     have hx := (ae HBD).var (mt (mt (mh)))
     have hv := (ae HBD).var (mt (mh))
     have hy := (ae HBD).var (mh)
     have HSS := ag (show W0.drew.cell? ⟨q4, 5, none⟩ = some (.int .i64 xt) ∧ W0.drew.cell? ⟨q5, 4, none⟩ = some (.slice la ln lc) from ⟨af hx rfl, af hv rfl⟩)
     clear hx hv hy
     refine wp_region_held_drew (S := fun w' => w'.cell? ⟨q4, 5, none⟩ = some (.int .i64 xt) ∧ w'.cell? ⟨q5, 4, none⟩ = some (.slice la ln lc)) (by kernel_rfl) (ae HSS) (fun hHeld => ?_)
     refine tk 0 ?_ rfl (by kernel_rfl) (fun _ _ _ h => h) (by rfl) ?_ hHeld ?_;rotate_left;· intro w hSw;(try dsimp only at hSw);go_simp;try with_reducible rfl
     try simp only [Act.put, sx, sy, sz]
     refine tk 1 ?_ rfl (by kernel_rfl) (fun _ _ _ h => h) (by rfl) ?_ hHeld ?_;rotate_left;· intro w hSw;(try dsimp only at hSw);go_simp;try with_reducible rfl
     try simp only [Act.put, sx, sy, sz]
     refine tk 2 ?_ rfl (by kernel_rfl) (fun _ _ _ h => h) (by rfl) ?_ hHeld ?_;rotate_left;· intro w hSw;(try dsimp only at hSw);go_simp;try with_reducible rfl
     try simp only [Act.put, sx, sy, sz]
     refine tk 3 ?_ rfl (by kernel_rfl) (fun _ _ _ h => h) (by rfl) ?_ hHeld ?_;rotate_left;· intro w hSw;(try dsimp only at hSw);go_simp;try with_reducible rfl
     try simp only [Act.put, sx, sy, sz]
     refine tk 5 ?_ rfl (by kernel_rfl) (fun _ _ _ h => h) (by rfl) ?_ hHeld ?_;rotate_left;· intro w hSw;(try dsimp only at hSw);go_simp;try with_reducible rfl
     try simp only [Act.put, sx, sy, sz]
     refine aj (i := 4) rfl (by kernel_rfl) (fun K hK => ?_)
     go_simp
     rw [← ae HLL]
     refine (mM la lc vl _ ((ae HLS0).kp0 (Kp.refl [] _).drew) hll).mono ?_
     rintro e w3 ⟨a3, c3, rfl, hr3, hk3⟩
     have HB3 := ag ((ae HBD).cons (o := KwT 98 3 a3 vl.length c3 (aw vl)) (F := ob a3) ⟨hr3, rfl⟩ hk3)
     have HK3 := ag hk3
     clear hr3 hk3
     rw [ae HLL]
     go_wp2_with fail
     refine hK.out _ _ (⟨(ae HK3).cell (by simp) (ae HSS).1, (ae HK3).cell (by simp) (ae HSS).2⟩) (fun hHeld2 => ?_)
     clear hK K hHeld
     have hHeld := hHeld2
     clear hHeld2
     try simp only [Act.put, sx, sy, sz]
     have hy := (ae HB3).var (mh)
     have y2 : w3.cell? ⟨q7, 2, none⟩ = some (.int .i64 0) := af hy rfl
     have y5 : w3.cell? ⟨q7, 5, none⟩ = some (.slice none 0 0) := af hy rfl
     have fy := fun i => ak i hy
     clear hy
     refine aj (i := 6) rfl (by kernel_rfl) (fun K hK => ?_)
     go_simp
     have HB4 := ag (aX.setAt (l1 := []) (ae HB3) 2 (.int .i64 xt))
     have SS4 : (w3.setCell ⟨q7, 2, none⟩ (.int .i64 xt)).cell? ⟨q4, 5, none⟩ = some (.int .i64 xt) ∧ (w3.setCell ⟨q7, 2, none⟩ (.int .i64 xt)).cell? ⟨q5, 4, none⟩ = some (.slice la ln lc) := ⟨af ((ae HB4).var (mt (mt (mt (mh))))) rfl, af ((ae HB4).var (mt (mt (mh)))) rfl⟩
     refine hK.out _ _ (SS4) (fun hHeld2 => ?_)
     clear hK K hHeld
     have hHeld := hHeld2
     clear hHeld2
     try simp only [Act.put, sx, sy, sz]
     have hy4 := (ae HB4).var (mh)
     have z5 : (w3.setCell ⟨q7, 2, none⟩ (.int .i64 xt)).cell? ⟨q7, 5, none⟩ = some (.slice none 0 0) := af hy4 rfl
     have fz5 := ak 5 hy4
     clear hy4
     generalize w3.setCell ⟨q7, 2, none⟩ (.int .i64 xt) = w4 at *
     refine tk 7 ?_ rfl (by kernel_rfl) (fun _ _ _ h => h) (by rfl) ?_ hHeld ?_;rotate_left;· intro w hSw;(try dsimp only at hSw);go_simp;try with_reducible rfl
     try simp only [Act.put, sx, sy, sz]
     refine aj (i := 8) rfl (by kernel_rfl) (fun K hK => ?_)
     go_simp
     have HB5a := ag (aX.setAt (l1 := []) (ae HB4) 5 (.slice a3 ln c3))
     have SS5 : (w4.setCell ⟨q7, 5, none⟩ (.slice a3 ln c3)).cell? ⟨q4, 5, none⟩ = some (.int .i64 xt) ∧ (w4.setCell ⟨q7, 5, none⟩ (.slice a3 ln c3)).cell? ⟨q5, 4, none⟩ = some (.slice la ln lc) := ⟨af ((ae HB5a).var (mt (mt (mt (mh))))) rfl, af ((ae HB5a).var (mt (mt (mh)))) rfl⟩
     refine hK.out _ _ (SS5) (fun hHeld2 => ?_)
     clear hK K hHeld
     have hHeld := hHeld2
     clear hHeld2
     try simp only [Act.put, sx, sy, sz]
     refine wpAnyH_done (by kernel_rfl) ?_ _
     clear hHeld SS4 SS5 y2 y5 fy z5 fz5 HSS HB0 HBD HB3 HB4 HK3 HLS0
     have HB1 : Hid (aX w0 (w4.setCell ⟨q7, 5, none⟩ (.slice a3 ln c3)) bb st a c ys (au q7 (axc ⟨⟨5, xk, xt, false, ⟨#[]⟩, vl⟩, a3, c3⟩).toArray 43 :: axT ⟨⟨5, xk, xt, false, ⟨#[]⟩, vl⟩, a3, c3⟩ :: au q5 #[.int .i64 0, .int .i64 vn, .bool vt, .string vs, .slice la ln lc] 74 :: au q4 #[.int .i64 5, .int .i64 xs, .int .i64 xm, .int .i64 xa, .int .i64 xk, .int .i64 xt, .int .i64 xp, .string xb] 55 :: r)) := by
      have z := ae HB5a
      rw [← ae HLL] at z ⊢
      exact z
     clear HB5a
     generalize w4.setCell ⟨q7, 5, none⟩ (.slice a3 ln c3) = W1 at HB1 ⊢
     go_wp2_with fail
     obtain ⟨l1, l2, hg⟩ := Gon.mk_ (y := ⟨⟨5, xk, xt, false, ⟨#[]⟩, vl⟩, a3, c3⟩) (ae HB1) hj hst
     have HG := ag hg
     have hrow := fU (l1 := [axT ⟨⟨5, xk, xt, false, ⟨#[]⟩, vl⟩, a3, c3⟩]) hg.zoo
     have HROW := ag hrow
     have hobx := ai hg.zoo (mt (mt (mh)))
     have hq7 := ai hg.zoo (mt (mt (mt (mh))))
     have o3 : W1.cell? ⟨o.b, 3, none⟩ = some (.slice o.a o.ys.length o.c) := af hobx rfl
     have fo3 := ak 3 hobx
     have hol := ah hobx
     have hq7l := ah hq7
     have hBw := Zoo.base hg.zoo
     have ya0 : W1.cell? ⟨q7, 0, none⟩ = some (.int .i64 5) := af hq7 rfl
     have ya1 : W1.cell? ⟨q7, 1, none⟩ = some (.int .i64 xk) := af hq7 rfl
     have ya2 : W1.cell? ⟨q7, 2, none⟩ = some (.int .i64 xt) := af hq7 rfl
     have ya3 : W1.cell? ⟨q7, 3, none⟩ = some (.bool false) := af hq7 rfl
     have ya4 : W1.cell? ⟨q7, 4, none⟩ = some (.string ⟨#[]⟩) := af hq7 rfl
     have ya5 : W1.cell? ⟨q7, 5, none⟩ = some (.slice a3 ln c3) := by rw [← ae HLL]; exact af hq7 rfl
     clear hg hrow hobx hq7 HB1 HBK
     obtain ⟨n, hn⟩ : ∃ n, o.ys.length = n := ⟨_, rfl⟩
     rw [hn] at o3
     have HROW2 : Hid (bn 43 6 w0.heap.size W1 o.a n o.c (bS o.ys)) := by rw [← hn]; exact ae HROW
     have HN := ag hn
     have hn1000 : n ≤ 1000 := by rw [← hn]; exact hlen
     clear hn HROW hlen
     have far := fun (W2 : World) (a2 : Option Addr) (c2 : Nat) (g1 : Hid (bn 43 6 w0.heap.size W2 a2 (n + 1) c2 (bS o.ys ++ [.int .i64 5, .int .i64 xk, .int .i64 xt, .bool false, .string ⟨#[]⟩, .slice a3 ln c3]))) (g2 : Hid (Kp (ob o.a) (W1.alloc (.cells #[.int .i64 5, .int .i64 xk, .int .i64 xt, .bool false, .string ⟨#[]⟩, .slice a3 ln c3] 43)).drew W2)) (g3 : Hid (∀ x ∈ ob a2, x ∈ ob o.a ∨ (W1.alloc (.cells #[.int .i64 5, .int .i64 xk, .int .i64 xt, .bool false, .string ⟨#[]⟩, .slice a3 ln c3] 43)).drew.heap.size ≤ x)) => fC (y := ⟨⟨5, xk, xt, false, ⟨#[]⟩, vl⟩, a3, c3⟩) (ac := o.a) (cc := o.c) (zs := o.ys) (((ae HG).zoo).kp0 (((Kp.refl [] W1).alloc (.cells #[.int .i64 5, .int .i64 xk, .int .i64 xt, .bool false, .string ⟨#[]⟩, .slice a3 ln c3] 43)).drew)) (by rw [ae HN]; have z := ae g1; rw [← ae HLL] at z; exact z) (ae g2) (ae g3)
     have FAR := ag far
     clear far
     go_wp2_with fail
     go_region_law (refine bd (by rfl) (.tmp 50) (.tmp 52) 26 (by rfl) hu Tryz.info43 rfl (by omega) ((ae HROW2).kp0 (((Kp.refl [] W1).alloc _).drew)) (by simp; omega) (.slice (some ⟨W1.heap.size, 0, none⟩) 1 1) [.int .i64 5, .int .i64 xk, .int .i64 xt, .bool false, .string ⟨#[]⟩, .slice a3 ln c3] 1 (by rfl) (by rfl) (aQ (cs := #[.int .i64 5, .int .i64 xk, .int .i64 xt, .bool false, .string ⟨#[]⟩, .slice a3 ln c3]) (T := 43) (fr := (0, 0)) hu (heap_alloc_new W1 _) rfl (by simp [Value.oneCell'])) (by omega) (n + 1) rfl ?_; intro a2 c2 w2 g1 g2 g3; have HZ2 := ag (ae FAR w2 a2 c2 g1 g2 g3); have hob2 := ai (ae HZ2) (mt (mh)); have r0 : w2.cell? ⟨o.b, 3, none⟩ = some (.slice o.a o.ys.length o.c) := af hob2 rfl; have r1 := ak 3 hob2; clear g1 g2 g3 hob2)
     all_goals
      go_wp2_with fail
      go_end0
      refine ⟨rfl, ?_⟩
      have z := (ae HG).fin hj hst (ae HZ2)
      rw [ae HN] at z
      refine bw ?_ (z.tail.tail)
      have s1 := (ae HB5).sit j (some ⟨o.b, ⟨o.d.n, o.d.at_, o.d.md, o.d.acts ++ [⟨5, xk, xt, false, ⟨#[]⟩, vl⟩]⟩, o.ys ++ [⟨⟨5, xk, xt, false, ⟨#[]⟩, vl⟩, a3, c3⟩], a2, c2⟩) (fun z hz => by cases hz; simp [(ae HB5).oa j o hst])
      rw [ae HBN]
      exact s1
   ·have hbn : aY b ⟨xd, xs, xm, xa, xk, xt, xp, xb⟩ ⟨vc, vn, vt, vs, vl⟩ last = b := by rw [ae HN0, if_neg hc]
    rw [hbn]
    have HB := ag (fun W {o1 o2 : ao} (h : aX w0 W bb st a c ys (o1 :: o2 :: r)) => bw (ae HB5) h.tail.tail)
    clear hbn hbop hoa
    go_enter Tryz.func43, Tryz.ntmps43
    go_wp2_with fail
    refine (dh xs (ae HBK)).mono ?_
    rintro e w' ⟨rfl, hw'⟩
    subst w'
    rw [hbst]
    dsimp only [bp, Option.map_some]
    go_wp2_with fail
    refine bodyPost_ret (v := .tuple #[]) (by simp [results, Tryz.results43, go_sem]) rfl ?_
    exact ⟨rfl, ae HB _ (ae HBK)⟩
section
variable {w0 w W w' : World} {bb : Nat} {b : Bk} {st : Nat → Option Ob} {a : Option Addr} {c : Nat} {ys : List Dy} {r : List ao}
theorem aX.drop (hz : aX w0 w bb st a c ys r) {j : Nat} (hj : j < 5) : aX w0 (w.setCell ⟨bb, j, none⟩ (.pointer none)) bb (upd st j none) a c ys r := by
 obtain ⟨l1, l2, e2, h1⟩ := hz.out hj
 have h2 := co h1.tail
 refine aX.back (d := none) e2 ?_
 obtain ⟨F, ⟨hbx, q2, q3⟩, k2⟩ := bW h2
 refine k2 _ _ ⟨F, ⟨?_, q2, q3⟩, ?_, fun x hx => .inl hx⟩
 ·rw [an _ _ hbx]
  have := lF st a ys.length c hj none
  rw [← this]
  rfl
 ·rw [q2]
  exact (Kp.refl [bb] _).setCell (.inl (by simp)) _
structure Edn (w0 W : World) (bb : Nat) (st : Nat → Option Ob) (a : Option Addr) (c : Nat) (ys : List Dy) (r : List ao) (j : Nat) (o : Ob) (num : Int) (l1 l2 : List ao) : Prop where
 e2 : ∀ d, gj (upd st j d) = l1 ++ cu d :: l2
 zoo : Zoo w0 W (KwT 36 4 a ys.length c (aP (ys.map Dy.x)) :: au o.b #[.int .i64 num, .int .i64 o.d.at_, .int .i64 o.d.md, .slice o.a o.ys.length o.c] 36 :: au bb (bkc st a ys.length c) 111 :: cV o.a o.c o.ys :: (ys.map dyT ++ (l1 ++ (l2 ++ r))))
theorem Edn.mk_ (hz : aX w0 W bb st a c ys r) {j : Nat} (hj : j < 5) {o : Ob} (ho : st j = some o) (num : Int) : ∃ l1 l2, Edn w0 (W.setCell ⟨o.b, 0, none⟩ (.int .i64 num)) bb st a c ys r j o num l1 l2 := by
 obtain ⟨l1, l2, e2, h1⟩ := hz.out hj
 rw [ho] at h1
 have h2 := jj h1
 obtain ⟨F, ⟨hbx, q2, q3⟩, k2⟩ := bi h2
 have h3 := k2 (au o.b #[.int .i64 num, .int .i64 o.d.at_, .int .i64 o.d.md, .slice o.a o.ys.length o.c] 36) (W.setCell ⟨o.b, 0, none⟩ (.int .i64 num)) ⟨F, ⟨by rw [an _ _ hbx]; simp [obc], q2, q3⟩, by rw [q2]; exact (Kp.refl [o.b] _).setCell (.inl (by simp)) _, fun x hx => .inl hx⟩
 refine ⟨l1, l2, e2, h3.perm ?_⟩
 generalize (ys.map dyT ++ (l1 ++ (l2 ++ r))) = R
 generalize KwT 36 4 a ys.length c (aP (ys.map Dy.x)) = K
 generalize au o.b #[.int .i64 num, .int .i64 o.d.at_, .int .i64 o.d.md, .slice o.a o.ys.length o.c] 36 = A
 generalize au bb (bkc st a ys.length c) 111 = B
 generalize cV o.a o.c o.ys = T
 exact ((List.Perm.cons _ ((List.Perm.cons _ (List.Perm.swap _ _ _)).trans (List.Perm.swap _ _ _))).trans (List.Perm.swap _ _ _)).trans (List.Perm.cons _ (List.Perm.cons _ (List.Perm.swap _ _ _)))
def dy1 (o : Ob) (num : Int) : Dy := ⟨⟨⟨num, o.d.at_, o.d.md, o.d.acts⟩, o.a, o.c⟩, o.ys⟩
theorem Edn.fin {j : Nat} {o : Ob} {num : Int} {l1 l2 : List ao} (h : Edn w0 W bb st a c ys r j o num l1 l2) (hj : j < 5) (_ho : st j = some o) (hoa : o.d.acts = o.ys.map Ax.x) {a2 : Option Addr} {c2 : Nat} {W2 : World}
 (g1 : bn 36 4 w0.heap.size W2 a2 (ys.length + 1) c2 (aP (ys.map Dy.x) ++ [.int .i64 num, .int .i64 o.d.at_, .int .i64 o.d.md, .slice o.a o.ys.length o.c])) (g2 : Kp (ob a) w' W2) (g3 : ∀ x ∈ ob a2, x ∈ ob a ∨ w'.heap.size ≤ x) (hk : Kp [] W w') :
 aX w0 ((W2.setCell ⟨bb, 5, none⟩ (.slice a2 (ys.length + 1) c2)).setCell ⟨bb, j, none⟩ (.pointer none)) bb (upd st j none) a2 c2 (ys ++ [dy1 o num]) r := by
 have h1 := cS (l1 := []) (h.zoo.kp0 hk) g1 g2 g3
 have h2 := aH h1
 obtain ⟨F, ⟨hbx, q2, q3⟩, k2⟩ := bW h2
 have e1 : (aP ((ys ++ [dy1 o num]).map Dy.x)) = aP (ys.map Dy.x) ++ [.int .i64 num, .int .i64 o.d.at_, .int .i64 o.d.md, .slice o.a o.ys.length o.c] := by
  rw [List.map_append, dx]
  have : (dy1 o num).x.d.acts.length = o.ys.length := by show o.d.acts.length = _; rw [hoa, List.length_map]
  simp [aP, dxc, dy1, hoa]
 have e3 : (ys ++ [dy1 o num]).length = ys.length + 1 := by simp
 have h3 := k2 (au bb (bkc (upd st j none) a2 (ys ++ [dy1 o num]).length c2) 111) ((W2.setCell ⟨bb, 5, none⟩ (.slice a2 (ys.length + 1) c2)).setCell ⟨bb, j, none⟩ (.pointer none)) ⟨F, ⟨by
  rw [an _ _ (an _ _ hbx)]
  have z : (bkc st a ys.length c).setIfInBounds 5 (.slice a2 (ys.length + 1) c2) = bkc st a2 (ys.length + 1) c2 := by simp [bkc]
  rw [z, e3]
  have := lF st a2 (ys.length + 1) c2 hj none
  rw [← this]
  rfl, q2, q3⟩, by rw [q2]; exact ((Kp.refl [bb] _).setCell (.inl (by simp)) _).setCell (.inl (by simp)) _, fun x hx => .inl hx⟩
 refine aX.back (d := none) h.e2 ?_
 have h4 := co h3
 rw [e1, e3]
 rw [e3] at h4
 refine h4.perm (List.Perm.cons _ ?_)
 rw [List.map_append]
 refine (List.Perm.swap _ _ _).trans (List.Perm.cons _ (List.Perm.cons _ ?_))
 have p := (List.perm_middle (l₁ := ys.map dyT) (a := cV o.a o.c o.ys) (l₂ := l1 ++ (l2 ++ r))).symm
 simpa [dyT, dy1] using p
end
theorem fY.done {st : Nat → Option Ob} {ys : List Dy} {b : Bk} (h : fY st ys b) {j : Nat} {o : Ob} (ho : st j = some o) (num : Int) : fY (upd st j none) (ys ++ [dy1 o num]) ⟨upd b.op j none, b.dn ++ [⟨num, o.d.at_, o.d.md, o.d.acts⟩]⟩ := by
 refine ⟨fun k => ?_, fun k q hq => ?_, ?_, fun y hy => ?_⟩
 ·show (upd st j none k).map Ob.d = upd b.op j none k
  unfold upd
  split
  ·rfl
  ·exact h.op k
 ·unfold upd at hq
  split at hq
  ·cases hq
  ·exact h.oa k q hq
 ·rw [List.map_append, h.dn]; rfl
 ·rcases List.mem_append.1 hy with e | e
  ·exact h.da y e
  ·rw [List.mem_singleton.1 e]; exact h.oa j o ho
theorem fY.not {st : Nat → Option Ob} {ys : List Dy} {b : Bk} (h : fY st ys b) (j : Nat) : fY (upd st j none) ys ⟨upd b.op j none, b.dn⟩ := h.sit j none (fun _ h => by cases h)
theorem lD {w0 w : World} {bb : Nat} {st : Nat → Option Ob} {a : Option Addr} {c : Nat} {ys : List Dy} {r : List ao} {p : Nat} {cs : Array Value} {T : TypeId} (hz : aX w0 w bb st a c ys r) (hm : au p cs T ∈ r) : p ≠ bb := by
 obtain ⟨l1, l2, rfl⟩ := List.append_of_mem hm
 have h1 : Zoo w0 w ((bth bb st a c ys ++ l1) ++ au p cs T :: l2) := by rw [List.append_assoc]; exact hz
 have h2 := h1.perm List.perm_middle
 obtain ⟨X, ⟨F, Y, ⟨q1, q2, q3⟩, ⟨F2, Y2, ⟨p1, p2, p3⟩, _, _, e2⟩, hd, e⟩, hk⟩ := h2
 intro e3
 exact hd p (by rw [q2]; simp) (by rw [e2, p2, e3]; simp)
theorem qK {w0 w : World} {A B : ao} {bb : Nat} {c1 : Array Value} {T1 : TypeId} {r : List ao} {p : Nat} {cs : Array Value} {T : TypeId} (hz : Zoo w0 w (A :: B :: au bb c1 T1 :: r)) (hr : au p cs T ∈ r) : p ≠ bb := by
 obtain ⟨l1, l2, rfl⟩ := List.append_of_mem hr
 have h1 : Zoo w0 w ((A :: B :: au bb c1 T1 :: l1) ++ au p cs T :: l2) := hz
 have h2 := (h1.perm List.perm_middle)
 have h3 : Zoo w0 w (au p cs T :: au bb c1 T1 :: A :: B :: (l1 ++ l2)) := h2.perm (List.Perm.cons _ ((List.Perm.cons _ (List.Perm.swap _ _ _)).trans (List.Perm.swap _ _ _)))
 obtain ⟨X, ⟨F, Y, ⟨q1, q2, q3⟩, ⟨F2, Y2, ⟨p1, p2, p3⟩, _, _, e2⟩, hd, e⟩, hk⟩ := h3
 intro e3
 exact hd p (by rw [q2]; simp) (by rw [e2, p2, e3]; simp)
theorem mw {ys : List Dy} {r l1 l2 : List ao} {A B C D : ao} {p5 p4 : Nat} {c5 c4 : Array Value} : au p4 c4 55 ∈ A :: B :: C :: D :: (ys.map dyT ++ (l1 ++ (l2 ++ (au p5 c5 74 :: au p4 c4 55 :: r)))) := List.mem_cons_of_mem _ (List.mem_cons_of_mem _ (List.mem_cons_of_mem _ (List.mem_cons_of_mem _ (List.mem_append_right _ (List.mem_append_right _ (List.mem_append_right _ (mt (mh))))))))
theorem mx {ys : List Dy} {r l1 l2 : List ao} {D : ao} {p5 p4 : Nat} {c5 c4 : Array Value} : au p4 c4 55 ∈ D :: (ys.map dyT ++ (l1 ++ (l2 ++ (au p5 c5 74 :: au p4 c4 55 :: r)))) := List.mem_cons_of_mem _ (List.mem_append_right _ (List.mem_append_right _ (List.mem_append_right _ (mt (mh)))))
theorem px {w0 w : World} {bb : Nat} {st : Nat → Option Ob} {a : Option Addr} {c : Nat} {ys : List Dy} {r : List ao} (hz : aX w0 w bb st a c ys r) {j : Nat} (hj : j < 5) {o : Ob} (ho : st j = some o) : w.heap[o.b]? = some (.cells (obc o) 36 (0, 0)) := by
 obtain ⟨l1, l2, e2, h1⟩ := hz.out hj
 rw [ho] at h1
 exact Zoo.var (jj h1)
theorem oW {w0 W w' W2 : World} {bb : Nat} {st : Nat → Option Ob} {a : Option Addr} {c : Nat} {ys : List Dy} {r : List ao} {j : Nat} {o : Ob} {num : Int} {l1 l2 : List ao} (h : Edn w0 W bb st a c ys r j o num l1 l2) (hj : j < 5) (ho : st j = some o) (hoa : o.d.acts = o.ys.map Ax.x) {a2 : Option Addr} {c2 : Nat}
 (g1 : bn 36 4 w0.heap.size W2 a2 (ys.length + 1) c2 (aP (ys.map Dy.x) ++ [.int .i64 num, .int .i64 o.d.at_, .int .i64 o.d.md, .slice o.a o.ys.length o.c])) (g2 : Kp (ob a) w' W2) (g3 : ∀ x ∈ ob a2, x ∈ ob a ∨ w'.heap.size ≤ x) (hk : Kp [] W w') :
 (∃ v, W2.cell? ⟨bb, 5, none⟩ = some v) ∧ W2.frozen? ⟨bb, 5, none⟩ = false ∧ bb < W2.heap.size ∧ Zoo w0 (W2.setCell ⟨bb, 5, none⟩ (.slice a2 (ys.length + 1) c2)) (KwT 36 4 a2 (ys.length + 1) c2 (aP (ys.map Dy.x) ++ [.int .i64 num, .int .i64 o.d.at_, .int .i64 o.d.md, .slice o.a o.ys.length o.c]) :: au o.b #[.int .i64 num, .int .i64 o.d.at_, .int .i64 o.d.md, .slice o.a o.ys.length o.c] 36 :: au bb (bkc st a2 (ys.length + 1) c2) 111 :: cV o.a o.c o.ys :: (ys.map dyT ++ (l1 ++ (l2 ++ r)))) ∧
 aX w0 ((W2.setCell ⟨bb, 5, none⟩ (.slice a2 (ys.length + 1) c2)).setCell ⟨bb, j, none⟩ (.pointer none)) bb (upd st j none) a2 c2 (ys ++ [dy1 o num]) r := by
 have h1 := cS (l1 := []) (h.zoo.kp0 hk) g1 g2 g3
 obtain ⟨F, ⟨hbx, q2, q3⟩, k2⟩ := uo h1
 refine ⟨⟨_, af (i := 5) hbx rfl⟩, ak 5 hbx, ah hbx, k2 _ _ ⟨F, ⟨?_, q2, q3⟩, ?_, fun x hx => .inl hx⟩, h.fin hj ho hoa g1 g2 g3 hk⟩
 ·rw [an _ _ hbx]
  simp [bkc]
 ·rw [q2]
  exact (Kp.refl [bb] _).setCell (.inl (by simp)) _
theorem yY {w0 w : World} {bb : Nat} {b : Bk} {r : List ao} (x : ax) (v : Ev) (la : Option Addr) (lc : Nat) (last : Int) (hx : x.d = 6 ∨ x.d = 7 ∨ x.d = 10) (hb : b.dn.length ≤ 1000) (hz : Zoo w0 w (BkT bb b :: r)) :
 Calls Tryz.prog 44 #[.pointer (some ⟨bb, 0, none⟩), .agg (xcs x), .agg (ecl v la lc)] w fun e w' => e = .returned (.tuple #[]) ∧ Hid (Zoo w0 w' (BkT bb (aY b x v last) :: r)) := by
 have hu := Tryz.underlying27
 obtain ⟨st, a, c, ys, hb5, hbk⟩ := gR hz
 have HB5 := ag hb5
 have HBK := ag (hbk.two (xcs x) 55 (ecl v la lc) 74)
 have hop : fB b x.s = (bst st x.s).map Ob.d := by
  unfold fB bst
  split
  ·exact (hb5.op _).symm
  ·rfl
 have HN0 := ag (show aY b x v last = match fB b x.s with | none => b | some d => ⟨if x.d = 10 then (fun _ => none) else upd b.op x.s.toNat none, if isd x v = true then b.dn ++ [{ d with n := v.n }] else b.dn⟩ by unfold aY; rw [if_neg (by omega), if_neg (by omega), if_pos hx]; rfl)
 rw [hop] at HN0
 have hlen : ys.length ≤ 1000 := by
  have := congrArg List.length hb5.dn
  rw [List.length_map] at this
  omega
 clear hz hb5 hbk hop hb
 obtain ⟨xd, xs, xm, xa, xk, xt, xp, xb⟩ := x
 obtain ⟨vc, vn, vt, vs, vl⟩ := v
 dsimp only [xcs, ecl] at *
 obtain ⟨ln, hln⟩ : ∃ ln, vl.length = ln := ⟨_, rfl⟩
 rw [hln] at HBK ⊢
 have HLL := ag hln
 clear hln
 cases hbst : bst st xs with
 | none =>
   have hbn : aY b ⟨xd, xs, xm, xa, xk, xt, xp, xb⟩ ⟨vc, vn, vt, vs, vl⟩ last = b := by rw [ae HN0, hbst]; rfl
   rw [hbn]
   have HB := ag (fun W {o1 o2 : ao} (h : aX w0 W bb st a c ys (o1 :: o2 :: r)) => bw (ae HB5) h.tail.tail)
   clear hbn
   go_enter Tryz.func44, Tryz.ntmps44
   go_wp2_with fail
   refine (dh xs (ae HBK)).mono ?_
   rintro e w' ⟨rfl, hw'⟩
   subst w'
   rw [hbst]
   dsimp only [bp, Option.map_none]
   go_wp2_with fail
   refine bodyPost_ret (v := .tuple #[]) (by simp [results, Tryz.results44, go_sem]) rfl ?_
   exact ⟨rfl, ae HB _ (ae HBK)⟩
 | some o =>
   rw [hbst] at HN0
   dsimp only [Option.map_some] at HN0
   have hs : 0 ≤ xs ∧ xs < 5 := by
    unfold bst at hbst
    split at hbst
    ·assumption
    ·cases hbst
   obtain ⟨j, rfl, hj⟩ := dN hs
   have hst : st j = some o := by unfold bst at hbst; rw [if_pos hs, Int.toNat_natCast] at hbst; exact hbst
   clear hs
   by_cases h6 : xd = 6
   ·subst h6
    cases hisd : isd ⟨6, j, xm, xa, xk, xt, xp, xb⟩ ⟨vc, vn, vt, vs, vl⟩ with
    | true =>
      have hbn : aY b ⟨6, j, xm, xa, xk, xt, xp, xb⟩ ⟨vc, vn, vt, vs, vl⟩ last = ⟨upd b.op j none, b.dn ++ [⟨vn, o.d.at_, o.d.md, o.d.acts⟩]⟩ := by rw [ae HN0]; simp [hisd]
      rw [hbn]
      have HCL := ag (fun W {o1 o2 : ao} {a2 : Option Addr} {c2 : Nat} (h : aX w0 W bb (upd st j none) a2 c2 (ys ++ [dy1 o vn]) (o1 :: o2 :: r)) => bw ((ae HB5).done hst vn) h.tail.tail)
      clear hbn
      go_enter Tryz.func44, Tryz.ntmps44
      go_wp2_with fail
      generalize (w.alloc (.cells #[.int .i64 6, .int .i64 (j : Int), .int .i64 xm, .int .i64 xa, .int .i64 xk, .int .i64 xt, .int .i64 xp, .string xb] 55)).alloc (.cells #[.int .i64 vc, .int .i64 vn, .bool vt, .string vs, .slice la ln lc] 74) = W at HBK ⊢
      generalize w.heap.size + 1 = q5 at HBK ⊢
      generalize w.heap.size = q4 at HBK ⊢
      refine (dh (j : Int) (ae HBK)).mono ?_
      rintro e w' ⟨rfl, hw'⟩
      subst w'
      rw [hbst]
      dsimp only [bp, Option.map_some]
      have hx := (ae HBK).var (mt (mh))
      have hv := (ae HBK).var (mh)
      have x0 : W.cell? ⟨q4, 0, none⟩ = some (.int .i64 6) := af hx rfl
      have x1 : W.cell? ⟨q4, 1, none⟩ = some (.int .i64 (j : Int)) := af hx rfl
      have x2 : W.cell? ⟨q4, 2, none⟩ = some (.int .i64 xm) := af hx rfl
      have x3 : W.cell? ⟨q4, 3, none⟩ = some (.int .i64 xa) := af hx rfl
      have x4 : W.cell? ⟨q4, 4, none⟩ = some (.int .i64 xk) := af hx rfl
      have x5 : W.cell? ⟨q4, 5, none⟩ = some (.int .i64 xt) := af hx rfl
      have x6 : W.cell? ⟨q4, 6, none⟩ = some (.int .i64 xp) := af hx rfl
      have x7 : W.cell? ⟨q4, 7, none⟩ = some (.string xb) := af hx rfl
      have v0 : W.cell? ⟨q5, 0, none⟩ = some (.int .i64 vc) := af hv rfl
      have v1 : W.cell? ⟨q5, 1, none⟩ = some (.int .i64 vn) := af hv rfl
      have v2 : W.cell? ⟨q5, 2, none⟩ = some (.bool vt) := af hv rfl
      have v3 : W.cell? ⟨q5, 3, none⟩ = some (.string vs) := af hv rfl
      have v4 : W.cell? ⟨q5, 4, none⟩ = some (.slice la ln lc) := af hv rfl
      clear hx hv
      go_wp2_with fail
      have hid := jp ⟨6, j, xm, xa, xk, xt, xp, xb⟩ ⟨vc, vn, vt, vs, vl⟩ la lc W
      dsimp only [xcs, ecl] at hid
      rw [ae HLL, hisd] at hid
      refine hid.mono ?_
      rintro e w2 ⟨rfl, hk2⟩
      have HB2 := ag ((ae HBK).kp0 hk2)
      clear hid hk2 x0 x1 x2 x3 x4 x5 x6 x7 v0 v1 v2 v3 v4 HBK
      have hx := (ae HB2).var (mt (mh))
      have hv := (ae HB2).var (mh)
      have x0 : w2.cell? ⟨q4, 0, none⟩ = some (.int .i64 6) := af hx rfl
      have x1 : w2.cell? ⟨q4, 1, none⟩ = some (.int .i64 (j : Int)) := af hx rfl
      have v1 : w2.cell? ⟨q5, 1, none⟩ = some (.int .i64 vn) := af hv rfl
      clear hx hv
      obtain ⟨l1, l2, hg⟩ := Edn.mk_ (ae HB2) hj hst vn
      have HG := ag hg
      have hob := px (ae HB2) hj hst
      have o0 : w2.cell? ⟨o.b, 0, none⟩ = some (.int .i64 o.d.n) := af hob rfl
      have fo0 := ak 0 hob
      clear hob
      have hobx := ai hg.zoo (mt (mh))
      have hbx := ai hg.zoo (mt (mt (mh)))
      obtain ⟨no, hno⟩ : ∃ n, o.ys.length = n := ⟨_, rfl⟩
      obtain ⟨n, hn⟩ : ∃ n, ys.length = n := ⟨_, rfl⟩
      have p0 : (w2.setCell ⟨o.b, 0, none⟩ (.int .i64 vn)).cell? ⟨o.b, 0, none⟩ = some (.int .i64 vn) := af hobx rfl
      have p1 : (w2.setCell ⟨o.b, 0, none⟩ (.int .i64 vn)).cell? ⟨o.b, 1, none⟩ = some (.int .i64 o.d.at_) := af hobx rfl
      have p2 : (w2.setCell ⟨o.b, 0, none⟩ (.int .i64 vn)).cell? ⟨o.b, 2, none⟩ = some (.int .i64 o.d.md) := af hobx rfl
      have p3 : (w2.setCell ⟨o.b, 0, none⟩ (.int .i64 vn)).cell? ⟨o.b, 3, none⟩ = some (.slice o.a no o.c) := by rw [← hno]; exact af hobx rfl
      have b5 : (w2.setCell ⟨o.b, 0, none⟩ (.int .i64 vn)).cell? ⟨bb, 5, none⟩ = some (.slice a n c) := by rw [← hn]; exact af hbx rfl
      have hbl := ah hbx
      have hol := ah hobx
      have hBw := Zoo.base hg.zoo
      have HROW : Hid (bn 36 4 w0.heap.size (w2.setCell ⟨o.b, 0, none⟩ (.int .i64 vn)) a n c (aP (ys.map Dy.x))) := by rw [← hn]; exact bq (l1 := []) hg.zoo
      have HN := ag hn
      have HNO := ag hno
      have hn1000 : n ≤ 1000 := by rw [← hn]; exact hlen
      clear hg hobx hbx hn hno hlen
      go_wp2_with fail
      clear o0 fo0 v1 x0 x1 HB2
      generalize w2.setCell ⟨o.b, 0, none⟩ (.int .i64 vn) = W1 at *
      have far := fun (W2 : World) (a2 : Option Addr) (c2 : Nat) (g1 : Hid (bn 36 4 w0.heap.size W2 a2 (n + 1) c2 (aP (ys.map Dy.x) ++ [.int .i64 vn, .int .i64 o.d.at_, .int .i64 o.d.md, .slice o.a no o.c]))) (g2 : Hid (Kp (ob a) (W1.alloc (.cells #[.int .i64 vn, .int .i64 o.d.at_, .int .i64 o.d.md, .slice o.a no o.c] 36)).drew W2)) (g3 : Hid (∀ x ∈ ob a2, x ∈ ob a ∨ (W1.alloc (.cells #[.int .i64 vn, .int .i64 o.d.at_, .int .i64 o.d.md, .slice o.a no o.c] 36)).drew.heap.size ≤ x)) => oW (ae HG) hj hst ((ae HB5).oa j o hst) (by rw [ae HN, ae HNO]; exact ae g1) (ae g2) (ae g3) ((Kp.refl [] W1).alloc (.cells #[.int .i64 vn, .int .i64 o.d.at_, .int .i64 o.d.md, .slice o.a no o.c] 36)).drew
      have FAR := ag far
      clear far
      go_region_law (refine bd (by rfl) (.tmp 25) (.tmp 29) 27 (by rfl) hu Tryz.info36 rfl (by omega) ((ae HROW).kp0 (((Kp.refl [] W1).alloc _).drew)) (by simp; omega) (.slice (some ⟨W1.heap.size, 0, none⟩) 1 1) [.int .i64 vn, .int .i64 o.d.at_, .int .i64 o.d.md, .slice o.a no o.c] 1 (by rfl) (by rfl) (aQ (cs := #[.int .i64 vn, .int .i64 o.d.at_, .int .i64 o.d.md, .slice o.a no o.c]) (T := 36) (fr := (0, 0)) hu (heap_alloc_new W1 _) rfl (by simp [Value.oneCell'])) (by omega) (n + 1) rfl ?_; intro a2 c2 w4 g1 g2 g3; obtain ⟨⟨zv, z1⟩, z2, z3, z4, z5⟩ := ae FAR w4 a2 c2 g1 g2 g3; clear g1 g2 g3; have HZ4 := ag z4; have HZ5 := ag z5; clear z4 z5)
      all_goals
       rw [ae HN] at HZ4 HZ5
       go_wp2_with fail
       generalize w4.setCell ⟨bb, 5, none⟩ (.slice a2 (n + 1) c2) = W5 at *
       have hx := ai (ae HZ4) mw
       have hb5 := ai (ae HZ4) (mt (mt (mh)))
       have x0 : W5.cell? ⟨q4, 0, none⟩ = some (.int .i64 6) := af hx rfl
       have x1 : W5.cell? ⟨q4, 1, none⟩ = some (.int .i64 (j : Int)) := af hx rfl
       have cj : W5.cell? ⟨bb, j, none⟩ = some (bp (st j)) := af hb5 (nN st a2 _ c2 hj)
       have fj := ak j hb5
       have nq : q4 ≠ bb := qK (ae HZ4) mx
       generalize hbp : bp (st j) = pj at *
       clear hbp hx hb5
       have i0 : (0 : Int) ≤ (j : Int) := by omega
       have i5 : (j : Int) < 5 := by omega
       go_wp2_with fail
       go_region
       go_wp2_with fail
       go_end0
       exact ⟨rfl, ae HCL _ ((ae HZ5).kp0 (Kp.refl [] _).drew)⟩
    | false =>
      have hbn : aY b ⟨6, j, xm, xa, xk, xt, xp, xb⟩ ⟨vc, vn, vt, vs, vl⟩ last = ⟨upd b.op j none, b.dn⟩ := by rw [ae HN0]; simp [hisd]
      rw [hbn]
      have HCL := ag (fun W {o1 o2 : ao} {a2 : Option Addr} {c2 : Nat} (h : aX w0 W bb (upd st j none) a2 c2 ys (o1 :: o2 :: r)) => bw ((ae HB5).not j) h.tail.tail)
      clear hbn
      go_enter Tryz.func44, Tryz.ntmps44
      go_wp2_with fail
      generalize (w.alloc (.cells #[.int .i64 6, .int .i64 (j : Int), .int .i64 xm, .int .i64 xa, .int .i64 xk, .int .i64 xt, .int .i64 xp, .string xb] 55)).alloc (.cells #[.int .i64 vc, .int .i64 vn, .bool vt, .string vs, .slice la ln lc] 74) = W at HBK ⊢
      generalize w.heap.size + 1 = q5 at HBK ⊢
      generalize w.heap.size = q4 at HBK ⊢
      refine (dh (j : Int) (ae HBK)).mono ?_
      rintro e w' ⟨rfl, hw'⟩
      subst w'
      rw [hbst]
      dsimp only [bp, Option.map_some]
      have hx := (ae HBK).var (mt (mh))
      have hv := (ae HBK).var (mh)
      have x0 : W.cell? ⟨q4, 0, none⟩ = some (.int .i64 6) := af hx rfl
      have x1 : W.cell? ⟨q4, 1, none⟩ = some (.int .i64 (j : Int)) := af hx rfl
      have x2 : W.cell? ⟨q4, 2, none⟩ = some (.int .i64 xm) := af hx rfl
      have x3 : W.cell? ⟨q4, 3, none⟩ = some (.int .i64 xa) := af hx rfl
      have x4 : W.cell? ⟨q4, 4, none⟩ = some (.int .i64 xk) := af hx rfl
      have x5 : W.cell? ⟨q4, 5, none⟩ = some (.int .i64 xt) := af hx rfl
      have x6 : W.cell? ⟨q4, 6, none⟩ = some (.int .i64 xp) := af hx rfl
      have x7 : W.cell? ⟨q4, 7, none⟩ = some (.string xb) := af hx rfl
      have v0 : W.cell? ⟨q5, 0, none⟩ = some (.int .i64 vc) := af hv rfl
      have v1 : W.cell? ⟨q5, 1, none⟩ = some (.int .i64 vn) := af hv rfl
      have v2 : W.cell? ⟨q5, 2, none⟩ = some (.bool vt) := af hv rfl
      have v3 : W.cell? ⟨q5, 3, none⟩ = some (.string vs) := af hv rfl
      have v4 : W.cell? ⟨q5, 4, none⟩ = some (.slice la ln lc) := af hv rfl
      clear hx hv
      go_wp2_with fail
      have hid := jp ⟨6, j, xm, xa, xk, xt, xp, xb⟩ ⟨vc, vn, vt, vs, vl⟩ la lc W
      dsimp only [xcs, ecl] at hid
      rw [ae HLL, hisd] at hid
      refine hid.mono ?_
      rintro e w2 ⟨rfl, hk2⟩
      have HB2 := ag ((ae HBK).kp0 hk2)
      clear hid hk2 x0 x1 x2 x3 x4 x5 x6 x7 v0 v1 v2 v3 v4 HBK
      have hx := (ae HB2).var (mt (mh))
      have hv := (ae HB2).var (mh)
      have x0 : w2.cell? ⟨q4, 0, none⟩ = some (.int .i64 6) := af hx rfl
      have x1 : w2.cell? ⟨q4, 1, none⟩ = some (.int .i64 (j : Int)) := af hx rfl
      have v1 : w2.cell? ⟨q5, 1, none⟩ = some (.int .i64 vn) := af hv rfl
      clear hx hv
      have cj := (ae HB2).cs_ hj
      have fj := (ae HB2).fz j
      generalize hbp : bp (st j) = pj at *
      clear hbp
      have nq : q4 ≠ bb := lD (ae HB2) (mt (mh))
      have i0 : (0 : Int) ≤ (j : Int) := by omega
      have i5 : (j : Int) < 5 := by omega
      go_wp2_with fail
      go_region
      go_wp2_with fail
      go_end0
      exact ⟨rfl, ae HCL _ (((ae HB2).drop hj).kp0 (Kp.refl [] _).drew)⟩
   by_cases h7 : xd = 7
   ·subst h7
    have hisd : isd ⟨7, j, xm, xa, xk, xt, xp, xb⟩ ⟨vc, vn, vt, vs, vl⟩ = false := by unfold isd; rw [if_neg (by show ¬ (7 : Int) = 6; omega), if_neg (by show ¬ (7 : Int) = 10; omega)]
    have hbn : aY b ⟨7, j, xm, xa, xk, xt, xp, xb⟩ ⟨vc, vn, vt, vs, vl⟩ last = ⟨upd b.op j none, b.dn⟩ := by rw [ae HN0]; simp [hisd]
    rw [hbn]
    have HCL := ag (fun W {o1 o2 : ao} {a2 : Option Addr} {c2 : Nat} (h : aX w0 W bb (upd st j none) a2 c2 ys (o1 :: o2 :: r)) => bw ((ae HB5).not j) h.tail.tail)
    clear hbn
    go_enter Tryz.func44, Tryz.ntmps44
    go_wp2_with fail
    generalize (w.alloc (.cells #[.int .i64 7, .int .i64 (j : Int), .int .i64 xm, .int .i64 xa, .int .i64 xk, .int .i64 xt, .int .i64 xp, .string xb] 55)).alloc (.cells #[.int .i64 vc, .int .i64 vn, .bool vt, .string vs, .slice la ln lc] 74) = W at HBK ⊢
    generalize w.heap.size + 1 = q5 at HBK ⊢
    generalize w.heap.size = q4 at HBK ⊢
    refine (dh (j : Int) (ae HBK)).mono ?_
    rintro e w' ⟨rfl, hw'⟩
    subst w'
    rw [hbst]
    dsimp only [bp, Option.map_some]
    have hx := (ae HBK).var (mt (mh))
    have hv := (ae HBK).var (mh)
    have x0 : W.cell? ⟨q4, 0, none⟩ = some (.int .i64 7) := af hx rfl
    have x1 : W.cell? ⟨q4, 1, none⟩ = some (.int .i64 (j : Int)) := af hx rfl
    have x2 : W.cell? ⟨q4, 2, none⟩ = some (.int .i64 xm) := af hx rfl
    have x3 : W.cell? ⟨q4, 3, none⟩ = some (.int .i64 xa) := af hx rfl
    have x4 : W.cell? ⟨q4, 4, none⟩ = some (.int .i64 xk) := af hx rfl
    have x5 : W.cell? ⟨q4, 5, none⟩ = some (.int .i64 xt) := af hx rfl
    have x6 : W.cell? ⟨q4, 6, none⟩ = some (.int .i64 xp) := af hx rfl
    have x7 : W.cell? ⟨q4, 7, none⟩ = some (.string xb) := af hx rfl
    have v0 : W.cell? ⟨q5, 0, none⟩ = some (.int .i64 vc) := af hv rfl
    have v1 : W.cell? ⟨q5, 1, none⟩ = some (.int .i64 vn) := af hv rfl
    have v2 : W.cell? ⟨q5, 2, none⟩ = some (.bool vt) := af hv rfl
    have v3 : W.cell? ⟨q5, 3, none⟩ = some (.string vs) := af hv rfl
    have v4 : W.cell? ⟨q5, 4, none⟩ = some (.slice la ln lc) := af hv rfl
    clear hx hv
    go_wp2_with fail
    have hid := jp ⟨7, j, xm, xa, xk, xt, xp, xb⟩ ⟨vc, vn, vt, vs, vl⟩ la lc W
    dsimp only [xcs, ecl] at hid
    rw [ae HLL, hisd] at hid
    refine hid.mono ?_
    rintro e w2 ⟨rfl, hk2⟩
    have HB2 := ag ((ae HBK).kp0 hk2)
    clear hid hk2 x0 x1 x2 x3 x4 x5 x6 x7 v0 v1 v2 v3 v4 HBK
    have hx := (ae HB2).var (mt (mh))
    have hv := (ae HB2).var (mh)
    have x0 : w2.cell? ⟨q4, 0, none⟩ = some (.int .i64 7) := af hx rfl
    have x1 : w2.cell? ⟨q4, 1, none⟩ = some (.int .i64 (j : Int)) := af hx rfl
    have v1 : w2.cell? ⟨q5, 1, none⟩ = some (.int .i64 vn) := af hv rfl
    clear hx hv
    have cj := (ae HB2).cs_ hj
    have fj := (ae HB2).fz j
    generalize hbp : bp (st j) = pj at *
    clear hbp
    have nq : q4 ≠ bb := lD (ae HB2) (mt (mh))
    have i0 : (0 : Int) ≤ (j : Int) := by omega
    have i5 : (j : Int) < 5 := by omega
    go_wp2_with fail
    go_region
    go_wp2_with fail
    go_end0
    exact ⟨rfl, ae HCL _ (((ae HB2).drop hj).kp0 (Kp.refl [] _).drew)⟩
   ·have h10 : xd = 10 := by omega
    subst h10
    cases hisd : isd ⟨10, j, xm, xa, xk, xt, xp, xb⟩ ⟨vc, vn, vt, vs, vl⟩ with
    | true =>
      have hbn : aY b ⟨10, j, xm, xa, xk, xt, xp, xb⟩ ⟨vc, vn, vt, vs, vl⟩ last = ⟨(fun _ => none), b.dn ++ [⟨vn, o.d.at_, o.d.md, o.d.acts⟩]⟩ := by rw [ae HN0]; simp [hisd]
      rw [hbn]
      have HCL := ag (fun W {o1 o2 : ao} {a2 : Option Addr} {c2 : Nat} (h : aX w0 W bb (fun _ => none) a2 c2 (ys ++ [dy1 o vn]) (o1 :: o2 :: r)) => bw (((ae HB5).done hst vn).leave) h.tail.tail)
      clear hbn
      go_enter Tryz.func44, Tryz.ntmps44
      go_wp2_with fail
      generalize (w.alloc (.cells #[.int .i64 10, .int .i64 (j : Int), .int .i64 xm, .int .i64 xa, .int .i64 xk, .int .i64 xt, .int .i64 xp, .string xb] 55)).alloc (.cells #[.int .i64 vc, .int .i64 vn, .bool vt, .string vs, .slice la ln lc] 74) = W at HBK ⊢
      generalize w.heap.size + 1 = q5 at HBK ⊢
      generalize w.heap.size = q4 at HBK ⊢
      refine (dh (j : Int) (ae HBK)).mono ?_
      rintro e w' ⟨rfl, hw'⟩
      subst w'
      rw [hbst]
      dsimp only [bp, Option.map_some]
      have hx := (ae HBK).var (mt (mh))
      have hv := (ae HBK).var (mh)
      have x0 : W.cell? ⟨q4, 0, none⟩ = some (.int .i64 10) := af hx rfl
      have x1 : W.cell? ⟨q4, 1, none⟩ = some (.int .i64 (j : Int)) := af hx rfl
      have x2 : W.cell? ⟨q4, 2, none⟩ = some (.int .i64 xm) := af hx rfl
      have x3 : W.cell? ⟨q4, 3, none⟩ = some (.int .i64 xa) := af hx rfl
      have x4 : W.cell? ⟨q4, 4, none⟩ = some (.int .i64 xk) := af hx rfl
      have x5 : W.cell? ⟨q4, 5, none⟩ = some (.int .i64 xt) := af hx rfl
      have x6 : W.cell? ⟨q4, 6, none⟩ = some (.int .i64 xp) := af hx rfl
      have x7 : W.cell? ⟨q4, 7, none⟩ = some (.string xb) := af hx rfl
      have v0 : W.cell? ⟨q5, 0, none⟩ = some (.int .i64 vc) := af hv rfl
      have v1 : W.cell? ⟨q5, 1, none⟩ = some (.int .i64 vn) := af hv rfl
      have v2 : W.cell? ⟨q5, 2, none⟩ = some (.bool vt) := af hv rfl
      have v3 : W.cell? ⟨q5, 3, none⟩ = some (.string vs) := af hv rfl
      have v4 : W.cell? ⟨q5, 4, none⟩ = some (.slice la ln lc) := af hv rfl
      clear hx hv
      go_wp2_with fail
      have hid := jp ⟨10, j, xm, xa, xk, xt, xp, xb⟩ ⟨vc, vn, vt, vs, vl⟩ la lc W
      dsimp only [xcs, ecl] at hid
      rw [ae HLL, hisd] at hid
      refine hid.mono ?_
      rintro e w2 ⟨rfl, hk2⟩
      have HB2 := ag ((ae HBK).kp0 hk2)
      clear hid hk2 x0 x1 x2 x3 x4 x5 x6 x7 v0 v1 v2 v3 v4 HBK
      have hx := (ae HB2).var (mt (mh))
      have hv := (ae HB2).var (mh)
      have x0 : w2.cell? ⟨q4, 0, none⟩ = some (.int .i64 10) := af hx rfl
      have x1 : w2.cell? ⟨q4, 1, none⟩ = some (.int .i64 (j : Int)) := af hx rfl
      have v1 : w2.cell? ⟨q5, 1, none⟩ = some (.int .i64 vn) := af hv rfl
      clear hx hv
      obtain ⟨l1, l2, hg⟩ := Edn.mk_ (ae HB2) hj hst vn
      have HG := ag hg
      have hob := px (ae HB2) hj hst
      have o0 : w2.cell? ⟨o.b, 0, none⟩ = some (.int .i64 o.d.n) := af hob rfl
      have fo0 := ak 0 hob
      clear hob
      have hobx := ai hg.zoo (mt (mh))
      have hbx := ai hg.zoo (mt (mt (mh)))
      obtain ⟨no, hno⟩ : ∃ n, o.ys.length = n := ⟨_, rfl⟩
      obtain ⟨n, hn⟩ : ∃ n, ys.length = n := ⟨_, rfl⟩
      have p0 : (w2.setCell ⟨o.b, 0, none⟩ (.int .i64 vn)).cell? ⟨o.b, 0, none⟩ = some (.int .i64 vn) := af hobx rfl
      have p1 : (w2.setCell ⟨o.b, 0, none⟩ (.int .i64 vn)).cell? ⟨o.b, 1, none⟩ = some (.int .i64 o.d.at_) := af hobx rfl
      have p2 : (w2.setCell ⟨o.b, 0, none⟩ (.int .i64 vn)).cell? ⟨o.b, 2, none⟩ = some (.int .i64 o.d.md) := af hobx rfl
      have p3 : (w2.setCell ⟨o.b, 0, none⟩ (.int .i64 vn)).cell? ⟨o.b, 3, none⟩ = some (.slice o.a no o.c) := by rw [← hno]; exact af hobx rfl
      have b5 : (w2.setCell ⟨o.b, 0, none⟩ (.int .i64 vn)).cell? ⟨bb, 5, none⟩ = some (.slice a n c) := by rw [← hn]; exact af hbx rfl
      have hbl := ah hbx
      have hol := ah hobx
      have hBw := Zoo.base hg.zoo
      have HROW : Hid (bn 36 4 w0.heap.size (w2.setCell ⟨o.b, 0, none⟩ (.int .i64 vn)) a n c (aP (ys.map Dy.x))) := by rw [← hn]; exact bq (l1 := []) hg.zoo
      have HN := ag hn
      have HNO := ag hno
      have hn1000 : n ≤ 1000 := by rw [← hn]; exact hlen
      clear hg hobx hbx hn hno hlen
      go_wp2_with fail
      clear o0 fo0 v1 x0 x1 HB2
      generalize w2.setCell ⟨o.b, 0, none⟩ (.int .i64 vn) = W1 at *
      have far := fun (W2 : World) (a2 : Option Addr) (c2 : Nat) (g1 : Hid (bn 36 4 w0.heap.size W2 a2 (n + 1) c2 (aP (ys.map Dy.x) ++ [.int .i64 vn, .int .i64 o.d.at_, .int .i64 o.d.md, .slice o.a no o.c]))) (g2 : Hid (Kp (ob a) (W1.alloc (.cells #[.int .i64 vn, .int .i64 o.d.at_, .int .i64 o.d.md, .slice o.a no o.c] 36)).drew W2)) (g3 : Hid (∀ x ∈ ob a2, x ∈ ob a ∨ (W1.alloc (.cells #[.int .i64 vn, .int .i64 o.d.at_, .int .i64 o.d.md, .slice o.a no o.c] 36)).drew.heap.size ≤ x)) => oW (ae HG) hj hst ((ae HB5).oa j o hst) (by rw [ae HN, ae HNO]; exact ae g1) (ae g2) (ae g3) ((Kp.refl [] W1).alloc (.cells #[.int .i64 vn, .int .i64 o.d.at_, .int .i64 o.d.md, .slice o.a no o.c] 36)).drew
      have FAR := ag far
      clear far
      go_region_law (refine bd (by rfl) (.tmp 25) (.tmp 29) 27 (by rfl) hu Tryz.info36 rfl (by omega) ((ae HROW).kp0 (((Kp.refl [] W1).alloc _).drew)) (by simp; omega) (.slice (some ⟨W1.heap.size, 0, none⟩) 1 1) [.int .i64 vn, .int .i64 o.d.at_, .int .i64 o.d.md, .slice o.a no o.c] 1 (by rfl) (by rfl) (aQ (cs := #[.int .i64 vn, .int .i64 o.d.at_, .int .i64 o.d.md, .slice o.a no o.c]) (T := 36) (fr := (0, 0)) hu (heap_alloc_new W1 _) rfl (by simp [Value.oneCell'])) (by omega) (n + 1) rfl ?_; intro a2 c2 w4 g1 g2 g3; obtain ⟨⟨zv, z1⟩, z2, z3, z4, z5⟩ := ae FAR w4 a2 c2 g1 g2 g3; clear g1 g2 g3; have HZ4 := ag z4; have HZ5 := ag z5; clear z4 z5)
      all_goals
       rw [ae HN] at HZ4 HZ5
       go_wp2_with fail
       generalize w4.setCell ⟨bb, 5, none⟩ (.slice a2 (n + 1) c2) = W5 at *
       have hx := ai (ae HZ4) mw
       have hb5 := ai (ae HZ4) (mt (mt (mh)))
       have x0 : W5.cell? ⟨q4, 0, none⟩ = some (.int .i64 10) := af hx rfl
       have x1 : W5.cell? ⟨q4, 1, none⟩ = some (.int .i64 (j : Int)) := af hx rfl
       have cj : W5.cell? ⟨bb, j, none⟩ = some (bp (st j)) := af hb5 (nN st a2 _ c2 hj)
       have fj := ak j hb5
       have nq : q4 ≠ bb := qK (ae HZ4) mx
       generalize hbp : bp (st j) = pj at *
       clear hbp hx hb5
       have i0 : (0 : Int) ≤ (j : Int) := by omega
       have i5 : (j : Int) < 5 := by omega
       go_wp2_with fail
       go_region
       have HFF := ag ((ae HZ5).kp0 (Kp.refl [] _).drew)
       go_wp2_with fail
       refine (fA (ae HFF)).mono ?_
       rintro e w9 ⟨rfl, HB9⟩
       go_wp2_with fail
       go_end0
       exact ⟨rfl, ae HCL _ (ae HB9)⟩
    | false =>
      have hbn : aY b ⟨10, j, xm, xa, xk, xt, xp, xb⟩ ⟨vc, vn, vt, vs, vl⟩ last = ⟨(fun _ => none), b.dn⟩ := by rw [ae HN0]; simp [hisd]
      rw [hbn]
      have HCL := ag (fun W {o1 o2 : ao} {a2 : Option Addr} {c2 : Nat} (h : aX w0 W bb (fun _ => none) a2 c2 ys (o1 :: o2 :: r)) => bw (((ae HB5).not j).leave) h.tail.tail)
      clear hbn
      go_enter Tryz.func44, Tryz.ntmps44
      go_wp2_with fail
      generalize (w.alloc (.cells #[.int .i64 10, .int .i64 (j : Int), .int .i64 xm, .int .i64 xa, .int .i64 xk, .int .i64 xt, .int .i64 xp, .string xb] 55)).alloc (.cells #[.int .i64 vc, .int .i64 vn, .bool vt, .string vs, .slice la ln lc] 74) = W at HBK ⊢
      generalize w.heap.size + 1 = q5 at HBK ⊢
      generalize w.heap.size = q4 at HBK ⊢
      refine (dh (j : Int) (ae HBK)).mono ?_
      rintro e w' ⟨rfl, hw'⟩
      subst w'
      rw [hbst]
      dsimp only [bp, Option.map_some]
      have hx := (ae HBK).var (mt (mh))
      have hv := (ae HBK).var (mh)
      have x0 : W.cell? ⟨q4, 0, none⟩ = some (.int .i64 10) := af hx rfl
      have x1 : W.cell? ⟨q4, 1, none⟩ = some (.int .i64 (j : Int)) := af hx rfl
      have x2 : W.cell? ⟨q4, 2, none⟩ = some (.int .i64 xm) := af hx rfl
      have x3 : W.cell? ⟨q4, 3, none⟩ = some (.int .i64 xa) := af hx rfl
      have x4 : W.cell? ⟨q4, 4, none⟩ = some (.int .i64 xk) := af hx rfl
      have x5 : W.cell? ⟨q4, 5, none⟩ = some (.int .i64 xt) := af hx rfl
      have x6 : W.cell? ⟨q4, 6, none⟩ = some (.int .i64 xp) := af hx rfl
      have x7 : W.cell? ⟨q4, 7, none⟩ = some (.string xb) := af hx rfl
      have v0 : W.cell? ⟨q5, 0, none⟩ = some (.int .i64 vc) := af hv rfl
      have v1 : W.cell? ⟨q5, 1, none⟩ = some (.int .i64 vn) := af hv rfl
      have v2 : W.cell? ⟨q5, 2, none⟩ = some (.bool vt) := af hv rfl
      have v3 : W.cell? ⟨q5, 3, none⟩ = some (.string vs) := af hv rfl
      have v4 : W.cell? ⟨q5, 4, none⟩ = some (.slice la ln lc) := af hv rfl
      clear hx hv
      go_wp2_with fail
      have hid := jp ⟨10, j, xm, xa, xk, xt, xp, xb⟩ ⟨vc, vn, vt, vs, vl⟩ la lc W
      dsimp only [xcs, ecl] at hid
      rw [ae HLL, hisd] at hid
      refine hid.mono ?_
      rintro e w2 ⟨rfl, hk2⟩
      have HB2 := ag ((ae HBK).kp0 hk2)
      clear hid hk2 x0 x1 x2 x3 x4 x5 x6 x7 v0 v1 v2 v3 v4 HBK
      have hx := (ae HB2).var (mt (mh))
      have hv := (ae HB2).var (mh)
      have x0 : w2.cell? ⟨q4, 0, none⟩ = some (.int .i64 10) := af hx rfl
      have x1 : w2.cell? ⟨q4, 1, none⟩ = some (.int .i64 (j : Int)) := af hx rfl
      have v1 : w2.cell? ⟨q5, 1, none⟩ = some (.int .i64 vn) := af hv rfl
      clear hx hv
      have cj := (ae HB2).cs_ hj
      have fj := (ae HB2).fz j
      generalize hbp : bp (st j) = pj at *
      clear hbp
      have nq : q4 ≠ bb := lD (ae HB2) (mt (mh))
      have i0 : (0 : Int) ≤ (j : Int) := by omega
      have i5 : (j : Int) < 5 := by omega
      go_wp2_with fail
      go_region
      have HFF := ag (((ae HB2).drop hj).kp0 (Kp.refl [] _).drew)
      go_wp2_with fail
      refine (fA (ae HFF)).mono ?_
      rintro e w9 ⟨rfl, HB9⟩
      go_wp2_with fail
      go_end0
      exact ⟨rfl, ae HCL _ (ae HB9)⟩
theorem wF {w0 w : World} {bb : Nat} {b : Bk} {r : List ao} (x : ax) (v : Ev) (la : Option Addr) (lc : Nat) (last : Int) (hls : SlO w la v.l) (hll : v.l.length ≤ 1000) (hb : ∀ s o, b.op s = some o → o.acts.length ≤ 1000) (hd : b.dn.length ≤ 1000) (hz : Zoo w0 w (BkT bb b :: r)) :
 Calls Tryz.prog 21 #[.pointer (some ⟨bb, 0, none⟩), .agg (xcs x), .agg (ecl v la lc), .int .i64 last] w fun e w' => e = .returned (.tuple #[]) ∧ Hid (Zoo w0 w' (BkT bb (aY b x v last) :: r)) := by
 have hk := ((Kp.refl [] w).alloc (.cells (xcs x) 55)).alloc (.cells (ecl v la lc) 74)
 have HZ := ag (hz.kp0 hk)
 have HB := ag (fun h : x.d = 1 => tU x v la lc last h (hz.kp0 hk))
 have HG := ag (fun h : 2 ≤ x.d ∧ x.d ≤ 5 => wH x v la lc last h (hls.kp0 hk) hll hb (hz.kp0 hk))
 have HE := ag (fun h : x.d = 6 ∨ x.d = 7 ∨ x.d = 10 => yY x v la lc last h hd (hz.kp0 hk))
 have HK := ag (fun h : x.d < 1 ∨ 10 < x.d ∨ x.d = 8 => gQ (b := b) (e := v) (last := last) h)
 have HC := ag (fun h : x.d = 9 => (show aY b x v last = ⟨fun _ => none, b.dn⟩ by unfold aY; rw [if_neg (by omega), if_neg (by omega), if_neg (by omega), if_pos h]))
 clear hk hz hls hll hb hd
 obtain ⟨xd, xs, xm, xa, xk, xt, xp, xb⟩ := x
 obtain ⟨vc, vn, vt, vs, vl⟩ := v
 dsimp only [xcs, ecl] at *
 generalize vl.length = ln at *
 by_cases h1 : xd = 1
 ·subst h1
  have HY := ag (ae HB (rfl))
  go_enter Tryz.func21, Tryz.ntmps21
  go_wp2_with fail
  refine (ae HY).mono ?_
  rintro e w2 ⟨rfl, HR⟩
  go_wp2_with fail
  go_end0
  exact ⟨rfl, ae HR⟩
 by_cases h2 : xd = 2
 ·subst h2
  have HY := ag (ae HG (by omega))
  go_enter Tryz.func21, Tryz.ntmps21
  go_wp2_with fail
  refine (ae HY).mono ?_
  rintro e w2 ⟨rfl, HR⟩
  go_wp2_with fail
  go_end0
  exact ⟨rfl, ae HR⟩
 by_cases h3 : xd = 3
 ·subst h3
  have HY := ag (ae HG (by omega))
  go_enter Tryz.func21, Tryz.ntmps21
  go_wp2_with fail
  refine (ae HY).mono ?_
  rintro e w2 ⟨rfl, HR⟩
  go_wp2_with fail
  go_end0
  exact ⟨rfl, ae HR⟩
 by_cases h4 : xd = 4
 ·subst h4
  have HY := ag (ae HG (by omega))
  go_enter Tryz.func21, Tryz.ntmps21
  go_wp2_with fail
  refine (ae HY).mono ?_
  rintro e w2 ⟨rfl, HR⟩
  go_wp2_with fail
  go_end0
  exact ⟨rfl, ae HR⟩
 by_cases h5 : xd = 5
 ·subst h5
  have HY := ag (ae HG (by omega))
  go_enter Tryz.func21, Tryz.ntmps21
  go_wp2_with fail
  refine (ae HY).mono ?_
  rintro e w2 ⟨rfl, HR⟩
  go_wp2_with fail
  go_end0
  exact ⟨rfl, ae HR⟩
 by_cases h6 : xd = 6
 ·subst h6
  have HY := ag (ae HE (.inl rfl))
  go_enter Tryz.func21, Tryz.ntmps21
  go_wp2_with fail
  refine (ae HY).mono ?_
  rintro e w2 ⟨rfl, HR⟩
  go_wp2_with fail
  go_end0
  exact ⟨rfl, ae HR⟩
 by_cases h7 : xd = 7
 ·subst h7
  have HY := ag (ae HE (.inr (.inl rfl)))
  go_enter Tryz.func21, Tryz.ntmps21
  go_wp2_with fail
  refine (ae HY).mono ?_
  rintro e w2 ⟨rfl, HR⟩
  go_wp2_with fail
  go_end0
  exact ⟨rfl, ae HR⟩
 by_cases h10 : xd = 10
 ·subst h10
  have HY := ag (ae HE (.inr (.inr rfl)))
  go_enter Tryz.func21, Tryz.ntmps21
  go_wp2_with fail
  refine (ae HY).mono ?_
  rintro e w2 ⟨rfl, HR⟩
  go_wp2_with fail
  go_end0
  exact ⟨rfl, ae HR⟩
 by_cases h9 : xd = 9
 ·subst h9
  obtain ⟨st, a, c, ys, hb5, hbk⟩ := gR (ae HZ)
  have HBK := ag hbk
  have HB5 := ag hb5
  rw [ae HC rfl]
  clear hb5 hbk
  go_enter Tryz.func21, Tryz.ntmps21
  go_wp2_with fail
  refine (fA (ae HBK)).mono ?_
  rintro e w2 ⟨rfl, HR⟩
  go_wp2_with fail
  go_end0
  exact ⟨rfl, bw (ae HB5).leave (ae HR)⟩
 ·rw [ae HK (by omega)]
  go_enter Tryz.func21, Tryz.ntmps21
  go_wp2_with fail
  go_end0
  exact ⟨rfl, ae HZ⟩
theorem jn {e : TypeId} {k B : Nat} {w : World} {a : Option Addr} {n cap : Nat} {xs : List Value} (h : bn e k B w a n cap xs) : n ≤ cap := by
 rcases h.2 with ⟨_, e1, e2⟩ | ⟨g, cur, _, _, _, h4, _⟩
 ·omega
 ·exact h4
theorem dd {w : World} {o : Obj} {n : Nat} (h : w.heap.size = n) : (w.alloc o).heap[n]? = some o := by
 subst h
 exact heap_alloc_new _ _
theorem oF {w0 w : World} {a : Option Addr} {c : Nat} {ys : List Dy} {os : List ao} (hz : Zoo w0 w os) (h1 : KwT 36 4 a ys.length c (aP (ys.map Dy.x)) ∈ os) (h2 : ∀ y, y ∈ ys → dyT y ∈ os) (h3 : ∀ y, y ∈ ys → y.x.d.acts = y.ys.map Ax.x) : fp w a (ys.map (fun y => y.x.d)) := by
 obtain ⟨k1, k2, ek⟩ := List.append_of_mem h1
 have hrow : bn 36 4 w0.heap.size w a ys.length c (aP (ys.map Dy.x)) := bq (l1 := k1) (r := k2) (by rw [← ek]; exact hz)
 intro hp
 rw [List.length_map] at hp
 have hat : ∀ {i : Nat} {y : Dy}, ys[i]? = some y → (ys.map Dy.x)[i]? = some y.x := fun {i y} h => by rw [List.getElem?_map, h]; rfl
 obtain ⟨g, e, _⟩ := hrow.cell (fg (hat (List.getElem?_eq_getElem hp))).1
 refine ⟨g, 0, e, fun i d hd => ?_⟩
 rw [List.getElem?_map] at hd
 cases hy : ys[i]? with
 | none => rw [hy] at hd; cases hd
 | some y =>
   rw [hy] at hd
   simp only [Option.map_some, Option.some.injEq] at hd
   subst hd
   obtain ⟨c0, c1, c2, c3⟩ := fg (hat hy)
   have key : ∀ {j : Nat} {v : Value}, (aP (ys.map Dy.x))[j]? = some v → w.cell? ⟨g, j, none⟩ = some v := fun {j v} hv => by
    obtain ⟨g', e', hc⟩ := hrow.cell hv
    rw [e] at e'
    simp only [Option.some.injEq, Addr.mk.injEq, and_true] at e'
    rw [e']
    exact hc
   have hm := List.mem_of_getElem? hy
   rw [Nat.zero_add]
   refine ⟨key c0, key c1, key c2, ⟨y.x.a, y.x.c, key c3, ?_⟩, y.x.a, y.x.c, key c3, ?_⟩
   ·obtain ⟨l1, l2, el⟩ := List.append_of_mem (h2 y hm)
    have := jn (fU (l1 := l1) (r := l2) (zs := y.ys) (show Zoo w0 w (l1 ++ cV y.x.a y.x.c y.ys :: l2) by have z := hz; rw [el] at z; exact z))
    rw [h3 y hm, List.length_map]
    exact this
   rw [h3 y hm]
   exact zj hz (h2 y hm)
structure BlO (ds : List Dn) (w wr : World) (al : Option Addr) (cl n k : Nat) (ys : List Dy) : Prop where
 zoo : Zoo w wr (KwT 36 4 al n cl (aP (ys.map Dy.x)) :: ys.map dyT)
 nl : n = ys.length
 map : ys.map (fun y => y.x.d) = ds.take k
 acts : ∀ y, y ∈ ys → y.x.d.acts = y.ys.map Ax.x
structure BlI (acts : List Ac) (w wr : World) (aI : Option Addr) (cI m i : Nat) (zs : List Ax) (R : List ao) : Prop where
 zoo : Zoo w wr (cV aI cI zs :: R)
 nl : m = zs.length
 map : zs.map Ax.x = acts.take i
theorem BlI.step {acts : List Ac} {w wr w3 W w4 : World} {aI a2 : Option Addr} {cI c2 m i q : Nat} {zs : List Ax} {R : List ao} {x : Ac} {a3 : Option Addr} {c3 : Nat} (h : BlI acts w wr aI cI m i zs R) (hx : acts[i]? = some x)
 (hW : Zoo w W (axT ⟨x, a3, c3⟩ :: au q (axc ⟨x, a3, c3⟩).toArray 43 :: cV aI cI zs :: R)) (hk : Kp [] W w3)
 (g1 : bn 43 6 w.heap.size w4 a2 (m + 1) c2 (bS zs ++ axc ⟨x, a3, c3⟩)) (g2 : Kp (ob aI) w3 w4) (g3 : ∀ x ∈ ob a2, x ∈ ob aI ∨ w3.heap.size ≤ x) : BlI acts w w4 a2 c2 (m + 1) (i + 1) (zs ++ [⟨x, a3, c3⟩]) R := by
 have h1 := aH (hW.kp0 hk)
 have h2 := fC h1 (by rw [← h.nl]; exact g1) g2 g3
 refine ⟨h2, by rw [List.length_append, h.nl]; rfl, ?_⟩
 rw [List.map_append, h.map, List.take_add_one, hx]
 rfl
def ui (ds : List Dn) (w : World) (e : Ending) (w' : World) : Prop := ∃ a c, e = .returned (.slice a ds.length c) ∧ fp w' a ds ∧ Kp [] w w'
theorem wG {w0 w : World} {bb : Nat} {b : Bk} {r : List ao} (hz : Zoo w0 w (BkT bb b :: r)) (hok : iu b.dn) :
 Calls Tryz.prog 23 #[.pointer (some ⟨bb, 0, none⟩)] w (ui b.dn w) := by
 have hu := Tryz.underlying27
 have hua := Tryz.underlying26
 obtain ⟨st, a, c, ys, hb5, hbk⟩ := gR hz
 have hdn : fp w a b.dn := by
  rw [← hb5.dn]
  exact oF hbk (mt (mh)) (fun y hy => List.mem_append_left _ (List.mem_cons_of_mem _ (List.mem_cons_of_mem _ (List.mem_append_left _ (List.mem_map_of_mem hy))))) hb5.da
 have hlen : ys.length = b.dn.length := by rw [← hb5.dn, List.length_map]
 have c5 := hbk.c5
 rw [hlen] at c5
 obtain ⟨ds, hds⟩ : ∃ ds, b.dn = ds := ⟨_, rfl⟩
 rw [hds] at hdn hok c5 ⊢
 have HD := ag hdn
 have HO := ag hok
 have hm := hok.1
 obtain ⟨m, hmm⟩ : ∃ m, ds.length = m := ⟨_, rfl⟩
 rw [hmm] at c5 hm
 have HM := ag hmm
 clear hdn hok hb5 hbk hz hlen hds hmm
 go_enter Tryz.func23, Tryz.ntmps23
 go_wp2_with fail
 go_loopw [3, 5, 6, 8, 14] (fun x _ _ _ y wr => ∃ (k : Nat) (al : Option Addr) (cl n : Nat), k ≤ m ∧ x = .slice al n cl ∧ y = .int .i64 k ∧ n ≤ k ∧ Hid (∃ ys, BlO ds w wr al cl n k ys)) (fun _ _ _ _ y _ => m - (intOf y).toNat)
 case atStart => exact ⟨0, none, 0, 0, Nat.zero_le _, rfl, rfl, Nat.le_refl _, [], du _ 4 (cg (Kp.refl [] w)), rfl, rfl, fun y hy => by simp at hy⟩
 case round =>
  obtain ⟨k, al, cl, n, hk, rfl, rfl, hnk, HI⟩ := hrel
  obtain ⟨ys, hi⟩ := ae HI
  have HL := ag hi
  clear hi HI
  by_cases hlt : k < m
  ·have i1 : (k : Int) < (m : Int) := by omega
   have i0 : (0 : Int) ≤ (k : Int) := by omega
   have hln : k < ds.length := by have := ae HM; omega
   obtain ⟨g, o, rfl, hb⟩ := (ae HD) (by omega)
   obtain ⟨x, hx⟩ : ∃ x, ds[k]? = some x := ⟨_, List.getElem?_eq_getElem hln⟩
   have htk : ds.take (k + 1) = ds.take k ++ [x] := by rw [List.take_add_one, hx]; rfl
   have HT := ag htk
   have hxok := (ae HO).2 x (List.mem_of_getElem? hx)
   have hat := hb k x hx
   have hkw := (ae HL).zoo.kp
   obtain ⟨la, lc, z3, hls⟩ := hat.ls
   have HLS := ag hls
   have q0 := (hat.kp0 hkw).c0
   have q1 := (hat.kp0 hkw).c1
   have q2 : wr.cell? ⟨g, o + k * 4 + 1 + 1, none⟩ = _ := (hat.kp0 hkw).c2
   have q3 : wr.cell? ⟨g, o + k * 4 + 1 + 1 + 1, none⟩ = _ := hkw.cell (by simp) z3
   clear hat hb hx hls z3 hkw htk
   obtain ⟨xn, xa, xm, xacts⟩ := x
   dsimp only at q0 q1 q2 q3 HLS hxok
   have HXO := ag hxok
   have hlx1 := hxok.1
   obtain ⟨ln, hlen⟩ : ∃ ln, xacts.length = ln := ⟨_, rfl⟩
   rw [hlen] at q3 hlx1
   have HLN := ag hlen
   clear hlen hxok
   have HI0 := ag (show BlI xacts w (wr.alloc (.cells #[.int .i64 xn, .int .i64 xa, .int .i64 xm, .slice la ln lc] 36)) none 0 0 0 [] (au wr.heap.size #[.int .i64 xn, .int .i64 xa, .int .i64 xm, .slice la ln lc] 36 :: (KwT 36 4 al n cl (aP (ys.map Dy.x)) :: ys.map dyT)) from ⟨ic (zs := []) (du _ 6 ((ae HL).zoo.box #[.int .i64 xn, .int .i64 xa, .int .i64 xm, .slice la ln lc] 36)), rfl, rfl⟩)
   go_wp2_with fail
   generalize wr.heap.size = q5 at *
   generalize wr.alloc (.cells #[.int .i64 xn, .int .i64 xa, .int .i64 xm, .slice la ln lc] 36) = w5 at *
   clear q0 q1 q2 q3
   go_loopw [6, 8, 21] (fun x _ y wr => ∃ (i : Nat) (aI : Option Addr) (cI n2 : Nat), i ≤ ln ∧ x = .slice aI n2 cI ∧ y = .int .i64 i ∧ n2 ≤ i ∧ Hid (∃ zs, BlI xacts w wr aI cI n2 i zs (au q5 #[.int .i64 xn, .int .i64 xa, .int .i64 xm, .slice la ln lc] 36 :: (KwT 36 4 al n cl (aP (ys.map Dy.x)) :: ys.map dyT)))) (fun _ _ y _ => ln - (intOf y).toNat)
   case atStart => exact ⟨0, none, 0, 0, Nat.zero_le _, rfl, rfl, Nat.le_refl _, [], ae HI0⟩
   case round =>
    obtain ⟨i, aI, cI, n2, hil, rfl, rfl, hn2, HI2⟩ := hrel
    obtain ⟨zs, hi2⟩ := ae HI2
    have HZI := ag hi2
    clear hi2 HI2 HI0
    by_cases hlt2 : i < ln
    ·have j1 : (i : Int) < (ln : Int) := by omega
     have j0 : (0 : Int) ≤ (i : Int) := by omega
     have hln2 : i < xacts.length := by have := ae HLN; omega
     obtain ⟨b2, o2, rfl, hb2⟩ := (ae HLS).kp0 (ae HZI).zoo.kp (by omega)
     obtain ⟨x, hx⟩ : ∃ x, xacts[i]? = some x := ⟨_, List.getElem?_eq_getElem hln2⟩
     have HX := ag hx
     have hxl : x.l.length ≤ 1000 := (ae HXO).2 x (List.mem_of_getElem? hx)
     have hat := hb2 i x hx
     obtain ⟨la2, lc2, z5, hls2⟩ := hat.ls
     have q0 := hat.c0
     have q1 := hat.c1
     have q2 : wr.cell? ⟨b2, o2 + i * 6 + 1 + 1, none⟩ = _ := hat.c2
     have q3 : wr.cell? ⟨b2, o2 + i * 6 + 1 + 1 + 1, none⟩ = _ := hat.c3
     have q4 : wr.cell? ⟨b2, o2 + i * 6 + 1 + 1 + 1 + 1, none⟩ = _ := hat.c4
     have q5' : wr.cell? ⟨b2, o2 + i * 6 + 1 + 1 + 1 + 1 + 1, none⟩ = _ := z5
     have HL2 := ag hls2
     clear hat hb2 hx hls2 z5
     obtain ⟨kd, key, to_, xt, xs, xl⟩ := x
     dsimp only at q0 q1 q2 q3 q4 q5' hxl HL2
     obtain ⟨l2, hlen2⟩ : ∃ l2, xl.length = l2 := ⟨_, rfl⟩
     rw [hlen2] at q5'
     have HLN2 := ag hlen2
     clear hlen2
     have HB1 := ag ((ae HZI).zoo.box #[.int .i64 kd, .int .i64 key, .int .i64 to_, .bool xt, .string xs, .slice la2 l2 lc2] 43)
     have HL3 := ag ((ae HL2).kp0 ((Kp.refl [] wr).alloc (.cells #[.int .i64 kd, .int .i64 key, .int .i64 to_, .bool xt, .string xs, .slice la2 l2 lc2] 43)))
     go_wp2_with fail
     generalize wr.heap.size = q8 at *
     generalize wr.alloc (.cells #[.int .i64 kd, .int .i64 key, .int .i64 to_, .bool xt, .string xs, .slice la2 l2 lc2] 43) = w6 at *
     rw [← ae HLN2]
     refine (mM la2 lc2 xl w6 (ae HL3) hxl).mono ?_
     rintro e w7 ⟨a3, c3, rfl, hr3, hk3⟩
     rw [ae HLN2]
     have HB2 := ag ((ae HB1).cons (o := KwT 98 3 a3 xl.length c3 (aw xl)) (F := ob a3) ⟨hr3, rfl⟩ hk3)
     clear hr3 hk3 HB1 HL3 HL2 q0 q1 q2 q3 q4 q5'
     obtain ⟨F8, ⟨hbx8, e8, f8⟩, k8⟩ := bW (ae HB2)
     have HB3 := ag (k8 (au q8 #[.int .i64 kd, .int .i64 key, .int .i64 to_, .bool xt, .string xs, .slice a3 l2 c3] 43) (w7.setCell ⟨q8, 5, none⟩ (.slice a3 l2 c3)) ⟨F8, ⟨by rw [an _ _ hbx8]; rfl, e8, f8⟩, by rw [e8]; exact (Kp.refl [q8] _).setCell (.inl (by simp)) _, fun x hx => .inl hx⟩)
     have y5 : w7.cell? ⟨q8, 5, none⟩ = some (.slice la2 l2 lc2) := af hbx8 rfl
     have fy5 := ak 5 hbx8
     clear hbx8 e8 f8 k8 HB2
     have hb3 := ai (ae HB3) (mt (mh))
     have hBw := Zoo.base (ae HB3)
     have y10 : (w7.setCell ⟨q8, 5, none⟩ (.slice a3 l2 c3)).cell? ⟨q8, 0, none⟩ = some (.int .i64 kd) := af hb3 rfl
     have y11 : (w7.setCell ⟨q8, 5, none⟩ (.slice a3 l2 c3)).cell? ⟨q8, 1, none⟩ = some (.int .i64 key) := af hb3 rfl
     have y12 : (w7.setCell ⟨q8, 5, none⟩ (.slice a3 l2 c3)).cell? ⟨q8, 2, none⟩ = some (.int .i64 to_) := af hb3 rfl
     have y13 : (w7.setCell ⟨q8, 5, none⟩ (.slice a3 l2 c3)).cell? ⟨q8, 3, none⟩ = some (.bool xt) := af hb3 rfl
     have y14 : (w7.setCell ⟨q8, 5, none⟩ (.slice a3 l2 c3)).cell? ⟨q8, 4, none⟩ = some (.string xs) := af hb3 rfl
     have y15 : (w7.setCell ⟨q8, 5, none⟩ (.slice a3 l2 c3)).cell? ⟨q8, 5, none⟩ = some (.slice a3 l2 c3) := af hb3 rfl
     have HW8 : Hid (Zoo w (w7.setCell ⟨q8, 5, none⟩ (.slice a3 l2 c3)) (axT ⟨⟨kd, key, to_, xt, xs, xl⟩, a3, c3⟩ :: au q8 (axc ⟨⟨kd, key, to_, xt, xs, xl⟩, a3, c3⟩).toArray 43 :: cV aI cI zs :: (au q5 #[.int .i64 xn, .int .i64 xa, .int .i64 xm, .slice (some ⟨b2, o2, none⟩) ln lc] 36 :: (KwT 36 4 al n cl (aP (ys.map Dy.x)) :: ys.map dyT)))) := by
      have z := ae HB3
      rw [← ae HLN2] at z ⊢
      exact z
     have hrow : bn 43 6 w.heap.size (w7.setCell ⟨q8, 5, none⟩ (.slice a3 l2 c3)) aI n2 cI (bS zs) := by
      rw [(ae HZI).nl]
      exact fU (l1 := [_, _]) (ae HW8)
     have HRW := ag hrow
     clear hb3 hrow HB3
     go_wp2_with (at_builtin; refine bC (by rfl) (.tmp 29) (.tmp 31) 26 (by rfl) hua Tryz.info43 rfl (by omega) ((ae HRW).kp0 ((Kp.refl [] _).alloc _)) (by have := hBw; simp at this ⊢; omega) (.slice (some ⟨w7.heap.size, 0, none⟩) 1 1) [.int .i64 kd, .int .i64 key, .int .i64 to_, .bool xt, .string xs, .slice a3 l2 c3] 1 (by rfl) (by rfl) (aQ (cs := #[.int .i64 kd, .int .i64 key, .int .i64 to_, .bool xt, .string xs, .slice a3 l2 c3]) (T := 43) (fr := (0, 0)) hua (dd (by simp)) rfl (by simp [Value.oneCell'])) (by omega) (n2 + 1) rfl ?_; intro a2 c2 w9 g1 g2 g3)
     refine ⟨⟨i + 1, a2, c2, n2 + 1, by omega, rfl, by go_num, by omega, zs ++ [⟨⟨kd, key, to_, xt, xs, xl⟩, a3, c3⟩], ?_⟩, by simp [intOf]; omega⟩
     refine (ae HZI).step (ae HX) (ae HW8) ((Kp.refl [] _).alloc _) ?_ (ae g2) (ae g3)
     have z := ae g1
     rw [← ae HLN2] at z
     exact z
    ·have j1 : ¬ (i : Int) < (ln : Int) := by omega
     have hz5 := (ae HZI).zoo
     obtain ⟨F5, ⟨hbx5, e5, f5⟩, k5⟩ := bW hz5
     have HB6 := ag (k5 (au q5 #[.int .i64 xn, .int .i64 xa, .int .i64 xm, .slice aI n2 cI] 36) (wr.setCell ⟨q5, 3, none⟩ (.slice aI n2 cI)) ⟨F5, ⟨by rw [an _ _ hbx5]; rfl, e5, f5⟩, by rw [e5]; exact (Kp.refl [q5] _).setCell (.inl (by simp)) _, fun x hx => .inl hx⟩)
     have y3 : wr.cell? ⟨q5, 3, none⟩ = some (.slice la ln lc) := af hbx5 rfl
     have fy3 := ak 3 hbx5
     clear hbx5 e5 f5 k5 hz5
     have hb6 := ai (ae HB6) (mt (mh))
     have hBw := Zoo.base (ae HB6)
     have y10 : (wr.setCell ⟨q5, 3, none⟩ (.slice aI n2 cI)).cell? ⟨q5, 0, none⟩ = some (.int .i64 xn) := af hb6 rfl
     have y11 : (wr.setCell ⟨q5, 3, none⟩ (.slice aI n2 cI)).cell? ⟨q5, 1, none⟩ = some (.int .i64 xa) := af hb6 rfl
     have y12 : (wr.setCell ⟨q5, 3, none⟩ (.slice aI n2 cI)).cell? ⟨q5, 2, none⟩ = some (.int .i64 xm) := af hb6 rfl
     have y13 : (wr.setCell ⟨q5, 3, none⟩ (.slice aI n2 cI)).cell? ⟨q5, 3, none⟩ = some (.slice aI n2 cI) := af hb6 rfl
     have HRW := ag (bq (l1 := [_, _]) (ae HB6))
     clear hb6
     go_wp2_with (at_builtin; refine bC (by rfl) (.tmp 36) (.tmp 38) 27 (by rfl) hu Tryz.info36 rfl (by omega) ((ae HRW).kp0 ((Kp.refl [] _).alloc _)) (by have := hBw; simp at this ⊢; omega) (.slice (some ⟨wr.heap.size, 0, none⟩) 1 1) [.int .i64 xn, .int .i64 xa, .int .i64 xm, .slice aI n2 cI] 1 (by rfl) (by rfl) (aQ (cs := #[.int .i64 xn, .int .i64 xa, .int .i64 xm, .slice aI n2 cI]) (T := 36) (fr := (0, 0)) hu (dd (by simp)) rfl (by simp [Value.oneCell'])) (by omega) (n + 1) rfl ?_; intro a2 c2 w9 g1 g2 g3)
     have hzs : zs.map Ax.x = xacts := by rw [(ae HZI).map, List.take_of_length_le (by have := ae HLN; omega)]
     have hzl : xacts.length = n2 := by rw [← hzs, List.length_map, (ae HZI).nl]
     have hz9 := cS (l1 := [_, _]) ((ae HB6).kp0 ((Kp.refl [] _).alloc (.cells #[.int .i64 xn, .int .i64 xa, .int .i64 xm, .slice aI n2 cI] 36))) (ae g1) (ae g2) (ae g3)
     refine ⟨⟨k + 1, a2, c2, n + 1, by omega, rfl, by go_num, by omega, ys ++ [⟨⟨⟨xn, xa, xm, xacts⟩, aI, cI⟩, zs⟩], ?_, ?_, ?_, fun y hy => ?_⟩, by simp [intOf]; omega⟩
     ·have hz10 := aH hz9
      have e1 : aP ((ys ++ [(⟨⟨⟨xn, xa, xm, xacts⟩, aI, cI⟩, zs⟩ : Dy)]).map Dy.x) = aP (ys.map Dy.x) ++ [.int .i64 xn, .int .i64 xa, .int .i64 xm, .slice aI n2 cI] := by
       rw [List.map_append, dx]
       simp [aP, dxc, hzl]
      rw [e1, List.map_append]
      refine hz10.perm ?_
      have p1 : (cV aI cI zs :: KwT 36 4 a2 (n + 1) c2 (aP (ys.map Dy.x) ++ [.int .i64 xn, .int .i64 xa, .int .i64 xm, .slice aI n2 cI]) :: ys.map dyT).Perm (KwT 36 4 a2 (n + 1) c2 (aP (ys.map Dy.x) ++ [.int .i64 xn, .int .i64 xa, .int .i64 xm, .slice aI n2 cI]) :: (cV aI cI zs :: ys.map dyT)) := List.Perm.swap _ _ _
      refine p1.trans (List.Perm.cons _ ?_)
      have p2 := (List.perm_append_comm (l₁ := ys.map dyT) (l₂ := [cV aI cI zs])).symm
      simpa [dyT] using p2
     ·rw [List.length_append, (ae HL).nl]; rfl
     ·rw [List.map_append, (ae HL).map, ae HT]; rfl
     ·rcases List.mem_append.1 hy with e | e
      ·exact (ae HL).acts y e
      ·rw [List.mem_singleton.1 e]; exact hzs.symm
  ·have i1 : ¬ (k : Int) < (m : Int) := by omega
   go_wp2_with fail
   go_ret
   have hmp := (ae HL).map
   rw [List.take_of_length_le (by have := ae HM; omega)] at hmp
   have hnl := (ae HL).nl
   have hzl := (ae HL).zoo
   have hl : n = ds.length := by rw [hnl, ← hmp, List.length_map]
   rw [hnl] at hzl
   refine ⟨al, cl, congrArg (fun z => Ending.returned (Value.slice al z cl)) hl, ?_, hzl.kp⟩
   have z := oF hzl (mh) (fun y hy => List.mem_cons_of_mem _ (List.mem_map_of_mem hy)) (ae HL).acts
   rw [hmp] at z
   exact z
structure BkB (i : Nat) (b : Bk) : Prop where
 op : ∀ s o, b.op s = some o → o.acts.length ≤ i ∧ ∀ x, x ∈ o.acts → x.l.length ≤ 8
 len : b.dn.length ≤ i
 dn : ∀ d, d ∈ b.dn → d.acts.length ≤ i ∧ ∀ x, x ∈ d.acts → x.l.length ≤ 8
theorem BkB.le {i j : Nat} {b : Bk} (h : BkB i b) (hij : i ≤ j) : BkB j b :=
 ⟨fun s o ho => ⟨Nat.le_trans (h.op s o ho).1 hij, (h.op s o ho).2⟩, Nat.le_trans h.len hij, fun d hd => ⟨Nat.le_trans (h.dn d hd).1 hij, (h.dn d hd).2⟩⟩
theorem py : BkB 0 bk0 := ⟨fun s o h => (by cases h), Nat.le_refl _, fun d h => (by cases h)⟩
theorem se {x : ax} {e : Ev} (h : e.l.length ≤ 8) : (eU x e).l.length ≤ 8 := by
 unfold eU
 repeat' split
 all_goals first | exact Nat.zero_le _ | exact h
theorem BkB.step {i : Nat} {b : Bk} (h : BkB i b) (x : ax) (e : Ev) (last : Int) (he : e.l.length ≤ 8) : BkB (i + 1) (aY b x e last) := by
 have h1 := h.le (Nat.le_succ i)
 unfold aY
 split
 ·split
  ·refine ⟨fun s o ho => ?_, h1.len, h1.dn⟩
   dsimp only [upd] at ho
   split at ho
   ·cases ho
    exact ⟨Nat.zero_le _, fun x hx => (by cases hx)⟩
   ·exact h1.op s o ho
  ·exact h1
 ·split
  ·split
   ·exact h1
   ·rename_i d hd
    split
    ·have hdd : b.op x.s.toNat = some d := by
      unfold fB at hd
      split at hd
      ·exact hd
      ·cases hd
     refine ⟨fun s o ho => ?_, h1.len, h1.dn⟩
     dsimp only [upd] at ho
     split at ho
     ·cases ho
      refine ⟨by simp only [List.length_append, List.length_cons, List.length_nil]; have := (h.op _ _ hdd).1; omega, fun y hy => ?_⟩
      rcases List.mem_append.1 hy with q | q
      ·exact (h.op _ _ hdd).2 y q
      ·rw [List.mem_singleton.1 q]; exact se he
     ·exact h1.op s o ho
    ·exact h1
  ·split
   ·split
    ·exact h1
    ·rename_i d hd
     have hdd : b.op x.s.toNat = some d := by
      unfold fB at hd
      split at hd
      ·exact hd
      ·cases hd
     refine ⟨fun s o ho => ?_, ?_, fun y hy => ?_⟩
     ·dsimp only at ho
      split at ho
      ·cases ho
      ·dsimp only [upd] at ho
       split at ho
       ·cases ho
       ·exact h1.op s o ho
     ·dsimp only
      split
      ·simp only [List.length_append, List.length_cons, List.length_nil]; have := h.len; omega
      ·exact h1.len
     ·dsimp only at hy
      split at hy
      ·rcases List.mem_append.1 hy with q | q
       ·exact h1.dn y q
       ·rw [List.mem_singleton.1 q]; exact h1.op x.s.toNat d hdd
      ·exact h1.dn y hy
   ·split
    ·exact ⟨fun s o ho => (by cases ho), h1.len, h1.dn⟩
    ·exact h1
theorem BkB.ok {i : Nat} {b : Bk} (h : BkB i b) (hi : i ≤ 1000) : iu b.dn :=
 ⟨Nat.le_trans h.len hi, fun x hx => ⟨Nat.le_trans (h.dn x hx).1 hi, fun y hy => Nat.le_trans ((h.dn x hx).2 y hy) (by omega)⟩⟩
theorem sc (h : HSt) (b : Bk) (l : List ax) (x : ax) : fu h b (l ++ [x]) = (hdo (fu h b l).1 x, aY (fu h b l).2 x (hev (fu h b l).1 x) (fu h b l).1.n) := by
 induction l generalizing h b with
 | nil => rfl
 | cons y l ih => exact ih _ _
def eJ (st : Nat → ax) (n : Nat) : List ax := (List.range n).map st
theorem kn (st : Nat → ax) (n : Nat) : eJ st (n + 1) = eJ st n ++ [st n] := by
 unfold eJ
 rw [List.range_succ, List.map_append]
 rfl
theorem gn {w w' : World} {p0 p1 p2 p3 q0 q1 q2 q3 : Addr} {x0 x1 x2 x3 y0 y1 y2 y3 : Value} (h : w.cell? p0 = some x0 ∧ w.cell? p1 = some x1 ∧ w.cell? p2 = some x2 ∧ w.cell? p3 = some x3 ∧ w.cell? q0 = some y0 ∧ w.cell? q1 = some y1 ∧ w.cell? q2 = some y2 ∧ w.cell? q3 = some y3) (hk : Kp [] w w') :
 w'.cell? p0 = some x0 ∧ w'.cell? p1 = some x1 ∧ w'.cell? p2 = some x2 ∧ w'.cell? p3 = some x3 ∧ w'.cell? q0 = some y0 ∧ w'.cell? q1 = some y1 ∧ w'.cell? q2 = some y2 ∧ w'.cell? q3 = some y3 :=
 ⟨hk.cell (by simp) h.1, hk.cell (by simp) h.2.1, hk.cell (by simp) h.2.2.1, hk.cell (by simp) h.2.2.2.1, hk.cell (by simp) h.2.2.2.2.1, hk.cell (by simp) h.2.2.2.2.2.1, hk.cell (by simp) h.2.2.2.2.2.2.1, hk.cell (by simp) h.2.2.2.2.2.2.2⟩
theorem sB {w0 w : World} {hb : Nat} {h : HSt} {os : List ao} (hz : Zoo w0 w os) (hm : ix hb h ∈ os) : ∃ vb tb, w.cell? ⟨hb, 0, none⟩ = some (.pointer (some ⟨vb, 0, none⟩)) ∧ w.cell? ⟨vb, 0, none⟩ = some (.pointer (some ⟨tb, 0, none⟩)) ∧
 Hid (∀ W, Kp [] w W → Calls Tryz.prog 20 #[.pointer (some ⟨tb, 0, none⟩)] W fun e w' => e = .returned (.int .i64 h.n) ∧ w' = W) := by
 obtain ⟨l1, l2, rfl⟩ := List.append_of_mem hm
 obtain ⟨vb, tb, gb, st, _, _, hl⟩ := mv (hz.perm List.perm_middle)
 exact ⟨vb, tb, hl.c0, hl.v0, fun W hk => yy (hl.kp0 hk)⟩
theorem wU (a : Option Addr) (n1 c : Nat) (st : Nat → ax) (w : World) (h : lI w a n1 st) (hn : n1 ≤ 900) :
 Calls Tryz.prog 8 #[.slice a n1 c] w (ui (ntd (eJ st n1)) w) := by
 have HS := ag h
 clear h
 go_enter Tryz.func8, Tryz.ntmps8
 go_wp2_with fail
 refine (zV w).mono ?_
 rintro e w2 ⟨hb, rfl, F, hh, hk⟩
 have HZ0 : Hid (Zoo w w2 [ix hb hs0]) := (cg (Kp.refl [] w)).cons hh hk
 clear hh hk
 go_wp2_with fail
 refine (yX (ae HZ0)).mono ?_
 rintro e w3 ⟨bb, rfl, HZ1⟩
 clear HZ0
 have HZ2 := ag (bB (ae HZ1))
 clear HZ1
 go_wp2_with fail
 go_loopw [5, 6] (fun i _ wr => ∃ k : Nat, k ≤ n1 ∧ i = .int .i64 k ∧ ∃ h b, Hid (fu dY bk0 (eJ st k) = (h, b)) ∧ Hid (BkB k b) ∧ Hid (Zoo w wr [ix hb h, BkT bb b])) (fun i _ _ => n1 - (intOf i).toNat)
 case atStart => exact ⟨0, by omega, rfl, _, _, rfl, py, ae HZ2⟩
 case round =>
  obtain ⟨k, hk, rfl, h, b, HR, HB, HI⟩ := hrel
  by_cases hlt : k < n1
  ·obtain ⟨lb', lo, rfl, hst⟩ := (ae HS).2 (by omega)
   obtain ⟨q0, q1, q2, q3, q4, q5, q6, q7, hsz⟩ := hst k hlt
   have i0 : (0 : Int) ≤ (k : Int) := by omega
   have i1 : (k : Int) < (n1 : Int) := by omega
   clear hst
   have HR2 : Hid (fu dY bk0 (eJ st (k + 1)) = (hdo h (st k), aY b (st k) (hev h (st k)) h.n)) := by
    rw [kn, sc, ae HR]
    rfl
   clear HR
   generalize (st k) = x at *
   obtain ⟨vb, tb, c0, v0, HLST⟩ := sB (ae HI) (mh)
   have HLN := ag (oU h x)
   have HD := ag (yv x hsz ((ae HI).kp0 ((Kp.refl [] wr).drew)))
   have HNT := ag (fun (v : Ev) (la : Option Addr) (lc : Nat) (W : World) (r : List ao) (hls : SlO W la v.l) (hll : v.l.length ≤ 8) (hz : Zoo w W (BkT bb b :: r)) => wF x v la lc h.n hls (by omega) (fun s o ho => by have := ((ae HB).op s o ho).1; omega) (by have := (ae HB).len; omega) hz)
   have HBS := ag (fun (v : Ev) (hv : v.l.length ≤ 8) => (ae HB).step x v h.n hv)
   obtain ⟨v, hv⟩ : ∃ v, hev h x = v := ⟨_, rfl⟩
   obtain ⟨h', hh'⟩ : ∃ h', hdo h x = h' := ⟨_, rfl⟩
   rw [hv] at HLN
   rw [hv, hh'] at HD HR2
   clear hv hh'
   obtain ⟨y, hy⟩ : ∃ y, h.n = y := ⟨_, rfl⟩
   rw [hy] at HNT HBS HLST HR2
   have HC8 : Hid (x = x) := rfl
   obtain ⟨xd, xs, xm, xa, xk, xt, xp, xb⟩ := x
   dsimp only at q0 q1 q2 q3 q4 q5 q6 q7
   clear HC8
   have HC8 := ag (And.intro q0 (And.intro q1 (And.intro q2 (And.intro q3 (And.intro q4 (And.intro q5 (And.intro q6 q7)))))))
   clear q0 q1 q2 q3 q4 q5 q6 q7
   go_wp2_with fail
   refine (ae HLST _ (Kp.refl _ _)).mono ?_
   rintro e w5 ⟨rfl, hw5⟩
   subst w5
   clear c0 v0 HLST
   go_wp2_with fail
   refine wp_region_held_drew (S := fun w' => w'.cell? ⟨lb', lo + k * 8, none⟩ = some (.int .i64 xd) ∧ w'.cell? ⟨lb', lo + k * 8 + 1, none⟩ = some (.int .i64 xs) ∧ w'.cell? ⟨lb', lo + k * 8 + 2, none⟩ = some (.int .i64 xm) ∧ w'.cell? ⟨lb', lo + k * 8 + 3, none⟩ = some (.int .i64 xa) ∧ w'.cell? ⟨lb', lo + k * 8 + 4, none⟩ = some (.int .i64 xk) ∧ w'.cell? ⟨lb', lo + k * 8 + 5, none⟩ = some (.int .i64 xt) ∧ w'.cell? ⟨lb', lo + k * 8 + 6, none⟩ = some (.int .i64 xp) ∧ w'.cell? ⟨lb', lo + k * 8 + 7, none⟩ = some (.string xb)) (by kernel_rfl) (gn (ae HC8) ((ae HI).kp.drew)) (fun hHeld => ?_)
   refine tk 0 ?_ rfl (by kernel_rfl) (fun _ _ _ h => h) (by rfl) ?_ hHeld ?_;rotate_left;· intro w hSw;(try dsimp only at hSw);go_simp;try with_reducible rfl
   try simp only [Act.put, sx, sy, sz]
   refine tk 1 ?_ rfl (by kernel_rfl) (fun _ _ _ h => h) (by rfl) ?_ hHeld ?_;rotate_left;· intro w hSw;(try dsimp only at hSw);go_simp;try with_reducible rfl
   try simp only [Act.put, sx, sy, sz]
   refine tk 2 ?_ rfl (by kernel_rfl) (fun _ _ _ h => h) (by rfl) ?_ hHeld ?_;rotate_left;· intro w hSw;(try dsimp only at hSw);go_simp;try with_reducible rfl
   try simp only [Act.put, sx, sy, sz]
   refine tk 3 ?_ rfl (by kernel_rfl) (fun _ _ _ h => h) (by rfl) ?_ hHeld ?_;rotate_left;· intro w hSw;(try dsimp only at hSw);go_simp;try with_reducible rfl
   try simp only [Act.put, sx, sy, sz]
   refine tk 4 ?_ rfl (by kernel_rfl) (fun _ _ _ h => h) (by rfl) ?_ hHeld ?_;rotate_left;· intro w hSw;(try dsimp only at hSw);go_simp;try with_reducible rfl
   try simp only [Act.put, sx, sy, sz]
   refine tk 5 ?_ rfl (by kernel_rfl) (fun _ _ _ h => h) (by rfl) ?_ hHeld ?_;rotate_left;· intro w hSw;(try dsimp only at hSw);go_simp;try with_reducible rfl
   try simp only [Act.put, sx, sy, sz]
   refine tk 6 ?_ rfl (by kernel_rfl) (fun _ _ _ h => h) (by rfl) ?_ hHeld ?_;rotate_left;· intro w hSw;(try dsimp only at hSw);go_simp;try with_reducible rfl
   try simp only [Act.put, sx, sy, sz]
   refine tk 7 ?_ rfl (by kernel_rfl) (fun _ _ _ h => h) (by rfl) ?_ hHeld ?_;rotate_left;· intro w hSw;(try dsimp only at hSw);go_simp;try with_reducible rfl
   try simp only [Act.put, sx, sy, sz]
   refine tk 8 ?_ rfl (by kernel_rfl) (fun _ _ _ h => h) (by rfl) ?_ hHeld ?_;rotate_left;· intro w hSw;(try dsimp only at hSw);go_simp;try with_reducible rfl
   try simp only [Act.put, sx, sy, sz]
   refine tk 9 ?_ rfl (by kernel_rfl) (fun _ _ _ h => h) (by rfl) ?_ hHeld ?_;rotate_left;· intro w hSw;(try dsimp only at hSw);go_simp;try with_reducible rfl
   try simp only [Act.put, sx, sy, sz]
   refine tk 11 ?_ rfl (by kernel_rfl) (fun _ _ _ h => h) (by rfl) ?_ hHeld ?_;rotate_left;· intro w hSw;(try dsimp only at hSw);go_simp;try with_reducible rfl
   try simp only [Act.put, sx, sy, sz]
   refine aj (i := 10) rfl (by kernel_rfl) (fun K hK => ?_)
   go_simp
   refine (ae HD).mono ?_
   rintro e w6 ⟨a6, c6, rfl, HY⟩
   clear HD
   have HY1 := ag ((ae HY).perm (show List.Perm [ix hb h', PsT a6 c6 v.l, BkT bb b] [BkT bb b, ix hb h', PsT a6 c6 v.l] from (List.perm_append_comm (l₁ := [ix hb h', PsT a6 c6 v.l]) (l₂ := [BkT bb b]))))
   have HSL := ag (nm (ae HY) (mt (mh)))
   clear HY
   go_wp2_with fail
   refine hK.out _ _ (gn (ae HC8) (ae HY1).kp) (fun hHeld2 => ?_)
   clear hK K hHeld
   have hHeld := hHeld2
   clear hHeld2
   try simp only [Act.put, sx, sy, sz]
   refine aj (i := 12) rfl (by kernel_rfl) (fun K hK => ?_)
   go_simp
   refine (ae HNT v a6 c6 w6 _ (ae HSL) (ae HLN) (ae HY1)).mono ?_
   rintro e w7 ⟨rfl, HY2⟩
   go_wp2_with fail
   refine hK.out _ _ (gn (ae HC8) (ae HY2).kp) (fun hHeld2 => ?_)
   clear hK K hHeld
   have hHeld := hHeld2
   clear hHeld2
   try simp only [Act.put, sx, sy, sz]
   refine wpAnyH_done (by kernel_rfl) ?_ _
   go_wp2_with fail
   refine ⟨⟨k + 1, by omega, by go_num, h', _, HR2, ae HBS v (ae HLN), ?_⟩, by simp [intOf]; omega⟩
   exact ((ae HY2).perm (show List.Perm _ [PsT a6 c6 v.l, ix hb h', BkT bb _] from (List.reverse_perm _).symm)).tail
  ·have i1 : ¬ (k : Int) < (n1 : Int) := by omega
   have e1 : k = n1 := by omega
   have HE : Hid (b.dn = ntd (eJ st n1)) := by
    have := ae HR
    rw [e1] at this
    show _ = (fu dY bk0 (eJ st n1)).2.dn
    rw [this]
   have HL := ag (wG (bB (ae HI)) ((ae HB).ok (by omega)))
   rw [ae HE] at HL
   go_wp2_with fail
   refine (ae HL).mono ?_
   rintro e w7 ⟨a7, c7, rfl, hd7, hk7⟩
   have HK7 := ag ((ae HI).kp.trans0 hk7)
   have HD7 := ag hd7
   clear hd7 hk7 HL
   go_wp2_with fail
   go_ret
   exact ⟨a7, c7, rfl, ae HD7, ae HK7⟩
def st7 : Nat → ax
 | 0 => ⟨1, 0, 2, 0, 0, 0, 0, ⟨#[]⟩⟩
 | 1 => ⟨3, 0, 0, 0, 1, 0, 0, ⟨#[120]⟩⟩
 | 2 => ⟨2, 0, 0, 0, 1, 0, 0, ⟨#[]⟩⟩
 | 3 => ⟨6, 0, 0, 0, 0, 0, 0, ⟨#[]⟩⟩
 | 4 => ⟨1, 0, 3, 0, 0, 0, 0, ⟨#[]⟩⟩
 | 5 => ⟨2, 0, 0, 0, 1, 0, 0, ⟨#[]⟩⟩
 | _ => ⟨6, 0, 0, 0, 0, 0, 0, ⟨#[]⟩⟩
def sa0 : List Ac := [⟨3, 1, 0, true, ⟨#[120]⟩, []⟩, ⟨2, 1, 0, true, ⟨#[120]⟩, []⟩]
def sa1 : List Ac := [⟨2, 1, 0, false, ⟨#[]⟩, []⟩]
theorem As : ntd (eJ st7 7) = [⟨1, 0, 2, sa0⟩, ⟨0, 0, 3, sa1⟩] := by rfl
theorem zG : rpo (fun _ => dv) sa0 = true := by decide
theorem zE : (rpw (fun _ => dv) sa0 1).t = true := by rfl
theorem zF : (rpw (fun _ => dv) sa0 1).s = ⟨#[120]⟩ := by rfl
theorem zH : rpo (fun _ => dv) (sa0.drop 1) = false := by decide
theorem nd : sa0.length = 2 := rfl
theorem uV : sa1.length = 1 := rfl
theorem uU : (sa0.drop 1).length = 1 := rfl
theorem rL : dy sa0 := ⟨by decide, fun x hx => by
 rcases List.mem_cons.1 hx with rfl | hx
 ·exact Nat.zero_le _
 ·rw [List.mem_singleton.1 hx]; exact Nat.zero_le _⟩
theorem xO : dy sa1 := ⟨by decide, fun x hx => by rw [List.mem_singleton.1 hx]; exact Nat.zero_le _⟩
theorem xN : dy (sa0.drop 1) := ⟨by decide, fun x hx => by rw [List.mem_singleton.1 hx]; exact Nat.zero_le _⟩
theorem zD : iu [⟨1, 0, 2, sa0⟩, ⟨0, 0, 3, sa1⟩] := ⟨by decide, fun x hx => by
 rcases List.mem_cons.1 hx with rfl | hx
 ·exact rL
 ·rw [List.mem_singleton.1 hx]; exact xO⟩
theorem Ar : ∀ d, d ∈ [(⟨1, 0, 2, sa0⟩ : Dn), ⟨0, 0, 3, sa1⟩] → d.n ≤ 1000 := fun x hx => by
 rcases List.mem_cons.1 hx with rfl | hx
 ·decide
 ·rw [List.mem_singleton.1 hx]; decide
theorem dX {w w' : World} {p0 p1 p2 p3 : Addr} {x0 x1 x2 x3 : Value} (h : w.cell? p0 = some x0 ∧ w.cell? p1 = some x1 ∧ w.cell? p2 = some x2 ∧ w.cell? p3 = some x3) (hk : Kp [] w w') : w'.cell? p0 = some x0 ∧ w'.cell? p1 = some x1 ∧ w'.cell? p2 = some x2 ∧ w'.cell? p3 = some x3 :=
 ⟨hk.cell (by simp) h.1, hk.cell (by simp) h.2.1, hk.cell (by simp) h.2.2.1, hk.cell (by simp) h.2.2.2⟩
theorem Ap {w : World} {b : Nat} {T : TypeId} (h : w.heap[b]? = some (.cells #[.int .i64 1, .int .i64 0, .int .i64 2, .int .i64 0, .int .i64 0, .int .i64 0, .int .i64 0, .string ⟨#[]⟩, .int .i64 3, .int .i64 0, .int .i64 0, .int .i64 0, .int .i64 1, .int .i64 0, .int .i64 0, .string ⟨#[120]⟩, .int .i64 2, .int .i64 0, .int .i64 0, .int .i64 0, .int .i64 1, .int .i64 0, .int .i64 0, .string ⟨#[]⟩, .int .i64 6, .int .i64 0, .int .i64 0, .int .i64 0, .int .i64 0, .int .i64 0, .int .i64 0, .string ⟨#[]⟩, .int .i64 1, .int .i64 0, .int .i64 3, .int .i64 0, .int .i64 0, .int .i64 0, .int .i64 0, .string ⟨#[]⟩, .int .i64 2, .int .i64 0, .int .i64 0, .int .i64 0, .int .i64 1, .int .i64 0, .int .i64 0, .string ⟨#[]⟩, .int .i64 6, .int .i64 0, .int .i64 0, .int .i64 0, .int .i64 0, .int .i64 0, .int .i64 0, .string ⟨#[]⟩] T)) : lI w (some ⟨b, 0, none⟩) 7 st7 := by
 refine ⟨by unfold maxLen; decide, fun _ => ⟨b, 0, rfl, fun i hi => ?_⟩⟩
 match i with
 | 0 => exact ⟨af h rfl, af h rfl, af h rfl, af h rfl, af h rfl, af h rfl, af h rfl, af h rfl, by unfold maxLen; decide⟩
 | 1 => exact ⟨af h rfl, af h rfl, af h rfl, af h rfl, af h rfl, af h rfl, af h rfl, af h rfl, by unfold maxLen; decide⟩
 | 2 => exact ⟨af h rfl, af h rfl, af h rfl, af h rfl, af h rfl, af h rfl, af h rfl, af h rfl, by unfold maxLen; decide⟩
 | 3 => exact ⟨af h rfl, af h rfl, af h rfl, af h rfl, af h rfl, af h rfl, af h rfl, af h rfl, by unfold maxLen; decide⟩
 | 4 => exact ⟨af h rfl, af h rfl, af h rfl, af h rfl, af h rfl, af h rfl, af h rfl, af h rfl, by unfold maxLen; decide⟩
 | 5 => exact ⟨af h rfl, af h rfl, af h rfl, af h rfl, af h rfl, af h rfl, af h rfl, af h rfl, by unfold maxLen; decide⟩
 | 6 => exact ⟨af h rfl, af h rfl, af h rfl, af h rfl, af h rfl, af h rfl, af h rfl, af h rfl, by unfold maxLen; decide⟩
 | n + 7 => omega
theorem xL (w : World) : Calls Tryz.prog 4 #[] w fun e w' => e = .returned (.bool true) ∧ Kp [] w w' := by
 have HN := ag (fun c => wU (some ⟨w.heap.size, 0, none⟩) 7 c st7 (w.alloc (.cells #[.int .i64 1, .int .i64 0, .int .i64 2, .int .i64 0, .int .i64 0, .int .i64 0, .int .i64 0, .string ⟨#[]⟩, .int .i64 3, .int .i64 0, .int .i64 0, .int .i64 0, .int .i64 1, .int .i64 0, .int .i64 0, .string ⟨#[120]⟩, .int .i64 2, .int .i64 0, .int .i64 0, .int .i64 0, .int .i64 1, .int .i64 0, .int .i64 0, .string ⟨#[]⟩, .int .i64 6, .int .i64 0, .int .i64 0, .int .i64 0, .int .i64 0, .int .i64 0, .int .i64 0, .string ⟨#[]⟩, .int .i64 1, .int .i64 0, .int .i64 3, .int .i64 0, .int .i64 0, .int .i64 0, .int .i64 0, .string ⟨#[]⟩, .int .i64 2, .int .i64 0, .int .i64 0, .int .i64 0, .int .i64 1, .int .i64 0, .int .i64 0, .string ⟨#[]⟩, .int .i64 6, .int .i64 0, .int .i64 0, .int .i64 0, .int .i64 0, .int .i64 0, .int .i64 0, .string ⟨#[]⟩] 55)) (Ap (heap_alloc_new w _)) (by omega))
 have hkw := (Kp.refl [] w).alloc (.cells #[.int .i64 1, .int .i64 0, .int .i64 2, .int .i64 0, .int .i64 0, .int .i64 0, .int .i64 0, .string ⟨#[]⟩, .int .i64 3, .int .i64 0, .int .i64 0, .int .i64 0, .int .i64 1, .int .i64 0, .int .i64 0, .string ⟨#[120]⟩, .int .i64 2, .int .i64 0, .int .i64 0, .int .i64 0, .int .i64 1, .int .i64 0, .int .i64 0, .string ⟨#[]⟩, .int .i64 6, .int .i64 0, .int .i64 0, .int .i64 0, .int .i64 0, .int .i64 0, .int .i64 0, .string ⟨#[]⟩, .int .i64 1, .int .i64 0, .int .i64 3, .int .i64 0, .int .i64 0, .int .i64 0, .int .i64 0, .string ⟨#[]⟩, .int .i64 2, .int .i64 0, .int .i64 0, .int .i64 0, .int .i64 1, .int .i64 0, .int .i64 0, .string ⟨#[]⟩, .int .i64 6, .int .i64 0, .int .i64 0, .int .i64 0, .int .i64 0, .int .i64 0, .int .i64 0, .string ⟨#[]⟩] 55)
 have HKW := ag hkw
 clear hkw
 go_enter Tryz.func4, Tryz.ntmps4
 go_wp2_with fail
 refine (ae HN _).mono ?_
 rintro e w1 ⟨a, c, rfl, hd, hk⟩
 have HSER := vq (eJ st7 7)
 have HK1 := ag ((ae HKW).trans0 hk)
 rw [As] at hd HSER ⊢
 rw [show List.length [(⟨1, 0, 2, sa0⟩ : Dn), ⟨0, 0, 3, sa1⟩] = 2 from rfl]
 have HD := ag hd
 have HSR := ag HSER
 obtain ⟨g, o, rfl, hb⟩ := hd (by decide)
 have d0 := hb 0 _ rfl
 have d1 := hb 1 _ rfl
 clear hb hd hk HN HKW HSER
 obtain ⟨la, lc, z0, hl0⟩ := d0.ls
 obtain ⟨la1, lc1, z1, hl1⟩ := d1.ls
 have y0 := d0.c0
 have y1 := d1.c0
 dsimp only at hl0 hl1 z0 z1 y0 y1
 rw [nd] at z0
 rw [uV] at z1
 rw [show o + 0 * 4 = o by omega] at z0 y0
 rw [show o + 1 * 4 = o + 4 by omega] at z1 y1
 obtain ⟨g0, o0, rfl, hb0⟩ := hl0 (by decide)
 have HL0 : Hid (bM w1 (some ⟨g0, o0, none⟩) sa0) := hl0
 have HL1 : Hid (bM w1 (some ⟨g0, o0 + 6, none⟩) (sa0.drop 1)) := fun _ => ⟨g0, o0 + 6, rfl, fun i x hx => by
  have := bM.drop hb0 1 i x hx
  rwa [show o0 + 1 * 6 + i * 6 = o0 + 6 + i * 6 by omega] at this⟩
 have hlc : 2 ≤ lc := by
  obtain ⟨la', lc', z', h'⟩ := d0.cp
  dsimp only at z' h'
  rw [nd] at z' h'
  rw [show o + 0 * 4 = o by omega, z0] at z'
  cases z'
  exact h'
 clear d0 d1 hl0 hl1 hb0
 go_wp2_with fail
 have HR0 := ag (gV (fun _ => dv) (some ⟨g0, o0, none⟩) lc sa0 w1 (ae HL0) rL)
 rw [nd] at HR0
 rw [← bI]
 refine (ae HR0).mono ?_
 rintro e w2 ⟨rfl, hk2⟩
 rw [zG]
 obtain ⟨v, hv⟩ : ∃ v, rpw (fun _ => dv) sa0 = v := ⟨_, rfl⟩
 have ht : (v 1).t = true := by rw [← hv]; exact zE
 have hs : (v 1).s = ⟨#[120]⟩ := by rw [← hv]; exact zF
 rw [hv]
 have HK2 := ag ((ae HK1).trans0 hk2)
 have HL1b := ag ((ae HL1).kp0 hk2)
 have HDb := ag ((ae HD).kp0 hk2)
 have z0b := hk2.cell (by simp) z0
 have y0b := hk2.cell (by simp) y0
 have y1b := hk2.cell (by simp) y1
 clear hk2 HR0 z0 z1 y0 y1 HK1 HL1 HL0 HD hv
 have hg0 := cH y0b
 have n0 : g ≠ w2.heap.size := by omega
 have HK3 := ag ((Kp.refl [] w2).alloc (.cells (ay v) 45))
 go_wp2_with (refine wpList_store_row rfl 45 _ _ rfl w2.heap.size (ay v) rfl rfl 45 _ (heap_alloc_new w2 _) Tryz.size45 rfl (aS _) ?_; rw [World.setRow_alloc_new])
 have HR1 := ag (gV (fun _ => dv) (some ⟨g0, o0 + 6, none⟩) (lc - 1) (sa0.drop 1) (w2.alloc (.cells (ay v) 45)) ((ae HL1b).kp0 (ae HK3)) xN)
 rw [uU] at HR1
 rw [← bI]
 refine (ae HR1).mono ?_
 rintro e w3 ⟨rfl, hk3⟩
 rw [zH]
 obtain ⟨v2, hv2⟩ : ∃ v2, rpw (fun _ => dv) (sa0.drop 1) = v2 := ⟨_, rfl⟩
 rw [hv2]
 have HC4 : Hid (w3.cell? ⟨w2.heap.size, 2, none⟩ = some (.bool true) ∧ w3.cell? ⟨w2.heap.size, 3, none⟩ = some (.string ⟨#[120]⟩) ∧ w3.cell? ⟨g, o, none⟩ = some (.int .i64 1) ∧ w3.cell? ⟨g, o + 4, none⟩ = some (.int .i64 0)) := by
  refine ⟨hk3.cell (by simp) ?_, hk3.cell (by simp) ?_, ((ae HK3).trans0 hk3).cell (by simp) y0b, ((ae HK3).trans0 hk3).cell (by simp) y1b⟩
  ·have q := af (heap_alloc_new w2 (.cells (ay v) 45)) (eB v (k := 1) (by omega))
   rw [ht] at q
   exact q
  ·have q := af (heap_alloc_new w2 (.cells (ay v) 45)) (eA v (k := 1) (by omega))
   rw [hs] at q
   exact q
 have HK4 := ag ((ae HK2).trans0 ((ae HK3).trans0 hk3))
 have HD4 := ag ((ae HDb).kp0 ((ae HK3).trans0 hk3))
 clear hk3 HR1 hv2 y0b y1b z0b HK2 HK3 HDb HL1b hg0 n0 ht hs hlc
 generalize w2.heap.size = p1 at *
 have heq := sM true true ⟨#[120]⟩ ⟨#[120]⟩
 have HK5 := ag (((Kp.refl [] w3).alloc (.cells (ay v2) 45)).drew)
 go_wp2_with (refine wpList_store_row rfl 45 _ _ rfl w3.heap.size (ay v2) rfl rfl 45 _ (heap_alloc_new w3 _) Tryz.size45 rfl (aS _) ?_; rw [World.setRow_alloc_new])
 refine wp_region_held_drew (S := fun w' => w'.cell? ⟨p1, 2, none⟩ = some (.bool true) ∧ w'.cell? ⟨p1, 3, none⟩ = some (.string ⟨#[120]⟩) ∧ w'.cell? ⟨g, o, none⟩ = some (.int .i64 1) ∧ w'.cell? ⟨g, o + 4, none⟩ = some (.int .i64 0)) (by kernel_rfl) (dX (ae HC4) (ae HK5)) (fun hHeld => ?_)
 refine tk 0 ?_ rfl (by kernel_rfl) (fun _ _ _ h => h) (by rfl) ?_ hHeld ?_;rotate_left;· intro w hSw;(try dsimp only at hSw);go_simp;try with_reducible rfl
 try simp only [Act.put, sx, sy, sz]
 refine tk 1 ?_ rfl (by kernel_rfl) (fun _ _ _ h => h) (by rfl) ?_ hHeld ?_;rotate_left;· intro w hSw;(try dsimp only at hSw);go_simp;try with_reducible rfl
 try simp only [Act.put, sx, sy, sz]
 refine tk 2 ?_ rfl (by kernel_rfl) (fun _ _ _ h => h) (by rfl) ?_ hHeld ?_;rotate_left;· intro w hSw;(try dsimp only at hSw);go_simp;try with_reducible rfl
 try simp only [Act.put, sx, sy, sz]
 refine tk 3 ?_ rfl (by kernel_rfl) (fun _ _ _ h => h) (by rfl) ?_ hHeld ?_;rotate_left;· intro w hSw;(try dsimp only at hSw);go_simp;try with_reducible rfl
 try simp only [Act.put, sx, sy, sz]
 refine tk 4 ?_ rfl (by kernel_rfl) (fun _ _ _ h => h) (by rfl) ?_ hHeld ?_;rotate_left;· intro w hSw;(try dsimp only at hSw);go_simp;try with_reducible rfl
 try simp only [Act.put, sx, sy, sz]
 refine tk 5 ?_ rfl (by kernel_rfl) (fun _ _ _ h => h) (by rfl) ?_ hHeld ?_;rotate_left;· intro w hSw;(try dsimp only at hSw);go_simp;try with_reducible rfl
 try simp only [Act.put, sx, sy, sz]
 refine tk 6 ?_ rfl (by kernel_rfl) (fun _ _ _ h => h) (by rfl) ?_ hHeld ?_;rotate_left;· intro w hSw;(try dsimp only at hSw);go_simp;try with_reducible rfl
 try simp only [Act.put, sx, sy, sz]
 refine tk 7 ?_ rfl (by kernel_rfl) (fun _ _ _ h => h) (by rfl) ?_ hHeld ?_;rotate_left;· intro w hSw;(try dsimp only at hSw);go_simp;try with_reducible rfl
 try simp only [Act.put, sx, sy, sz]
 refine aj (i := 8) rfl (by kernel_rfl) (fun K hK => ?_)
 go_simp
 refine (zU ⟨#[120]⟩ _).mono ?_
 rintro e w5 ⟨rfl, hk5⟩
 have HK6 := ag ((ae HK5).trans0 hk5)
 clear hk5
 go_wp2_with fail
 refine hK.out _ _ (dX (ae HC4) (ae HK6)) (fun hHeld2 => ?_)
 clear hK K hHeld
 have hHeld := hHeld2
 clear hHeld2
 try simp only [Act.put, sx, sy, sz]
 refine tk 9 ?_ rfl (by kernel_rfl) (fun _ _ _ h => h) (by rfl) ?_ hHeld ?_;rotate_left;· intro w hSw;(try dsimp only at hSw);go_simp;try with_reducible rfl
 try simp only [Act.put, sx, sy, sz]
 refine tk 10 ?_ rfl (by kernel_rfl) (fun _ _ _ h => h) (by rfl) ?_ hHeld ?_;rotate_left;· intro w hSw;(try dsimp only at hSw);go_simp;try with_reducible rfl
 try simp only [Act.put, sx, sy, sz]
 refine tk 11 ?_ rfl (by kernel_rfl) (fun _ _ _ h => h) (by rfl) ?_ hHeld ?_;rotate_left;· intro w hSw;(try dsimp only at hSw);go_simp;try with_reducible rfl
 try simp only [Act.put, sx, sy, sz]
 refine tk 12 ?_ rfl (by kernel_rfl) (fun _ _ _ h => h) (by rfl) ?_ hHeld ?_;rotate_left;· intro w hSw;(try dsimp only at hSw);go_simp;try with_reducible rfl
 try simp only [Act.put, sx, sy, sz]
 refine tk 13 ?_ rfl (by kernel_rfl) (fun _ _ _ h => h) (by rfl) ?_ hHeld ?_;rotate_left;· intro w hSw;(try dsimp only at hSw);go_simp;try with_reducible rfl
 try simp only [Act.put, sx, sy, sz]
 refine tk 14 ?_ rfl (by kernel_rfl) (fun _ _ _ h => h) (by rfl) ?_ hHeld ?_;rotate_left;· intro w hSw;(try dsimp only at hSw);go_simp;try with_reducible rfl
 try simp only [Act.put, sx, sy, sz]
 refine tk 15 ?_ rfl (by kernel_rfl) (fun _ _ _ h => h) (by rfl) ?_ hHeld ?_;rotate_left;· intro w hSw;(try dsimp only at hSw);go_simp;try with_reducible rfl
 try simp only [Act.put, sx, sy, sz]
 refine tk 16 ?_ rfl (by kernel_rfl) (fun _ _ _ h => h) (by rfl) ?_ hHeld ?_;rotate_left;· intro w hSw;(try dsimp only at hSw);go_simp;try with_reducible rfl
 try simp only [Act.put, sx, sy, sz]
 refine tk 17 ?_ rfl (by kernel_rfl) (fun _ _ _ h => h) (by rfl) ?_ hHeld ?_;rotate_left;· intro w hSw;(try dsimp only at hSw);go_simp;try with_reducible rfl
 try simp only [Act.put, sx, sy, sz]
 refine tk 18 ?_ rfl (by kernel_rfl) (fun _ _ _ h => h) (by rfl) ?_ hHeld ?_;rotate_left;· intro w hSw;(try dsimp only at hSw);go_simp;try with_reducible rfl
 try simp only [Act.put, sx, sy, sz]
 refine tk 19 ?_ rfl (by kernel_rfl) (fun _ _ _ h => h) (by rfl) ?_ hHeld ?_;rotate_left;· intro w hSw;(try dsimp only at hSw);go_simp;try with_reducible rfl
 try simp only [Act.put, sx, sy, sz]
 refine tk 20 ?_ rfl (by kernel_rfl) (fun _ _ _ h => h) (by rfl) ?_ hHeld ?_;rotate_left;· intro w hSw;(try dsimp only at hSw);go_simp;try with_reducible rfl
 try simp only [Act.put, sx, sy, sz]
 refine tk 21 ?_ rfl (by kernel_rfl) (fun _ _ _ h => h) (by rfl) ?_ hHeld ?_;rotate_left;· intro w hSw;(try dsimp only at hSw);go_simp;try with_reducible rfl
 try simp only [Act.put, sx, sy, sz]
 refine tk 22 ?_ rfl (by kernel_rfl) (fun _ _ _ h => h) (by rfl) ?_ hHeld ?_;rotate_left;· intro w hSw;(try dsimp only at hSw);go_simp;try with_reducible rfl
 try simp only [Act.put, sx, sy, sz]
 refine tk 23 ?_ rfl (by kernel_rfl) (fun _ _ _ h => h) (by rfl) ?_ hHeld ?_;rotate_left;· intro w hSw;(try dsimp only at hSw);go_simp;try with_reducible rfl
 try simp only [Act.put, sx, sy, sz]
 refine tk 24 ?_ rfl (by kernel_rfl) (fun _ _ _ h => h) (by rfl) ?_ hHeld ?_;rotate_left;· intro w hSw;(try dsimp only at hSw);go_simp;try with_reducible rfl
 try simp only [Act.put, sx, sy, sz]
 refine tk 25 ?_ rfl (by kernel_rfl) (fun _ _ _ h => h) (by rfl) ?_ hHeld ?_;rotate_left;· intro w hSw;(try dsimp only at hSw);go_simp;try with_reducible rfl
 try simp only [Act.put, sx, sy, sz]
 refine tk 26 ?_ rfl (by kernel_rfl) (fun _ _ _ h => h) (by rfl) ?_ hHeld ?_;rotate_left;· intro w hSw;(try dsimp only at hSw);go_simp;try with_reducible rfl
 try simp only [Act.put, sx, sy, sz]
 refine aj (i := 27) rfl (by kernel_rfl) (fun K hK => ?_)
 go_simp
 have HS6 := ag (gw (some ⟨g, o, none⟩) c _ w5 ((ae HD4).kp0 (ae HK6)) zD Ar)
 rw [ae HSR] at HS6
 refine (ae HS6).mono ?_
 rintro e w6 ⟨rfl, hk6⟩
 have HK7 := ag ((ae HK6).trans0 hk6)
 clear hk6
 go_wp2_with fail
 refine hK.out _ _ (dX (ae HC4) (ae HK7)) (fun hHeld2 => ?_)
 clear hK K hHeld
 have hHeld := hHeld2
 clear hHeld2
 try simp only [Act.put, sx, sy, sz]
 refine tk 28 ?_ rfl (by kernel_rfl) (fun _ _ _ h => h) (by rfl) ?_ hHeld ?_;rotate_left;· intro w hSw;(try dsimp only at hSw);go_simp;try with_reducible rfl
 try simp only [Act.put, sx, sy, sz]
 refine tk 29 ?_ rfl (by kernel_rfl) (fun _ _ _ h => h) (by rfl) ?_ hHeld ?_;rotate_left;· intro w hSw;(try dsimp only at hSw);go_simp;try with_reducible rfl
 try simp only [Act.put, List.setIfInBounds_toArray, List.set_cons_zero]
 refine wpAnyH_done (by kernel_rfl) ?_ _
 go_wp2_with fail
 go_ret
 exact ⟨rfl, (ae HK4).trans0 (ae HK7)⟩
theorem nX {w : World} {p : Nat} {v : Nat → Ver} (h : w.heap[p]? = some (.cells (ay v) 48 (0, 0))) : (loadVar 48 ⟨p, 0, none⟩).run Tryz.prog w = .ok (.agg (ay v)) w :=
 run_loadVar_row w p 48 48 (ay v) (0, 0) _ h Tryz.underlying48 rfl Tryz.size48
theorem jQ {v : Nat → Ver} {j : Nat} {t : Int} {k : Nat} (h : ¬ ((j : Int) ≤ (k : Int) ∧ (k : Int) ≤ t ∧ (v k).t = true)) : wl v j t (k + 1) = wl v j t k := by
 simp only [wl]
 rw [if_neg h]
theorem xz {v : Nat → Ver} {j : Nat} {t : Int} {k : Nat} (h1 : (j : Int) ≤ (k : Int)) (h2 : (k : Int) ≤ t) (h3 : (v k).t = true) : wl v j t (k + 1) = wl v j t k ++ [⟨(k : Int), true, (v k).s⟩] := by
 simp only [wl]
 rw [if_pos ⟨h1, h2, h3⟩, h3]
theorem eS (v : Nat → Ver) (a : Option Addr) (c : Nat) (l : List Ac) (w : World) (h : bM w a l) (hok : dy l) :
 Calls Tryz.prog 12 #[.agg (ay v), .slice a l.length c] w fun e w' => xh v l w e w' := by
 have hu := Tryz.underlying41
 have HA := ag h
 have HO := ag hok
 have hm := hok.1
 have H0 := ag (ma 48 v w)
 clear h hok
 go_enter Tryz.func12, Tryz.ntmps12
 go_wp2_with fail
 generalize w.heap.size + 1 = p at *
 generalize w.heap.size = q at *
 obtain ⟨n, hn⟩ : ∃ n, l.length = n := ⟨_, rfl⟩
 rw [hn]
 rw [hn] at hm
 have HN := ag hn
 clear hn
 go_loopw [6, 7, 8, 9, 10] (fun x y _ _ _ wr => ∃ (k : Nat) (ok : Bool), k ≤ n ∧ x = .bool ok ∧ y = .int .i64 k ∧ Hid (∃ vk, RyI 48 w p q vk wr ∧ rpl vk ok (l.drop k) = (rpw v l, rpo v l))) (fun _ y _ _ _ _ => n - (intOf y).toNat)
 case atStart => exact ⟨0, true, Nat.zero_le _, rfl, rfl, v, ae H0, rfl⟩
 case round =>
  obtain ⟨k, ok, hk, rfl, rfl, HI⟩ := hrel
  obtain ⟨vk, hry, hrp⟩ := ae HI
  have HR := ag hry
  have HP := ag hrp
  clear hry hrp HI
  by_cases hlt : k < n
  ·have i1 : (k : Int) < (n : Int) := by omega
   have i0 : (0 : Int) ≤ (k : Int) := by omega
   have hln : k < l.length := by have := ae HN; omega
   obtain ⟨b, o, rfl, hb⟩ := (ae HA).kp0 (ae HR).kp (by omega)
   obtain ⟨x, hx⟩ : ∃ x, l[k]? = some x := ⟨_, List.getElem?_eq_getElem hln⟩
   have HX := ag hx
   have hxl : x.l.length ≤ 1000 := (ae HO).2 x (List.mem_of_getElem? hx)
   have hat := hb k x hx
   obtain ⟨la, lc, z5, hls⟩ := hat.ls
   have q0 := hat.c0
   have q1 := hat.c1
   have q2 : wr.cell? ⟨b, o + k * 6 + 1 + 1, none⟩ = _ := hat.c2
   have q3 : wr.cell? ⟨b, o + k * 6 + 1 + 1 + 1, none⟩ = _ := hat.c3
   have q4 : wr.cell? ⟨b, o + k * 6 + 1 + 1 + 1 + 1, none⟩ = _ := hat.c4
   have q5 : wr.cell? ⟨b, o + k * 6 + 1 + 1 + 1 + 1 + 1, none⟩ = _ := z5
   have HLS := ag hls
   clear hat hb hx hls z5
   obtain ⟨kd, key, to_, xt, xs, xl⟩ := x
   dsimp only at q0 q1 q2 q3 q4 q5 hxl HLS
   obtain ⟨ln, hlen⟩ : ∃ ln, xl.length = ln := ⟨_, rfl⟩
   rw [hlen] at q5
   have HLN := ag hlen
   clear hlen
   have hgq : ¬ wr.heap.size = q := by have := ah (ae HR).var; omega
   have HR1 := ag ((ae HR).kp0 ((Kp.refl [] wr).alloc (.cells #[.int .i64 kd, .int .i64 key, .int .i64 to_, .bool xt, .string xs, .slice la ln lc] 44)))
   have HL1 := ag ((ae HLS).kp0 ((Kp.refl [] wr).alloc (.cells #[.int .i64 kd, .int .i64 key, .int .i64 to_, .bool xt, .string xs, .slice la ln lc] 44)))
   have HB1 := ag (heap_alloc_new wr (.cells #[.int .i64 kd, .int .i64 key, .int .i64 to_, .bool xt, .string xs, .slice la ln lc] 44))
   go_wp2_with fail
   generalize wr.alloc (.cells #[.int .i64 kd, .int .i64 key, .int .i64 to_, .bool xt, .string xs, .slice la ln lc] 44) = W at *
   generalize wr.heap.size = g at *
   refine (cJ key W).mono ?_
   rintro e w2 ⟨rfl, hw2⟩
   subst w2
   have b0 : W.cell? ⟨g, 0, none⟩ = some (.int .i64 kd) := af (ae HB1) rfl
   have b1 : W.cell? ⟨g, 1, none⟩ = some (.int .i64 key) := af (ae HB1) rfl
   have b2 : W.cell? ⟨g, 2, none⟩ = some (.int .i64 to_) := af (ae HB1) rfl
   have b3 : W.cell? ⟨g, 3, none⟩ = some (.bool xt) := af (ae HB1) rfl
   have b4 : W.cell? ⟨g, 4, none⟩ = some (.string xs) := af (ae HB1) rfl
   have b5 : W.cell? ⟨g, 5, none⟩ = some (.slice la ln lc) := af (ae HB1) rfl
   clear q0 q1 q2 q3 q4 q5 HR HLS HA
   by_cases hkb : aN key = true
   ·rw [hkb]
    have HNX := ag ((rP (ae HX) vk ok hkb).symm.trans (ae HP))
    simp only [aN, decide_eq_true_eq] at hkb
    obtain ⟨j, rfl⟩ : ∃ j : Nat, key = (j : Int) := ⟨key.toNat, by omega⟩
    have j8 : j < 8 := by omega
    have j0 : (0 : Int) ≤ (j : Int) := by omega
    have j8' : (j : Int) < 8 := by omega
    clear hkb
    obtain ⟨r0, r1, f0, f1⟩ := (ae HR1).cells j8
    by_cases k3 : kd = 3
    ·subst k3
     have HR2 := ag ((ae HR1).set j8 xt xs)
     have ne := hgq
     have w0 : ((W.setCell ⟨q, j * 2, none⟩ (.bool xt)).setCell ⟨q, j * 2 + 1, none⟩ (.string xs)).cell? ⟨g, 0, none⟩ = some (.int .i64 3) := (((Kp.refl [q] W).setCell (.inl (by simp)) _).setCell (.inl (by simp)) _).cell (by simpa using ne) b0
     go_wp2_with fail
     go_quiet (fail)
     go_wp2_with fail
     refine ⟨⟨k + 1, ok, by omega, rfl, by go_num, _, (ae HR2).kp0 ((Kp.refl [] _).drewN _), ?_⟩, by simp [intOf]; omega⟩
     have z := ae HNX
     simp only [ado, aso] at z
     simpa using z
    by_cases k4 : kd = 4
    ·subst k4
     have HR2 := ag ((ae HR1).set j8 xt xs)
     have ne := hgq
     have w0 : ((W.setCell ⟨q, j * 2, none⟩ (.bool xt)).setCell ⟨q, j * 2 + 1, none⟩ (.string xs)).cell? ⟨g, 0, none⟩ = some (.int .i64 4) := (((Kp.refl [q] W).setCell (.inl (by simp)) _).setCell (.inl (by simp)) _).cell (by simpa using ne) b0
     go_wp2_with fail
     go_quiet (fail)
     go_wp2_with fail
     refine ⟨⟨k + 1, ok, by omega, rfl, by go_num, _, (ae HR2).kp0 ((Kp.refl [] _).drewN _), ?_⟩, by simp [intOf]; omega⟩
     have z := ae HNX
     simp only [ado, aso] at z
     simpa using z
    by_cases k2 : kd = 2
    ·subst k2
     have hne := yl (vk j).t xt (vk j).s xs
     have hz : rpl vk (ok && decide (xt = (vk j).t ∧ xs = (vk j).s)) (l.drop (k + 1)) = (rpw v l, rpo v l) := by
      have z := ae HNX
      simp only [ado, aso, Int.toNat_natCast] at z
      simpa using z
     have hbq : (decide (xt = (vk j).t ∧ xs = (vk j).s)) = decide ((vk j).t = xt ∧ (vk j).s = xs) := decide_eq_decide.2 ⟨fun h => ⟨h.1.symm, h.2.symm⟩, fun h => ⟨h.1.symm, h.2.symm⟩⟩
     rw [hbq] at hz
     have HZ := ag hz
     clear hz HNX hbq
     generalize hbb : decide ((vk j).t = xt ∧ (vk j).s = xs) = bb at *
     generalize (vk j).t = vt at *
     generalize (vk j).s = vs at *
     clear hbb
     cases bb with
     | true =>
       go_wp2_with fail
       go_quiet (fail)
       go_wp2_with fail
       refine ⟨⟨k + 1, ok, by omega, rfl, by go_num, _, (ae HR1).kp0 ((Kp.refl [] W).drewN _), ?_⟩, by simp [intOf]; omega⟩
       have z := ae HZ
       simpa using z
     | false =>
       go_wp2_with fail
       go_quiet (fail)
       go_wp2_with fail
       refine ⟨⟨k + 1, false, by omega, rfl, by go_num, _, (ae HR1).kp0 ((Kp.refl [] W).drewN _), ?_⟩, by simp [intOf]; omega⟩
       have z := ae HZ
       simpa using z
    by_cases k5 : kd = 5
    ·subst k5
     have hz : rpl vk (ok && decide (xl = wl vk j to_ 8)) (l.drop (k + 1)) = (rpw v l, rpo v l) := by
      have z := ae HNX
      simp only [ado, aso] at z
      simpa using z
     have HZ := ag hz
     clear hz HNX r0 r1 f0 f1
     go_wp2_with fail
     go_quiet (fail)
     go_wp2_with fail
     generalize hW2 : W.drewN _ = W2
     have hk2 : Kp [] W W2 := by rw [← hW2]; exact (Kp.refl [] W).drewN _
     have HR2 := ag ((ae HR1).kp0 hk2)
     have HL2 := ag ((ae HL1).kp0 hk2)
     have HB2 := ag (And.intro (hk2.cell (by simp) b1) (And.intro (hk2.cell (by simp) b2) (hk2.cell (by simp) b5)))
     clear hW2 hk2 HR1 HL1 HB1 b0 b1 b2 b3 b4 b5
     go_loopw [9, 10] (fun x y wr => ∃ (i : Nat) (a3 : Option Addr) (c3 n3 : Nat), i ≤ 8 ∧ x = .slice a3 n3 c3 ∧ y = .int .i64 i ∧ Hid (n3 = (wl vk j to_ i).length) ∧ Hid (Zoo W2 wr [KwT 98 3 a3 n3 c3 (aw (wl vk j to_ i))])) (fun _ y _ => 8 - (intOf y).toNat)
     case atStart => exact ⟨0, none, 0, 0, Nat.zero_le _, rfl, rfl, rfl, du 98 3 (cg (Kp.refl [] W2))⟩
     case round =>
      obtain ⟨i, a3, c3, n3, hi8, rfl, rfl, HN3, HZ3⟩ := hrel
      have b1 := (ae HZ3).kp.cell (by simp) (ae HB2).1
      have b2 := (ae HZ3).kp.cell (by simp) (ae HB2).2.1
      have b5 := (ae HZ3).kp.cell (by simp) (ae HB2).2.2
      by_cases hlt8 : i < 8
      ·have t1 : (i : Int) < 8 := by omega
       have t0 : (0 : Int) ≤ (i : Int) := by omega
       have hn8 : n3 ≤ 8 := by have := ae HN3; have := kv vk j to_ i; omega
       have hBw := Zoo.base (ae HZ3)
       obtain ⟨c0, c1, -, -⟩ := ((ae HR2).kp0 (ae HZ3).kp).cells hlt8
       by_cases h1 : (j : Int) ≤ (i : Int)
       ·by_cases h2 : (i : Int) ≤ to_
        ·cases hvt : (vk i).t with
         | true =>
           have HW1 := ag (xz h1 h2 hvt)
           rw [hvt] at c0
           clear hvt
           generalize hvs : (vk i).s = sv at *
           clear hvs
           have HZA := ag ((ae HZ3).box #[.int .i64 i, .bool true, .string sv] 98)
           have HBX := ag (Zoo.var (ae HZA))
           go_wp2_with (at_builtin; refine bC (by rfl) (.tmp 74) (.tmp 80) 41 (by rfl) hu Tryz.info98 rfl (by omega) (bq (l1 := [au wr.heap.size #[.int .i64 i, .bool true, .string sv] 98]) (ae HZA)) (by simp; omega) (.slice (some ⟨wr.heap.size, 0, none⟩) 1 1) [.int .i64 i, .bool true, .string sv] 1 (by rfl) (by rfl) (aQ hu (ae HBX) rfl (by simp [Value.oneCell'])) (by omega) (n3 + 1) rfl ?_; intro a2 cap2 w3 g1 g2 g3)
           have HZ4 := ag (Zoo.tail (cS (l1 := [au wr.heap.size #[.int .i64 i, .bool true, .string sv] 98]) (ae HZA) (ae g1) (ae g2) (ae g3)))
           exact ⟨⟨i + 1, a2, cap2, n3 + 1, by omega, rfl, by go_num, by rw [ae HW1, List.length_append, ae HN3]; rfl, by rw [ae HW1, bk]; exact ae HZ4⟩, by simp [intOf]; omega⟩
         | false =>
           have HNO := ag (show ¬ ((j : Int) ≤ (i : Int) ∧ (i : Int) ≤ to_ ∧ (vk i).t = true) by rw [hvt]; simp)
           rw [hvt] at c0
           clear hvt
           go_wp2_with fail
           exact ⟨⟨i + 1, a3, c3, n3, by omega, rfl, by go_num, by rw [jQ (ae HNO)]; exact ae HN3, by rw [jQ (ae HNO)]; exact ae HZ3⟩, by simp [intOf]; omega⟩
        ·have HNO := ag (show ¬ ((j : Int) ≤ (i : Int) ∧ (i : Int) ≤ to_ ∧ (vk i).t = true) from fun q => h2 q.2.1)
         go_wp2_with fail
         exact ⟨⟨i + 1, a3, c3, n3, by omega, rfl, by go_num, by rw [jQ (ae HNO)]; exact ae HN3, by rw [jQ (ae HNO)]; exact ae HZ3⟩, by simp [intOf]; omega⟩
       ·have HNO := ag (show ¬ ((j : Int) ≤ (i : Int) ∧ (i : Int) ≤ to_ ∧ (vk i).t = true) from fun q => h1 q.1)
        go_wp2_with fail
        exact ⟨⟨i + 1, a3, c3, n3, by omega, rfl, by go_num, by rw [jQ (ae HNO)]; exact ae HN3, by rw [jQ (ae HNO)]; exact ae HZ3⟩, by simp [intOf]; omega⟩
      ·have t1 : ¬ (i : Int) < 8 := by omega
       have e8 : i = 8 := by omega
       cases ok with
       | false =>
         go_wp2_with fail
         refine ⟨⟨k + 1, false, by omega, rfl, by go_num, _, (ae HR2).kp0 (ae HZ3).kp, ?_⟩, by simp [intOf]; omega⟩
         have z := ae HZ
         simpa using z
       | true =>
         have HSP := ag (uS (vs := wl vk j to_ i) (us := xl) a3 la c3 lc wr (iV (bq (l1 := []) (ae HZ3))) ((ae HL2).kp0 (ae HZ3).kp) (by have := kv vk j to_ i; omega))
         rw [← ae HN3, ae HLN] at HSP
         go_wp2_with fail
         refine (ae HSP).mono ?_
         rintro e w4 ⟨bb, rfl, hbb, m4, hw4⟩
         subst w4
         have HBB := ag hbb
         clear hbb HSP
         go_wp2_with fail
         refine ⟨⟨k + 1, bb, by omega, rfl, by go_num, _, (ae HR2).kp0 ((ae HZ3).kp.drewN m4), ?_⟩, by simp [intOf]; omega⟩
         have z := ae HZ
         have e : decide (xl = wl vk j to_ 8) = bb := by
          have hb9 := ae HBB
          rw [e8] at hb9
          cases hb : bb with
          | true => exact decide_eq_true (hb9.1 hb).symm
          | false => exact decide_eq_false (fun q => by have := hb9.2 q.symm; rw [hb] at this; cases this)
         rw [e] at z
         simpa using z
    ·have e2 : (kd == 2) = false := by simpa using k2
     have e3 : (kd == 3) = false := by simpa using k3
     have e4 : (kd == 4) = false := by simpa using k4
     have e5 : (kd == 5) = false := by simpa using k5
     go_wp2_with fail
     go_quiet (fail)
     go_wp2_with fail
     refine ⟨⟨k + 1, ok, by omega, rfl, by go_num, _, (ae HR1).kp0 ((Kp.refl [] W).drewN _), ?_⟩, by simp [intOf]; omega⟩
     have z := ae HNX
     simp only [ado, aso] at z
     simpa [k2, k3, k4, k5] using z
   ·have hkf : aN key = false := by simpa using hkb
    rw [hkf]
    have HNX := ag ((oD (ae HX) vk ok hkb).symm.trans (ae HP))
    clear hkb hkf
    go_wp2_with (first | (refine wpList_load_row rfl 48 _ rfl q rfl 48 _ (0, 0) _ (ae HR1).var Tryz.underlying48 rfl Tryz.size48 ?_) | (refine wpList_store_row rfl 48 _ _ rfl p (ay vk) rfl rfl 48 _ (ae HR1).res Tryz.size48 rfl (aS _) ?_))
    obtain ⟨z1, z2⟩ := (ae HR1).fin
    have hld := nX z1
    refine bodyPost_ret (v := .tuple #[.agg (ay vk), .bool false]) (by rw [results_cell_tmp Tryz.results12]; simp [asAddr, Result.andThen, hld]) rfl ?_
    have z := ae HNX
    simp only [Prod.mk.injEq] at z
    exact ⟨by rw [← z.1, ← z.2], z2⟩
  ·have i1 : ¬ (k : Int) < (n : Int) := by omega
   go_wp2_with (first | (refine wpList_load_row rfl 48 _ rfl q rfl 48 _ (0, 0) _ (ae HR).var Tryz.underlying48 rfl Tryz.size48 ?_) | (refine wpList_store_row rfl 48 _ _ rfl p (ay vk) rfl rfl 48 _ (ae HR).res Tryz.size48 rfl (aS _) ?_))
   obtain ⟨z1, z2⟩ := (ae HR).fin
   have hld := nX z1
   refine bodyPost_ret (v := .tuple #[.agg (ay vk), .bool ok]) (by rw [results_cell_tmp Tryz.results12]; simp [asAddr, Result.andThen, hld]) rfl ?_
   have z := ae HP
   rw [List.drop_eq_nil_of_le (by have := ae HN; omega)] at z
   simp only [rpl, Prod.mk.injEq] at z
   exact ⟨by rw [← z.1, ← z.2], z2⟩
theorem Tryz.info44 : (Tryz.prog.info? 44).map (fun i => (i.zero, i.size, i.bytes)) = some (some (.agg #[.int .i64 0, .int .i64 0, .int .i64 0, .bool false, .string ByteArray.empty, .slice none 0 0]), 6, 72) := by kernel_rfl
theorem fQ {T : TypeId} {B : Nat} {w : World} {ac : Option Addr} {cc n : Nat} {zs : List Ax} (hrow : bn T 6 B w ac n cc (bS zs)) (h : ∀ y, y ∈ zs → SlO w y.a y.x.l) : bM w ac (zs.map Ax.x) := by
 intro hp
 rw [List.length_map] at hp
 obtain ⟨y0, hy0⟩ : ∃ y, zs[0]? = some y := ⟨_, List.getElem?_eq_getElem hp⟩
 obtain ⟨g, e, _⟩ := hrow.cell (iK (j := 0) hy0 (by omega) rfl)
 refine ⟨g, 0, e, fun i x hx => ?_⟩
 rw [List.getElem?_map] at hx
 cases hz2 : zs[i]? with
 | none => rw [hz2] at hx; cases hx
 | some y =>
   rw [hz2] at hx
   simp only [Option.map_some, Option.some.injEq] at hx
   subst hx
   have key : ∀ {j : Nat} {v : Value}, j < 6 → (axc y)[j]? = some v → w.cell? ⟨g, 0 + i * 6 + j, none⟩ = some v := fun {j v} hj hv => by
    obtain ⟨g', e', hc⟩ := hrow.cell (iK hz2 hj hv)
    rw [e] at e'
    simp only [Option.some.injEq, Addr.mk.injEq, and_true] at e'
    rw [Nat.zero_add, e']
    exact hc
   exact ⟨key (j := 0) (by omega) rfl, key (j := 1) (by omega) rfl, key (j := 2) (by omega) rfl, key (j := 3) (by omega) rfl, key (j := 4) (by omega) rfl, y.a, y.c, key (j := 5) (by omega) rfl, h y (List.mem_of_getElem? hz2)⟩
theorem tR {w w' : World} {p0 p1 p2 p3 p4 p5 : Addr} {x0 x1 x2 x3 x4 x5 : Value} (h : w.cell? p0 = some x0 ∧ w.cell? p1 = some x1 ∧ w.cell? p2 = some x2 ∧ w.cell? p3 = some x3 ∧ w.cell? p4 = some x4 ∧ w.cell? p5 = some x5) (hk : Kp [] w w') : w'.cell? p0 = some x0 ∧ w'.cell? p1 = some x1 ∧ w'.cell? p2 = some x2 ∧ w'.cell? p3 = some x3 ∧ w'.cell? p4 = some x4 ∧ w'.cell? p5 = some x5 :=
 ⟨hk.cell (by simp) h.1, hk.cell (by simp) h.2.1, hk.cell (by simp) h.2.2.1, hk.cell (by simp) h.2.2.2.1, hk.cell (by simp) h.2.2.2.2.1, hk.cell (by simp) h.2.2.2.2.2⟩
def lJ (l : List Ac) (w0 w : World) (e : Ending) (w' : World) : Prop := ∃ a c zs, e = .returned (.slice a l.length c) ∧ bn 44 6 w.heap.size w' a l.length c (bS zs) ∧ Kp [] w w' ∧ zs.map Ax.x = l ∧ ∀ y, y ∈ zs → SlO w0 y.a y.x.l
structure AcI (l : List Ac) (w0 w wr : World) (aO : Option Addr) (cO n i : Nat) (zs : List Ax) : Prop where
 zoo : Zoo w wr [KwT 44 6 aO n cO (bS zs)]
 nl : n = zs.length
 map : zs.map Ax.x = l.take i
 sl : ∀ y, y ∈ zs → SlO w0 y.a y.x.l
theorem oH (a : Option Addr) (c : Nat) (l : List Ac) (w0 w : World) (hk0 : Kp [] w0 w) (h : bM w0 a l) (hok : dy l) :
 Calls Tryz.prog 13 #[.slice a l.length c] w (lJ l w0 w) := by
 have hu := Tryz.underlying37
 have HA := ag h
 have HK0 := ag hk0
 have hm := hok.1
 clear h hok hk0
 obtain ⟨m, hmm⟩ : ∃ m, l.length = m := ⟨_, rfl⟩
 have HM := ag hmm
 rw [hmm] at hm ⊢
 clear hmm
 go_enter Tryz.func13, Tryz.ntmps13
 go_wp2_with fail
 go_loopw [3, 4] (fun x y wr => ∃ (i : Nat) (aO : Option Addr) (cO n : Nat), i ≤ m ∧ n ≤ i ∧ x = .slice aO n cO ∧ y = .int .i64 i ∧ Hid (∃ zs, AcI l w0 w wr aO cO n i zs)) (fun _ y _ => m - (intOf y).toNat)
 case atStart => exact ⟨0, none, 0, 0, Nat.zero_le _, Nat.le_refl _, rfl, rfl, [], du 44 6 (cg (Kp.refl [] w)), rfl, rfl, fun y hy => by simp at hy⟩
 case round =>
  obtain ⟨i, aO, cO, n, hi, hni, rfl, rfl, HI⟩ := hrel
  obtain ⟨zs, hz⟩ := ae HI
  have HZ := ag hz
  clear hz HI
  by_cases hlt : i < m
  ·have i1 : (i : Int) < (m : Int) := by omega
   have i0 : (0 : Int) ≤ (i : Int) := by omega
   have hln : i < l.length := by have := ae HM; omega
   obtain ⟨g, o, rfl, hb⟩ := (ae HA) (by omega)
   obtain ⟨x, hx⟩ : ∃ x, l[i]? = some x := ⟨_, List.getElem?_eq_getElem hln⟩
   have htk : l.take (i + 1) = l.take i ++ [x] := by rw [List.take_add_one, hx]; rfl
   have hat := hb i x hx
   obtain ⟨la, lc, z5, hls⟩ := hat.ls
   have q0 := (ae HK0).cell (by simp) hat.c0
   have q1 := (ae HK0).cell (by simp) hat.c1
   have q2 : w.cell? ⟨g, o + i * 6 + 1 + 1, none⟩ = _ := (ae HK0).cell (by simp) hat.c2
   have q3 : w.cell? ⟨g, o + i * 6 + 1 + 1 + 1, none⟩ = _ := (ae HK0).cell (by simp) hat.c3
   have q4 : w.cell? ⟨g, o + i * 6 + 1 + 1 + 1 + 1, none⟩ = _ := (ae HK0).cell (by simp) hat.c4
   have q5 : w.cell? ⟨g, o + i * 6 + 1 + 1 + 1 + 1 + 1, none⟩ = _ := (ae HK0).cell (by simp) z5
   have HLS := ag hls
   have HT := ag htk
   clear hat hb hx hls z5 htk
   obtain ⟨kd, key, to_, xt, xs, xl⟩ := x
   dsimp only at q0 q1 q2 q3 q4 q5 HLS
   obtain ⟨ln, hlen⟩ : ∃ ln, xl.length = ln := ⟨_, rfl⟩
   rw [hlen] at q5
   have HLX := ag hlen
   clear hlen
   have HG := ag (And.intro q0 (And.intro q1 (And.intro q2 (And.intro q3 (And.intro q4 q5)))))
   clear q0 q1 q2 q3 q4 q5
   go_wp2_with fail
   refine wp_region_held_drew (S := fun w' => w'.cell? ⟨g, o + i * 6, none⟩ = some (.int .i64 kd) ∧ w'.cell? ⟨g, o + i * 6 + 1, none⟩ = some (.int .i64 key) ∧ w'.cell? ⟨g, o + i * 6 + 1 + 1, none⟩ = some (.int .i64 to_) ∧ w'.cell? ⟨g, o + i * 6 + 1 + 1 + 1, none⟩ = some (.bool xt) ∧ w'.cell? ⟨g, o + i * 6 + 1 + 1 + 1 + 1, none⟩ = some (.string xs) ∧ w'.cell? ⟨g, o + i * 6 + 1 + 1 + 1 + 1 + 1, none⟩ = some (.slice la ln lc)) (by kernel_rfl) (tR (ae HG) ((ae HZ).zoo.kp.drew)) (fun hHeld => ?_)
   have HA0 := ag ((ae HZ).zoo.kp0 ((Kp.refl [] wr).drew))
   generalize World.drew _ = WD at HA0 hHeld ⊢
   refine tk 0 ?_ rfl (by kernel_rfl) (fun _ _ _ h => h) (by rfl) ?_ hHeld ?_;rotate_left;· intro w hSw;(try dsimp only at hSw);go_simp;try with_reducible rfl
   try simp only [Act.put, sx, sy, sz]
   refine tk 1 ?_ rfl (by kernel_rfl) (fun _ _ _ h => h) (by rfl) ?_ hHeld ?_;rotate_left;· intro w hSw;(try dsimp only at hSw);go_simp;try with_reducible rfl
   try simp only [Act.put, sx, sy, sz]
   refine tk 2 ?_ rfl (by kernel_rfl) (fun _ _ _ h => h) (by rfl) ?_ hHeld ?_;rotate_left;· intro w hSw;(try dsimp only at hSw);go_simp;try with_reducible rfl
   try simp only [Act.put, sx, sy, sz]
   refine tk 3 ?_ rfl (by kernel_rfl) (fun _ _ _ h => h) (by rfl) ?_ hHeld ?_;rotate_left;· intro w hSw;(try dsimp only at hSw);go_simp;try with_reducible rfl
   try simp only [Act.put, sx, sy, sz]
   refine tk 4 ?_ rfl (by kernel_rfl) (fun _ _ _ h => h) (by rfl) ?_ hHeld ?_;rotate_left;· intro w hSw;(try dsimp only at hSw);go_simp;try with_reducible rfl
   try simp only [Act.put, sx, sy, sz]
   refine tk 5 ?_ rfl (by kernel_rfl) (fun _ _ _ h => h) (by rfl) ?_ hHeld ?_;rotate_left;· intro w hSw;(try dsimp only at hSw);go_simp;try with_reducible rfl
   try simp only [Act.put, sx, sy, sz]
   refine tk 6 ?_ rfl (by kernel_rfl) (fun _ _ _ h => h) (by rfl) ?_ hHeld ?_;rotate_left;· intro w hSw;(try dsimp only at hSw);go_simp;try with_reducible rfl
   try simp only [Act.put, sx, sy, sz]
   refine tk 7 ?_ rfl (by kernel_rfl) (fun _ _ _ h => h) (by rfl) ?_ hHeld ?_;rotate_left;· intro w hSw;(try dsimp only at hSw);go_simp;try with_reducible rfl
   try simp only [Act.put, sx, sy, sz]
   refine tk 8 ?_ rfl (by kernel_rfl) (fun _ _ _ h => h) (by rfl) ?_ hHeld ?_;rotate_left;· intro w hSw;(try dsimp only at hSw);go_simp;try with_reducible rfl
   try simp only [Act.put, sx, sy, sz]
   refine tk 9 ?_ rfl (by kernel_rfl) (fun _ _ _ h => h) (by rfl) ?_ hHeld ?_;rotate_left;· intro w hSw;(try dsimp only at hSw);go_simp;try with_reducible rfl
   try simp only [Act.put, sx, sy, sz]
   refine tk 10 ?_ rfl (by kernel_rfl) (fun _ _ _ h => h) (by rfl) ?_ hHeld ?_;rotate_left;· intro w hSw;(try dsimp only at hSw);go_simp;try with_reducible rfl
   try simp only [Act.put, sx, sy, sz]
   refine tk 11 ?_ rfl (by kernel_rfl) (fun _ _ _ h => h) (by rfl) ?_ hHeld ?_;rotate_left;· intro w hSw;(try dsimp only at hSw);go_simp;try with_reducible rfl
   try simp only [Act.put, sx, sy, sz]
   refine tk 12 ?_ rfl (by kernel_rfl) (fun _ _ _ h => h) (by rfl) ?_ hHeld ?_;rotate_left;· intro w hSw;(try dsimp only at hSw);go_simp;try with_reducible rfl
   try simp only [Act.put, sx, sy, sz]
   refine tk 13 ?_ rfl (by kernel_rfl) (fun _ _ _ h => h) (by rfl) ?_ hHeld ?_;rotate_left;· intro w hSw;(try dsimp only at hSw);go_simp;try with_reducible rfl
   try simp only [Act.put, sx, sy, sz]
   refine tk 14 ?_ rfl (by kernel_rfl) (fun _ _ _ h => h) (by rfl) ?_ hHeld ?_;rotate_left;· intro w hSw;(try dsimp only at hSw);go_simp;try with_reducible rfl
   try simp only [Act.put, sx, sy, sz]
   refine tk 15 ?_ rfl (by kernel_rfl) (fun _ _ _ h => h) (by rfl) ?_ hHeld ?_;rotate_left;· intro w hSw;(try dsimp only at hSw);go_simp;try with_reducible rfl
   try simp only [Act.put, sx, sy, sz]
   refine tk 16 ?_ rfl (by kernel_rfl) (fun _ _ _ h => h) (by rfl) ?_ hHeld ?_;rotate_left;· intro w hSw;(try dsimp only at hSw);go_simp;try with_reducible rfl
   try simp only [Act.put, sx, sy, sz]
   refine tk 17 ?_ rfl (by kernel_rfl) (fun _ _ _ h => h) (by rfl) ?_ hHeld ?_;rotate_left;· intro w hSw;(try dsimp only at hSw);go_simp;try with_reducible rfl
   try simp only [Act.put, sx, sy, sz]
   refine tk 18 ?_ rfl (by kernel_rfl) (fun _ _ _ h => h) (by rfl) ?_ hHeld ?_;rotate_left;· intro w hSw;(try dsimp only at hSw);go_simp;try with_reducible rfl
   try simp only [Act.put, sx, sy, sz]
   refine tk 19 ?_ rfl (by kernel_rfl) (fun _ _ _ h => h) (by rfl) ?_ hHeld ?_;rotate_left;· intro w hSw;(try dsimp only at hSw);go_simp;try with_reducible rfl
   try simp only [Act.put, sx, sy, sz]
   refine tk 20 ?_ rfl (by kernel_rfl) (fun _ _ _ h => h) (by rfl) ?_ hHeld ?_;rotate_left;· intro w hSw;(try dsimp only at hSw);go_simp;try with_reducible rfl
   try simp only [Act.put, sx, sy, sz]
   refine tk 21 ?_ rfl (by kernel_rfl) (fun _ _ _ h => h) (by rfl) ?_ hHeld ?_;rotate_left;· intro w hSw;(try dsimp only at hSw);go_simp;try with_reducible rfl
   try simp only [Act.put, sx, sy, sz]
   refine tk 22 ?_ rfl (by kernel_rfl) (fun _ _ _ h => h) (by rfl) ?_ hHeld ?_;rotate_left;· intro w hSw;(try dsimp only at hSw);go_simp;try with_reducible rfl
   try simp only [Act.put, sx, sy, sz]
   refine tk 23 ?_ rfl (by kernel_rfl) (fun _ _ _ h => h) (by rfl) ?_ hHeld ?_;rotate_left;· intro w hSw;(try dsimp only at hSw);go_simp;try with_reducible rfl
   try simp only [Act.put, sx, sy, sz]
   refine tk 24 ?_ rfl (by kernel_rfl) (fun _ _ _ h => h) (by rfl) ?_ hHeld ?_;rotate_left;· intro w hSw;(try dsimp only at hSw);go_simp;try with_reducible rfl
   try simp only [Act.put, sx, sy, sz]
   refine tk 25 ?_ rfl (by kernel_rfl) (fun _ _ _ h => h) (by rfl) ?_ hHeld ?_;rotate_left;· intro w hSw;(try dsimp only at hSw);go_simp;try with_reducible rfl
   try simp only [Act.put, sx, sy, sz]
   refine tk 26 ?_ rfl (by kernel_rfl) (fun _ _ _ h => h) (by rfl) ?_ hHeld ?_;rotate_left;· intro w hSw;(try dsimp only at hSw);go_simp;try with_reducible rfl
   try simp only [Act.put, sx, sy, sz]
   refine aj (i := 27) rfl (by kernel_rfl) (fun K hK => ?_)
   go_simp
   have HA1 := ag ((ae HA0).box #[.int .i64 kd, .int .i64 key, .int .i64 to_, .bool xt, .string xs, .slice la ln lc] 44)
   refine hK.out _ _ (tR (ae HG) (ae HA1).kp) (fun hHeld2 => ?_)
   clear hK K hHeld
   have hHeld := hHeld2
   clear hHeld2
   try simp only [Act.put, sx, sy, sz]
   have HBX := ag (Zoo.var (ae HA1))
   have hBw := Zoo.base (ae HA1)
   generalize WD.alloc (.cells #[.int .i64 kd, .int .i64 key, .int .i64 to_, .bool xt, .string xs, .slice la ln lc] 44) = W1 at *
   generalize WD.heap.size = p3 at *
   refine aj (i := 28) rfl (by kernel_rfl) (fun K hK => ?_)
   refine bd (by rfl) (.tmp 11) (.tmp 38) 37 (by rfl) hu Tryz.info44 rfl (by omega) (bq (l1 := [au p3 #[.int .i64 kd, .int .i64 key, .int .i64 to_, .bool xt, .string xs, .slice la ln lc] 44]) (ae HA1)) hBw (.slice (some ⟨p3, 0, none⟩) 1 1) [.int .i64 kd, .int .i64 key, .int .i64 to_, .bool xt, .string xs, .slice la ln lc] 1 (by rfl) (by rfl) (aQ (cs := #[.int .i64 kd, .int .i64 key, .int .i64 to_, .bool xt, .string xs, .slice la ln lc]) hu (ae HBX) rfl (by simp [Value.oneCell'])) (by omega) (n + 1) rfl ?_
   intro a2 c2 w9 g1 g2 g3
   have HA2 := ag (Zoo.tail (cS (l1 := [au p3 #[.int .i64 kd, .int .i64 key, .int .i64 to_, .bool xt, .string xs, .slice la ln lc] 44]) (ae HA1) (ae g1) (ae g2) (ae g3)))
   refine hK.out _ _ (tR (ae HG) (ae HA2).kp) (fun hHeld2 => ?_)
   clear hK K hHeld
   have hHeld := hHeld2
   clear hHeld2
   try simp only [Act.put, sx, sy, sz]
   refine tk 29 ?_ rfl (by kernel_rfl) (fun _ _ _ h => h) (by rfl) ?_ hHeld ?_;rotate_left;· intro w hSw;(try dsimp only at hSw);go_simp;try with_reducible rfl
   try simp only [Act.put, sx, sy, sz]
   refine wpAnyH_done (by kernel_rfl) ?_ _
   clear hHeld g1 g2 g3
   go_wp2_with fail
   refine ⟨⟨i + 1, a2, c2, n + 1, by omega, by omega, rfl, by go_num, zs ++ [⟨⟨kd, key, to_, xt, xs, xl⟩, la, lc⟩], ?_, ?_, ?_, fun y hy => ?_⟩, by simp [intOf]; omega⟩
   ·have e1 : bS (zs ++ [(⟨⟨kd, key, to_, xt, xs, xl⟩, la, lc⟩ : Ax)]) = bS zs ++ [.int .i64 kd, .int .i64 key, .int .i64 to_, .bool xt, .string xs, .slice la ln lc] := by
     rw [jE]
     simp [bS, axc, ae HLX]
    rw [e1]
    exact ae HA2
   ·rw [List.length_append, (ae HZ).nl]; rfl
   ·rw [List.map_append, (ae HZ).map, ae HT]; rfl
   ·rcases List.mem_append.1 hy with e | e
    ·exact (ae HZ).sl y e
    ·rw [List.mem_singleton.1 e]; exact ae HLS
  ·have i1 : ¬ (i : Int) < (m : Int) := by omega
   have hmp := (ae HZ).map
   rw [List.take_of_length_le (by have := ae HM; omega)] at hmp
   have hl : n = l.length := by rw [(ae HZ).nl, ← hmp, List.length_map]
   have HE : Hid (lJ l w0 w (.returned (.slice aO n cO)) wr) := by
    unfold lJ
    rw [← hl]
    exact ⟨aO, cO, zs, rfl, bq (l1 := []) (ae HZ).zoo, (ae HZ).zoo.kp, hmp, (ae HZ).sl⟩
   clear hmp hl
   go_wp2_with fail
   go_ret
   exact ae HE
end
end Go.Proofs.YtldkeaeohceckacGreat
