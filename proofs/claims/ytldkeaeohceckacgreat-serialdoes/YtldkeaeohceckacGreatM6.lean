/- Bound together for a claim. -/
import Derived.Test.YtldkeaeohceckacGreatM5
namespace Go.Proofs.YtldkeaeohceckacGreat
set_option maxRecDepth 20000
set_option maxHeartbeats 64000000
section
open Go.RowKit Srt
attribute [local go_sem ↓] Go.wp_at_zero Go.wp_at_succ
def z20 : Array Value := #[.int .i64 0, .int .i64 0, .int .i64 0, .slice none 0 0, .int .i64 0, .int .i64 0, .int .i64 0, .slice none 0 0, .int .i64 0, .int .i64 0, .int .i64 0, .slice none 0 0, .int .i64 0, .int .i64 0, .int .i64 0, .slice none 0 0, .int .i64 0, .int .i64 0, .int .i64 0, .slice none 0 0]
def dxz : Dx := ⟨⟨0, 0, 0, []⟩, none, 0⟩
theorem yg {w0 w : World} {r : List ao} (hz : Zoo w0 w r) : Zoo w0 (w.alloc (.cells z20 79)) (OpT w.heap.size (fun _ => dxz) :: r) := by
 refine hz.cons (F := [w.heap.size]) ⟨⟨z20, heap_alloc_new w _, fun i hi => ?_⟩, rfl, Nat.le_refl _⟩ ((Kp.refl [] w).alloc _)
 rcases (show i = 0 ∨ i = 1 ∨ i = 2 ∨ i = 3 ∨ i = 4 by omega) with e | e | e | e | e <;> subst e <;> exact ⟨rfl, rfl, rfl, rfl⟩
theorem yO {w0 w : World} {cb ob : Nat} (hz : Zoo w0 w (OpT ob (fun _ => dxz) :: bG cb dY :: [])) : Zoo w0 w (DL cb ob dY none 0 (fun _ => dxz) (fun _ => []) (fun _ => false) [] []) := by
 have h1 := dT (dT (dT (dT (dT hz))))
 have h2 := du 39 4 h1
 have p1 : (KwT 39 4 none 0 0 [] :: aJ [] :: aJ [] :: aJ [] :: aJ [] :: aJ [] :: OpT ob (fun _ => dxz) :: bG cb dY :: []).Perm (bG cb dY :: OpT ob (fun _ => dxz) :: KwT 39 4 none 0 0 [] :: [aJ [], aJ [], aJ [], aJ [], aJ []]) := by
  refine (List.perm_append_comm (l₁ := [KwT 39 4 none 0 0 [], aJ [], aJ [], aJ [], aJ [], aJ []]) (l₂ := [OpT ob (fun _ => dxz), bG cb dY])).trans ?_
  exact List.Perm.swap _ _ _
 exact h2.perm p1
theorem yH : DS 0 dY dk0 (fun _ => dxz) (fun _ => []) (fun _ => false) [] [] :=
 ⟨fun _ _ => rfl, fun _ _ _ h => (by cases h), fun _ _ h => (by cases h), fun _ _ h => (by cases h), fun _ _ h => (by cases h), rfl, fun _ h => (by cases h), Nat.le_refl _⟩
theorem te : mW dY 0 := fun s d h => by cases h
theorem xU (a : Option Addr) (n1 c : Nat) (st : Nat → ax) (w : World) (h : lI w a n1 st) (hn : n1 ≤ 200) :
 Calls Tryz.prog 9 #[.slice a n1 c] w (ui (ntd (eJ st n1)) w) := by
 have hu := Tryz.underlying33
 have hua := Tryz.underlying37
 have HS := ag h
 clear h
 go_enter Tryz.func9, Tryz.ntmps9
 go_wp2_with fail
 refine (wj w).mono ?_
 rintro e w2 ⟨cb, F, rfl, hh, hk⟩
 have HZ0 : Hid (Zoo w w2 [bG cb dY]) := (cg (Kp.refl [] w)).cons hh hk
 clear hh hk
 have HZ1 := ag (yO (yg (ae HZ0)))
 unfold z20 at HZ1
 clear HZ0
 go_wp2_with fail
 generalize w2.alloc _ = w3 at *
 generalize w2.heap.size = ob at *
 have H0 : zw st w cb ob 0 none 0 0 w3 := ⟨dY, dk0, _, _, _, [], [], rfl, rfl, te, yH, ae HZ1⟩
 clear HZ1
 go_loopw [5, 6] (fun o it wr => ∃ (i : Nat) (aO : Option Addr) (m cO : Nat), i ≤ n1 ∧ it = .int .i64 i ∧ o = .slice aO m cO ∧ zw st w cb ob i aO m cO wr) (fun _ it _ => n1 - (intOf it).toNat)
 case atStart => exact ⟨0, none, 0, 0, by omega, rfl, rfl, H0⟩
 case round =>
  clear H0
  obtain ⟨i, aO, m, cO, hi, rfl, rfl, HI⟩ := hrel
  by_cases hlt : i < n1
  ·obtain ⟨lb', lo, rfl, hst⟩ := (ae HS).2 (by omega)
   obtain ⟨h, k, xs, zs, fl, ds, bag, rfl, hrun, hdl, hds, hz⟩ := HI
   have i0 : (0 : Int) ≤ (i : Int) := by omega
   have i1 : (i : Int) < (n1 : Int) := by omega
   have hst' := (hst i hlt).kp0 hz.kp
   have HR2 : Hid (jN dY dk0 (eJ st (i + 1)) = (hdo h (st i), be h k (st i))) := by
    rw [kn, sQ, hrun]
    rfl
   clear hst hrun
   generalize (st i) = x at *
   obtain ⟨q0, q1, q2, q3, q4, q5, q6, q7, hsz⟩ := hst'
   have HDL := ag hdl
   have HDS := ag hds
   have HZ := ag hz
   clear hdl hds hz
   obtain ⟨sb, sts, hs, _, hcou⟩ := gK (ae HZ)
   have c0 := fun o => (hcou.kp0 ((Kp.refl [] wr).alloc o)).c0
   have n0 := fun o => (hcou.kp0 ((Kp.refl [] wr).alloc o)).n0
   have HSEAT := ag (fun (s : Nat) (h5 : s < 5) => hcou.cs_ h5)
   have HSTS := ag hs
   clear hcou hs
   have HFIN := ag (fun (xs' : Nat → Dx) (zs' : Nat → List Ax) (fl' : Nat → Bool) (ds' : List Dx) (bag' : List ao) (a' : Option Addr) (c' : Nat) (W : World) (h1 : DS (i + 1) (hdo h x) (be h k x) xs' zs' fl' ds' bag') (h2 : Zoo w W (DL cb ob (hdo h x) a' c' xs' zs' fl' ds' bag')) => (⟨hdo h x, be h k x, xs', zs', fl', ds', bag', rfl, ae HR2, (ae HDL).step x, h1, h2⟩ : zw st w cb ob (i + 1) a' ds'.length c' W))
   clear HR2
   have HX0 := ag ((ae HZ).box (xcs x) 55)
   dsimp only [xcs] at HX0
   obtain ⟨v, hv⟩ : ∃ v, hev h x = v := ⟨_, rfl⟩
   have HV := ag hv
   have HDO := ag (fun (W : World) (r : List ao) (hz : Zoo w W (bG cb h :: r)) => yR x (m := i) (by omega) hsz (ae HDL) hz)
   have HDP := ag (fun (W : World) (r : List ao) (d : Dp) (h1 : x.d = 5) (h5 : 0 ≤ x.s ∧ x.s < 5) (hd : h.seat x.s.toNat = some d) (hz : Zoo w W (bG cb h :: r)) => tw x (m := i) (by omega) (ae HDL) h1 h5 hd hz)
   rw [hv] at HDO HDP
   clear hv
   have HXX := ag (rfl : x = x)
   obtain ⟨xd, xs_, xm, xa, xk, xt, xp, xb⟩ := x
   obtain ⟨vc, vn, vt, vs, vl⟩ := v
   dsimp only at q0 q1 q2 q3 q4 q5 q6 q7 HX0 hsz HDO HDP
   clear HXX
   obtain ⟨ln, hln⟩ : ∃ ln, vl.length = ln := ⟨_, rfl⟩
   rw [hln] at HDO HDP
   have HLN := ag hln
   clear hln
   obtain ⟨m, hm⟩ : ∃ m, ds.length = m := ⟨_, rfl⟩
   have hm200 : m ≤ 200 := by have := (ae HDS).dl; omega
   rw [hm]
   have HM := ag hm
   clear hm
   go_wp2_with fail
   generalize wr.alloc (.cells #[.int .i64 xd, .int .i64 xs_, .int .i64 xm, .int .i64 xa, .int .i64 xk, .int .i64 xt, .int .i64 xp, .string xb] 55) = W at HX0 ⊢
   generalize wr.heap.size = q at HX0 ⊢
   clear q0 q1 q2 q3 q4 q5 q6 q7 c0 n0 HSEAT HSTS HZ
   have hx := Zoo.var (ae HX0)
   have x1 : W.cell? ⟨q, 1, none⟩ = some (.int .i64 xs_) := af hx rfl
   clear hx
   obtain ⟨sb2, sts2, hs, _, hcou⟩ := gK (bB (ae HX0))
   by_cases h5 : 0 ≤ xs_ ∧ xs_ < 5
   ·obtain ⟨j, rfl⟩ : ∃ j : Nat, xs_ = (j : Int) := ⟨xs_.toNat, by omega⟩
    have hj5 : j < 5 := by omega
    have hsb : bE (j : Int) = true := decide_eq_true (by omega)
    have i5 : (j : Int) < 5 := by omega
    have i4 : (0 : Int) ≤ (j : Int) := by omega
    have cs := hcou.cs_ hj5
    have hsj := hs j
    clear hcou hs
    cases hsd : sts2 j with
    | none =>
      rw [hsd] at cs hsj
      rw [show ad none = none from rfl] at cs
      have HB := ag (show dz h (j : Int) = false from fT (x := ⟨xd, (j : Int), xm, xa, xk, xt, xp, xb⟩) (fun _ => hsj.symm))
      clear hsd hsj
      as_aux_lemma =>
       go_quiet ((go_at_call 25; exact Calls.quiet_of_same ((ck _ _).mono (fun e w' q => ⟨by rw [q.1, hsb], q.2⟩))))
       have HX2 := ag ((ae HX0).kp0 ((Kp.refl [] W).drewN nq))
       clear cs x1 HX0
       generalize W.drewN nq = W2 at HX2 ⊢
       have hx := Zoo.var (ae HX2)
       have x0 : W2.cell? ⟨q, 0, none⟩ = some (.int .i64 xd) := af hx rfl
       have x1 : W2.cell? ⟨q, 1, none⟩ = some (.int .i64 (j : Int)) := af hx rfl
       have x2 : W2.cell? ⟨q, 2, none⟩ = some (.int .i64 xm) := af hx rfl
       have x3 : W2.cell? ⟨q, 3, none⟩ = some (.int .i64 xa) := af hx rfl
       have x4 : W2.cell? ⟨q, 4, none⟩ = some (.int .i64 xk) := af hx rfl
       have x5 : W2.cell? ⟨q, 5, none⟩ = some (.int .i64 xt) := af hx rfl
       have x6 : W2.cell? ⟨q, 6, none⟩ = some (.int .i64 xp) := af hx rfl
       have x7 : W2.cell? ⟨q, 7, none⟩ = some (.string xb) := af hx rfl
       clear hx
       go_wp2_with fail
       clear x0 x1 x2 x3 x4 x5 x6 x7
       refine (ae HDO W2 _ (bB (ae HX2))).mono ?_
       rintro e w4 ⟨a4, c4, rfl, -, HA0⟩
       have HA := ag (sk (ae HA0))
       clear HA0 HX2
       have hxv := fun o => ai ((ae HA).kp0 ((Kp.refl [] w4).alloc o)) (mt (mh))
       have X0 := fun o => af (i := 0) (v := .int .i64 xd) (hxv o) rfl
       clear hxv
       by_cases hd1 : xd = 1
       ·subst hd1
        by_cases hc0 : vc = 0
        ·subst hc0
         have hl1 : ([bG cb (hdo h ⟨1, (j : Int), xm, xa, xk, xt, xp, xb⟩), au q #[.int .i64 1, .int .i64 (j : Int), .int .i64 xm, .int .i64 xa, .int .i64 xk, .int .i64 xt, .int .i64 xp, .string xb] 55] : List ao) = [bG cb (hdo h ⟨1, (j : Int), xm, xa, xk, xt, xp, xb⟩), au q #[.int .i64 1, .int .i64 (j : Int), .int .i64 xm, .int .i64 xa, .int .i64 xk, .int .i64 xt, .int .i64 xp, .string xb] 55] := rfl
         clear hl1
         have HP := ag (yf (l1 := [bG cb (hdo h ⟨1, (j : Int), xm, xa, xk, xt, xp, xb⟩), au q #[.int .i64 1, .int .i64 (j : Int), .int .i64 xm, .int .i64 xa, .int .i64 xk, .int .i64 xt, .int .i64 xp, .string xb] 55]) (ae HA) hj5 0 (h.n : Int) xm)
         have hxv := fun o => ai ((ae HA).kp0 ((Kp.refl [] w4).alloc o)) (mt (mh))
         have X1 := fun o => af (i := 1) (v := .int .i64 (j : Int)) (hxv o) rfl
         have X2 := fun o => af (i := 2) (v := .int .i64 xm) (hxv o) rfl
         have hxp := fun o => ai ((ae HP).kp0 ((Kp.refl [] _).alloc o)) (mt (mh))
         have Y1 := fun o => af (i := 1) (v := .int .i64 (j : Int)) (hxp o) rfl
         have Y2 := fun o => af (i := 2) (v := .int .i64 xm) (hxp o) rfl
         have Y3 := fun o => af (i := 3) (v := .int .i64 xa) (hxp o) rfl
         clear hxv hxp
         have HS1 := ag (dj (l1 := [bG cb (hdo h ⟨1, (j : Int), xm, xa, xk, xt, xp, xb⟩), au q #[.int .i64 1, .int .i64 (j : Int), .int .i64 xm, .int .i64 xa, .int .i64 xk, .int .i64 xt, .int .i64 xp, .string xb] 55]) (ae HA) (fun r => r.setN hj5 0))
         have HS2 := ag (dj (l1 := [bG cb (hdo h ⟨1, (j : Int), xm, xa, xk, xt, xp, xb⟩), au q #[.int .i64 1, .int .i64 (j : Int), .int .i64 xm, .int .i64 xa, .int .i64 xk, .int .i64 xt, .int .i64 xp, .string xb] 55]) (ae HS1) (fun r => r.setA hj5 (h.n : Int)))
         have HS3 := ag (dj (l1 := [bG cb (hdo h ⟨1, (j : Int), xm, xa, xk, xt, xp, xb⟩), au q #[.int .i64 1, .int .i64 (j : Int), .int .i64 xm, .int .i64 xa, .int .i64 xk, .int .i64 xt, .int .i64 xp, .string xb] 55]) (ae HS2) (fun r => r.setM hj5 xm))
         have ra := fun o => bf ((ae HA).kp0 ((Kp.refl [] _).alloc o)) (mt (mt (mh)))
         have fa := fun o c => (ra o).fz c
         have ooa := fun o => ((ra o).cells hj5).1
         clear ra
         have rb := fun o => bf ((ae HS1).kp0 ((Kp.refl [] _).alloc o)) (mt (mt (mh)))
         have fb := fun o c => (rb o).fz c
         have oob := fun o => ((rb o).cells hj5).2.1
         clear rb
         have rc := fun o => bf ((ae HS2).kp0 ((Kp.refl [] _).alloc o)) (mt (mt (mh)))
         have fc := fun o c => (rc o).fz c
         have ooc := fun o => ((rc o).cells hj5).2.2.1
         clear rc
         have rd := fun o => bf ((ae HS3).kp0 ((Kp.refl [] _).alloc o)) (mt (mt (mh)))
         have fd := fun o c => (rd o).fz c
         have ood := fun o => ((rd o).cells hj5).2.2.2
         clear rd
         have re := fun o => bf ((ae HP).kp0 ((Kp.refl [] _).alloc o)) (mt (mt (mh)))
         have fe := fun o c => (re o).fz c
         have ooe := fun o => ((re o).cells hj5).2.1
         clear re
         have oc := (bf (ae HA) (mt (mt (mh)))).cells hj5
         have lob : ob < w4.heap.size := cH oc.1
         have neo : ob ≠ w4.heap.size := by omega
         clear oc HS1 HS2 HS3
         by_cases hm3 : xm = 3
         ·subst hm3
          have HDN := ag (show DS (i + 1) (hdo h ⟨1, (j : Int), 3, xa, xk, xt, xp, xb⟩) (be h k ⟨1, (j : Int), 3, xa, xk, xt, xp, xb⟩) (upd xs j ⟨⟨0, xa, 3, []⟩, none, 0⟩) (upd zs j []) (upd fl j true) ds (aJ [] :: bag) by
           rw [mB (ae HV) (ae HB) ⟨rfl, rfl⟩]
           exact ((ae HDS).plus _).begin hj5 (by simp) xa 3)
          have HP2 := ag (dj (l1 := [bG cb (hdo h ⟨1, (j : Int), 3, xa, xk, xt, xp, xb⟩), au q #[.int .i64 1, .int .i64 (j : Int), .int .i64 3, .int .i64 xa, .int .i64 xk, .int .i64 xt, .int .i64 xp, .string xb] 55]) (ae HP) (fun r => r.setA hj5 xa))
          simp only [or, av] at HP2
          go_wp2_with fail
          exact ⟨⟨i + 1, aO, m, cO, by omega, by go_num, rfl, by rw [← ae HM]; exact ae HFIN _ _ _ ds (aJ [] :: bag) aO cO _ (ae HDN) (mE hj5 ⟨0, xa, 3, []⟩ (aH ((ae HP2).kp0 ((Kp.refl [] _).alloc _))))⟩, by simp [intOf]; omega⟩
         ·have HDN := ag (show DS (i + 1) (hdo h ⟨1, (j : Int), xm, xa, xk, xt, xp, xb⟩) (be h k ⟨1, (j : Int), xm, xa, xk, xt, xp, xb⟩) (upd xs j ⟨⟨0, (h.n : Int), xm, []⟩, none, 0⟩) (upd zs j []) (upd fl j true) ds (aJ [] :: bag) by
           rw [mB (ae HV) (ae HB) ⟨rfl, rfl⟩]
           dsimp only
           rw [if_neg hm3]
           exact ((ae HDS).plus _).begin hj5 (by simp) _ xm)
          go_wp2_with fail
          exact ⟨⟨i + 1, aO, m, cO, by omega, by go_num, rfl, by rw [← ae HM]; exact ae HFIN _ _ _ ds (aJ [] :: bag) aO cO _ (ae HDN) (mE hj5 ⟨0, (h.n : Int), xm, []⟩ (aH ((ae HP).kp0 ((Kp.refl [] _).alloc _))))⟩, by simp [intOf]; omega⟩
        ·have hnb : ¬ ((1 : Int) = 1 ∧ vc = 0) := fun q => hc0 q.2
         have HDN := ag (show DS (i + 1) (hdo h ⟨1, (j : Int), xm, xa, xk, xt, xp, xb⟩) (be h k ⟨1, (j : Int), xm, xa, xk, xt, xp, xb⟩) xs zs fl ds (aJ [] :: bag) by rw [pi (ae HV) (ae HB) hnb]; exact ((ae HDS).plus _).same (by rw [ae HV]; exact hnb))
         clear hnb
         go_wp2_with fail
         exact ⟨⟨i + 1, aO, m, cO, by omega, by go_num, rfl, by rw [← ae HM]; exact ae HFIN xs zs fl ds (aJ [] :: bag) aO cO _ (ae HDN) (aH ((ae HA).kp0 ((Kp.refl [] w4).alloc _)))⟩, by simp [intOf]; omega⟩
       ·have hnb : ¬ (xd = 1 ∧ vc = 0) := fun q => hd1 q.1
        have HDN := ag (show DS (i + 1) (hdo h ⟨xd, (j : Int), xm, xa, xk, xt, xp, xb⟩) (be h k ⟨xd, (j : Int), xm, xa, xk, xt, xp, xb⟩) xs zs fl ds (aJ [] :: bag) by rw [pi (ae HV) (ae HB) hnb]; exact ((ae HDS).plus _).same (by rw [ae HV]; exact hnb))
        clear hnb
        go_wp2_with fail
        exact ⟨⟨i + 1, aO, m, cO, by omega, by go_num, rfl, by rw [← ae HM]; exact ae HFIN xs zs fl ds (aJ [] :: bag) aO cO _ (ae HDN) (aH ((ae HA).kp0 ((Kp.refl [] w4).alloc _)))⟩, by simp [intOf]; omega⟩
    | some xx =>
      obtain ⟨D, d⟩ := xx
      rw [hsd] at cs hsj
      rw [show ad (some (D, d)) = some ⟨D, 0, none⟩ from rfl] at cs
      have HSJ := ag (show h.seat ((j : Int)).toNat = some d from hsj.symm)
      have HB := ag (show dz h (j : Int) = true from jA (x := ⟨xd, (j : Int), xm, xa, xk, xt, xp, xb⟩) ⟨by omega, by omega⟩ hsj.symm)
      clear hsd hsj
      go_quiet ((go_at_call 25; exact Calls.quiet_of_same ((ck _ _).mono (fun e w' q => ⟨by rw [q.1, hsb], q.2⟩))))
      have HX2 := ag ((ae HX0).kp0 ((Kp.refl [] W).drewN nq))
      clear cs x1 HX0
      generalize W.drewN nq = W2 at HX2 ⊢
      have hx := Zoo.var (ae HX2)
      have x0 : W2.cell? ⟨q, 0, none⟩ = some (.int .i64 xd) := af hx rfl
      have x1 : W2.cell? ⟨q, 1, none⟩ = some (.int .i64 (j : Int)) := af hx rfl
      have x2 : W2.cell? ⟨q, 2, none⟩ = some (.int .i64 xm) := af hx rfl
      have x3 : W2.cell? ⟨q, 3, none⟩ = some (.int .i64 xa) := af hx rfl
      have x4 : W2.cell? ⟨q, 4, none⟩ = some (.int .i64 xk) := af hx rfl
      have x5 : W2.cell? ⟨q, 5, none⟩ = some (.int .i64 xt) := af hx rfl
      have x6 : W2.cell? ⟨q, 6, none⟩ = some (.int .i64 xp) := af hx rfl
      have x7 : W2.cell? ⟨q, 7, none⟩ = some (.string xb) := af hx rfl
      clear hx
      go_wp2_with fail
      clear x0 x1 x2 x3 x4 x5 x6 x7
      by_cases hd5 : xd = 5
      ·subst hd5
       refine (ae HDP W2 _ d rfl ⟨by omega, by omega⟩ (ae HSJ) (bB (ae HX2))).mono ?_
       rintro e w4 ⟨a4, c4, rfl, HA0⟩
       have HA := ag (wW (ae HA0))
       clear HA0 HX2
       have hxv := fun o => ai ((ae HA).kp0 ((Kp.refl [] w4).alloc o)) (mt (mh))
       have X0 := fun o => af (i := 0) (v := .int .i64 5) (hxv o) rfl
       clear hxv
       by_cases hc0 : vc = 0
       ·subst hc0
        have hxv := fun o => ai ((ae HA).kp0 ((Kp.refl [] w4).alloc o)) (mt (mh))
        have X1 := fun o => af (i := 1) (v := .int .i64 (j : Int)) (hxv o) rfl
        clear hxv
        have hnb : ¬ ((5 : Int) = 1 ∧ (0 : Int) = 0) := aZ (ae HV) (ae HB)
        have hfl : fl j = true := (ae HDS).live j d hj5 (ae HSJ)
        have HYX := ag (show eU ⟨5, (j : Int), xm, xa, xk, xt, xp, xb⟩ ⟨0, vn, vt, vs, vl⟩ = (⟨⟨5, xk, xt, false, ⟨#[]⟩, vl⟩, a4, c4⟩ : Ax).x from rfl)
        have HDN := ag (fun (a2 : Option Addr) (c2 : Nat) => (show DS (i + 1) (hdo h ⟨5, (j : Int), xm, xa, xk, xt, xp, xb⟩) (be h k ⟨5, (j : Int), xm, xa, xk, xt, xp, xb⟩) (upd xs j ⟨{ (xs j).d with acts := (k.op j).acts ++ [(⟨⟨5, xk, xt, false, ⟨#[]⟩, vl⟩, a4, c4⟩ : Ax).x] }, a2, c2⟩) (upd zs j (zs j ++ [(⟨⟨5, xk, xt, false, ⟨#[]⟩, vl⟩, a4, c4⟩ : Ax)])) (upd fl j true) ds (PsT a4 c4 vl :: bag) by
         rw [ph (ae HV) (ae HB) ⟨by show (2 : Int) ≤ 5; decide, by show (5 : Int) ≤ 5; decide⟩ rfl, ae HYX]
         exact (ae HDS).on (by rw [ae HV]; exact hnb) hj5 hfl (⟨⟨5, xk, xt, false, ⟨#[]⟩, vl⟩, a4, c4⟩ : Ax) a2 c2 _ (.inr (mh))))
        clear hnb
        have hlen := (ae HDS).len j hj5 hfl
        have HE0 := ag ((ae HA).box #[.int .i64 0, .int .i64 vn, .bool vt, .string vs, .slice a4 ln c4] 74)
        have HOP := ag (show (xs j).d.acts.length = (zs j).length by rw [(ae HDS).op j hj5, ← (ae HDS).acts j hj5 hfl, List.length_map])
        have HZL := ag (show ((k.op j).acts ++ [(⟨⟨5, xk, xt, false, ⟨#[]⟩, vl⟩, a4, c4⟩ : Ax).x]).length = (zs j).length + 1 by rw [List.length_append, List.length_singleton, ← (ae HDS).acts j hj5 hfl, List.length_map])
        have HAXC := ag (show axc (⟨⟨5, xk, xt, false, ⟨#[]⟩, vl⟩, a4, c4⟩ : Ax) = [.int .i64 5, .int .i64 xk, .int .i64 xt, .bool false, .string ⟨#[]⟩, .slice a4 ln c4] by first | rfl | (rw [← ae HLN]; rfl))
        obtain ⟨zl, hzl⟩ : ∃ zl, (zs j).length = zl := ⟨_, rfl⟩
        have hz2 : zl ≤ 200 := by omega
        have HZN := ag hzl
        clear hzl hlen
        go_wp2_with fail
        generalize w4.alloc (.cells #[.int .i64 0, .int .i64 vn, .bool vt, .string vs, .slice a4 ln c4] 74) = W1 at HE0 ⊢
        generalize w4.heap.size = p at HE0 ⊢
        clear X0 X1 HA
        have HSF := ag (fun (W : World) (os : List ao) (hz : Zoo w W os) (h1 : au q #[.int .i64 5, .int .i64 (j : Int), .int .i64 xm, .int .i64 xa, .int .i64 xk, .int .i64 xt, .int .i64 xp, .string xb] 55 ∈ os) (h2 : au p #[.int .i64 0, .int .i64 vn, .bool vt, .string vs, .slice a4 ln c4] 74 ∈ os) => (show (fun w' => w'.cell? ⟨q, 0, none⟩ = some (.int .i64 5) ∧ w'.cell? ⟨q, 4, none⟩ = some (.int .i64 xk) ∧ w'.cell? ⟨q, 5, none⟩ = some (.int .i64 xt) ∧ w'.cell? ⟨p, 4, none⟩ = some (.slice a4 ln c4)) W from by
         have hq := ai hz h1
         have hp := ai hz h2
         exact ⟨af hq rfl, af hq rfl, af hq rfl, af hp rfl⟩))
        refine wp_region_held_drew (S := fun w' => w'.cell? ⟨q, 0, none⟩ = some (.int .i64 5) ∧ w'.cell? ⟨q, 4, none⟩ = some (.int .i64 xk) ∧ w'.cell? ⟨q, 5, none⟩ = some (.int .i64 xt) ∧ w'.cell? ⟨p, 4, none⟩ = some (.slice a4 ln c4)) (by kernel_rfl) (ae HSF W1 _ (ae HE0) (mt (mt (mh))) (mh)) (fun hHeld => ?_)
        have HED := ag ((ae HE0).kp0 ((Kp.refl [] W1).drew))
        generalize World.drew _ = WD at HED hHeld ⊢
        clear HE0
        refine tk 0 ?_ rfl (by kernel_rfl) (fun _ _ _ h => h) (by rfl) ?_ hHeld ?_;rotate_left;· intro w hSw;(try dsimp only at hSw);go_simp;try with_reducible rfl
        try simp only [Act.put, sx, sy, sz]
        refine tk 1 ?_ rfl (by kernel_rfl) (fun _ _ _ h => h) (by rfl) ?_ hHeld ?_;rotate_left;· intro w hSw;(try dsimp only at hSw);go_simp;try with_reducible rfl
        try simp only [Act.put, sx, sy, sz]
        refine tk 2 ?_ rfl (by kernel_rfl) (fun _ _ _ h => h) (by rfl) ?_ hHeld ?_;rotate_left;· intro w hSw;(try dsimp only at hSw);go_simp;try with_reducible rfl
        try simp only [Act.put, sx, sy, sz]
        refine tk 3 ?_ rfl (by kernel_rfl) (fun _ _ _ h => h) (by rfl) ?_ hHeld ?_;rotate_left;· intro w hSw;(try dsimp only at hSw);go_simp;try with_reducible rfl
        try simp only [Act.put, sx, sy, sz]
        refine tk 5 ?_ rfl (by kernel_rfl) (fun _ _ _ h => h) (by rfl) ?_ hHeld ?_;rotate_left;· intro w hSw;(try dsimp only at hSw);go_simp;try with_reducible rfl
        try simp only [Act.put, sx, sy, sz]
        refine tk 6 ?_ rfl (by kernel_rfl) (fun _ _ _ h => h) (by rfl) ?_ hHeld ?_;rotate_left;· intro w hSw;(try dsimp only at hSw);go_simp;try with_reducible rfl
        try simp only [Act.put, sx, sy, sz]
        refine tk 7 ?_ rfl (by kernel_rfl) (fun _ _ _ h => h) (by rfl) ?_ hHeld ?_;rotate_left;· intro w hSw;(try dsimp only at hSw);go_simp;try with_reducible rfl
        try simp only [Act.put, sx, sy, sz]
        refine tk 8 ?_ rfl (by kernel_rfl) (fun _ _ _ h => h) (by rfl) ?_ hHeld ?_;rotate_left;· intro w hSw;(try dsimp only at hSw);go_simp;try with_reducible rfl
        try simp only [Act.put, sx, sy, sz]
        refine tk 9 ?_ rfl (by kernel_rfl) (fun _ _ _ h => h) (by rfl) ?_ hHeld ?_;rotate_left;· intro w hSw;(try dsimp only at hSw);go_simp;try with_reducible rfl
        try simp only [Act.put, sx, sy, sz]
        refine tk 10 ?_ rfl (by kernel_rfl) (fun _ _ _ h => h) (by rfl) ?_ hHeld ?_;rotate_left;· intro w hSw;(try dsimp only at hSw);go_simp;try with_reducible rfl
        try simp only [Act.put, sx, sy, sz]
        refine tk 11 ?_ rfl (by kernel_rfl) (fun _ _ _ h => h) (by rfl) ?_ hHeld ?_;rotate_left;· intro w hSw;(try dsimp only at hSw);go_simp;try with_reducible rfl
        try simp only [Act.put, sx, sy, sz]
        refine tk 12 ?_ rfl (by kernel_rfl) (fun _ _ _ h => h) (by rfl) ?_ hHeld ?_;rotate_left;· intro w hSw;(try dsimp only at hSw);go_simp;try with_reducible rfl
        try simp only [Act.put, sx, sy, sz]
        refine tk 13 ?_ rfl (by kernel_rfl) (fun _ _ _ h => h) (by rfl) ?_ hHeld ?_;rotate_left;· intro w hSw;(try dsimp only at hSw);go_simp;try with_reducible rfl
        try simp only [Act.put, sx, sy, sz]
        refine bK (i := 4) (j := 14) rfl rfl (by kernel_rfl) (fun K hK => ?_) (fun K hK => ?_)
        ·have hrow3 := bf (ae HED) (mt (mt (mt (mh))))
         have o3 := (hrow3.cells hj5).2.2.2
         rw [ae HOP, ae HZN] at o3
         clear hrow3
         go_simp
         refine hK.out _ _ hHeld (fun hHeld2 => ?_)
         clear hK K hHeld
         have hHeld := hHeld2
         clear hHeld2
         try simp only [Act.put, sx, sy, sz]
         clear o3
         refine aj (i := 14) rfl (by kernel_rfl) (fun K hK => ?_)
         go_simp
         have HB3 := ag ((ae HED).box #[.int .i64 5, .int .i64 xk, .int .i64 xt, .bool false, .string ⟨#[]⟩, .slice a4 ln c4] 44)
         refine hK.out _ _ (ae HSF _ _ (ae HB3) (mt (mt (mt (mh)))) (mt (mh))) (fun hHeld2 => ?_)
         clear hK K hHeld
         have hHeld := hHeld2
         clear hHeld2
         try simp only [Act.put, sx, sy, sz]
         have HBX := ag (Zoo.var (ae HB3))
         have hBw3 := Zoo.base (ae HB3)
         generalize WD.alloc (.cells #[.int .i64 5, .int .i64 xk, .int .i64 xt, .bool false, .string ⟨#[]⟩, .slice a4 ln c4] 44) = W3 at *
         generalize WD.heap.size = p3 at *
         refine aj (i := 15) rfl (by kernel_rfl) (fun K hK => ?_)
         obtain ⟨hrw, hmore⟩ := fw (L := [au p3 #[.int .i64 5, .int .i64 xk, .int .i64 xt, .bool false, .string ⟨#[]⟩, .slice a4 ln c4] 44, au p #[.int .i64 0, .int .i64 vn, .bool vt, .string vs, .slice a4 ln c4] 74, bG cb (hdo h ⟨5, (j : Int), xm, xa, xk, xt, xp, xb⟩), au q #[.int .i64 5, .int .i64 (j : Int), .int .i64 xm, .int .i64 xa, .int .i64 xk, .int .i64 xt, .int .i64 xp, .string xb] 55, OpT ob xs, KwT 39 4 aO ds.length cO (aP ds)]) hj5 hfl (ae HB3)
         have HMORE := ag hmore
         rw [ae HZN] at hrw
         refine bd (by rfl) (.tmp 168) (.tmp 178) 37 (by rfl) hua Tryz.info44 rfl (by omega) hrw hBw3 (.slice (some ⟨p3, 0, none⟩) 1 1) [.int .i64 5, .int .i64 xk, .int .i64 xt, .bool false, .string ⟨#[]⟩, .slice a4 ln c4] 1 (by rfl) (by rfl) (aQ (cs := #[.int .i64 5, .int .i64 xk, .int .i64 xt, .bool false, .string ⟨#[]⟩, .slice a4 ln c4]) hua (ae HBX) rfl (by simp [Value.oneCell'])) (by omega) (zl + 1) rfl ?_
         intro a2 c2 w9 g1 g2 g3
         have HZ9 := ag (ae HMORE a2 c2 { (xs j).d with acts := (k.op j).acts ++ [(⟨⟨5, xk, xt, false, ⟨#[]⟩, vl⟩, a4, c4⟩ : Ax).x] } (⟨⟨5, xk, xt, false, ⟨#[]⟩, vl⟩, a4, c4⟩ : Ax) w9 (by rw [ae HAXC, ae HZN]; exact ae g1) (ae g2) (ae g3))
         clear hmore HMORE hrw g1 g2 g3
         refine hK.out _ _ (ae HSF _ _ (ae HZ9) (mt (mt (mt (mh)))) (mt (mh))) (fun hHeld2 => ?_)
         clear hK K hHeld
         have hHeld := hHeld2
         clear hHeld2
         try simp only [Act.put, sx, sy, sz]
         refine tk 16 ?_ rfl (by kernel_rfl) (fun _ _ _ h => h) (by rfl) ?_ hHeld ?_;rotate_left;· intro w hSw;(try dsimp only at hSw);go_simp;try with_reducible rfl
         try simp only [Act.put, sx, sy, sz]
         refine tk 17 ?_ rfl (by kernel_rfl) (fun _ _ _ h => h) (by rfl) ?_ hHeld ?_;rotate_left;· intro w hSw;(try dsimp only at hSw);go_simp;try with_reducible rfl
         try simp only [Act.put, sx, sy, sz]
         refine aj (i := 18) rfl (by kernel_rfl) (fun K hK => ?_)
         have hrow9 := bf (ae HZ9) (mt (mt (mt (mt (mh)))))
         have z1 := (hrow9.cells hj5).2.2.2
         have z2 := hrow9.fz (j * 4 + 3)
         clear hrow9
         have HZF := ag (dj (l1 := [au p3 #[.int .i64 5, .int .i64 xk, .int .i64 xt, .bool false, .string ⟨#[]⟩, .slice a4 ln c4] 44, au p #[.int .i64 0, .int .i64 vn, .bool vt, .string vs, .slice a4 ln c4] 74, bG cb (hdo h ⟨5, (j : Int), xm, xa, xk, xt, xp, xb⟩), au q #[.int .i64 5, .int .i64 (j : Int), .int .i64 xm, .int .i64 xa, .int .i64 xk, .int .i64 xt, .int .i64 xp, .string xb] 55]) (ae HZ9) (fun r => r.setL hj5 ((k.op j).acts ++ [(⟨⟨5, xk, xt, false, ⟨#[]⟩, vl⟩, a4, c4⟩ : Ax).x]) a2 c2 (zl + 1) (by rw [ae HZL, ae HZN])))
         go_simp
         refine hK.out _ _ (ae HSF _ _ (ae HZF) (mt (mt (mt (mh)))) (mt (mh))) (fun hHeld2 => ?_)
         clear hK K hHeld
         have hHeld := hHeld2
         clear hHeld2
         try simp only [Act.put, sx, sy, sz]
         refine wpAnyH_done (by kernel_rfl) ?_ _
         clear hHeld z1 z2
         go_wp2_with fail
         exact ⟨⟨i + 1, aO, m, cO, by omega, by go_num, rfl, by rw [← ae HM]; exact ae HFIN _ _ _ ds (PsT a4 c4 vl :: bag) aO cO _ (ae HDN a2 c2) (aH (Zoo.tail (Zoo.tail (ae HZF))))⟩, by simp [intOf]; omega⟩
        ·go_simp
         have HB3 := ag ((ae HED).box #[.int .i64 5, .int .i64 xk, .int .i64 xt, .bool false, .string ⟨#[]⟩, .slice a4 ln c4] 44)
         refine hK.out _ _ (ae HSF _ _ (ae HB3) (mt (mt (mt (mh)))) (mt (mh))) (fun hHeld2 => ?_)
         clear hK K hHeld
         have hHeld := hHeld2
         clear hHeld2
         try simp only [Act.put, sx, sy, sz]
         have HBX := ag (Zoo.var (ae HB3))
         have hBw3 := Zoo.base (ae HB3)
         generalize WD.alloc (.cells #[.int .i64 5, .int .i64 xk, .int .i64 xt, .bool false, .string ⟨#[]⟩, .slice a4 ln c4] 44) = W3 at *
         generalize WD.heap.size = p3 at *
         refine aj (i := 4) rfl (by kernel_rfl) (fun K hK => ?_)
         have hrow3 := bf (ae HB3) (mt (mt (mt (mt (mh)))))
         have o3 := (hrow3.cells hj5).2.2.2
         rw [ae HOP, ae HZN] at o3
         clear hrow3
         go_simp
         refine hK.out _ _ hHeld (fun hHeld2 => ?_)
         clear hK K hHeld
         have hHeld := hHeld2
         clear hHeld2
         try simp only [Act.put, sx, sy, sz]
         clear o3
         refine aj (i := 15) rfl (by kernel_rfl) (fun K hK => ?_)
         obtain ⟨hrw, hmore⟩ := fw (L := [au p3 #[.int .i64 5, .int .i64 xk, .int .i64 xt, .bool false, .string ⟨#[]⟩, .slice a4 ln c4] 44, au p #[.int .i64 0, .int .i64 vn, .bool vt, .string vs, .slice a4 ln c4] 74, bG cb (hdo h ⟨5, (j : Int), xm, xa, xk, xt, xp, xb⟩), au q #[.int .i64 5, .int .i64 (j : Int), .int .i64 xm, .int .i64 xa, .int .i64 xk, .int .i64 xt, .int .i64 xp, .string xb] 55, OpT ob xs, KwT 39 4 aO ds.length cO (aP ds)]) hj5 hfl (ae HB3)
         have HMORE := ag hmore
         rw [ae HZN] at hrw
         refine bd (by rfl) (.tmp 168) (.tmp 178) 37 (by rfl) hua Tryz.info44 rfl (by omega) hrw hBw3 (.slice (some ⟨p3, 0, none⟩) 1 1) [.int .i64 5, .int .i64 xk, .int .i64 xt, .bool false, .string ⟨#[]⟩, .slice a4 ln c4] 1 (by rfl) (by rfl) (aQ (cs := #[.int .i64 5, .int .i64 xk, .int .i64 xt, .bool false, .string ⟨#[]⟩, .slice a4 ln c4]) hua (ae HBX) rfl (by simp [Value.oneCell'])) (by omega) (zl + 1) rfl ?_
         intro a2 c2 w9 g1 g2 g3
         have HZ9 := ag (ae HMORE a2 c2 { (xs j).d with acts := (k.op j).acts ++ [(⟨⟨5, xk, xt, false, ⟨#[]⟩, vl⟩, a4, c4⟩ : Ax).x] } (⟨⟨5, xk, xt, false, ⟨#[]⟩, vl⟩, a4, c4⟩ : Ax) w9 (by rw [ae HAXC, ae HZN]; exact ae g1) (ae g2) (ae g3))
         clear hmore HMORE hrw g1 g2 g3
         refine hK.out _ _ (ae HSF _ _ (ae HZ9) (mt (mt (mt (mh)))) (mt (mh))) (fun hHeld2 => ?_)
         clear hK K hHeld
         have hHeld := hHeld2
         clear hHeld2
         try simp only [Act.put, sx, sy, sz]
         refine tk 16 ?_ rfl (by kernel_rfl) (fun _ _ _ h => h) (by rfl) ?_ hHeld ?_;rotate_left;· intro w hSw;(try dsimp only at hSw);go_simp;try with_reducible rfl
         try simp only [Act.put, sx, sy, sz]
         refine tk 17 ?_ rfl (by kernel_rfl) (fun _ _ _ h => h) (by rfl) ?_ hHeld ?_;rotate_left;· intro w hSw;(try dsimp only at hSw);go_simp;try with_reducible rfl
         try simp only [Act.put, sx, sy, sz]
         refine aj (i := 18) rfl (by kernel_rfl) (fun K hK => ?_)
         have hrow9 := bf (ae HZ9) (mt (mt (mt (mt (mh)))))
         have z1 := (hrow9.cells hj5).2.2.2
         have z2 := hrow9.fz (j * 4 + 3)
         clear hrow9
         have HZF := ag (dj (l1 := [au p3 #[.int .i64 5, .int .i64 xk, .int .i64 xt, .bool false, .string ⟨#[]⟩, .slice a4 ln c4] 44, au p #[.int .i64 0, .int .i64 vn, .bool vt, .string vs, .slice a4 ln c4] 74, bG cb (hdo h ⟨5, (j : Int), xm, xa, xk, xt, xp, xb⟩), au q #[.int .i64 5, .int .i64 (j : Int), .int .i64 xm, .int .i64 xa, .int .i64 xk, .int .i64 xt, .int .i64 xp, .string xb] 55]) (ae HZ9) (fun r => r.setL hj5 ((k.op j).acts ++ [(⟨⟨5, xk, xt, false, ⟨#[]⟩, vl⟩, a4, c4⟩ : Ax).x]) a2 c2 (zl + 1) (by rw [ae HZL, ae HZN])))
         go_simp
         refine hK.out _ _ (ae HSF _ _ (ae HZF) (mt (mt (mt (mh)))) (mt (mh))) (fun hHeld2 => ?_)
         clear hK K hHeld
         have hHeld := hHeld2
         clear hHeld2
         try simp only [Act.put, sx, sy, sz]
         refine wpAnyH_done (by kernel_rfl) ?_ _
         clear hHeld z1 z2
         go_wp2_with fail
         exact ⟨⟨i + 1, aO, m, cO, by omega, by go_num, rfl, by rw [← ae HM]; exact ae HFIN _ _ _ ds (PsT a4 c4 vl :: bag) aO cO _ (ae HDN a2 c2) (aH (Zoo.tail (Zoo.tail (ae HZF))))⟩, by simp [intOf]; omega⟩
       ·as_aux_lemma =>
         have hnb : ¬ ((5 : Int) = 1 ∧ vc = 0) := aZ (ae HV) (ae HB)
         have hxv := fun o => ai ((ae HA).kp0 ((Kp.refl [] w4).alloc o)) (mt (mh))
         have X1 := fun o => af (i := 1) (v := .int .i64 (j : Int)) (hxv o) rfl
         clear hxv
         have HDN := ag (show DS (i + 1) (hdo h ⟨5, (j : Int), xm, xa, xk, xt, xp, xb⟩) (be h k ⟨5, (j : Int), xm, xa, xk, xt, xp, xb⟩) xs zs fl ds (PsT a4 c4 vl :: bag) by rw [jw (ae HV) (ae HB) hnb (by dsimp only; omega) (.inl hc0)]; exact ((ae HDS).plus _).same (by rw [ae HV]; exact hnb))
         clear hnb
         go_wp2_with fail
         exact ⟨⟨i + 1, aO, m, cO, by omega, by go_num, rfl, by rw [← ae HM]; exact ae HFIN xs zs fl ds (PsT a4 c4 vl :: bag) aO cO _ (ae HDN) (aH ((ae HA).kp0 ((Kp.refl [] w4).alloc _)))⟩, by simp [intOf]; omega⟩
      ·refine (ae HDO W2 _ (bB (ae HX2))).mono ?_
       rintro e w4 ⟨a4, c4, rfl, -, HA0⟩
       have HA := ag (sk (ae HA0))
       clear HA0 HX2
       have hxv := fun o => ai ((ae HA).kp0 ((Kp.refl [] w4).alloc o)) (mt (mh))
       have X0 := fun o => af (i := 0) (v := .int .i64 xd) (hxv o) rfl
       clear hxv
       by_cases hc0 : vc = 0
       ·subst hc0
        by_cases hd6 : xd = 6
        ·subst hd6
         as_aux_lemma =>
          have hxv := fun o => ai ((ae HA).kp0 ((Kp.refl [] w4).alloc o)) (mt (mh))
          have X1 := fun o => af (i := 1) (v := .int .i64 (j : Int)) (hxv o) rfl
          clear hxv
          have hnb : ¬ ((6 : Int) = 1 ∧ (0 : Int) = 0) := aZ (ae HV) (ae HB)
          have hfl : fl j = true := (ae HDS).live j d hj5 (ae HSJ)
          have HDN := ag (show DS (i + 1) (hdo h ⟨6, (j : Int), xm, xa, xk, xt, xp, xb⟩) (be h k ⟨6, (j : Int), xm, xa, xk, xt, xp, xb⟩) (upd xs j ⟨{ (xs j).d with n := vn }, (xs j).a, (xs j).c⟩) (upd zs j (zs j)) (upd fl j false) (ds ++ [⟨{ (xs j).d with n := vn }, (xs j).a, (xs j).c⟩]) (sth (fl j) (xs j) (zs j) :: aJ [] :: bag) by
           rw [lm (ae HV) (ae HB) (.inl ⟨rfl, rfl⟩)]
           exact ((ae HDS).plus _).done (by rw [ae HV]; exact hnb) hj5 hfl (hJ (ae HV) (ae HB) (.inl ⟨rfl, rfl⟩)) vn)
          clear hnb
          have HN1 := ag (dj (l1 := [bG cb (hdo h ⟨6, (j : Int), xm, xa, xk, xt, xp, xb⟩), au q #[.int .i64 6, .int .i64 (j : Int), .int .i64 xm, .int .i64 xa, .int .i64 xk, .int .i64 xt, .int .i64 xp, .string xb] 55]) (ae HA) (fun r => r.setN hj5 vn))
          have ra := fun o => bf ((ae HA).kp0 ((Kp.refl [] _).alloc o)) (mt (mt (mh)))
          have fa := fun o c => (ra o).fz c
          have ooa := fun o => ((ra o).cells hj5).1
          clear ra
          have rb := fun o => bf ((ae HN1).kp0 ((Kp.refl [] _).alloc o)) (mt (mt (mh)))
          have ob0 := fun o => ((rb o).cells hj5).1
          have ob1 := fun o => ((rb o).cells hj5).2.1
          have ob2 := fun o => ((rb o).cells hj5).2.2.1
          have ob3 := fun o => ((rb o).cells hj5).2.2.2
          clear rb
          simp only [av] at ob0 ob1 ob2 ob3
          have oc := (bf (ae HA) (mt (mt (mh)))).cells hj5
          have lob : ob < w4.heap.size := cH oc.1
          have neo : ob ≠ w4.heap.size := by omega
          have hBw := Zoo.base (ae HA)
          have HROW := ag (bq (l1 := [bG cb (hdo h ⟨6, (j : Int), xm, xa, xk, xt, xp, xb⟩), au q #[.int .i64 6, .int .i64 (j : Int), .int .i64 xm, .int .i64 xa, .int .i64 xk, .int .i64 xt, .int .i64 xp, .string xb] 55, OpT ob (upd xs j ⟨{ (xs j).d with n := vn }, (xs j).a, (xs j).c⟩)]) (ae HN1))
          rw [ae HM] at HROW
          have HOUT := ag (fun (a2 : Option Addr) (c2 : Nat) (W W9 : World) (hk : Kp [] (w4.setCell ⟨ob, j * 4, none⟩ (.int .i64 vn)) W) (g1 : Hid (bn 39 4 w.heap.size W9 a2 (m + 1) c2 (aP ds ++ [.int .i64 vn, .int .i64 (xs j).d.at_, .int .i64 (xs j).d.md, .slice (xs j).a (xs j).d.acts.length (xs j).c]))) (g2 : Hid (Kp (Go.Proofs.YtldkeaeohceckacGreat.ob aO) W W9)) (g3 : Hid (∀ x ∈ Go.Proofs.YtldkeaeohceckacGreat.ob a2, x ∈ Go.Proofs.YtldkeaeohceckacGreat.ob aO ∨ W.heap.size ≤ x)) =>
           ae HFIN _ _ _ (ds ++ [⟨{ (xs j).d with n := vn }, (xs j).a, (xs j).c⟩]) (sth (fl j) (xs j) (zs j) :: aJ [] :: bag) a2 c2 W9 (ae HDN) (by
            have z1 := cS (l1 := [bG cb (hdo h ⟨6, (j : Int), xm, xa, xk, xt, xp, xb⟩), au q #[.int .i64 6, .int .i64 (j : Int), .int .i64 xm, .int .i64 xa, .int .i64 xk, .int .i64 xt, .int .i64 xp, .string xb] 55, OpT ob (upd xs j ⟨{ (xs j).d with n := vn }, (xs j).a, (xs j).c⟩)]) ((ae HN1).kp0 hk) (ae g1) (ae g2) (ae g3)
            have z2 := lp hj5 ⟨{ (xs j).d with n := vn }, (xs j).a, (xs j).c⟩ (zs j) (aH z1)
            have e1 : aP (ds ++ [⟨{ (xs j).d with n := vn }, (xs j).a, (xs j).c⟩]) = aP ds ++ [.int .i64 vn, .int .i64 (xs j).d.at_, .int .i64 (xs j).d.md, .slice (xs j).a (xs j).d.acts.length (xs j).c] := by rw [dx]; simp [aP, dxc]
            unfold DL
            rw [e1, List.length_append, List.length_singleton, ae HM]
            exact z2))
          have HLD := ag (show (ds ++ [(⟨{ (xs j).d with n := vn }, (xs j).a, (xs j).c⟩ : Dx)]).length = m + 1 by rw [List.length_append, List.length_singleton, ae HM])
          rw [ae HLD] at HOUT
          clear oc HDN HN1 HA HLD
          generalize (xs j).d.at_ = oa at *
          generalize (xs j).d.md = om at *
          generalize (xs j).d.acts.length = rl at *
          generalize (xs j).a = ra at *
          generalize (xs j).c = rc at *
          generalize (xs j).d.n = on at *
          go_wp2_with (at_builtin; refine bC (by rfl) (.tmp 98) (.tmp 102) 33 (by rfl) hu Tryz.info39 rfl (by omega) ((ae HROW).kp0 (((Kp.refl [] _).alloc _).alloc _)) (by simp; omega) (.slice (some ⟨w4.heap.size + 1, 0, none⟩) 1 1) [.int .i64 vn, .int .i64 oa, .int .i64 om, .slice ra rl rc] 1 (by rfl) (by rfl) (aQ (cs := #[.int .i64 vn, .int .i64 oa, .int .i64 om, .slice ra rl rc]) (T := 39) (fr := (0, 0)) hu (dd (by simp)) rfl (by simp [Value.oneCell'])) (by omega) (m + 1) rfl ?_; intro a2 c2 w9 g1 g2 g3)
          exact ⟨⟨i + 1, a2, m + 1, c2, by omega, by go_num, rfl, ae HOUT a2 c2 _ w9 (((Kp.refl [] _).alloc _).alloc _) g1 g2 g3⟩, by simp [intOf]; omega⟩
        by_cases hd10 : xd = 10
        ·subst hd10
         by_cases hn0 : 0 < vn
         ·as_aux_lemma =>
           have hxv := fun o => ai ((ae HA).kp0 ((Kp.refl [] w4).alloc o)) (mt (mh))
           have X1 := fun o => af (i := 1) (v := .int .i64 (j : Int)) (hxv o) rfl
           clear hxv
           have hnb : ¬ ((10 : Int) = 1 ∧ (0 : Int) = 0) := aZ (ae HV) (ae HB)
           have hfl : fl j = true := (ae HDS).live j d hj5 (ae HSJ)
           have HDN := ag (show DS (i + 1) (hdo h ⟨10, (j : Int), xm, xa, xk, xt, xp, xb⟩) (be h k ⟨10, (j : Int), xm, xa, xk, xt, xp, xb⟩) (upd xs j ⟨{ (xs j).d with n := vn }, (xs j).a, (xs j).c⟩) (upd zs j (zs j)) (upd fl j false) (ds ++ [⟨{ (xs j).d with n := vn }, (xs j).a, (xs j).c⟩]) (sth (fl j) (xs j) (zs j) :: aJ [] :: bag) by
            rw [lm (ae HV) (ae HB) (.inr ⟨rfl, hn0⟩)]
            exact ((ae HDS).plus _).done (by rw [ae HV]; exact hnb) hj5 hfl (hJ (ae HV) (ae HB) (.inr ⟨rfl, hn0⟩)) vn)
           clear hnb
           have HN1 := ag (dj (l1 := [bG cb (hdo h ⟨10, (j : Int), xm, xa, xk, xt, xp, xb⟩), au q #[.int .i64 10, .int .i64 (j : Int), .int .i64 xm, .int .i64 xa, .int .i64 xk, .int .i64 xt, .int .i64 xp, .string xb] 55]) (ae HA) (fun r => r.setN hj5 vn))
           have ra := fun o => bf ((ae HA).kp0 ((Kp.refl [] _).alloc o)) (mt (mt (mh)))
           have fa := fun o c => (ra o).fz c
           have ooa := fun o => ((ra o).cells hj5).1
           clear ra
           have rb := fun o => bf ((ae HN1).kp0 ((Kp.refl [] _).alloc o)) (mt (mt (mh)))
           have ob0 := fun o => ((rb o).cells hj5).1
           have ob1 := fun o => ((rb o).cells hj5).2.1
           have ob2 := fun o => ((rb o).cells hj5).2.2.1
           have ob3 := fun o => ((rb o).cells hj5).2.2.2
           clear rb
           simp only [av] at ob0 ob1 ob2 ob3
           have oc := (bf (ae HA) (mt (mt (mh)))).cells hj5
           have lob : ob < w4.heap.size := cH oc.1
           have neo : ob ≠ w4.heap.size := by omega
           have hBw := Zoo.base (ae HA)
           have HROW := ag (bq (l1 := [bG cb (hdo h ⟨10, (j : Int), xm, xa, xk, xt, xp, xb⟩), au q #[.int .i64 10, .int .i64 (j : Int), .int .i64 xm, .int .i64 xa, .int .i64 xk, .int .i64 xt, .int .i64 xp, .string xb] 55, OpT ob (upd xs j ⟨{ (xs j).d with n := vn }, (xs j).a, (xs j).c⟩)]) (ae HN1))
           rw [ae HM] at HROW
           have HOUT := ag (fun (a2 : Option Addr) (c2 : Nat) (W W9 : World) (hk : Kp [] (w4.setCell ⟨ob, j * 4, none⟩ (.int .i64 vn)) W) (g1 : Hid (bn 39 4 w.heap.size W9 a2 (m + 1) c2 (aP ds ++ [.int .i64 vn, .int .i64 (xs j).d.at_, .int .i64 (xs j).d.md, .slice (xs j).a (xs j).d.acts.length (xs j).c]))) (g2 : Hid (Kp (Go.Proofs.YtldkeaeohceckacGreat.ob aO) W W9)) (g3 : Hid (∀ x ∈ Go.Proofs.YtldkeaeohceckacGreat.ob a2, x ∈ Go.Proofs.YtldkeaeohceckacGreat.ob aO ∨ W.heap.size ≤ x)) =>
            ae HFIN _ _ _ (ds ++ [⟨{ (xs j).d with n := vn }, (xs j).a, (xs j).c⟩]) (sth (fl j) (xs j) (zs j) :: aJ [] :: bag) a2 c2 W9 (ae HDN) (by
             have z1 := cS (l1 := [bG cb (hdo h ⟨10, (j : Int), xm, xa, xk, xt, xp, xb⟩), au q #[.int .i64 10, .int .i64 (j : Int), .int .i64 xm, .int .i64 xa, .int .i64 xk, .int .i64 xt, .int .i64 xp, .string xb] 55, OpT ob (upd xs j ⟨{ (xs j).d with n := vn }, (xs j).a, (xs j).c⟩)]) ((ae HN1).kp0 hk) (ae g1) (ae g2) (ae g3)
             have z2 := lp hj5 ⟨{ (xs j).d with n := vn }, (xs j).a, (xs j).c⟩ (zs j) (aH z1)
             have e1 : aP (ds ++ [⟨{ (xs j).d with n := vn }, (xs j).a, (xs j).c⟩]) = aP ds ++ [.int .i64 vn, .int .i64 (xs j).d.at_, .int .i64 (xs j).d.md, .slice (xs j).a (xs j).d.acts.length (xs j).c] := by rw [dx]; simp [aP, dxc]
             unfold DL
             rw [e1, List.length_append, List.length_singleton, ae HM]
             exact z2))
           have HLD := ag (show (ds ++ [(⟨{ (xs j).d with n := vn }, (xs j).a, (xs j).c⟩ : Dx)]).length = m + 1 by rw [List.length_append, List.length_singleton, ae HM])
           rw [ae HLD] at HOUT
           clear oc HDN HN1 HA HLD
           generalize (xs j).d.at_ = oa at *
           generalize (xs j).d.md = om at *
           generalize (xs j).d.acts.length = rl at *
           generalize (xs j).a = ra at *
           generalize (xs j).c = rc at *
           generalize (xs j).d.n = on at *
           go_wp2_with (at_builtin; refine bC (by rfl) (.tmp 98) (.tmp 102) 33 (by rfl) hu Tryz.info39 rfl (by omega) ((ae HROW).kp0 (((Kp.refl [] _).alloc _).alloc _)) (by simp; omega) (.slice (some ⟨w4.heap.size + 1, 0, none⟩) 1 1) [.int .i64 vn, .int .i64 oa, .int .i64 om, .slice ra rl rc] 1 (by rfl) (by rfl) (aQ (cs := #[.int .i64 vn, .int .i64 oa, .int .i64 om, .slice ra rl rc]) (T := 39) (fr := (0, 0)) hu (dd (by simp)) rfl (by simp [Value.oneCell'])) (by omega) (m + 1) rfl ?_; intro a2 c2 w9 g1 g2 g3)
           exact ⟨⟨i + 1, a2, m + 1, c2, by omega, by go_num, rfl, ae HOUT a2 c2 _ w9 (((Kp.refl [] _).alloc _).alloc _) g1 g2 g3⟩, by simp [intOf]; omega⟩
         ·as_aux_lemma =>
           have hnb : ¬ ((10 : Int) = 1 ∧ (0 : Int) = 0) := aZ (ae HV) (ae HB)
           have hxv := fun o => ai ((ae HA).kp0 ((Kp.refl [] w4).alloc o)) (mt (mh))
           have X1 := fun o => af (i := 1) (v := .int .i64 (j : Int)) (hxv o) rfl
           clear hxv
           have HDN := ag (show DS (i + 1) (hdo h ⟨10, (j : Int), xm, xa, xk, xt, xp, xb⟩) (be h k ⟨10, (j : Int), xm, xa, xk, xt, xp, xb⟩) xs zs fl ds (aJ [] :: bag) by rw [jw (ae HV) (ae HB) hnb (by dsimp only; omega) (.inr (by dsimp only; omega))]; exact ((ae HDS).plus _).same (by rw [ae HV]; exact hnb))
           clear hnb
           go_wp2_with fail
           exact ⟨⟨i + 1, aO, m, cO, by omega, by go_num, rfl, by rw [← ae HM]; exact ae HFIN xs zs fl ds (aJ [] :: bag) aO cO _ (ae HDN) (aH ((ae HA).kp0 ((Kp.refl [] w4).alloc _)))⟩, by simp [intOf]; omega⟩
        by_cases hd2 : xd = 2
        ·subst hd2
         have hxv := fun o => ai ((ae HA).kp0 ((Kp.refl [] w4).alloc o)) (mt (mh))
         have X1 := fun o => af (i := 1) (v := .int .i64 (j : Int)) (hxv o) rfl
         clear hxv
         have hnb : ¬ ((2 : Int) = 1 ∧ (0 : Int) = 0) := aZ (ae HV) (ae HB)
         have hfl : fl j = true := (ae HDS).live j d hj5 (ae HSJ)
         have HYX := ag (show eU ⟨2, (j : Int), xm, xa, xk, xt, xp, xb⟩ ⟨0, vn, vt, vs, vl⟩ = (⟨⟨2, xk, 0, vt, vs, []⟩, none, 0⟩ : Ax).x from rfl)
         have HDN := ag (fun (a2 : Option Addr) (c2 : Nat) => (show DS (i + 1) (hdo h ⟨2, (j : Int), xm, xa, xk, xt, xp, xb⟩) (be h k ⟨2, (j : Int), xm, xa, xk, xt, xp, xb⟩) (upd xs j ⟨{ (xs j).d with acts := (k.op j).acts ++ [(⟨⟨2, xk, 0, vt, vs, []⟩, none, 0⟩ : Ax).x] }, a2, c2⟩) (upd zs j (zs j ++ [(⟨⟨2, xk, 0, vt, vs, []⟩, none, 0⟩ : Ax)])) (upd fl j true) ds (aJ [] :: bag) by
          rw [ph (ae HV) (ae HB) ⟨by show (2 : Int) ≤ 2; decide, by show (2 : Int) ≤ 5; decide⟩ rfl, ae HYX]
          exact (ae HDS).on (by rw [ae HV]; exact hnb) hj5 hfl (⟨⟨2, xk, 0, vt, vs, []⟩, none, 0⟩ : Ax) a2 c2 _ (.inl rfl)))
         clear hnb
         have hlen := (ae HDS).len j hj5 hfl
         have HE0 := ag ((ae HA).box #[.int .i64 0, .int .i64 vn, .bool vt, .string vs, .slice a4 ln c4] 74)
         have HOP := ag (show (xs j).d.acts.length = (zs j).length by rw [(ae HDS).op j hj5, ← (ae HDS).acts j hj5 hfl, List.length_map])
         have HZL := ag (show ((k.op j).acts ++ [(⟨⟨2, xk, 0, vt, vs, []⟩, none, 0⟩ : Ax).x]).length = (zs j).length + 1 by rw [List.length_append, List.length_singleton, ← (ae HDS).acts j hj5 hfl, List.length_map])
         have HAXC := ag (show axc (⟨⟨2, xk, 0, vt, vs, []⟩, none, 0⟩ : Ax) = [.int .i64 2, .int .i64 xk, .int .i64 0, .bool vt, .string vs, .slice none 0 0] by first | rfl | (rw [← ae HLN]; rfl))
         obtain ⟨zl, hzl⟩ : ∃ zl, (zs j).length = zl := ⟨_, rfl⟩
         have hz2 : zl ≤ 200 := by omega
         have HZN := ag hzl
         clear hzl hlen
         go_wp2_with fail
         generalize w4.alloc (.cells #[.int .i64 0, .int .i64 vn, .bool vt, .string vs, .slice a4 ln c4] 74) = W1 at HE0 ⊢
         generalize w4.heap.size = p at HE0 ⊢
         clear X0 X1 HA
         have HSF := ag (fun (W : World) (os : List ao) (hz : Zoo w W os) (h1 : au q #[.int .i64 2, .int .i64 (j : Int), .int .i64 xm, .int .i64 xa, .int .i64 xk, .int .i64 xt, .int .i64 xp, .string xb] 55 ∈ os) (h2 : au p #[.int .i64 0, .int .i64 vn, .bool vt, .string vs, .slice a4 ln c4] 74 ∈ os) => (show (fun w' => w'.cell? ⟨q, 0, none⟩ = some (.int .i64 2) ∧ w'.cell? ⟨q, 4, none⟩ = some (.int .i64 xk) ∧ w'.cell? ⟨p, 2, none⟩ = some (.bool vt) ∧ w'.cell? ⟨p, 3, none⟩ = some (.string vs)) W from by
          have hq := ai hz h1
          have hp := ai hz h2
          exact ⟨af hq rfl, af hq rfl, af hp rfl, af hp rfl⟩))
         refine wp_region_held_drew (S := fun w' => w'.cell? ⟨q, 0, none⟩ = some (.int .i64 2) ∧ w'.cell? ⟨q, 4, none⟩ = some (.int .i64 xk) ∧ w'.cell? ⟨p, 2, none⟩ = some (.bool vt) ∧ w'.cell? ⟨p, 3, none⟩ = some (.string vs)) (by kernel_rfl) (ae HSF W1 _ (ae HE0) (mt (mt (mh))) (mh)) (fun hHeld => ?_)
         have HED := ag ((ae HE0).kp0 ((Kp.refl [] W1).drew))
         generalize World.drew _ = WD at HED hHeld ⊢
         clear HE0
         refine tk 0 ?_ rfl (by kernel_rfl) (fun _ _ _ h => h) (by rfl) ?_ hHeld ?_;rotate_left;· intro w hSw;(try dsimp only at hSw);go_simp;try with_reducible rfl
         try simp only [Act.put, sx, sy, sz]
         refine tk 1 ?_ rfl (by kernel_rfl) (fun _ _ _ h => h) (by rfl) ?_ hHeld ?_;rotate_left;· intro w hSw;(try dsimp only at hSw);go_simp;try with_reducible rfl
         try simp only [Act.put, sx, sy, sz]
         refine tk 2 ?_ rfl (by kernel_rfl) (fun _ _ _ h => h) (by rfl) ?_ hHeld ?_;rotate_left;· intro w hSw;(try dsimp only at hSw);go_simp;try with_reducible rfl
         try simp only [Act.put, sx, sy, sz]
         refine tk 3 ?_ rfl (by kernel_rfl) (fun _ _ _ h => h) (by rfl) ?_ hHeld ?_;rotate_left;· intro w hSw;(try dsimp only at hSw);go_simp;try with_reducible rfl
         try simp only [Act.put, sx, sy, sz]
         refine tk 5 ?_ rfl (by kernel_rfl) (fun _ _ _ h => h) (by rfl) ?_ hHeld ?_;rotate_left;· intro w hSw;(try dsimp only at hSw);go_simp;try with_reducible rfl
         try simp only [Act.put, sx, sy, sz]
         refine tk 6 ?_ rfl (by kernel_rfl) (fun _ _ _ h => h) (by rfl) ?_ hHeld ?_;rotate_left;· intro w hSw;(try dsimp only at hSw);go_simp;try with_reducible rfl
         try simp only [Act.put, sx, sy, sz]
         refine tk 7 ?_ rfl (by kernel_rfl) (fun _ _ _ h => h) (by rfl) ?_ hHeld ?_;rotate_left;· intro w hSw;(try dsimp only at hSw);go_simp;try with_reducible rfl
         try simp only [Act.put, sx, sy, sz]
         refine tk 8 ?_ rfl (by kernel_rfl) (fun _ _ _ h => h) (by rfl) ?_ hHeld ?_;rotate_left;· intro w hSw;(try dsimp only at hSw);go_simp;try with_reducible rfl
         try simp only [Act.put, sx, sy, sz]
         refine tk 9 ?_ rfl (by kernel_rfl) (fun _ _ _ h => h) (by rfl) ?_ hHeld ?_;rotate_left;· intro w hSw;(try dsimp only at hSw);go_simp;try with_reducible rfl
         try simp only [Act.put, sx, sy, sz]
         refine tk 10 ?_ rfl (by kernel_rfl) (fun _ _ _ h => h) (by rfl) ?_ hHeld ?_;rotate_left;· intro w hSw;(try dsimp only at hSw);go_simp;try with_reducible rfl
         try simp only [Act.put, sx, sy, sz]
         refine tk 11 ?_ rfl (by kernel_rfl) (fun _ _ _ h => h) (by rfl) ?_ hHeld ?_;rotate_left;· intro w hSw;(try dsimp only at hSw);go_simp;try with_reducible rfl
         try simp only [Act.put, sx, sy, sz]
         refine bK (i := 4) (j := 12) rfl rfl (by kernel_rfl) (fun K hK => ?_) (fun K hK => ?_)
         ·have hrow3 := bf (ae HED) (mt (mt (mt (mh))))
          have o3 := (hrow3.cells hj5).2.2.2
          rw [ae HOP, ae HZN] at o3
          clear hrow3
          go_simp
          refine hK.out _ _ hHeld (fun hHeld2 => ?_)
          clear hK K hHeld
          have hHeld := hHeld2
          clear hHeld2
          try simp only [Act.put, sx, sy, sz]
          clear o3
          refine aj (i := 12) rfl (by kernel_rfl) (fun K hK => ?_)
          go_simp
          have HB3 := ag ((ae HED).box #[.int .i64 2, .int .i64 xk, .int .i64 0, .bool vt, .string vs, .slice none 0 0] 44)
          refine hK.out _ _ (ae HSF _ _ (ae HB3) (mt (mt (mt (mh)))) (mt (mh))) (fun hHeld2 => ?_)
          clear hK K hHeld
          have hHeld := hHeld2
          clear hHeld2
          try simp only [Act.put, sx, sy, sz]
          have HBX := ag (Zoo.var (ae HB3))
          have hBw3 := Zoo.base (ae HB3)
          generalize WD.alloc (.cells #[.int .i64 2, .int .i64 xk, .int .i64 0, .bool vt, .string vs, .slice none 0 0] 44) = W3 at *
          generalize WD.heap.size = p3 at *
          refine aj (i := 13) rfl (by kernel_rfl) (fun K hK => ?_)
          obtain ⟨hrw, hmore⟩ := fw (L := [au p3 #[.int .i64 2, .int .i64 xk, .int .i64 0, .bool vt, .string vs, .slice none 0 0] 44, au p #[.int .i64 0, .int .i64 vn, .bool vt, .string vs, .slice a4 ln c4] 74, bG cb (hdo h ⟨2, (j : Int), xm, xa, xk, xt, xp, xb⟩), au q #[.int .i64 2, .int .i64 (j : Int), .int .i64 xm, .int .i64 xa, .int .i64 xk, .int .i64 xt, .int .i64 xp, .string xb] 55, OpT ob xs, KwT 39 4 aO ds.length cO (aP ds)]) hj5 hfl (ae HB3)
          have HMORE := ag hmore
          rw [ae HZN] at hrw
          refine bd (by rfl) (.tmp 115) (.tmp 123) 37 (by rfl) hua Tryz.info44 rfl (by omega) hrw hBw3 (.slice (some ⟨p3, 0, none⟩) 1 1) [.int .i64 2, .int .i64 xk, .int .i64 0, .bool vt, .string vs, .slice none 0 0] 1 (by rfl) (by rfl) (aQ (cs := #[.int .i64 2, .int .i64 xk, .int .i64 0, .bool vt, .string vs, .slice none 0 0]) hua (ae HBX) rfl (by simp [Value.oneCell'])) (by omega) (zl + 1) rfl ?_
          intro a2 c2 w9 g1 g2 g3
          have HZ9 := ag (ae HMORE a2 c2 { (xs j).d with acts := (k.op j).acts ++ [(⟨⟨2, xk, 0, vt, vs, []⟩, none, 0⟩ : Ax).x] } (⟨⟨2, xk, 0, vt, vs, []⟩, none, 0⟩ : Ax) w9 (by rw [ae HAXC, ae HZN]; exact ae g1) (ae g2) (ae g3))
          clear hmore HMORE hrw g1 g2 g3
          refine hK.out _ _ (ae HSF _ _ (ae HZ9) (mt (mt (mt (mh)))) (mt (mh))) (fun hHeld2 => ?_)
          clear hK K hHeld
          have hHeld := hHeld2
          clear hHeld2
          try simp only [Act.put, sx, sy, sz]
          refine tk 14 ?_ rfl (by kernel_rfl) (fun _ _ _ h => h) (by rfl) ?_ hHeld ?_;rotate_left;· intro w hSw;(try dsimp only at hSw);go_simp;try with_reducible rfl
          try simp only [Act.put, sx, sy, sz]
          refine tk 15 ?_ rfl (by kernel_rfl) (fun _ _ _ h => h) (by rfl) ?_ hHeld ?_;rotate_left;· intro w hSw;(try dsimp only at hSw);go_simp;try with_reducible rfl
          try simp only [Act.put, sx, sy, sz]
          refine aj (i := 16) rfl (by kernel_rfl) (fun K hK => ?_)
          have hrow9 := bf (ae HZ9) (mt (mt (mt (mt (mh)))))
          have z1 := (hrow9.cells hj5).2.2.2
          have z2 := hrow9.fz (j * 4 + 3)
          clear hrow9
          have HZF := ag (dj (l1 := [au p3 #[.int .i64 2, .int .i64 xk, .int .i64 0, .bool vt, .string vs, .slice none 0 0] 44, au p #[.int .i64 0, .int .i64 vn, .bool vt, .string vs, .slice a4 ln c4] 74, bG cb (hdo h ⟨2, (j : Int), xm, xa, xk, xt, xp, xb⟩), au q #[.int .i64 2, .int .i64 (j : Int), .int .i64 xm, .int .i64 xa, .int .i64 xk, .int .i64 xt, .int .i64 xp, .string xb] 55]) (ae HZ9) (fun r => r.setL hj5 ((k.op j).acts ++ [(⟨⟨2, xk, 0, vt, vs, []⟩, none, 0⟩ : Ax).x]) a2 c2 (zl + 1) (by rw [ae HZL, ae HZN])))
          go_simp
          refine hK.out _ _ (ae HSF _ _ (ae HZF) (mt (mt (mt (mh)))) (mt (mh))) (fun hHeld2 => ?_)
          clear hK K hHeld
          have hHeld := hHeld2
          clear hHeld2
          try simp only [Act.put, sx, sy, sz]
          refine wpAnyH_done (by kernel_rfl) ?_ _
          clear hHeld z1 z2
          go_wp2_with fail
          exact ⟨⟨i + 1, aO, m, cO, by omega, by go_num, rfl, by rw [← ae HM]; exact ae HFIN _ _ _ ds (aJ [] :: bag) aO cO _ (ae HDN a2 c2) (aH (Zoo.tail (Zoo.tail (ae HZF))))⟩, by simp [intOf]; omega⟩
         ·go_simp
          have HB3 := ag ((ae HED).box #[.int .i64 2, .int .i64 xk, .int .i64 0, .bool vt, .string vs, .slice none 0 0] 44)
          refine hK.out _ _ (ae HSF _ _ (ae HB3) (mt (mt (mt (mh)))) (mt (mh))) (fun hHeld2 => ?_)
          clear hK K hHeld
          have hHeld := hHeld2
          clear hHeld2
          try simp only [Act.put, sx, sy, sz]
          have HBX := ag (Zoo.var (ae HB3))
          have hBw3 := Zoo.base (ae HB3)
          generalize WD.alloc (.cells #[.int .i64 2, .int .i64 xk, .int .i64 0, .bool vt, .string vs, .slice none 0 0] 44) = W3 at *
          generalize WD.heap.size = p3 at *
          refine aj (i := 4) rfl (by kernel_rfl) (fun K hK => ?_)
          have hrow3 := bf (ae HB3) (mt (mt (mt (mt (mh)))))
          have o3 := (hrow3.cells hj5).2.2.2
          rw [ae HOP, ae HZN] at o3
          clear hrow3
          go_simp
          refine hK.out _ _ hHeld (fun hHeld2 => ?_)
          clear hK K hHeld
          have hHeld := hHeld2
          clear hHeld2
          try simp only [Act.put, sx, sy, sz]
          clear o3
          refine aj (i := 13) rfl (by kernel_rfl) (fun K hK => ?_)
          obtain ⟨hrw, hmore⟩ := fw (L := [au p3 #[.int .i64 2, .int .i64 xk, .int .i64 0, .bool vt, .string vs, .slice none 0 0] 44, au p #[.int .i64 0, .int .i64 vn, .bool vt, .string vs, .slice a4 ln c4] 74, bG cb (hdo h ⟨2, (j : Int), xm, xa, xk, xt, xp, xb⟩), au q #[.int .i64 2, .int .i64 (j : Int), .int .i64 xm, .int .i64 xa, .int .i64 xk, .int .i64 xt, .int .i64 xp, .string xb] 55, OpT ob xs, KwT 39 4 aO ds.length cO (aP ds)]) hj5 hfl (ae HB3)
          have HMORE := ag hmore
          rw [ae HZN] at hrw
          refine bd (by rfl) (.tmp 115) (.tmp 123) 37 (by rfl) hua Tryz.info44 rfl (by omega) hrw hBw3 (.slice (some ⟨p3, 0, none⟩) 1 1) [.int .i64 2, .int .i64 xk, .int .i64 0, .bool vt, .string vs, .slice none 0 0] 1 (by rfl) (by rfl) (aQ (cs := #[.int .i64 2, .int .i64 xk, .int .i64 0, .bool vt, .string vs, .slice none 0 0]) hua (ae HBX) rfl (by simp [Value.oneCell'])) (by omega) (zl + 1) rfl ?_
          intro a2 c2 w9 g1 g2 g3
          have HZ9 := ag (ae HMORE a2 c2 { (xs j).d with acts := (k.op j).acts ++ [(⟨⟨2, xk, 0, vt, vs, []⟩, none, 0⟩ : Ax).x] } (⟨⟨2, xk, 0, vt, vs, []⟩, none, 0⟩ : Ax) w9 (by rw [ae HAXC, ae HZN]; exact ae g1) (ae g2) (ae g3))
          clear hmore HMORE hrw g1 g2 g3
          refine hK.out _ _ (ae HSF _ _ (ae HZ9) (mt (mt (mt (mh)))) (mt (mh))) (fun hHeld2 => ?_)
          clear hK K hHeld
          have hHeld := hHeld2
          clear hHeld2
          try simp only [Act.put, sx, sy, sz]
          refine tk 14 ?_ rfl (by kernel_rfl) (fun _ _ _ h => h) (by rfl) ?_ hHeld ?_;rotate_left;· intro w hSw;(try dsimp only at hSw);go_simp;try with_reducible rfl
          try simp only [Act.put, sx, sy, sz]
          refine tk 15 ?_ rfl (by kernel_rfl) (fun _ _ _ h => h) (by rfl) ?_ hHeld ?_;rotate_left;· intro w hSw;(try dsimp only at hSw);go_simp;try with_reducible rfl
          try simp only [Act.put, sx, sy, sz]
          refine aj (i := 16) rfl (by kernel_rfl) (fun K hK => ?_)
          have hrow9 := bf (ae HZ9) (mt (mt (mt (mt (mh)))))
          have z1 := (hrow9.cells hj5).2.2.2
          have z2 := hrow9.fz (j * 4 + 3)
          clear hrow9
          have HZF := ag (dj (l1 := [au p3 #[.int .i64 2, .int .i64 xk, .int .i64 0, .bool vt, .string vs, .slice none 0 0] 44, au p #[.int .i64 0, .int .i64 vn, .bool vt, .string vs, .slice a4 ln c4] 74, bG cb (hdo h ⟨2, (j : Int), xm, xa, xk, xt, xp, xb⟩), au q #[.int .i64 2, .int .i64 (j : Int), .int .i64 xm, .int .i64 xa, .int .i64 xk, .int .i64 xt, .int .i64 xp, .string xb] 55]) (ae HZ9) (fun r => r.setL hj5 ((k.op j).acts ++ [(⟨⟨2, xk, 0, vt, vs, []⟩, none, 0⟩ : Ax).x]) a2 c2 (zl + 1) (by rw [ae HZL, ae HZN])))
          go_simp
          refine hK.out _ _ (ae HSF _ _ (ae HZF) (mt (mt (mt (mh)))) (mt (mh))) (fun hHeld2 => ?_)
          clear hK K hHeld
          have hHeld := hHeld2
          clear hHeld2
          try simp only [Act.put, sx, sy, sz]
          refine wpAnyH_done (by kernel_rfl) ?_ _
          clear hHeld z1 z2
          go_wp2_with fail
          exact ⟨⟨i + 1, aO, m, cO, by omega, by go_num, rfl, by rw [← ae HM]; exact ae HFIN _ _ _ ds (aJ [] :: bag) aO cO _ (ae HDN a2 c2) (aH (Zoo.tail (Zoo.tail (ae HZF))))⟩, by simp [intOf]; omega⟩
        by_cases hd3 : xd = 3
        ·subst hd3
         have hxv := fun o => ai ((ae HA).kp0 ((Kp.refl [] w4).alloc o)) (mt (mh))
         have X1 := fun o => af (i := 1) (v := .int .i64 (j : Int)) (hxv o) rfl
         clear hxv
         have hnb : ¬ ((3 : Int) = 1 ∧ (0 : Int) = 0) := aZ (ae HV) (ae HB)
         have hfl : fl j = true := (ae HDS).live j d hj5 (ae HSJ)
         have HYX := ag (show eU ⟨3, (j : Int), xm, xa, xk, xt, xp, xb⟩ ⟨0, vn, vt, vs, vl⟩ = (⟨⟨3, xk, 0, true, xb, []⟩, none, 0⟩ : Ax).x from rfl)
         have HDN := ag (fun (a2 : Option Addr) (c2 : Nat) => (show DS (i + 1) (hdo h ⟨3, (j : Int), xm, xa, xk, xt, xp, xb⟩) (be h k ⟨3, (j : Int), xm, xa, xk, xt, xp, xb⟩) (upd xs j ⟨{ (xs j).d with acts := (k.op j).acts ++ [(⟨⟨3, xk, 0, true, xb, []⟩, none, 0⟩ : Ax).x] }, a2, c2⟩) (upd zs j (zs j ++ [(⟨⟨3, xk, 0, true, xb, []⟩, none, 0⟩ : Ax)])) (upd fl j true) ds (aJ [] :: bag) by
          rw [ph (ae HV) (ae HB) ⟨by show (2 : Int) ≤ 3; decide, by show (3 : Int) ≤ 5; decide⟩ rfl, ae HYX]
          exact (ae HDS).on (by rw [ae HV]; exact hnb) hj5 hfl (⟨⟨3, xk, 0, true, xb, []⟩, none, 0⟩ : Ax) a2 c2 _ (.inl rfl)))
         clear hnb
         have hlen := (ae HDS).len j hj5 hfl
         have HE0 := ag ((ae HA).box #[.int .i64 0, .int .i64 vn, .bool vt, .string vs, .slice a4 ln c4] 74)
         have HOP := ag (show (xs j).d.acts.length = (zs j).length by rw [(ae HDS).op j hj5, ← (ae HDS).acts j hj5 hfl, List.length_map])
         have HZL := ag (show ((k.op j).acts ++ [(⟨⟨3, xk, 0, true, xb, []⟩, none, 0⟩ : Ax).x]).length = (zs j).length + 1 by rw [List.length_append, List.length_singleton, ← (ae HDS).acts j hj5 hfl, List.length_map])
         have HAXC := ag (show axc (⟨⟨3, xk, 0, true, xb, []⟩, none, 0⟩ : Ax) = [.int .i64 3, .int .i64 xk, .int .i64 0, .bool true, .string xb, .slice none 0 0] by first | rfl | (rw [← ae HLN]; rfl))
         obtain ⟨zl, hzl⟩ : ∃ zl, (zs j).length = zl := ⟨_, rfl⟩
         have hz2 : zl ≤ 200 := by omega
         have HZN := ag hzl
         clear hzl hlen
         go_wp2_with fail
         generalize w4.alloc (.cells #[.int .i64 0, .int .i64 vn, .bool vt, .string vs, .slice a4 ln c4] 74) = W1 at HE0 ⊢
         generalize w4.heap.size = p at HE0 ⊢
         clear X0 X1 HA
         have HSF := ag (fun (W : World) (os : List ao) (hz : Zoo w W os) (h1 : au q #[.int .i64 3, .int .i64 (j : Int), .int .i64 xm, .int .i64 xa, .int .i64 xk, .int .i64 xt, .int .i64 xp, .string xb] 55 ∈ os) (h2 : au p #[.int .i64 0, .int .i64 vn, .bool vt, .string vs, .slice a4 ln c4] 74 ∈ os) => (show (fun w' => w'.cell? ⟨q, 0, none⟩ = some (.int .i64 3) ∧ w'.cell? ⟨q, 4, none⟩ = some (.int .i64 xk) ∧ w'.cell? ⟨q, 7, none⟩ = some (.string xb)) W from by
          have hq := ai hz h1
          have hp := ai hz h2
          exact ⟨af hq rfl, af hq rfl, af hq rfl⟩))
         refine wp_region_held_drew (S := fun w' => w'.cell? ⟨q, 0, none⟩ = some (.int .i64 3) ∧ w'.cell? ⟨q, 4, none⟩ = some (.int .i64 xk) ∧ w'.cell? ⟨q, 7, none⟩ = some (.string xb)) (by kernel_rfl) (ae HSF W1 _ (ae HE0) (mt (mt (mh))) (mh)) (fun hHeld => ?_)
         have HED := ag ((ae HE0).kp0 ((Kp.refl [] W1).drew))
         generalize World.drew _ = WD at HED hHeld ⊢
         clear HE0
         refine tk 0 ?_ rfl (by kernel_rfl) (fun _ _ _ h => h) (by rfl) ?_ hHeld ?_;rotate_left;· intro w hSw;(try dsimp only at hSw);go_simp;try with_reducible rfl
         try simp only [Act.put, sx, sy, sz]
         refine tk 1 ?_ rfl (by kernel_rfl) (fun _ _ _ h => h) (by rfl) ?_ hHeld ?_;rotate_left;· intro w hSw;(try dsimp only at hSw);go_simp;try with_reducible rfl
         try simp only [Act.put, sx, sy, sz]
         refine tk 2 ?_ rfl (by kernel_rfl) (fun _ _ _ h => h) (by rfl) ?_ hHeld ?_;rotate_left;· intro w hSw;(try dsimp only at hSw);go_simp;try with_reducible rfl
         try simp only [Act.put, sx, sy, sz]
         refine tk 3 ?_ rfl (by kernel_rfl) (fun _ _ _ h => h) (by rfl) ?_ hHeld ?_;rotate_left;· intro w hSw;(try dsimp only at hSw);go_simp;try with_reducible rfl
         try simp only [Act.put, sx, sy, sz]
         refine tk 5 ?_ rfl (by kernel_rfl) (fun _ _ _ h => h) (by rfl) ?_ hHeld ?_;rotate_left;· intro w hSw;(try dsimp only at hSw);go_simp;try with_reducible rfl
         try simp only [Act.put, sx, sy, sz]
         refine tk 6 ?_ rfl (by kernel_rfl) (fun _ _ _ h => h) (by rfl) ?_ hHeld ?_;rotate_left;· intro w hSw;(try dsimp only at hSw);go_simp;try with_reducible rfl
         try simp only [Act.put, sx, sy, sz]
         refine tk 7 ?_ rfl (by kernel_rfl) (fun _ _ _ h => h) (by rfl) ?_ hHeld ?_;rotate_left;· intro w hSw;(try dsimp only at hSw);go_simp;try with_reducible rfl
         try simp only [Act.put, sx, sy, sz]
         refine tk 8 ?_ rfl (by kernel_rfl) (fun _ _ _ h => h) (by rfl) ?_ hHeld ?_;rotate_left;· intro w hSw;(try dsimp only at hSw);go_simp;try with_reducible rfl
         try simp only [Act.put, sx, sy, sz]
         refine tk 9 ?_ rfl (by kernel_rfl) (fun _ _ _ h => h) (by rfl) ?_ hHeld ?_;rotate_left;· intro w hSw;(try dsimp only at hSw);go_simp;try with_reducible rfl
         try simp only [Act.put, sx, sy, sz]
         refine tk 10 ?_ rfl (by kernel_rfl) (fun _ _ _ h => h) (by rfl) ?_ hHeld ?_;rotate_left;· intro w hSw;(try dsimp only at hSw);go_simp;try with_reducible rfl
         try simp only [Act.put, sx, sy, sz]
         refine tk 11 ?_ rfl (by kernel_rfl) (fun _ _ _ h => h) (by rfl) ?_ hHeld ?_;rotate_left;· intro w hSw;(try dsimp only at hSw);go_simp;try with_reducible rfl
         try simp only [Act.put, sx, sy, sz]
         refine tk 12 ?_ rfl (by kernel_rfl) (fun _ _ _ h => h) (by rfl) ?_ hHeld ?_;rotate_left;· intro w hSw;(try dsimp only at hSw);go_simp;try with_reducible rfl
         try simp only [Act.put, sx, sy, sz]
         refine bK (i := 4) (j := 13) rfl rfl (by kernel_rfl) (fun K hK => ?_) (fun K hK => ?_)
         ·have hrow3 := bf (ae HED) (mt (mt (mt (mh))))
          have o3 := (hrow3.cells hj5).2.2.2
          rw [ae HOP, ae HZN] at o3
          clear hrow3
          go_simp
          refine hK.out _ _ hHeld (fun hHeld2 => ?_)
          clear hK K hHeld
          have hHeld := hHeld2
          clear hHeld2
          try simp only [Act.put, sx, sy, sz]
          clear o3
          refine aj (i := 13) rfl (by kernel_rfl) (fun K hK => ?_)
          go_simp
          have HB3 := ag ((ae HED).box #[.int .i64 3, .int .i64 xk, .int .i64 0, .bool true, .string xb, .slice none 0 0] 44)
          refine hK.out _ _ (ae HSF _ _ (ae HB3) (mt (mt (mt (mh)))) (mt (mh))) (fun hHeld2 => ?_)
          clear hK K hHeld
          have hHeld := hHeld2
          clear hHeld2
          try simp only [Act.put, sx, sy, sz]
          have HBX := ag (Zoo.var (ae HB3))
          have hBw3 := Zoo.base (ae HB3)
          generalize WD.alloc (.cells #[.int .i64 3, .int .i64 xk, .int .i64 0, .bool true, .string xb, .slice none 0 0] 44) = W3 at *
          generalize WD.heap.size = p3 at *
          refine aj (i := 14) rfl (by kernel_rfl) (fun K hK => ?_)
          obtain ⟨hrw, hmore⟩ := fw (L := [au p3 #[.int .i64 3, .int .i64 xk, .int .i64 0, .bool true, .string xb, .slice none 0 0] 44, au p #[.int .i64 0, .int .i64 vn, .bool vt, .string vs, .slice a4 ln c4] 74, bG cb (hdo h ⟨3, (j : Int), xm, xa, xk, xt, xp, xb⟩), au q #[.int .i64 3, .int .i64 (j : Int), .int .i64 xm, .int .i64 xa, .int .i64 xk, .int .i64 xt, .int .i64 xp, .string xb] 55, OpT ob xs, KwT 39 4 aO ds.length cO (aP ds)]) hj5 hfl (ae HB3)
          have HMORE := ag hmore
          rw [ae HZN] at hrw
          refine bd (by rfl) (.tmp 133) (.tmp 142) 37 (by rfl) hua Tryz.info44 rfl (by omega) hrw hBw3 (.slice (some ⟨p3, 0, none⟩) 1 1) [.int .i64 3, .int .i64 xk, .int .i64 0, .bool true, .string xb, .slice none 0 0] 1 (by rfl) (by rfl) (aQ (cs := #[.int .i64 3, .int .i64 xk, .int .i64 0, .bool true, .string xb, .slice none 0 0]) hua (ae HBX) rfl (by simp [Value.oneCell'])) (by omega) (zl + 1) rfl ?_
          intro a2 c2 w9 g1 g2 g3
          have HZ9 := ag (ae HMORE a2 c2 { (xs j).d with acts := (k.op j).acts ++ [(⟨⟨3, xk, 0, true, xb, []⟩, none, 0⟩ : Ax).x] } (⟨⟨3, xk, 0, true, xb, []⟩, none, 0⟩ : Ax) w9 (by rw [ae HAXC, ae HZN]; exact ae g1) (ae g2) (ae g3))
          clear hmore HMORE hrw g1 g2 g3
          refine hK.out _ _ (ae HSF _ _ (ae HZ9) (mt (mt (mt (mh)))) (mt (mh))) (fun hHeld2 => ?_)
          clear hK K hHeld
          have hHeld := hHeld2
          clear hHeld2
          try simp only [Act.put, sx, sy, sz]
          refine tk 15 ?_ rfl (by kernel_rfl) (fun _ _ _ h => h) (by rfl) ?_ hHeld ?_;rotate_left;· intro w hSw;(try dsimp only at hSw);go_simp;try with_reducible rfl
          try simp only [Act.put, sx, sy, sz]
          refine tk 16 ?_ rfl (by kernel_rfl) (fun _ _ _ h => h) (by rfl) ?_ hHeld ?_;rotate_left;· intro w hSw;(try dsimp only at hSw);go_simp;try with_reducible rfl
          try simp only [Act.put, sx, sy, sz]
          refine aj (i := 17) rfl (by kernel_rfl) (fun K hK => ?_)
          have hrow9 := bf (ae HZ9) (mt (mt (mt (mt (mh)))))
          have z1 := (hrow9.cells hj5).2.2.2
          have z2 := hrow9.fz (j * 4 + 3)
          clear hrow9
          have HZF := ag (dj (l1 := [au p3 #[.int .i64 3, .int .i64 xk, .int .i64 0, .bool true, .string xb, .slice none 0 0] 44, au p #[.int .i64 0, .int .i64 vn, .bool vt, .string vs, .slice a4 ln c4] 74, bG cb (hdo h ⟨3, (j : Int), xm, xa, xk, xt, xp, xb⟩), au q #[.int .i64 3, .int .i64 (j : Int), .int .i64 xm, .int .i64 xa, .int .i64 xk, .int .i64 xt, .int .i64 xp, .string xb] 55]) (ae HZ9) (fun r => r.setL hj5 ((k.op j).acts ++ [(⟨⟨3, xk, 0, true, xb, []⟩, none, 0⟩ : Ax).x]) a2 c2 (zl + 1) (by rw [ae HZL, ae HZN])))
          go_simp
          refine hK.out _ _ (ae HSF _ _ (ae HZF) (mt (mt (mt (mh)))) (mt (mh))) (fun hHeld2 => ?_)
          clear hK K hHeld
          have hHeld := hHeld2
          clear hHeld2
          try simp only [Act.put, sx, sy, sz]
          refine wpAnyH_done (by kernel_rfl) ?_ _
          clear hHeld z1 z2
          go_wp2_with fail
          exact ⟨⟨i + 1, aO, m, cO, by omega, by go_num, rfl, by rw [← ae HM]; exact ae HFIN _ _ _ ds (aJ [] :: bag) aO cO _ (ae HDN a2 c2) (aH (Zoo.tail (Zoo.tail (ae HZF))))⟩, by simp [intOf]; omega⟩
         ·go_simp
          have HB3 := ag ((ae HED).box #[.int .i64 3, .int .i64 xk, .int .i64 0, .bool true, .string xb, .slice none 0 0] 44)
          refine hK.out _ _ (ae HSF _ _ (ae HB3) (mt (mt (mt (mh)))) (mt (mh))) (fun hHeld2 => ?_)
          clear hK K hHeld
          have hHeld := hHeld2
          clear hHeld2
          try simp only [Act.put, sx, sy, sz]
          have HBX := ag (Zoo.var (ae HB3))
          have hBw3 := Zoo.base (ae HB3)
          generalize WD.alloc (.cells #[.int .i64 3, .int .i64 xk, .int .i64 0, .bool true, .string xb, .slice none 0 0] 44) = W3 at *
          generalize WD.heap.size = p3 at *
          refine aj (i := 4) rfl (by kernel_rfl) (fun K hK => ?_)
          have hrow3 := bf (ae HB3) (mt (mt (mt (mt (mh)))))
          have o3 := (hrow3.cells hj5).2.2.2
          rw [ae HOP, ae HZN] at o3
          clear hrow3
          go_simp
          refine hK.out _ _ hHeld (fun hHeld2 => ?_)
          clear hK K hHeld
          have hHeld := hHeld2
          clear hHeld2
          try simp only [Act.put, sx, sy, sz]
          clear o3
          refine aj (i := 14) rfl (by kernel_rfl) (fun K hK => ?_)
          obtain ⟨hrw, hmore⟩ := fw (L := [au p3 #[.int .i64 3, .int .i64 xk, .int .i64 0, .bool true, .string xb, .slice none 0 0] 44, au p #[.int .i64 0, .int .i64 vn, .bool vt, .string vs, .slice a4 ln c4] 74, bG cb (hdo h ⟨3, (j : Int), xm, xa, xk, xt, xp, xb⟩), au q #[.int .i64 3, .int .i64 (j : Int), .int .i64 xm, .int .i64 xa, .int .i64 xk, .int .i64 xt, .int .i64 xp, .string xb] 55, OpT ob xs, KwT 39 4 aO ds.length cO (aP ds)]) hj5 hfl (ae HB3)
          have HMORE := ag hmore
          rw [ae HZN] at hrw
          refine bd (by rfl) (.tmp 133) (.tmp 142) 37 (by rfl) hua Tryz.info44 rfl (by omega) hrw hBw3 (.slice (some ⟨p3, 0, none⟩) 1 1) [.int .i64 3, .int .i64 xk, .int .i64 0, .bool true, .string xb, .slice none 0 0] 1 (by rfl) (by rfl) (aQ (cs := #[.int .i64 3, .int .i64 xk, .int .i64 0, .bool true, .string xb, .slice none 0 0]) hua (ae HBX) rfl (by simp [Value.oneCell'])) (by omega) (zl + 1) rfl ?_
          intro a2 c2 w9 g1 g2 g3
          have HZ9 := ag (ae HMORE a2 c2 { (xs j).d with acts := (k.op j).acts ++ [(⟨⟨3, xk, 0, true, xb, []⟩, none, 0⟩ : Ax).x] } (⟨⟨3, xk, 0, true, xb, []⟩, none, 0⟩ : Ax) w9 (by rw [ae HAXC, ae HZN]; exact ae g1) (ae g2) (ae g3))
          clear hmore HMORE hrw g1 g2 g3
          refine hK.out _ _ (ae HSF _ _ (ae HZ9) (mt (mt (mt (mh)))) (mt (mh))) (fun hHeld2 => ?_)
          clear hK K hHeld
          have hHeld := hHeld2
          clear hHeld2
          try simp only [Act.put, sx, sy, sz]
          refine tk 15 ?_ rfl (by kernel_rfl) (fun _ _ _ h => h) (by rfl) ?_ hHeld ?_;rotate_left;· intro w hSw;(try dsimp only at hSw);go_simp;try with_reducible rfl
          try simp only [Act.put, sx, sy, sz]
          refine tk 16 ?_ rfl (by kernel_rfl) (fun _ _ _ h => h) (by rfl) ?_ hHeld ?_;rotate_left;· intro w hSw;(try dsimp only at hSw);go_simp;try with_reducible rfl
          try simp only [Act.put, sx, sy, sz]
          refine aj (i := 17) rfl (by kernel_rfl) (fun K hK => ?_)
          have hrow9 := bf (ae HZ9) (mt (mt (mt (mt (mh)))))
          have z1 := (hrow9.cells hj5).2.2.2
          have z2 := hrow9.fz (j * 4 + 3)
          clear hrow9
          have HZF := ag (dj (l1 := [au p3 #[.int .i64 3, .int .i64 xk, .int .i64 0, .bool true, .string xb, .slice none 0 0] 44, au p #[.int .i64 0, .int .i64 vn, .bool vt, .string vs, .slice a4 ln c4] 74, bG cb (hdo h ⟨3, (j : Int), xm, xa, xk, xt, xp, xb⟩), au q #[.int .i64 3, .int .i64 (j : Int), .int .i64 xm, .int .i64 xa, .int .i64 xk, .int .i64 xt, .int .i64 xp, .string xb] 55]) (ae HZ9) (fun r => r.setL hj5 ((k.op j).acts ++ [(⟨⟨3, xk, 0, true, xb, []⟩, none, 0⟩ : Ax).x]) a2 c2 (zl + 1) (by rw [ae HZL, ae HZN])))
          go_simp
          refine hK.out _ _ (ae HSF _ _ (ae HZF) (mt (mt (mt (mh)))) (mt (mh))) (fun hHeld2 => ?_)
          clear hK K hHeld
          have hHeld := hHeld2
          clear hHeld2
          try simp only [Act.put, sx, sy, sz]
          refine wpAnyH_done (by kernel_rfl) ?_ _
          clear hHeld z1 z2
          go_wp2_with fail
          exact ⟨⟨i + 1, aO, m, cO, by omega, by go_num, rfl, by rw [← ae HM]; exact ae HFIN _ _ _ ds (aJ [] :: bag) aO cO _ (ae HDN a2 c2) (aH (Zoo.tail (Zoo.tail (ae HZF))))⟩, by simp [intOf]; omega⟩
        by_cases hd4 : xd = 4
        ·subst hd4
         have hxv := fun o => ai ((ae HA).kp0 ((Kp.refl [] w4).alloc o)) (mt (mh))
         have X1 := fun o => af (i := 1) (v := .int .i64 (j : Int)) (hxv o) rfl
         clear hxv
         have hnb : ¬ ((4 : Int) = 1 ∧ (0 : Int) = 0) := aZ (ae HV) (ae HB)
         have hfl : fl j = true := (ae HDS).live j d hj5 (ae HSJ)
         have HYX := ag (show eU ⟨4, (j : Int), xm, xa, xk, xt, xp, xb⟩ ⟨0, vn, vt, vs, vl⟩ = (⟨⟨4, xk, 0, false, ⟨#[]⟩, []⟩, none, 0⟩ : Ax).x from rfl)
         have HDN := ag (fun (a2 : Option Addr) (c2 : Nat) => (show DS (i + 1) (hdo h ⟨4, (j : Int), xm, xa, xk, xt, xp, xb⟩) (be h k ⟨4, (j : Int), xm, xa, xk, xt, xp, xb⟩) (upd xs j ⟨{ (xs j).d with acts := (k.op j).acts ++ [(⟨⟨4, xk, 0, false, ⟨#[]⟩, []⟩, none, 0⟩ : Ax).x] }, a2, c2⟩) (upd zs j (zs j ++ [(⟨⟨4, xk, 0, false, ⟨#[]⟩, []⟩, none, 0⟩ : Ax)])) (upd fl j true) ds (aJ [] :: bag) by
          rw [ph (ae HV) (ae HB) ⟨by show (2 : Int) ≤ 4; decide, by show (4 : Int) ≤ 5; decide⟩ rfl, ae HYX]
          exact (ae HDS).on (by rw [ae HV]; exact hnb) hj5 hfl (⟨⟨4, xk, 0, false, ⟨#[]⟩, []⟩, none, 0⟩ : Ax) a2 c2 _ (.inl rfl)))
         clear hnb
         have hlen := (ae HDS).len j hj5 hfl
         have HE0 := ag ((ae HA).box #[.int .i64 0, .int .i64 vn, .bool vt, .string vs, .slice a4 ln c4] 74)
         have HOP := ag (show (xs j).d.acts.length = (zs j).length by rw [(ae HDS).op j hj5, ← (ae HDS).acts j hj5 hfl, List.length_map])
         have HZL := ag (show ((k.op j).acts ++ [(⟨⟨4, xk, 0, false, ⟨#[]⟩, []⟩, none, 0⟩ : Ax).x]).length = (zs j).length + 1 by rw [List.length_append, List.length_singleton, ← (ae HDS).acts j hj5 hfl, List.length_map])
         have HAXC := ag (show axc (⟨⟨4, xk, 0, false, ⟨#[]⟩, []⟩, none, 0⟩ : Ax) = [.int .i64 4, .int .i64 xk, .int .i64 0, .bool false, .string ⟨#[]⟩, .slice none 0 0] by first | rfl | (rw [← ae HLN]; rfl))
         obtain ⟨zl, hzl⟩ : ∃ zl, (zs j).length = zl := ⟨_, rfl⟩
         have hz2 : zl ≤ 200 := by omega
         have HZN := ag hzl
         clear hzl hlen
         go_wp2_with fail
         generalize w4.alloc (.cells #[.int .i64 0, .int .i64 vn, .bool vt, .string vs, .slice a4 ln c4] 74) = W1 at HE0 ⊢
         generalize w4.heap.size = p at HE0 ⊢
         clear X0 X1 HA
         have HSF := ag (fun (W : World) (os : List ao) (hz : Zoo w W os) (h1 : au q #[.int .i64 4, .int .i64 (j : Int), .int .i64 xm, .int .i64 xa, .int .i64 xk, .int .i64 xt, .int .i64 xp, .string xb] 55 ∈ os) (h2 : au p #[.int .i64 0, .int .i64 vn, .bool vt, .string vs, .slice a4 ln c4] 74 ∈ os) => (show (fun w' => w'.cell? ⟨q, 0, none⟩ = some (.int .i64 4) ∧ w'.cell? ⟨q, 4, none⟩ = some (.int .i64 xk)) W from by
          have hq := ai hz h1
          have hp := ai hz h2
          exact ⟨af hq rfl, af hq rfl⟩))
         refine wp_region_held_drew (S := fun w' => w'.cell? ⟨q, 0, none⟩ = some (.int .i64 4) ∧ w'.cell? ⟨q, 4, none⟩ = some (.int .i64 xk)) (by kernel_rfl) (ae HSF W1 _ (ae HE0) (mt (mt (mh))) (mh)) (fun hHeld => ?_)
         have HED := ag ((ae HE0).kp0 ((Kp.refl [] W1).drew))
         generalize World.drew _ = WD at HED hHeld ⊢
         clear HE0
         refine tk 0 ?_ rfl (by kernel_rfl) (fun _ _ _ h => h) (by rfl) ?_ hHeld ?_;rotate_left;· intro w hSw;(try dsimp only at hSw);go_simp;try with_reducible rfl
         try simp only [Act.put, sx, sy, sz]
         refine tk 1 ?_ rfl (by kernel_rfl) (fun _ _ _ h => h) (by rfl) ?_ hHeld ?_;rotate_left;· intro w hSw;(try dsimp only at hSw);go_simp;try with_reducible rfl
         try simp only [Act.put, sx, sy, sz]
         refine tk 2 ?_ rfl (by kernel_rfl) (fun _ _ _ h => h) (by rfl) ?_ hHeld ?_;rotate_left;· intro w hSw;(try dsimp only at hSw);go_simp;try with_reducible rfl
         try simp only [Act.put, sx, sy, sz]
         refine tk 3 ?_ rfl (by kernel_rfl) (fun _ _ _ h => h) (by rfl) ?_ hHeld ?_;rotate_left;· intro w hSw;(try dsimp only at hSw);go_simp;try with_reducible rfl
         try simp only [Act.put, sx, sy, sz]
         refine tk 5 ?_ rfl (by kernel_rfl) (fun _ _ _ h => h) (by rfl) ?_ hHeld ?_;rotate_left;· intro w hSw;(try dsimp only at hSw);go_simp;try with_reducible rfl
         try simp only [Act.put, sx, sy, sz]
         refine tk 6 ?_ rfl (by kernel_rfl) (fun _ _ _ h => h) (by rfl) ?_ hHeld ?_;rotate_left;· intro w hSw;(try dsimp only at hSw);go_simp;try with_reducible rfl
         try simp only [Act.put, sx, sy, sz]
         refine tk 7 ?_ rfl (by kernel_rfl) (fun _ _ _ h => h) (by rfl) ?_ hHeld ?_;rotate_left;· intro w hSw;(try dsimp only at hSw);go_simp;try with_reducible rfl
         try simp only [Act.put, sx, sy, sz]
         refine tk 8 ?_ rfl (by kernel_rfl) (fun _ _ _ h => h) (by rfl) ?_ hHeld ?_;rotate_left;· intro w hSw;(try dsimp only at hSw);go_simp;try with_reducible rfl
         try simp only [Act.put, sx, sy, sz]
         refine tk 9 ?_ rfl (by kernel_rfl) (fun _ _ _ h => h) (by rfl) ?_ hHeld ?_;rotate_left;· intro w hSw;(try dsimp only at hSw);go_simp;try with_reducible rfl
         try simp only [Act.put, sx, sy, sz]
         refine bK (i := 4) (j := 10) rfl rfl (by kernel_rfl) (fun K hK => ?_) (fun K hK => ?_)
         ·have hrow3 := bf (ae HED) (mt (mt (mt (mh))))
          have o3 := (hrow3.cells hj5).2.2.2
          rw [ae HOP, ae HZN] at o3
          clear hrow3
          go_simp
          refine hK.out _ _ hHeld (fun hHeld2 => ?_)
          clear hK K hHeld
          have hHeld := hHeld2
          clear hHeld2
          try simp only [Act.put, sx, sy, sz]
          clear o3
          refine aj (i := 10) rfl (by kernel_rfl) (fun K hK => ?_)
          go_simp
          have HB3 := ag ((ae HED).box #[.int .i64 4, .int .i64 xk, .int .i64 0, .bool false, .string ⟨#[]⟩, .slice none 0 0] 44)
          refine hK.out _ _ (ae HSF _ _ (ae HB3) (mt (mt (mt (mh)))) (mt (mh))) (fun hHeld2 => ?_)
          clear hK K hHeld
          have hHeld := hHeld2
          clear hHeld2
          try simp only [Act.put, sx, sy, sz]
          have HBX := ag (Zoo.var (ae HB3))
          have hBw3 := Zoo.base (ae HB3)
          generalize WD.alloc (.cells #[.int .i64 4, .int .i64 xk, .int .i64 0, .bool false, .string ⟨#[]⟩, .slice none 0 0] 44) = W3 at *
          generalize WD.heap.size = p3 at *
          refine aj (i := 11) rfl (by kernel_rfl) (fun K hK => ?_)
          obtain ⟨hrw, hmore⟩ := fw (L := [au p3 #[.int .i64 4, .int .i64 xk, .int .i64 0, .bool false, .string ⟨#[]⟩, .slice none 0 0] 44, au p #[.int .i64 0, .int .i64 vn, .bool vt, .string vs, .slice a4 ln c4] 74, bG cb (hdo h ⟨4, (j : Int), xm, xa, xk, xt, xp, xb⟩), au q #[.int .i64 4, .int .i64 (j : Int), .int .i64 xm, .int .i64 xa, .int .i64 xk, .int .i64 xt, .int .i64 xp, .string xb] 55, OpT ob xs, KwT 39 4 aO ds.length cO (aP ds)]) hj5 hfl (ae HB3)
          have HMORE := ag hmore
          rw [ae HZN] at hrw
          refine bd (by rfl) (.tmp 152) (.tmp 158) 37 (by rfl) hua Tryz.info44 rfl (by omega) hrw hBw3 (.slice (some ⟨p3, 0, none⟩) 1 1) [.int .i64 4, .int .i64 xk, .int .i64 0, .bool false, .string ⟨#[]⟩, .slice none 0 0] 1 (by rfl) (by rfl) (aQ (cs := #[.int .i64 4, .int .i64 xk, .int .i64 0, .bool false, .string ⟨#[]⟩, .slice none 0 0]) hua (ae HBX) rfl (by simp [Value.oneCell'])) (by omega) (zl + 1) rfl ?_
          intro a2 c2 w9 g1 g2 g3
          have HZ9 := ag (ae HMORE a2 c2 { (xs j).d with acts := (k.op j).acts ++ [(⟨⟨4, xk, 0, false, ⟨#[]⟩, []⟩, none, 0⟩ : Ax).x] } (⟨⟨4, xk, 0, false, ⟨#[]⟩, []⟩, none, 0⟩ : Ax) w9 (by rw [ae HAXC, ae HZN]; exact ae g1) (ae g2) (ae g3))
          clear hmore HMORE hrw g1 g2 g3
          refine hK.out _ _ (ae HSF _ _ (ae HZ9) (mt (mt (mt (mh)))) (mt (mh))) (fun hHeld2 => ?_)
          clear hK K hHeld
          have hHeld := hHeld2
          clear hHeld2
          try simp only [Act.put, sx, sy, sz]
          refine tk 12 ?_ rfl (by kernel_rfl) (fun _ _ _ h => h) (by rfl) ?_ hHeld ?_;rotate_left;· intro w hSw;(try dsimp only at hSw);go_simp;try with_reducible rfl
          try simp only [Act.put, sx, sy, sz]
          refine tk 13 ?_ rfl (by kernel_rfl) (fun _ _ _ h => h) (by rfl) ?_ hHeld ?_;rotate_left;· intro w hSw;(try dsimp only at hSw);go_simp;try with_reducible rfl
          try simp only [Act.put, sx, sy, sz]
          refine aj (i := 14) rfl (by kernel_rfl) (fun K hK => ?_)
          have hrow9 := bf (ae HZ9) (mt (mt (mt (mt (mh)))))
          have z1 := (hrow9.cells hj5).2.2.2
          have z2 := hrow9.fz (j * 4 + 3)
          clear hrow9
          have HZF := ag (dj (l1 := [au p3 #[.int .i64 4, .int .i64 xk, .int .i64 0, .bool false, .string ⟨#[]⟩, .slice none 0 0] 44, au p #[.int .i64 0, .int .i64 vn, .bool vt, .string vs, .slice a4 ln c4] 74, bG cb (hdo h ⟨4, (j : Int), xm, xa, xk, xt, xp, xb⟩), au q #[.int .i64 4, .int .i64 (j : Int), .int .i64 xm, .int .i64 xa, .int .i64 xk, .int .i64 xt, .int .i64 xp, .string xb] 55]) (ae HZ9) (fun r => r.setL hj5 ((k.op j).acts ++ [(⟨⟨4, xk, 0, false, ⟨#[]⟩, []⟩, none, 0⟩ : Ax).x]) a2 c2 (zl + 1) (by rw [ae HZL, ae HZN])))
          go_simp
          refine hK.out _ _ (ae HSF _ _ (ae HZF) (mt (mt (mt (mh)))) (mt (mh))) (fun hHeld2 => ?_)
          clear hK K hHeld
          have hHeld := hHeld2
          clear hHeld2
          try simp only [Act.put, sx, sy, sz]
          refine wpAnyH_done (by kernel_rfl) ?_ _
          clear hHeld z1 z2
          go_wp2_with fail
          exact ⟨⟨i + 1, aO, m, cO, by omega, by go_num, rfl, by rw [← ae HM]; exact ae HFIN _ _ _ ds (aJ [] :: bag) aO cO _ (ae HDN a2 c2) (aH (Zoo.tail (Zoo.tail (ae HZF))))⟩, by simp [intOf]; omega⟩
         ·go_simp
          have HB3 := ag ((ae HED).box #[.int .i64 4, .int .i64 xk, .int .i64 0, .bool false, .string ⟨#[]⟩, .slice none 0 0] 44)
          refine hK.out _ _ (ae HSF _ _ (ae HB3) (mt (mt (mt (mh)))) (mt (mh))) (fun hHeld2 => ?_)
          clear hK K hHeld
          have hHeld := hHeld2
          clear hHeld2
          try simp only [Act.put, sx, sy, sz]
          have HBX := ag (Zoo.var (ae HB3))
          have hBw3 := Zoo.base (ae HB3)
          generalize WD.alloc (.cells #[.int .i64 4, .int .i64 xk, .int .i64 0, .bool false, .string ⟨#[]⟩, .slice none 0 0] 44) = W3 at *
          generalize WD.heap.size = p3 at *
          refine aj (i := 4) rfl (by kernel_rfl) (fun K hK => ?_)
          have hrow3 := bf (ae HB3) (mt (mt (mt (mt (mh)))))
          have o3 := (hrow3.cells hj5).2.2.2
          rw [ae HOP, ae HZN] at o3
          clear hrow3
          go_simp
          refine hK.out _ _ hHeld (fun hHeld2 => ?_)
          clear hK K hHeld
          have hHeld := hHeld2
          clear hHeld2
          try simp only [Act.put, sx, sy, sz]
          clear o3
          refine aj (i := 11) rfl (by kernel_rfl) (fun K hK => ?_)
          obtain ⟨hrw, hmore⟩ := fw (L := [au p3 #[.int .i64 4, .int .i64 xk, .int .i64 0, .bool false, .string ⟨#[]⟩, .slice none 0 0] 44, au p #[.int .i64 0, .int .i64 vn, .bool vt, .string vs, .slice a4 ln c4] 74, bG cb (hdo h ⟨4, (j : Int), xm, xa, xk, xt, xp, xb⟩), au q #[.int .i64 4, .int .i64 (j : Int), .int .i64 xm, .int .i64 xa, .int .i64 xk, .int .i64 xt, .int .i64 xp, .string xb] 55, OpT ob xs, KwT 39 4 aO ds.length cO (aP ds)]) hj5 hfl (ae HB3)
          have HMORE := ag hmore
          rw [ae HZN] at hrw
          refine bd (by rfl) (.tmp 152) (.tmp 158) 37 (by rfl) hua Tryz.info44 rfl (by omega) hrw hBw3 (.slice (some ⟨p3, 0, none⟩) 1 1) [.int .i64 4, .int .i64 xk, .int .i64 0, .bool false, .string ⟨#[]⟩, .slice none 0 0] 1 (by rfl) (by rfl) (aQ (cs := #[.int .i64 4, .int .i64 xk, .int .i64 0, .bool false, .string ⟨#[]⟩, .slice none 0 0]) hua (ae HBX) rfl (by simp [Value.oneCell'])) (by omega) (zl + 1) rfl ?_
          intro a2 c2 w9 g1 g2 g3
          have HZ9 := ag (ae HMORE a2 c2 { (xs j).d with acts := (k.op j).acts ++ [(⟨⟨4, xk, 0, false, ⟨#[]⟩, []⟩, none, 0⟩ : Ax).x] } (⟨⟨4, xk, 0, false, ⟨#[]⟩, []⟩, none, 0⟩ : Ax) w9 (by rw [ae HAXC, ae HZN]; exact ae g1) (ae g2) (ae g3))
          clear hmore HMORE hrw g1 g2 g3
          refine hK.out _ _ (ae HSF _ _ (ae HZ9) (mt (mt (mt (mh)))) (mt (mh))) (fun hHeld2 => ?_)
          clear hK K hHeld
          have hHeld := hHeld2
          clear hHeld2
          try simp only [Act.put, sx, sy, sz]
          refine tk 12 ?_ rfl (by kernel_rfl) (fun _ _ _ h => h) (by rfl) ?_ hHeld ?_;rotate_left;· intro w hSw;(try dsimp only at hSw);go_simp;try with_reducible rfl
          try simp only [Act.put, sx, sy, sz]
          refine tk 13 ?_ rfl (by kernel_rfl) (fun _ _ _ h => h) (by rfl) ?_ hHeld ?_;rotate_left;· intro w hSw;(try dsimp only at hSw);go_simp;try with_reducible rfl
          try simp only [Act.put, sx, sy, sz]
          refine aj (i := 14) rfl (by kernel_rfl) (fun K hK => ?_)
          have hrow9 := bf (ae HZ9) (mt (mt (mt (mt (mh)))))
          have z1 := (hrow9.cells hj5).2.2.2
          have z2 := hrow9.fz (j * 4 + 3)
          clear hrow9
          have HZF := ag (dj (l1 := [au p3 #[.int .i64 4, .int .i64 xk, .int .i64 0, .bool false, .string ⟨#[]⟩, .slice none 0 0] 44, au p #[.int .i64 0, .int .i64 vn, .bool vt, .string vs, .slice a4 ln c4] 74, bG cb (hdo h ⟨4, (j : Int), xm, xa, xk, xt, xp, xb⟩), au q #[.int .i64 4, .int .i64 (j : Int), .int .i64 xm, .int .i64 xa, .int .i64 xk, .int .i64 xt, .int .i64 xp, .string xb] 55]) (ae HZ9) (fun r => r.setL hj5 ((k.op j).acts ++ [(⟨⟨4, xk, 0, false, ⟨#[]⟩, []⟩, none, 0⟩ : Ax).x]) a2 c2 (zl + 1) (by rw [ae HZL, ae HZN])))
          go_simp
          refine hK.out _ _ (ae HSF _ _ (ae HZF) (mt (mt (mt (mh)))) (mt (mh))) (fun hHeld2 => ?_)
          clear hK K hHeld
          have hHeld := hHeld2
          clear hHeld2
          try simp only [Act.put, sx, sy, sz]
          refine wpAnyH_done (by kernel_rfl) ?_ _
          clear hHeld z1 z2
          go_wp2_with fail
          exact ⟨⟨i + 1, aO, m, cO, by omega, by go_num, rfl, by rw [← ae HM]; exact ae HFIN _ _ _ ds (aJ [] :: bag) aO cO _ (ae HDN a2 c2) (aH (Zoo.tail (Zoo.tail (ae HZF))))⟩, by simp [intOf]; omega⟩
        have hd1 : ¬ xd = 1 := fun q => aZ (ae HV) (ae HB) ⟨q, rfl⟩
        as_aux_lemma =>
         have hnb : ¬ (xd = 1 ∧ (0 : Int) = 0) := aZ (ae HV) (ae HB)
         have hxv := fun o => ai ((ae HA).kp0 ((Kp.refl [] w4).alloc o)) (mt (mh))
         have X1 := fun o => af (i := 1) (v := .int .i64 (j : Int)) (hxv o) rfl
         clear hxv
         have HDN := ag (show DS (i + 1) (hdo h ⟨xd, (j : Int), xm, xa, xk, xt, xp, xb⟩) (be h k ⟨xd, (j : Int), xm, xa, xk, xt, xp, xb⟩) xs zs fl ds (aJ [] :: bag) by rw [jw (ae HV) (ae HB) hnb (by dsimp only; omega) (.inr (by dsimp only; omega))]; exact ((ae HDS).plus _).same (by rw [ae HV]; exact hnb))
         clear hnb
         go_wp2_with fail
         exact ⟨⟨i + 1, aO, m, cO, by omega, by go_num, rfl, by rw [← ae HM]; exact ae HFIN xs zs fl ds (aJ [] :: bag) aO cO _ (ae HDN) (aH ((ae HA).kp0 ((Kp.refl [] w4).alloc _)))⟩, by simp [intOf]; omega⟩
       ·by_cases hd10 : xd = 10
        ·subst hd10
         by_cases hn0 : 0 < vn
         ·as_aux_lemma =>
           have hxv := fun o => ai ((ae HA).kp0 ((Kp.refl [] w4).alloc o)) (mt (mh))
           have X1 := fun o => af (i := 1) (v := .int .i64 (j : Int)) (hxv o) rfl
           clear hxv
           have hnb : ¬ ((10 : Int) = 1 ∧ vc = 0) := aZ (ae HV) (ae HB)
           have hfl : fl j = true := (ae HDS).live j d hj5 (ae HSJ)
           have HDN := ag (show DS (i + 1) (hdo h ⟨10, (j : Int), xm, xa, xk, xt, xp, xb⟩) (be h k ⟨10, (j : Int), xm, xa, xk, xt, xp, xb⟩) (upd xs j ⟨{ (xs j).d with n := vn }, (xs j).a, (xs j).c⟩) (upd zs j (zs j)) (upd fl j false) (ds ++ [⟨{ (xs j).d with n := vn }, (xs j).a, (xs j).c⟩]) (sth (fl j) (xs j) (zs j) :: aJ [] :: bag) by
            rw [lm (ae HV) (ae HB) (.inr ⟨rfl, hn0⟩)]
            exact ((ae HDS).plus _).done (by rw [ae HV]; exact hnb) hj5 hfl (hJ (ae HV) (ae HB) (.inr ⟨rfl, hn0⟩)) vn)
           clear hnb
           have HN1 := ag (dj (l1 := [bG cb (hdo h ⟨10, (j : Int), xm, xa, xk, xt, xp, xb⟩), au q #[.int .i64 10, .int .i64 (j : Int), .int .i64 xm, .int .i64 xa, .int .i64 xk, .int .i64 xt, .int .i64 xp, .string xb] 55]) (ae HA) (fun r => r.setN hj5 vn))
           have ra := fun o => bf ((ae HA).kp0 ((Kp.refl [] _).alloc o)) (mt (mt (mh)))
           have fa := fun o c => (ra o).fz c
           have ooa := fun o => ((ra o).cells hj5).1
           clear ra
           have rb := fun o => bf ((ae HN1).kp0 ((Kp.refl [] _).alloc o)) (mt (mt (mh)))
           have ob0 := fun o => ((rb o).cells hj5).1
           have ob1 := fun o => ((rb o).cells hj5).2.1
           have ob2 := fun o => ((rb o).cells hj5).2.2.1
           have ob3 := fun o => ((rb o).cells hj5).2.2.2
           clear rb
           simp only [av] at ob0 ob1 ob2 ob3
           have oc := (bf (ae HA) (mt (mt (mh)))).cells hj5
           have lob : ob < w4.heap.size := cH oc.1
           have neo : ob ≠ w4.heap.size := by omega
           have hBw := Zoo.base (ae HA)
           have HROW := ag (bq (l1 := [bG cb (hdo h ⟨10, (j : Int), xm, xa, xk, xt, xp, xb⟩), au q #[.int .i64 10, .int .i64 (j : Int), .int .i64 xm, .int .i64 xa, .int .i64 xk, .int .i64 xt, .int .i64 xp, .string xb] 55, OpT ob (upd xs j ⟨{ (xs j).d with n := vn }, (xs j).a, (xs j).c⟩)]) (ae HN1))
           rw [ae HM] at HROW
           have HOUT := ag (fun (a2 : Option Addr) (c2 : Nat) (W W9 : World) (hk : Kp [] (w4.setCell ⟨ob, j * 4, none⟩ (.int .i64 vn)) W) (g1 : Hid (bn 39 4 w.heap.size W9 a2 (m + 1) c2 (aP ds ++ [.int .i64 vn, .int .i64 (xs j).d.at_, .int .i64 (xs j).d.md, .slice (xs j).a (xs j).d.acts.length (xs j).c]))) (g2 : Hid (Kp (Go.Proofs.YtldkeaeohceckacGreat.ob aO) W W9)) (g3 : Hid (∀ x ∈ Go.Proofs.YtldkeaeohceckacGreat.ob a2, x ∈ Go.Proofs.YtldkeaeohceckacGreat.ob aO ∨ W.heap.size ≤ x)) =>
            ae HFIN _ _ _ (ds ++ [⟨{ (xs j).d with n := vn }, (xs j).a, (xs j).c⟩]) (sth (fl j) (xs j) (zs j) :: aJ [] :: bag) a2 c2 W9 (ae HDN) (by
             have z1 := cS (l1 := [bG cb (hdo h ⟨10, (j : Int), xm, xa, xk, xt, xp, xb⟩), au q #[.int .i64 10, .int .i64 (j : Int), .int .i64 xm, .int .i64 xa, .int .i64 xk, .int .i64 xt, .int .i64 xp, .string xb] 55, OpT ob (upd xs j ⟨{ (xs j).d with n := vn }, (xs j).a, (xs j).c⟩)]) ((ae HN1).kp0 hk) (ae g1) (ae g2) (ae g3)
             have z2 := lp hj5 ⟨{ (xs j).d with n := vn }, (xs j).a, (xs j).c⟩ (zs j) (aH z1)
             have e1 : aP (ds ++ [⟨{ (xs j).d with n := vn }, (xs j).a, (xs j).c⟩]) = aP ds ++ [.int .i64 vn, .int .i64 (xs j).d.at_, .int .i64 (xs j).d.md, .slice (xs j).a (xs j).d.acts.length (xs j).c] := by rw [dx]; simp [aP, dxc]
             unfold DL
             rw [e1, List.length_append, List.length_singleton, ae HM]
             exact z2))
           have HLD := ag (show (ds ++ [(⟨{ (xs j).d with n := vn }, (xs j).a, (xs j).c⟩ : Dx)]).length = m + 1 by rw [List.length_append, List.length_singleton, ae HM])
           rw [ae HLD] at HOUT
           clear oc HDN HN1 HA HLD
           generalize (xs j).d.at_ = oa at *
           generalize (xs j).d.md = om at *
           generalize (xs j).d.acts.length = rl at *
           generalize (xs j).a = ra at *
           generalize (xs j).c = rc at *
           generalize (xs j).d.n = on at *
           go_wp2_with (at_builtin; refine bC (by rfl) (.tmp 98) (.tmp 102) 33 (by rfl) hu Tryz.info39 rfl (by omega) ((ae HROW).kp0 (((Kp.refl [] _).alloc _).alloc _)) (by simp; omega) (.slice (some ⟨w4.heap.size + 1, 0, none⟩) 1 1) [.int .i64 vn, .int .i64 oa, .int .i64 om, .slice ra rl rc] 1 (by rfl) (by rfl) (aQ (cs := #[.int .i64 vn, .int .i64 oa, .int .i64 om, .slice ra rl rc]) (T := 39) (fr := (0, 0)) hu (dd (by simp)) rfl (by simp [Value.oneCell'])) (by omega) (m + 1) rfl ?_; intro a2 c2 w9 g1 g2 g3)
           exact ⟨⟨i + 1, a2, m + 1, c2, by omega, by go_num, rfl, ae HOUT a2 c2 _ w9 (((Kp.refl [] _).alloc _).alloc _) g1 g2 g3⟩, by simp [intOf]; omega⟩
         ·as_aux_lemma =>
           have hnb : ¬ ((10 : Int) = 1 ∧ vc = 0) := aZ (ae HV) (ae HB)
           have hxv := fun o => ai ((ae HA).kp0 ((Kp.refl [] w4).alloc o)) (mt (mh))
           have X1 := fun o => af (i := 1) (v := .int .i64 (j : Int)) (hxv o) rfl
           clear hxv
           have HDN := ag (show DS (i + 1) (hdo h ⟨10, (j : Int), xm, xa, xk, xt, xp, xb⟩) (be h k ⟨10, (j : Int), xm, xa, xk, xt, xp, xb⟩) xs zs fl ds (aJ [] :: bag) by rw [jw (ae HV) (ae HB) hnb (by dsimp only; omega) (.inl hc0)]; exact ((ae HDS).plus _).same (by rw [ae HV]; exact hnb))
           clear hnb
           go_wp2_with fail
           exact ⟨⟨i + 1, aO, m, cO, by omega, by go_num, rfl, by rw [← ae HM]; exact ae HFIN xs zs fl ds (aJ [] :: bag) aO cO _ (ae HDN) (aH ((ae HA).kp0 ((Kp.refl [] w4).alloc _)))⟩, by simp [intOf]; omega⟩
        by_cases hd6 : xd = 6
        ·subst hd6
         as_aux_lemma =>
          have hnb : ¬ ((6 : Int) = 1 ∧ vc = 0) := aZ (ae HV) (ae HB)
          have hxv := fun o => ai ((ae HA).kp0 ((Kp.refl [] w4).alloc o)) (mt (mh))
          have X1 := fun o => af (i := 1) (v := .int .i64 (j : Int)) (hxv o) rfl
          clear hxv
          have HDN := ag (show DS (i + 1) (hdo h ⟨6, (j : Int), xm, xa, xk, xt, xp, xb⟩) (be h k ⟨6, (j : Int), xm, xa, xk, xt, xp, xb⟩) xs zs fl ds (aJ [] :: bag) by rw [jw (ae HV) (ae HB) hnb (by dsimp only; omega) (.inl hc0)]; exact ((ae HDS).plus _).same (by rw [ae HV]; exact hnb))
          clear hnb
          go_wp2_with fail
          exact ⟨⟨i + 1, aO, m, cO, by omega, by go_num, rfl, by rw [← ae HM]; exact ae HFIN xs zs fl ds (aJ [] :: bag) aO cO _ (ae HDN) (aH ((ae HA).kp0 ((Kp.refl [] w4).alloc _)))⟩, by simp [intOf]; omega⟩
        by_cases hd1 : xd = 1
        ·subst hd1
         as_aux_lemma =>
          have hnb : ¬ ((1 : Int) = 1 ∧ vc = 0) := aZ (ae HV) (ae HB)
          have hxv := fun o => ai ((ae HA).kp0 ((Kp.refl [] w4).alloc o)) (mt (mh))
          have X1 := fun o => af (i := 1) (v := .int .i64 (j : Int)) (hxv o) rfl
          clear hxv
          have HDN := ag (show DS (i + 1) (hdo h ⟨1, (j : Int), xm, xa, xk, xt, xp, xb⟩) (be h k ⟨1, (j : Int), xm, xa, xk, xt, xp, xb⟩) xs zs fl ds (aJ [] :: bag) by rw [jw (ae HV) (ae HB) hnb (by dsimp only; omega) (.inl hc0)]; exact ((ae HDS).plus _).same (by rw [ae HV]; exact hnb))
          clear hnb
          go_wp2_with fail
          exact ⟨⟨i + 1, aO, m, cO, by omega, by go_num, rfl, by rw [← ae HM]; exact ae HFIN xs zs fl ds (aJ [] :: bag) aO cO _ (ae HDN) (aH ((ae HA).kp0 ((Kp.refl [] w4).alloc _)))⟩, by simp [intOf]; omega⟩
        as_aux_lemma =>
         have hnb : ¬ (xd = 1 ∧ vc = 0) := aZ (ae HV) (ae HB)
         have hxv := fun o => ai ((ae HA).kp0 ((Kp.refl [] w4).alloc o)) (mt (mh))
         have X1 := fun o => af (i := 1) (v := .int .i64 (j : Int)) (hxv o) rfl
         clear hxv
         have HDN := ag (show DS (i + 1) (hdo h ⟨xd, (j : Int), xm, xa, xk, xt, xp, xb⟩) (be h k ⟨xd, (j : Int), xm, xa, xk, xt, xp, xb⟩) xs zs fl ds (aJ [] :: bag) by rw [jw (ae HV) (ae HB) hnb (by dsimp only; omega) (.inl hc0)]; exact ((ae HDS).plus _).same (by rw [ae HV]; exact hnb))
         clear hnb
         go_wp2_with fail
         exact ⟨⟨i + 1, aO, m, cO, by omega, by go_num, rfl, by rw [← ae HM]; exact ae HFIN xs zs fl ds (aJ [] :: bag) aO cO _ (ae HDN) (aH ((ae HA).kp0 ((Kp.refl [] w4).alloc _)))⟩, by simp [intOf]; omega⟩
   ·have hsb : bE xs_ = false := decide_eq_false (by omega)
    have HB := ag (show dz h xs_ = false from fT (x := ⟨xd, xs_, xm, xa, xk, xt, xp, xb⟩) (fun q => absurd q h5))
    clear hcou hs
    as_aux_lemma =>
     go_quiet ((go_at_call 25; exact Calls.quiet_of_same ((ck _ _).mono (fun e w' q => ⟨by rw [q.1, hsb], q.2⟩))))
     have HX2 := ag ((ae HX0).kp0 ((Kp.refl [] W).drewN nq))
     clear x1 HX0
     generalize W.drewN nq = W2 at HX2 ⊢
     have hx := Zoo.var (ae HX2)
     have x0 : W2.cell? ⟨q, 0, none⟩ = some (.int .i64 xd) := af hx rfl
     have x1 : W2.cell? ⟨q, 1, none⟩ = some (.int .i64 xs_) := af hx rfl
     have x2 : W2.cell? ⟨q, 2, none⟩ = some (.int .i64 xm) := af hx rfl
     have x3 : W2.cell? ⟨q, 3, none⟩ = some (.int .i64 xa) := af hx rfl
     have x4 : W2.cell? ⟨q, 4, none⟩ = some (.int .i64 xk) := af hx rfl
     have x5 : W2.cell? ⟨q, 5, none⟩ = some (.int .i64 xt) := af hx rfl
     have x6 : W2.cell? ⟨q, 6, none⟩ = some (.int .i64 xp) := af hx rfl
     have x7 : W2.cell? ⟨q, 7, none⟩ = some (.string xb) := af hx rfl
     clear hx
     go_wp2_with fail
     clear x0 x1 x2 x3 x4 x5 x6 x7
     refine (ae HDO W2 _ (bB (ae HX2))).mono ?_
     rintro e w4 ⟨a4, c4, rfl, -, HA0⟩
     have HA := ag (sk (ae HA0))
     clear HA0 HX2
     have hxv := fun o => ai ((ae HA).kp0 ((Kp.refl [] w4).alloc o)) (mt (mh))
     have X0 := fun o => af (i := 0) (v := .int .i64 xd) (hxv o) rfl
     clear hxv
     by_cases hd1 : xd = 1
     ·subst hd1
      by_cases hc0 : vc = 0
      ·exact absurd (⟨rfl, hc0⟩ : (1 : Int) = 1 ∧ vc = 0) (mj (ae HV) h5)
      ·have hnb : ¬ ((1 : Int) = 1 ∧ vc = 0) := fun q => hc0 q.2
       have HDN := ag (show DS (i + 1) (hdo h ⟨1, xs_, xm, xa, xk, xt, xp, xb⟩) (be h k ⟨1, xs_, xm, xa, xk, xt, xp, xb⟩) xs zs fl ds (aJ [] :: bag) by rw [pi (ae HV) (ae HB) hnb]; exact ((ae HDS).plus _).same (by rw [ae HV]; exact hnb))
       clear hnb
       go_wp2_with fail
       exact ⟨⟨i + 1, aO, m, cO, by omega, by go_num, rfl, by rw [← ae HM]; exact ae HFIN xs zs fl ds (aJ [] :: bag) aO cO _ (ae HDN) (aH ((ae HA).kp0 ((Kp.refl [] w4).alloc _)))⟩, by simp [intOf]; omega⟩
     ·have hnb : ¬ (xd = 1 ∧ vc = 0) := fun q => hd1 q.1
      have HDN := ag (show DS (i + 1) (hdo h ⟨xd, xs_, xm, xa, xk, xt, xp, xb⟩) (be h k ⟨xd, xs_, xm, xa, xk, xt, xp, xb⟩) xs zs fl ds (aJ [] :: bag) by rw [pi (ae HV) (ae HB) hnb]; exact ((ae HDS).plus _).same (by rw [ae HV]; exact hnb))
      clear hnb
      go_wp2_with fail
      exact ⟨⟨i + 1, aO, m, cO, by omega, by go_num, rfl, by rw [← ae HM]; exact ae HFIN xs zs fl ds (aJ [] :: bag) aO cO _ (ae HDN) (aH ((ae HA).kp0 ((Kp.refl [] w4).alloc _)))⟩, by simp [intOf]; omega⟩
  ·have i1 : ¬ (i : Int) < (n1 : Int) := by omega
   have e1 : i = n1 := by omega
   obtain ⟨h, k, xs, zs, fl, ds, bag, rfl, hrun, hdl, hds, hz⟩ := HI
   have HE : Hid (k.out = ntd (eJ st n1)) := by
    have h9 := sP (eJ st i)
    rw [hrun] at h9
    rw [← e1]
    exact h9
   have HD := ag (zZ hds hz)
   have HL := ag (show ds.length = (ntd (eJ st n1)).length by rw [← ae HE, ← hds.out, List.length_map])
   have HK := ag hz.kp
   clear hrun hdl hds hz
   go_wp2_with fail
   go_ret
   exact ⟨aO, cO, by rw [← ae HL]; rfl, by rw [← ae HE]; exact ae HD, ae HK⟩
theorem pC {ops : Array Oper} {S : World → Prop} {op : Oper} {a : Act} (hw : Region.wanted op (yielded ops a.tmps) = true) (x : Operand) (ho : op.op = .load 25 x) (b o : Nat) (hx : a.eval x = .pointer (some ⟨b, o, none⟩)) (u : Nat → Ver) (hS : ∀ w, S w → w.rangeAt b o (ay u).toList) : YieldsIf Tryz.prog ops S op (.agg (ay u)) a := by
 have h := yieldsIf_load_mid (P := Tryz.prog) hw 25 x ho b o hx (ay u).toList _ hS Tryz.underlying25 rfl (by kernel_rfl)
 rw [Array.toArray_toList] at h
 exact h
end
section
open Go.RowKit
attribute [local go_sem ↓] Go.wp_at_zero Go.wp_at_succ
theorem uT (x : Ac) (a a' : Option Addr) (cap cap' : Nat) (w : World) (h : SlO w a x.l) (h' : SlO w a' x.l) (hm : x.l.length ≤ 1000) :
 Calls Tryz.prog 10 #[.agg #[.int .i64 x.kd, .int .i64 x.key, .int .i64 x.to_, .bool x.t, .string x.s, .slice a x.l.length cap], .agg #[.int .i64 x.kd, .int .i64 x.key, .int .i64 x.to_, .bool x.t, .string x.s, .slice a' x.l.length cap']] w fun e w' => e = .returned (.bool true) ∧ Kp [] w w' := by
 have HC := ag (fun W (hk : Kp [] w W) => xM a a' cap cap' W (h.kp0 hk) (h'.kp0 hk) hm)
 clear h h' hm
 generalize x.l.length = n at *
 obtain ⟨kd, key, to_, t, s, l⟩ := x
 dsimp only at *
 have hE := sM t t s s
 simp only [and_self, decide_true] at hE
 go_enter Tryz.func10, Tryz.ntmps10
 go_wp2_with fail
 refine (ae HC _ (((Kp.refl [] w).alloc _).alloc _)).mono ?_
 rintro e w' ⟨rfl, q, rfl⟩
 go_wp2_with fail
 go_ret
 exact ⟨rfl, (((Kp.refl [] w).alloc _).alloc _).drewN _⟩
theorem yF (v : Nat → Ver) (w : World) : (Op.equalIn 10000 25 (.agg (ay v)) (.agg (ay v))).run Tryz.prog w = .ok true w := by
 obtain ⟨i0, hi0, hz0, hz1, hz2⟩ := info_parts Tryz.info24
 have h := run_equalIn_array (P := Tryz.prog) w 9999 (ay v) (ay v) Tryz.underlying25 hi0
 rw [Tryz.cel24] at h
 rw [show (10000 : Nat) = 9999 + 1 from rfl, h]
 exact vD 9997 v (List.range 8) w (fun i hi => List.mem_range.1 hi)
end
section
open Go.RowKit Srt
attribute [local go_sem ↓] Go.wp_at_zero Go.wp_at_succ
theorem tS {w w' : World} {p0 p1 p2 p3 p4 p5 p6 q0 q1 q2 q3 q4 q5 q6 : Addr} {x0 x1 x2 x3 x4 x5 x6 y0 y1 y2 y3 y4 y5 y6 : Value} (h : w.cell? p0 = some x0 ∧ w.cell? p1 = some x1 ∧ w.cell? p2 = some x2 ∧ w.cell? p3 = some x3 ∧ w.cell? p4 = some x4 ∧ w.cell? p5 = some x5 ∧ w.cell? p6 = some x6 ∧ w.cell? q0 = some y0 ∧ w.cell? q1 = some y1 ∧ w.cell? q2 = some y2 ∧ w.cell? q3 = some y3 ∧ w.cell? q4 = some y4 ∧ w.cell? q5 = some y5 ∧ w.cell? q6 = some y6) (hk : Kp [] w w') :
 w'.cell? p0 = some x0 ∧ w'.cell? p1 = some x1 ∧ w'.cell? p2 = some x2 ∧ w'.cell? p3 = some x3 ∧ w'.cell? p4 = some x4 ∧ w'.cell? p5 = some x5 ∧ w'.cell? p6 = some x6 ∧ w'.cell? q0 = some y0 ∧ w'.cell? q1 = some y1 ∧ w'.cell? q2 = some y2 ∧ w'.cell? q3 = some y3 ∧ w'.cell? q4 = some y4 ∧ w'.cell? q5 = some y5 ∧ w'.cell? q6 = some y6 := by
 obtain ⟨a0, a1, a2, a3, a4, a5, a6, b0, b1, b2, b3, b4, b5, b6⟩ := h
 exact ⟨hk.cell (by simp) a0, hk.cell (by simp) a1, hk.cell (by simp) a2, hk.cell (by simp) a3, hk.cell (by simp) a4, hk.cell (by simp) a5, hk.cell (by simp) a6, hk.cell (by simp) b0, hk.cell (by simp) b1, hk.cell (by simp) b2, hk.cell (by simp) b3, hk.cell (by simp) b4, hk.cell (by simp) b5, hk.cell (by simp) b6⟩
theorem xK (a : Option Addr) (n1 c : Nat) (st : Nat → ax) (v : Nat → Ver) (am : Option Addr) (cm : Nat) (l : List Ac) (aD : Option Addr) (cD : Nat) (ds : List Dn) (w : World) (h : lI w a n1 st) (ha : iy w am l) (_hm1 : l.length ≤ cm) (_hm2 : cm ≤ maxLen) (_hm3 : am = none → cm = 0) (hd : mV w aD ds) :
 Calls Tryz.prog 3 #[.slice a n1 c, .agg (ay v), .slice am l.length cm, .slice aD ds.length cD] w fun e w' => e = .returned (.bool true) ∧ Below w.heap.size w w' := by
 have hu := Tryz.underlying33
 have HZ0 := ag ((cg (Kp.refl [] w)).box (ay v) 25)
 have HS := ag h
 have HA := ag ha
 have HDD := ag hd
 clear h ha hd _hm1 _hm2 _hm3
 obtain ⟨n, hn⟩ : ∃ n, l.length = n := ⟨_, rfl⟩
 obtain ⟨m, hm⟩ : ∃ m, ds.length = m := ⟨_, rfl⟩
 have HN := ag hn
 have HM := ag hm
 rw [hn, hm]
 clear hn hm
 go_enter Tryz.func3, Tryz.ntmps3
 go_wp2_with fail
 generalize w.alloc (.cells (ay v) 25) = W0 at HZ0 ⊢
 generalize w.heap.size = p3 at HZ0 ⊢
 refine (xL W0).mono ?_
 rintro e w1 ⟨rfl, hk1⟩
 have HZ1 := ag ((ae HZ0).kp0 hk1)
 clear hk1 HZ0
 go_wp2_with fail
 refine (yA a n1 c st w1 ((ae HS).kp0 (ae HZ1).kp)).mono ?_
 rintro e w' ⟨q, rfl, hq, hw'⟩
 subst w'
 cases q with
 | true =>
   clear hq
   go_wp2_with fail
   go_ret
   exact ⟨rfl, (ae HZ1).kp.below (Nat.le_refl _) (by simp)⟩
 | false =>
 have h200 := hq rfl
 clear hq
 go_wp2_with fail
 have HGA := ag (wY am cm l w1 ((ae HA).kp0 (ae HZ1).kp))
 rw [ae HN] at HGA
 refine (ae HGA).mono ?_
 rintro e w' ⟨q, rfl, hq, hw'⟩
 subst w'
 clear HGA
 cases q with
 | true =>
   clear hq
   go_wp2_with fail
   go_ret
   exact ⟨rfl, (ae HZ1).kp.below (Nat.le_refl _) (by simp)⟩
 | false =>
 have HOK := ag (hq rfl)
 clear hq
 go_wp2_with fail
 have HGD := ag (zX aD cD ds w1 ((ae HDD).kp0 (ae HZ1).kp))
 rw [ae HM] at HGD
 refine (ae HGD).mono ?_
 rintro e w' ⟨q, rfl, hq, hw'⟩
 subst w'
 clear HGD
 cases q with
 | true =>
   clear hq
   go_wp2_with fail
   go_ret
   exact ⟨rfl, (ae HZ1).kp.below (Nat.le_refl _) (by simp)⟩
 | false =>
 have HO := ag (show iu ds ∧ (∀ d, d ∈ ds → d.n ≤ 1000) from ⟨(hq rfl).1, fun d hd => ((hq rfl).2 d hd).1⟩)
 have hm1 : m ≤ 1000 := by have := (hq rfl).1.1; have := ae HM; omega
 clear hq
 have HNT := ag (wU a n1 c st w1 ((ae HS).kp0 (ae HZ1).kp) (by omega))
 have HRD := ag (fun (W : World) (hk : Kp [] w1 W) => xU a n1 c st W (((ae HS).kp0 (ae HZ1).kp).kp0 hk) h200)
 have HOL := ag (yi (eJ st n1) (by rw [sw]; omega))
 obtain ⟨L, hL⟩ : ∃ L, ntd (eJ st n1) = L := ⟨_, rfl⟩
 rw [hL] at HNT HRD HOL
 clear hL
 go_wp2_with fail
 refine (ae HNT).mono ?_
 rintro e w2 ⟨aA, cA, rfl, hdA, hk2⟩
 have HDA0 := ag hdA
 have HK2 := ag hk2
 clear hdA hk2 HNT
 obtain ⟨nL, hnL⟩ : ∃ nL, L.length = nL := ⟨_, rfl⟩
 have HNL := ag hnL
 have hnl1 : nL ≤ 1000 := by have := (ae HOL).1; omega
 rw [hnL]
 clear hnL
 go_wp2_with fail
 refine (ae HRD w2 (ae HK2)).mono ?_
 rintro e w3 ⟨aB, cB, rfl, hdB, hk3⟩
 have HDA := ag ((ae HDA0).kp0 hk3)
 have HDB := ag hdB
 have HZ3 := ag (((ae HZ1).kp0 (ae HK2)).kp0 hk3)
 clear hdB hk3 HRD HDA0 HK2 HZ1
 rw [ae HNL]
 go_wp2_with fail
 go_loopw [11] (fun i wr => ∃ k : Nat, k ≤ nL ∧ i = .int .i64 k ∧ Hid (Kp [] w3 wr)) (fun i _ => nL - (intOf i).toNat)
 case atStart => exact ⟨0, Nat.zero_le _, rfl, Kp.refl [] _⟩
 case round =>
  obtain ⟨k, hk, rfl, HK⟩ := hrel
  by_cases hlt : k < nL
  ·have i1 : (k : Int) < (nL : Int) := by omega
   have i0 : (0 : Int) ≤ (k : Int) := by omega
   have hln : k < L.length := by have := ae HNL; omega
   obtain ⟨b, o, rfl, hb⟩ := (ae HDA) (by omega)
   obtain ⟨b', o', rfl, hb'⟩ := (ae HDB) (by omega)
   obtain ⟨y, hy⟩ : ∃ y, L[k]? = some y := ⟨_, List.getElem?_eq_getElem hln⟩
   have hA := (hb k y hy).kp0 (ae HK)
   have hB := (hb' k y hy).kp0 (ae HK)
   have hoky := (ae HOL).2 y (List.mem_of_getElem? hy)
   obtain ⟨la, lc, a3, hla⟩ := hA.ls
   obtain ⟨la', lc', b3, hla'⟩ := hB.ls
   have a0 := hA.c0
   have a1 := hA.c1
   have a2 := hA.c2
   have b0 := hB.c0
   have b1 := hB.c1
   have b2 := hB.c2
   have HLA := ag hla
   have HLB := ag hla'
   have HOY := ag hoky
   clear hA hB hla hla' hoky hb hb' hy
   obtain ⟨yn, ya, ym, yacts⟩ := y
   dsimp only at a0 a1 a2 a3 b0 b1 b2 b3 HLA HLB HOY
   obtain ⟨ln, hlen⟩ : ∃ ln, yacts.length = ln := ⟨_, rfl⟩
   rw [hlen] at a3 b3
   have HLX := ag hlen
   have hln2 : ln ≤ 1000 := by rw [← hlen]; exact (ae HOY).1
   clear hlen
   have HG3 := ag (And.intro a3 b3)
   go_wp2_with fail
   go_quiet (fail)
   have HK4 := ag ((Kp.refl [] wr).drewN nq)
   clear a0 a1 a2 a3 b0 b1 b2 b3
   generalize wr.drewN nq = W4 at HK4 ⊢
   have HLA4 := ag ((ae HLA).kp0 (ae HK4))
   have HLB4 := ag ((ae HLB).kp0 (ae HK4))
   have HG4 := ag (And.intro ((ae HK4).cell (by simp) (ae HG3).1) ((ae HK4).cell (by simp) (ae HG3).2))
   have HKW := ag ((ae HK).trans0 (ae HK4))
   clear HLA HLB HG3 HK4 HK
   go_wp2_with fail
   go_loopw [12] (fun t wr => ∃ s : Nat, s ≤ ln ∧ t = .int .i64 s ∧ Hid (Kp [] W4 wr)) (fun t _ => ln - (intOf t).toNat)
   case atStart => exact ⟨0, Nat.zero_le _, rfl, Kp.refl [] _⟩
   case round =>
    obtain ⟨s, hs, rfl, HK5⟩ := hrel
    have a3 := (ae HK5).cell (by simp) (ae HG4).1
    have b3 := (ae HK5).cell (by simp) (ae HG4).2
    by_cases hlt2 : s < ln
    ·have j1 : (s : Int) < (ln : Int) := by omega
     have j0 : (0 : Int) ≤ (s : Int) := by omega
     have hls : s < yacts.length := by have := ae HLX; omega
     obtain ⟨z, hz⟩ : ∃ z, yacts[s]? = some z := ⟨_, List.getElem?_eq_getElem hls⟩
     obtain ⟨g, f, rfl, hg⟩ := (ae HLA4) (by omega)
     obtain ⟨g', f', rfl, hg'⟩ := (ae HLB4) (by omega)
     have hAz := (hg s z hz).kp0 (ae HK5)
     have hBz := (hg' s z hz).kp0 (ae HK5)
     have hz8 := (ae HOY).2 z (List.mem_of_getElem? hz)
     obtain ⟨za, zc, a9, hza⟩ := hAz.ls
     obtain ⟨zb, zd, b9, hzb⟩ := hBz.ls
     have HG := ag (And.intro a3 (And.intro hAz.c0 (And.intro hAz.c1 (And.intro hAz.c2 (And.intro hAz.c3 (And.intro hAz.c4 (And.intro a9 (And.intro b3 (And.intro hBz.c0 (And.intro hBz.c1 (And.intro hBz.c2 (And.intro hBz.c3 (And.intro hBz.c4 b9)))))))))))))
     have HSA := ag (fun W (hk : Kp [] wr W) => uT z za zb zc zd W (hza.kp0 hk) (hzb.kp0 hk) hz8)
     clear hg hg' hz hAz hBz a9 b9 hza hzb hz8
     obtain ⟨zk, zy, zt, zh, zs, zl⟩ := z
     dsimp only at HG HSA
     generalize zl.length = zn at HG HSA
     clear a3 b3
     have a3 := (ae HG).1
     have b3 := (ae HG).2.2.2.2.2.2.2.1
     go_wp2_with fail
     clear a3 b3
     refine wp_region_held_drew (S := fun w' => w'.cell? ⟨b, o + k * 4 + 3, none⟩ = some (.slice (some ⟨g, f, none⟩) ln lc) ∧ w'.cell? ⟨g, f + s * 6, none⟩ = some (.int .i64 zk) ∧ w'.cell? ⟨g, f + s * 6 + 1, none⟩ = some (.int .i64 zy) ∧ w'.cell? ⟨g, f + s * 6 + 2, none⟩ = some (.int .i64 zt) ∧ w'.cell? ⟨g, f + s * 6 + 3, none⟩ = some (.bool zh) ∧ w'.cell? ⟨g, f + s * 6 + 4, none⟩ = some (.string zs) ∧ w'.cell? ⟨g, f + s * 6 + 5, none⟩ = some (.slice za zn zc) ∧ w'.cell? ⟨b', o' + k * 4 + 3, none⟩ = some (.slice (some ⟨g', f', none⟩) ln lc') ∧ w'.cell? ⟨g', f' + s * 6, none⟩ = some (.int .i64 zk) ∧ w'.cell? ⟨g', f' + s * 6 + 1, none⟩ = some (.int .i64 zy) ∧ w'.cell? ⟨g', f' + s * 6 + 2, none⟩ = some (.int .i64 zt) ∧ w'.cell? ⟨g', f' + s * 6 + 3, none⟩ = some (.bool zh) ∧ w'.cell? ⟨g', f' + s * 6 + 4, none⟩ = some (.string zs) ∧ w'.cell? ⟨g', f' + s * 6 + 5, none⟩ = some (.slice zb zn zd)) (by kernel_rfl) (tS (ae HG) ((Kp.refl [] wr).drew)) (fun hHeld => ?_)
     have HKD := ag ((Kp.refl [] wr).drew)
     generalize World.drew _ = WD at HKD hHeld ⊢
     refine tk 0 ?_ rfl (by kernel_rfl) (fun _ _ _ h => h) (by rfl) ?_ hHeld ?_;rotate_left;· intro w hSw;(try dsimp only at hSw);go_simp;try with_reducible rfl
     try simp only [Act.put, sx, sy, sz]
     refine tk 1 ?_ rfl (by kernel_rfl) (fun _ _ _ h => h) (by rfl) ?_ hHeld ?_;rotate_left;· intro w hSw;(try dsimp only at hSw);go_simp;try with_reducible rfl
     try simp only [Act.put, sx, sy, sz]
     refine tk 2 ?_ rfl (by kernel_rfl) (fun _ _ _ h => h) (by rfl) ?_ hHeld ?_;rotate_left;· intro w hSw;(try dsimp only at hSw);go_simp;try with_reducible rfl
     try simp only [Act.put, sx, sy, sz]
     refine tk 3 ?_ rfl (by kernel_rfl) (fun _ _ _ h => h) (by rfl) ?_ hHeld ?_;rotate_left;· intro w hSw;(try dsimp only at hSw);go_simp;try with_reducible rfl
     try simp only [Act.put, sx, sy, sz]
     refine tk 4 ?_ rfl (by kernel_rfl) (fun _ _ _ h => h) (by rfl) ?_ hHeld ?_;rotate_left;· intro w hSw;(try dsimp only at hSw);go_simp;try with_reducible rfl
     try simp only [Act.put, sx, sy, sz]
     refine tk 5 ?_ rfl (by kernel_rfl) (fun _ _ _ h => h) (by rfl) ?_ hHeld ?_;rotate_left;· intro w hSw;(try dsimp only at hSw);go_simp;try with_reducible rfl
     try simp only [Act.put, sx, sy, sz]
     refine tk 6 ?_ rfl (by kernel_rfl) (fun _ _ _ h => h) (by rfl) ?_ hHeld ?_;rotate_left;· intro w hSw;(try dsimp only at hSw);go_simp;try with_reducible rfl
     try simp only [Act.put, sx, sy, sz]
     refine tk 7 ?_ rfl (by kernel_rfl) (fun _ _ _ h => h) (by rfl) ?_ hHeld ?_;rotate_left;· intro w hSw;(try dsimp only at hSw);go_simp;try with_reducible rfl
     try simp only [Act.put, sx, sy, sz]
     refine tk 8 ?_ rfl (by kernel_rfl) (fun _ _ _ h => h) (by rfl) ?_ hHeld ?_;rotate_left;· intro w hSw;(try dsimp only at hSw);go_simp;try with_reducible rfl
     try simp only [Act.put, sx, sy, sz]
     refine tk 9 ?_ rfl (by kernel_rfl) (fun _ _ _ h => h) (by rfl) ?_ hHeld ?_;rotate_left;· intro w hSw;(try dsimp only at hSw);go_simp;try with_reducible rfl
     try simp only [Act.put, sx, sy, sz]
     refine tk 10 ?_ rfl (by kernel_rfl) (fun _ _ _ h => h) (by rfl) ?_ hHeld ?_;rotate_left;· intro w hSw;(try dsimp only at hSw);go_simp;try with_reducible rfl
     try simp only [Act.put, sx, sy, sz]
     refine tk 11 ?_ rfl (by kernel_rfl) (fun _ _ _ h => h) (by rfl) ?_ hHeld ?_;rotate_left;· intro w hSw;(try dsimp only at hSw);go_simp;try with_reducible rfl
     try simp only [Act.put, sx, sy, sz]
     refine tk 12 ?_ rfl (by kernel_rfl) (fun _ _ _ h => h) (by rfl) ?_ hHeld ?_;rotate_left;· intro w hSw;(try dsimp only at hSw);go_simp;try with_reducible rfl
     try simp only [Act.put, sx, sy, sz]
     refine tk 13 ?_ rfl (by kernel_rfl) (fun _ _ _ h => h) (by rfl) ?_ hHeld ?_;rotate_left;· intro w hSw;(try dsimp only at hSw);go_simp;try with_reducible rfl
     try simp only [Act.put, sx, sy, sz]
     refine tk 14 ?_ rfl (by kernel_rfl) (fun _ _ _ h => h) (by rfl) ?_ hHeld ?_;rotate_left;· intro w hSw;(try dsimp only at hSw);go_simp;try with_reducible rfl
     try simp only [Act.put, sx, sy, sz]
     refine tk 15 ?_ rfl (by kernel_rfl) (fun _ _ _ h => h) (by rfl) ?_ hHeld ?_;rotate_left;· intro w hSw;(try dsimp only at hSw);go_simp;try with_reducible rfl
     try simp only [Act.put, sx, sy, sz]
     refine aj (i := 16) rfl (by kernel_rfl) (fun K hK => ?_)
     go_simp
     refine (ae HSA WD (ae HKD)).mono ?_
     rintro e w6 ⟨rfl, hk6⟩
     have HK6 := ag ((ae HKD).trans0 hk6)
     clear hk6
     go_wp2_with fail
     refine hK.out _ _ (tS (ae HG) (ae HK6)) (fun hHeld2 => ?_)
     clear hK K hHeld
     have hHeld := hHeld2
     clear hHeld2
     try simp only [Act.put, sx, sy, sz]
     refine tk 17 ?_ rfl (by kernel_rfl) (fun _ _ _ h => h) (by rfl) ?_ hHeld ?_;rotate_left;· intro w hSw;(try dsimp only at hSw);go_simp;try with_reducible rfl
     try simp only [Act.put, sx, sy, sz]
     refine wpAnyH_done (by kernel_rfl) ?_ _
     clear hHeld
     go_wp2_with fail
     exact ⟨⟨s + 1, by omega, by go_num, (ae HK5).trans0 (ae HK6)⟩, by simp [intOf]; omega⟩
    ·have j1 : ¬ (s : Int) < (ln : Int) := by omega
     go_wp2_with fail
     exact ⟨⟨k + 1, by omega, by go_num, (ae HKW).trans0 (ae HK5)⟩, by simp [intOf]; omega⟩
  ·have i1 : ¬ (k : Int) < (nL : Int) := by omega
   have HZ4 := ag ((ae HZ3).kp0 (ae HK))
   have HR0 := ag (fun cc => gV v am cc l wr ((ae HA).ins.kp0 (ae HZ4).kp) (ae HOK))
   rw [ae HN] at HR0
   have hb3 := ai (ae HZ4) (mh)
   have HB3 := ag hb3
   clear hb3 HZ3 HDA HDB HK
   go_wp2_with (refine wpList_load_row rfl 25 _ rfl p3 rfl 25 _ (0, 0) _ (ae HB3) Tryz.underlying25 rfl (by kernel_rfl) ?_)
   refine (ae HR0 _).mono ?_
   rintro e w5 ⟨rfl, hk5⟩
   have HZ5 := ag ((ae HZ4).kp0 hk5)
   clear hk5 HR0 HB3 HZ4
   have HRA := ag (fun cc (W : World) (hk : Kp [] w W) => oH am cc l w W hk (ae HA).ins (ae HOK))
   have HRR := ag (fun aa cc (W : World) (hi : bM W aa l) => eS v aa cc l W hi (ae HOK))
   rw [ae HN] at HRR HRA
   obtain ⟨X, hX⟩ : ∃ X, rpw v l = X := ⟨_, rfl⟩
   obtain ⟨bX, hbX⟩ : ∃ b, rpo v l = b := ⟨_, rfl⟩
   have HXX := ag (And.intro hX hbX)
   rw [hX, hbX]
   clear hX hbX
   have HZ6 := ag ((ae HZ5).box (ay X) 45)
   go_wp2_with (refine wpList_store_row rfl 45 _ _ rfl w5.heap.size (ay X) rfl rfl 45 _ (heap_alloc_new w5 _) Tryz.size45 rfl (aS _) ?_; rw [World.setRow_alloc_new])
   generalize w5.alloc (.cells (ay X) 45) = W3 at HZ6 ⊢
   generalize w5.heap.size = p9 at HZ6 ⊢
   clear HZ5
   refine wp_region_held_drew (S := fun w' => w'.rangeAt p3 0 (ay v).toList) (by kernel_rfl) (aE (ai ((ae HZ6).kp0 ((Kp.refl [] W3).drew)) (mt (mh)))) (fun hHeld => ?_)
   have HA0 := ag ((ae HZ6).kp0 ((Kp.refl [] W3).drew))
   generalize World.drew _ = WD at HA0 hHeld ⊢
   clear HZ6
   refine dA (i := 0) rfl (by kernel_rfl) (by kernel_rfl) (by kernel_rfl) (fun _ _ _ h => h) (pC (by rfl) _ rfl p3 0 rfl v (fun _ h => h)) hHeld ?_
   try simp only [Act.put, sx, sy, sz]
   refine tk 1 ?_ rfl (by kernel_rfl) (fun _ _ _ h => h) (by rfl) ?_ hHeld ?_;rotate_left;· intro w hSw;(try dsimp only at hSw);go_simp;try with_reducible rfl
   try simp only [Act.put, sx, sy, sz]
   refine bK (i := 2) (j := 7) rfl rfl (by kernel_rfl) (fun K hK => ?_) (fun K hK => ?_)
   ·go_simp
    refine (ae HRA _ _ (ae HA0).kp).mono ?_
    rintro e w6 ⟨a6, c6, zs6, rfl, hr6, hk6, hm6, hs6⟩
    rw [ae HN] at hr6
    have HA1 := ag ((ae HA0).kp0 hk6)
    have HI1 := ag (show bM w6 a6 l by rw [← hm6]; exact fQ hr6 (fun y hy => (hs6 y hy).kp0 (ae HA1).kp))
    rw [ae HN]
    clear hr6 hk6 hm6 hs6
    go_wp2_with fail
    refine hK.out _ _ (aE (ai (ae HA1) (mt (mh)))) (fun hHeld2 => ?_)
    clear hK K hHeld
    have hHeld := hHeld2
    clear hHeld2
    try simp only [Act.put, sx, sy, sz]
    refine bK (i := 3) (j := 7) rfl rfl (by kernel_rfl) (fun K hK => ?_) (fun K hK => ?_)
    ·go_simp
     refine (ae HRR _ _ _ (ae HI1)).mono ?_
     rintro e w7 ⟨rfl, hk7⟩
     rw [(ae HXX).1, (ae HXX).2]
     have HA2 := ag ((ae HA1).kp0 hk7)
     clear hk7
     go_wp2_with fail
     refine hK.out _ _ (aE (ai (ae HA2) (mt (mh)))) (fun hHeld2 => ?_)
     clear hK K hHeld
     have hHeld := hHeld2
     clear hHeld2
     try simp only [Act.put, sx, sy, sz]
     refine tk 4 ?_ rfl (by kernel_rfl) (fun _ _ _ h => h) (by rfl) ?_ hHeld ?_;rotate_left;· intro w hSw;(try dsimp only at hSw);go_simp;try with_reducible rfl
     try simp only [Act.put, sx, sy, sz]
     refine tk 5 ?_ rfl (by kernel_rfl) (fun _ _ _ h => h) (by rfl) ?_ hHeld ?_;rotate_left;· intro w hSw;(try dsimp only at hSw);go_simp;try with_reducible rfl
     try simp only [Act.put, sx, sy, sz]
     refine tk 6 ?_ rfl (by kernel_rfl) (fun _ _ _ h => h) (by rfl) ?_ hHeld ?_;rotate_left;· intro w hSw;(try dsimp only at hSw);go_simp;try with_reducible rfl
     try simp only [Act.put, sx, sy, sz]
     refine aj (i := 7) rfl (by kernel_rfl) (fun K hK => ?_)
     go_simp
     have HA3 := ag ((ae HA2).box (ay (fun _ => dv)) 48)
     rw [bI] at HA3
     refine hK.out _ _ (aE (ai (ae HA3) (mt (mt (mh))))) (fun hHeld2 => ?_)
     clear hK K hHeld
     have hHeld := hHeld2
     clear hHeld2
     try simp only [Act.put, sx, sy, sz]
     generalize w7.heap.size = p11 at *
     refine aj (i := 8) rfl (by kernel_rfl) (fun K hK => ?_)
     rw [if_pos (by rfl)]
     refine wp_store_row 48 _ _ rfl p11 (ay X) rfl rfl 48 _ (ai (ae HA3) (mh)) Tryz.size48 rfl (aS _) ?_
     have HZG := ag (bN (l1 := []) (c' := ay X) (ae HA3))
     refine hK.out _ _ (aE (ai (ae HZG) (mt (mt (mh))))) (fun hHeld2 => ?_)
     clear hK K hHeld
     have hHeld := hHeld2
     clear hHeld2
     simp only [Act.put]
     refine tk 9 ?_ rfl (by kernel_rfl) (fun _ _ _ h => h) (by rfl) ?_ hHeld ?_;rotate_left;· intro w hSw;(try dsimp only at hSw);go_simp;try with_reducible rfl
     try simp only [Act.put, sx, sy, sz]
     refine wpAnyH_done (by kernel_rfl) ?_ _
     generalize World.setRow _ _ _ = W9 at HZG ⊢
     clear hHeld
     have HD := ag ((ae HDD).ins.kp0 (ae HZG).kp)
     go_wp2_with fail
     go_loopw [17, 18] (fun x y wr => ∃ (i : Nat) (aU : Option Addr) (cU n : Nat), i ≤ m ∧ n ≤ i ∧ x = .slice aU n cU ∧ y = .int .i64 i ∧ Hid (∃ ys, RuI ds W9 wr aU cU n i ys)) (fun _ y _ => m - (intOf y).toNat)
     case atStart => exact ⟨0, none, 0, 0, Nat.zero_le _, Nat.le_refl _, rfl, rfl, [], du 39 4 (cg (Kp.refl [] W9)), rfl, rfl, fun y hy => by simp at hy, fun y hy => by simp at hy⟩
     case round =>
      obtain ⟨i, aU, cU, n, hi, hni, rfl, rfl, HI⟩ := hrel
      obtain ⟨ys, hz⟩ := ae HI
      have HZ := ag hz
      clear hz HI
      by_cases hlt : i < m
      ·have i1 : (i : Int) < (m : Int) := by omega
       have i0 : (0 : Int) ≤ (i : Int) := by omega
       have hln : i < ds.length := by have := ae HM; omega
       obtain ⟨g, o, rfl, hb⟩ := (ae HD) (by omega)
       obtain ⟨x, hx⟩ : ∃ x, ds[i]? = some x := ⟨_, List.getElem?_eq_getElem hln⟩
       have htk : ds.take (i + 1) = ds.take i ++ [x] := by rw [List.take_add_one, hx]; rfl
       have hok := (ae HO).1.2 x (List.mem_of_getElem? hx)
       have hat := hb i x hx
       obtain ⟨la, lc, z3, hls⟩ := hat.ls
       have HT := ag htk
       have HLS := ag hls
       have HG := ag (And.intro hat.c0 (And.intro hat.c1 (And.intro hat.c2 z3)))
       clear hat hb hx hls z3 htk
       obtain ⟨xn, xa, xm, xacts⟩ := x
       dsimp only at HG HLS hok
       have HOK := ag hok
       clear hok
       obtain ⟨ln, hlen⟩ : ∃ ln, xacts.length = ln := ⟨_, rfl⟩
       rw [hlen] at HG
       have HLX := ag hlen
       clear hlen
       go_wp2_with fail
       refine wp_region_held_drew (S := fun w' => w'.cell? ⟨g, o + i * 4, none⟩ = some (.int .i64 xn) ∧ w'.cell? ⟨g, o + i * 4 + 1, none⟩ = some (.int .i64 xa) ∧ w'.cell? ⟨g, o + i * 4 + 2, none⟩ = some (.int .i64 xm) ∧ w'.cell? ⟨g, o + i * 4 + 3, none⟩ = some (.slice la ln lc)) (by kernel_rfl) (dX (ae HG) ((ae HZ).zoo.kp.drew)) (fun hHeld => ?_)
       have HA0 := ag ((ae HZ).zoo.kp0 ((Kp.refl [] wr).drew))
       generalize World.drew _ = WD at HA0 hHeld ⊢
       refine tk 0 ?_ rfl (by kernel_rfl) (fun _ _ _ h => h) (by rfl) ?_ hHeld ?_;rotate_left;· intro w hSw;(try dsimp only at hSw);go_simp;try with_reducible rfl
       try simp only [Act.put, sx, sy, sz]
       refine tk 1 ?_ rfl (by kernel_rfl) (fun _ _ _ h => h) (by rfl) ?_ hHeld ?_;rotate_left;· intro w hSw;(try dsimp only at hSw);go_simp;try with_reducible rfl
       try simp only [Act.put, sx, sy, sz]
       refine tk 2 ?_ rfl (by kernel_rfl) (fun _ _ _ h => h) (by rfl) ?_ hHeld ?_;rotate_left;· intro w hSw;(try dsimp only at hSw);go_simp;try with_reducible rfl
       try simp only [Act.put, sx, sy, sz]
       refine tk 3 ?_ rfl (by kernel_rfl) (fun _ _ _ h => h) (by rfl) ?_ hHeld ?_;rotate_left;· intro w hSw;(try dsimp only at hSw);go_simp;try with_reducible rfl
       try simp only [Act.put, sx, sy, sz]
       refine tk 4 ?_ rfl (by kernel_rfl) (fun _ _ _ h => h) (by rfl) ?_ hHeld ?_;rotate_left;· intro w hSw;(try dsimp only at hSw);go_simp;try with_reducible rfl
       try simp only [Act.put, sx, sy, sz]
       refine tk 5 ?_ rfl (by kernel_rfl) (fun _ _ _ h => h) (by rfl) ?_ hHeld ?_;rotate_left;· intro w hSw;(try dsimp only at hSw);go_simp;try with_reducible rfl
       try simp only [Act.put, sx, sy, sz]
       refine tk 6 ?_ rfl (by kernel_rfl) (fun _ _ _ h => h) (by rfl) ?_ hHeld ?_;rotate_left;· intro w hSw;(try dsimp only at hSw);go_simp;try with_reducible rfl
       try simp only [Act.put, sx, sy, sz]
       refine tk 7 ?_ rfl (by kernel_rfl) (fun _ _ _ h => h) (by rfl) ?_ hHeld ?_;rotate_left;· intro w hSw;(try dsimp only at hSw);go_simp;try with_reducible rfl
       try simp only [Act.put, sx, sy, sz]
       refine tk 8 ?_ rfl (by kernel_rfl) (fun _ _ _ h => h) (by rfl) ?_ hHeld ?_;rotate_left;· intro w hSw;(try dsimp only at hSw);go_simp;try with_reducible rfl
       try simp only [Act.put, sx, sy, sz]
       refine tk 9 ?_ rfl (by kernel_rfl) (fun _ _ _ h => h) (by rfl) ?_ hHeld ?_;rotate_left;· intro w hSw;(try dsimp only at hSw);go_simp;try with_reducible rfl
       try simp only [Act.put, sx, sy, sz]
       refine tk 10 ?_ rfl (by kernel_rfl) (fun _ _ _ h => h) (by rfl) ?_ hHeld ?_;rotate_left;· intro w hSw;(try dsimp only at hSw);go_simp;try with_reducible rfl
       try simp only [Act.put, sx, sy, sz]
       refine tk 11 ?_ rfl (by kernel_rfl) (fun _ _ _ h => h) (by rfl) ?_ hHeld ?_;rotate_left;· intro w hSw;(try dsimp only at hSw);go_simp;try with_reducible rfl
       try simp only [Act.put, sx, sy, sz]
       refine tk 12 ?_ rfl (by kernel_rfl) (fun _ _ _ h => h) (by rfl) ?_ hHeld ?_;rotate_left;· intro w hSw;(try dsimp only at hSw);go_simp;try with_reducible rfl
       try simp only [Act.put, sx, sy, sz]
       refine tk 13 ?_ rfl (by kernel_rfl) (fun _ _ _ h => h) (by rfl) ?_ hHeld ?_;rotate_left;· intro w hSw;(try dsimp only at hSw);go_simp;try with_reducible rfl
       try simp only [Act.put, sx, sy, sz]
       refine tk 14 ?_ rfl (by kernel_rfl) (fun _ _ _ h => h) (by rfl) ?_ hHeld ?_;rotate_left;· intro w hSw;(try dsimp only at hSw);go_simp;try with_reducible rfl
       try simp only [Act.put, sx, sy, sz]
       refine tk 15 ?_ rfl (by kernel_rfl) (fun _ _ _ h => h) (by rfl) ?_ hHeld ?_;rotate_left;· intro w hSw;(try dsimp only at hSw);go_simp;try with_reducible rfl
       try simp only [Act.put, sx, sy, sz]
       refine tk 16 ?_ rfl (by kernel_rfl) (fun _ _ _ h => h) (by rfl) ?_ hHeld ?_;rotate_left;· intro w hSw;(try dsimp only at hSw);go_simp;try with_reducible rfl
       try simp only [Act.put, sx, sy, sz]
       refine tk 17 ?_ rfl (by kernel_rfl) (fun _ _ _ h => h) (by rfl) ?_ hHeld ?_;rotate_left;· intro w hSw;(try dsimp only at hSw);go_simp;try with_reducible rfl
       try simp only [Act.put, sx, sy, sz]
       refine tk 18 ?_ rfl (by kernel_rfl) (fun _ _ _ h => h) (by rfl) ?_ hHeld ?_;rotate_left;· intro w hSw;(try dsimp only at hSw);go_simp;try with_reducible rfl
       try simp only [Act.put, sx, sy, sz]
       refine tk 19 ?_ rfl (by kernel_rfl) (fun _ _ _ h => h) (by rfl) ?_ hHeld ?_;rotate_left;· intro w hSw;(try dsimp only at hSw);go_simp;try with_reducible rfl
       try simp only [Act.put, sx, sy, sz]
       refine tk 20 ?_ rfl (by kernel_rfl) (fun _ _ _ h => h) (by rfl) ?_ hHeld ?_;rotate_left;· intro w hSw;(try dsimp only at hSw);go_simp;try with_reducible rfl
       try simp only [Act.put, sx, sy, sz]
       refine aj (i := 21) rfl (by kernel_rfl) (fun K hK => ?_)
       go_simp
       rw [← ae HLX]
       refine (oH la lc xacts W9 WD (ae HA0).kp (ae HLS) (ae HOK)).mono ?_
       rintro e w5 ⟨a5, c5, zs, rfl, hr5, hk5, hm5, hs5⟩
       have hzl : zs.length = xacts.length := by rw [← hm5, List.length_map]
       rw [← hzl] at hr5
       have HA1 := ag ((ae HA0).cons (o := raT ⟨⟨⟨xn, xa, xm, xacts⟩, a5, c5⟩, zs⟩) (F := ob a5) ⟨hr5, rfl⟩ hk5)
       have HM5 := ag hm5
       have HS5 : Hid (∀ z, z ∈ zs → SlO W9 z.a z.x.l) := hs5
       rw [ae HLX]
       clear hr5 hk5 hm5 hs5 hzl
       go_wp2_with fail
       refine hK.out _ _ (dX (ae HG) (ae HA1).kp) (fun hHeld2 => ?_)
       clear hK K hHeld
       have hHeld := hHeld2
       clear hHeld2
       try simp only [Act.put, sx, sy, sz]
       refine tk 22 ?_ rfl (by kernel_rfl) (fun _ _ _ h => h) (by rfl) ?_ hHeld ?_;rotate_left;· intro w hSw;(try dsimp only at hSw);go_simp;try with_reducible rfl
       try simp only [Act.put, sx, sy, sz]
       refine aj (i := 23) rfl (by kernel_rfl) (fun K hK => ?_)
       go_simp
       have HA2 := ag ((ae HA1).box #[.int .i64 xn, .int .i64 xa, .int .i64 xm, .slice a5 ln c5] 39)
       refine hK.out _ _ (dX (ae HG) (ae HA2).kp) (fun hHeld2 => ?_)
       clear hK K hHeld
       have hHeld := hHeld2
       clear hHeld2
       try simp only [Act.put, sx, sy, sz]
       have HBX := ag (Zoo.var (ae HA2))
       have hBw := Zoo.base (ae HA2)
       generalize w5.alloc (.cells #[.int .i64 xn, .int .i64 xa, .int .i64 xm, .slice a5 ln c5] 39) = W1 at *
       generalize w5.heap.size = p3 at *
       refine aj (i := 24) rfl (by kernel_rfl) (fun K hK => ?_)
       refine bd (by rfl) (.tmp 145) (.tmp 168) 33 (by rfl) hu Tryz.info39 rfl (by omega) (bq (l1 := [au p3 #[.int .i64 xn, .int .i64 xa, .int .i64 xm, .slice a5 ln c5] 39, raT ⟨⟨⟨xn, xa, xm, xacts⟩, a5, c5⟩, zs⟩]) (ae HA2)) hBw (.slice (some ⟨p3, 0, none⟩) 1 1) [.int .i64 xn, .int .i64 xa, .int .i64 xm, .slice a5 ln c5] 1 (by rfl) (by rfl) (aQ (cs := #[.int .i64 xn, .int .i64 xa, .int .i64 xm, .slice a5 ln c5]) hu (ae HBX) rfl (by simp [Value.oneCell'])) (by omega) (n + 1) rfl ?_
       intro a2 c2 w9 g1 g2 g3
       have HA3 := ag (Zoo.tail (cS (l1 := [au p3 #[.int .i64 xn, .int .i64 xa, .int .i64 xm, .slice a5 ln c5] 39, raT ⟨⟨⟨xn, xa, xm, xacts⟩, a5, c5⟩, zs⟩]) (ae HA2) (ae g1) (ae g2) (ae g3)))
       refine hK.out _ _ (dX (ae HG) (ae HA3).kp) (fun hHeld2 => ?_)
       clear hK K hHeld
       have hHeld := hHeld2
       clear hHeld2
       try simp only [Act.put, sx, sy, sz]
       refine tk 25 ?_ rfl (by kernel_rfl) (fun _ _ _ h => h) (by rfl) ?_ hHeld ?_;rotate_left;· intro w hSw;(try dsimp only at hSw);go_simp;try with_reducible rfl
       try simp only [Act.put, sx, sy, sz]
       refine wpAnyH_done (by kernel_rfl) ?_ _
       clear hHeld g1 g2 g3
       go_wp2_with fail
       refine ⟨⟨i + 1, a2, c2, n + 1, by omega, by omega, rfl, by go_num, ys ++ [⟨⟨⟨xn, xa, xm, xacts⟩, a5, c5⟩, zs⟩], ?_, ?_, ?_, fun y hy => ?_, fun y hy => ?_⟩, by simp [intOf]; omega⟩
       ·have e1 : aP ((ys ++ [(⟨⟨⟨xn, xa, xm, xacts⟩, a5, c5⟩, zs⟩ : Dy)]).map Dy.x) = aP (ys.map Dy.x) ++ [.int .i64 xn, .int .i64 xa, .int .i64 xm, .slice a5 ln c5] := by
         rw [List.map_append, dx]
         simp [aP, dxc, ae HLX]
        rw [e1, List.map_append]
        refine (ae HA3).perm ?_
        have p1 : (raT ⟨⟨⟨xn, xa, xm, xacts⟩, a5, c5⟩, zs⟩ :: KwT 39 4 a2 (n + 1) c2 (aP (ys.map Dy.x) ++ [.int .i64 xn, .int .i64 xa, .int .i64 xm, .slice a5 ln c5]) :: ys.map raT).Perm (KwT 39 4 a2 (n + 1) c2 (aP (ys.map Dy.x) ++ [.int .i64 xn, .int .i64 xa, .int .i64 xm, .slice a5 ln c5]) :: (raT ⟨⟨⟨xn, xa, xm, xacts⟩, a5, c5⟩, zs⟩ :: ys.map raT)) := List.Perm.swap _ _ _
        refine p1.trans (List.Perm.cons _ ?_)
        exact (List.perm_append_comm (l₁ := ys.map raT) (l₂ := [raT ⟨⟨⟨xn, xa, xm, xacts⟩, a5, c5⟩, zs⟩])).symm
       ·rw [List.length_append, (ae HZ).nl]; rfl
       ·rw [List.map_append, (ae HZ).map, ae HT]; rfl
       ·rcases List.mem_append.1 hy with e | e
        ·exact (ae HZ).acts y e
        ·rw [List.mem_singleton.1 e]; exact (ae HM5).symm
       ·rcases List.mem_append.1 hy with e | e
        ·exact (ae HZ).sl y e
        ·rw [List.mem_singleton.1 e]; exact ae HS5
      ·have i1 : ¬ (i : Int) < (m : Int) := by omega
       have hmp := (ae HZ).map
       rw [List.take_of_length_le (by have := ae HM; omega)] at hmp
       have hl : n = m := by rw [(ae HZ).nl, ← ae HM, ← hmp, List.length_map]
       have hdn := (ae HZ).dns
       rw [hmp] at hdn
       have HDU := ag hdn
       clear hmp hdn
       have HC1 := ag (fun W (hk : Kp [] wr W) => gw aD cD ds W (((ae HD).kp0 (ae HZ).zoo.kp).kp0 hk) (ae HO).1 (ae HO).2)
       have HC2 := ag (fun W (hk : Kp [] wr W) => kP aU cU ds W ((ae HDU).kp0 hk) (ae HO).1 (ae HO).2)
       rw [ae HM] at HC1 HC2
       rw [← hl] at HC2
       clear hl
       obtain ⟨bs, hbs⟩ : ∃ b, ser ds = b := ⟨_, rfl⟩
       rw [hbs] at HC1 HC2
       clear hbs
       have A9 := ag (ai ((ae HZG).kp0 (ae HZ).zoo.kp) (mt (mh)))
       have A11 := ag (ai ((ae HZG).kp0 (ae HZ).zoo.kp) (mh))
       have heq := yF X
       have hbx : (bX == bX) = true := by simp
       have hbb : (bs == bs) = true := by simp
       go_wp2_with (first | (refine ei (by rfl) _ rfl p9 rfl X (ae A9) ?_) | (refine ej (by rfl) _ rfl p11 rfl X (ae A11) ?_))
       refine (ae HC1 _ (Kp.refl [] _)).mono ?_
       rintro e w8 ⟨rfl, hk8⟩
       have HK8 := ag hk8
       clear hk8
       go_wp2_with fail
       refine (ae HC2 w8 (ae HK8)).mono ?_
       rintro e w10 ⟨rfl, hk10⟩
       have HKF := ag ((ae HZG).kp.trans0 ((ae HZ).zoo.kp.trans0 ((ae HK8).trans0 hk10)))
       clear hk10
       go_wp2_with fail
       go_ret
       exact ⟨by trivial, (ae HKF).below (Nat.le_refl _) (by simp)⟩
    ·go_simp
     have HA2 := ag ((ae HA1).box (ay (fun _ => dv)) 48)
     rw [bI] at HA2
     refine hK.out _ _ (aE (ai (ae HA2) (mt (mt (mh))))) (fun hHeld2 => ?_)
     clear hK K hHeld
     have hHeld := hHeld2
     clear hHeld2
     try simp only [Act.put, sx, sy, sz]
     generalize w6.heap.size = p11 at *
     refine aj (i := 3) rfl (by kernel_rfl) (fun K hK => ?_)
     go_simp
     refine (ae HRR _ _ _ ((ae HI1).kp0 ((Kp.refl [] _).alloc _))).mono ?_
     rintro e w7 ⟨rfl, hk7⟩
     rw [(ae HXX).1, (ae HXX).2]
     have HA3 := ag ((ae HA2).kp0 hk7)
     clear hk7
     go_wp2_with fail
     refine hK.out _ _ (aE (ai (ae HA3) (mt (mt (mh))))) (fun hHeld2 => ?_)
     clear hK K hHeld
     have hHeld := hHeld2
     clear hHeld2
     try simp only [Act.put, sx, sy, sz]
     refine tk 4 ?_ rfl (by kernel_rfl) (fun _ _ _ h => h) (by rfl) ?_ hHeld ?_;rotate_left;· intro w hSw;(try dsimp only at hSw);go_simp;try with_reducible rfl
     try simp only [Act.put, sx, sy, sz]
     refine tk 5 ?_ rfl (by kernel_rfl) (fun _ _ _ h => h) (by rfl) ?_ hHeld ?_;rotate_left;· intro w hSw;(try dsimp only at hSw);go_simp;try with_reducible rfl
     try simp only [Act.put, sx, sy, sz]
     refine tk 6 ?_ rfl (by kernel_rfl) (fun _ _ _ h => h) (by rfl) ?_ hHeld ?_;rotate_left;· intro w hSw;(try dsimp only at hSw);go_simp;try with_reducible rfl
     try simp only [Act.put, sx, sy, sz]
     refine aj (i := 8) rfl (by kernel_rfl) (fun K hK => ?_)
     rw [if_pos (by rfl)]
     refine wp_store_row 48 _ _ rfl p11 (ay X) rfl rfl 48 _ (ai (ae HA3) (mh)) Tryz.size48 rfl (aS _) ?_
     have HZG := ag (bN (l1 := []) (c' := ay X) (ae HA3))
     refine hK.out _ _ (aE (ai (ae HZG) (mt (mt (mh))))) (fun hHeld2 => ?_)
     clear hK K hHeld
     have hHeld := hHeld2
     clear hHeld2
     simp only [Act.put]
     refine tk 9 ?_ rfl (by kernel_rfl) (fun _ _ _ h => h) (by rfl) ?_ hHeld ?_;rotate_left;· intro w hSw;(try dsimp only at hSw);go_simp;try with_reducible rfl
     try simp only [Act.put, sx, sy, sz]
     refine wpAnyH_done (by kernel_rfl) ?_ _
     generalize World.setRow _ _ _ = W9 at HZG ⊢
     clear hHeld
     have HD := ag ((ae HDD).ins.kp0 (ae HZG).kp)
     go_wp2_with fail
     go_loopw [17, 18] (fun x y wr => ∃ (i : Nat) (aU : Option Addr) (cU n : Nat), i ≤ m ∧ n ≤ i ∧ x = .slice aU n cU ∧ y = .int .i64 i ∧ Hid (∃ ys, RuI ds W9 wr aU cU n i ys)) (fun _ y _ => m - (intOf y).toNat)
     case atStart => exact ⟨0, none, 0, 0, Nat.zero_le _, Nat.le_refl _, rfl, rfl, [], du 39 4 (cg (Kp.refl [] W9)), rfl, rfl, fun y hy => by simp at hy, fun y hy => by simp at hy⟩
     case round =>
      obtain ⟨i, aU, cU, n, hi, hni, rfl, rfl, HI⟩ := hrel
      obtain ⟨ys, hz⟩ := ae HI
      have HZ := ag hz
      clear hz HI
      by_cases hlt : i < m
      ·have i1 : (i : Int) < (m : Int) := by omega
       have i0 : (0 : Int) ≤ (i : Int) := by omega
       have hln : i < ds.length := by have := ae HM; omega
       obtain ⟨g, o, rfl, hb⟩ := (ae HD) (by omega)
       obtain ⟨x, hx⟩ : ∃ x, ds[i]? = some x := ⟨_, List.getElem?_eq_getElem hln⟩
       have htk : ds.take (i + 1) = ds.take i ++ [x] := by rw [List.take_add_one, hx]; rfl
       have hok := (ae HO).1.2 x (List.mem_of_getElem? hx)
       have hat := hb i x hx
       obtain ⟨la, lc, z3, hls⟩ := hat.ls
       have HT := ag htk
       have HLS := ag hls
       have HG := ag (And.intro hat.c0 (And.intro hat.c1 (And.intro hat.c2 z3)))
       clear hat hb hx hls z3 htk
       obtain ⟨xn, xa, xm, xacts⟩ := x
       dsimp only at HG HLS hok
       have HOK := ag hok
       clear hok
       obtain ⟨ln, hlen⟩ : ∃ ln, xacts.length = ln := ⟨_, rfl⟩
       rw [hlen] at HG
       have HLX := ag hlen
       clear hlen
       go_wp2_with fail
       refine wp_region_held_drew (S := fun w' => w'.cell? ⟨g, o + i * 4, none⟩ = some (.int .i64 xn) ∧ w'.cell? ⟨g, o + i * 4 + 1, none⟩ = some (.int .i64 xa) ∧ w'.cell? ⟨g, o + i * 4 + 2, none⟩ = some (.int .i64 xm) ∧ w'.cell? ⟨g, o + i * 4 + 3, none⟩ = some (.slice la ln lc)) (by kernel_rfl) (dX (ae HG) ((ae HZ).zoo.kp.drew)) (fun hHeld => ?_)
       have HA0 := ag ((ae HZ).zoo.kp0 ((Kp.refl [] wr).drew))
       generalize World.drew _ = WD at HA0 hHeld ⊢
       refine tk 0 ?_ rfl (by kernel_rfl) (fun _ _ _ h => h) (by rfl) ?_ hHeld ?_;rotate_left;· intro w hSw;(try dsimp only at hSw);go_simp;try with_reducible rfl
       try simp only [Act.put, sx, sy, sz]
       refine tk 1 ?_ rfl (by kernel_rfl) (fun _ _ _ h => h) (by rfl) ?_ hHeld ?_;rotate_left;· intro w hSw;(try dsimp only at hSw);go_simp;try with_reducible rfl
       try simp only [Act.put, sx, sy, sz]
       refine tk 2 ?_ rfl (by kernel_rfl) (fun _ _ _ h => h) (by rfl) ?_ hHeld ?_;rotate_left;· intro w hSw;(try dsimp only at hSw);go_simp;try with_reducible rfl
       try simp only [Act.put, sx, sy, sz]
       refine tk 3 ?_ rfl (by kernel_rfl) (fun _ _ _ h => h) (by rfl) ?_ hHeld ?_;rotate_left;· intro w hSw;(try dsimp only at hSw);go_simp;try with_reducible rfl
       try simp only [Act.put, sx, sy, sz]
       refine tk 4 ?_ rfl (by kernel_rfl) (fun _ _ _ h => h) (by rfl) ?_ hHeld ?_;rotate_left;· intro w hSw;(try dsimp only at hSw);go_simp;try with_reducible rfl
       try simp only [Act.put, sx, sy, sz]
       refine tk 5 ?_ rfl (by kernel_rfl) (fun _ _ _ h => h) (by rfl) ?_ hHeld ?_;rotate_left;· intro w hSw;(try dsimp only at hSw);go_simp;try with_reducible rfl
       try simp only [Act.put, sx, sy, sz]
       refine tk 6 ?_ rfl (by kernel_rfl) (fun _ _ _ h => h) (by rfl) ?_ hHeld ?_;rotate_left;· intro w hSw;(try dsimp only at hSw);go_simp;try with_reducible rfl
       try simp only [Act.put, sx, sy, sz]
       refine tk 7 ?_ rfl (by kernel_rfl) (fun _ _ _ h => h) (by rfl) ?_ hHeld ?_;rotate_left;· intro w hSw;(try dsimp only at hSw);go_simp;try with_reducible rfl
       try simp only [Act.put, sx, sy, sz]
       refine tk 8 ?_ rfl (by kernel_rfl) (fun _ _ _ h => h) (by rfl) ?_ hHeld ?_;rotate_left;· intro w hSw;(try dsimp only at hSw);go_simp;try with_reducible rfl
       try simp only [Act.put, sx, sy, sz]
       refine tk 9 ?_ rfl (by kernel_rfl) (fun _ _ _ h => h) (by rfl) ?_ hHeld ?_;rotate_left;· intro w hSw;(try dsimp only at hSw);go_simp;try with_reducible rfl
       try simp only [Act.put, sx, sy, sz]
       refine tk 10 ?_ rfl (by kernel_rfl) (fun _ _ _ h => h) (by rfl) ?_ hHeld ?_;rotate_left;· intro w hSw;(try dsimp only at hSw);go_simp;try with_reducible rfl
       try simp only [Act.put, sx, sy, sz]
       refine tk 11 ?_ rfl (by kernel_rfl) (fun _ _ _ h => h) (by rfl) ?_ hHeld ?_;rotate_left;· intro w hSw;(try dsimp only at hSw);go_simp;try with_reducible rfl
       try simp only [Act.put, sx, sy, sz]
       refine tk 12 ?_ rfl (by kernel_rfl) (fun _ _ _ h => h) (by rfl) ?_ hHeld ?_;rotate_left;· intro w hSw;(try dsimp only at hSw);go_simp;try with_reducible rfl
       try simp only [Act.put, sx, sy, sz]
       refine tk 13 ?_ rfl (by kernel_rfl) (fun _ _ _ h => h) (by rfl) ?_ hHeld ?_;rotate_left;· intro w hSw;(try dsimp only at hSw);go_simp;try with_reducible rfl
       try simp only [Act.put, sx, sy, sz]
       refine tk 14 ?_ rfl (by kernel_rfl) (fun _ _ _ h => h) (by rfl) ?_ hHeld ?_;rotate_left;· intro w hSw;(try dsimp only at hSw);go_simp;try with_reducible rfl
       try simp only [Act.put, sx, sy, sz]
       refine tk 15 ?_ rfl (by kernel_rfl) (fun _ _ _ h => h) (by rfl) ?_ hHeld ?_;rotate_left;· intro w hSw;(try dsimp only at hSw);go_simp;try with_reducible rfl
       try simp only [Act.put, sx, sy, sz]
       refine tk 16 ?_ rfl (by kernel_rfl) (fun _ _ _ h => h) (by rfl) ?_ hHeld ?_;rotate_left;· intro w hSw;(try dsimp only at hSw);go_simp;try with_reducible rfl
       try simp only [Act.put, sx, sy, sz]
       refine tk 17 ?_ rfl (by kernel_rfl) (fun _ _ _ h => h) (by rfl) ?_ hHeld ?_;rotate_left;· intro w hSw;(try dsimp only at hSw);go_simp;try with_reducible rfl
       try simp only [Act.put, sx, sy, sz]
       refine tk 18 ?_ rfl (by kernel_rfl) (fun _ _ _ h => h) (by rfl) ?_ hHeld ?_;rotate_left;· intro w hSw;(try dsimp only at hSw);go_simp;try with_reducible rfl
       try simp only [Act.put, sx, sy, sz]
       refine tk 19 ?_ rfl (by kernel_rfl) (fun _ _ _ h => h) (by rfl) ?_ hHeld ?_;rotate_left;· intro w hSw;(try dsimp only at hSw);go_simp;try with_reducible rfl
       try simp only [Act.put, sx, sy, sz]
       refine tk 20 ?_ rfl (by kernel_rfl) (fun _ _ _ h => h) (by rfl) ?_ hHeld ?_;rotate_left;· intro w hSw;(try dsimp only at hSw);go_simp;try with_reducible rfl
       try simp only [Act.put, sx, sy, sz]
       refine aj (i := 21) rfl (by kernel_rfl) (fun K hK => ?_)
       go_simp
       rw [← ae HLX]
       refine (oH la lc xacts W9 WD (ae HA0).kp (ae HLS) (ae HOK)).mono ?_
       rintro e w5 ⟨a5, c5, zs, rfl, hr5, hk5, hm5, hs5⟩
       have hzl : zs.length = xacts.length := by rw [← hm5, List.length_map]
       rw [← hzl] at hr5
       have HA1 := ag ((ae HA0).cons (o := raT ⟨⟨⟨xn, xa, xm, xacts⟩, a5, c5⟩, zs⟩) (F := ob a5) ⟨hr5, rfl⟩ hk5)
       have HM5 := ag hm5
       have HS5 : Hid (∀ z, z ∈ zs → SlO W9 z.a z.x.l) := hs5
       rw [ae HLX]
       clear hr5 hk5 hm5 hs5 hzl
       go_wp2_with fail
       refine hK.out _ _ (dX (ae HG) (ae HA1).kp) (fun hHeld2 => ?_)
       clear hK K hHeld
       have hHeld := hHeld2
       clear hHeld2
       try simp only [Act.put, sx, sy, sz]
       refine tk 22 ?_ rfl (by kernel_rfl) (fun _ _ _ h => h) (by rfl) ?_ hHeld ?_;rotate_left;· intro w hSw;(try dsimp only at hSw);go_simp;try with_reducible rfl
       try simp only [Act.put, sx, sy, sz]
       refine aj (i := 23) rfl (by kernel_rfl) (fun K hK => ?_)
       go_simp
       have HA2 := ag ((ae HA1).box #[.int .i64 xn, .int .i64 xa, .int .i64 xm, .slice a5 ln c5] 39)
       refine hK.out _ _ (dX (ae HG) (ae HA2).kp) (fun hHeld2 => ?_)
       clear hK K hHeld
       have hHeld := hHeld2
       clear hHeld2
       try simp only [Act.put, sx, sy, sz]
       have HBX := ag (Zoo.var (ae HA2))
       have hBw := Zoo.base (ae HA2)
       generalize w5.alloc (.cells #[.int .i64 xn, .int .i64 xa, .int .i64 xm, .slice a5 ln c5] 39) = W1 at *
       generalize w5.heap.size = p3 at *
       refine aj (i := 24) rfl (by kernel_rfl) (fun K hK => ?_)
       refine bd (by rfl) (.tmp 145) (.tmp 168) 33 (by rfl) hu Tryz.info39 rfl (by omega) (bq (l1 := [au p3 #[.int .i64 xn, .int .i64 xa, .int .i64 xm, .slice a5 ln c5] 39, raT ⟨⟨⟨xn, xa, xm, xacts⟩, a5, c5⟩, zs⟩]) (ae HA2)) hBw (.slice (some ⟨p3, 0, none⟩) 1 1) [.int .i64 xn, .int .i64 xa, .int .i64 xm, .slice a5 ln c5] 1 (by rfl) (by rfl) (aQ (cs := #[.int .i64 xn, .int .i64 xa, .int .i64 xm, .slice a5 ln c5]) hu (ae HBX) rfl (by simp [Value.oneCell'])) (by omega) (n + 1) rfl ?_
       intro a2 c2 w9 g1 g2 g3
       have HA3 := ag (Zoo.tail (cS (l1 := [au p3 #[.int .i64 xn, .int .i64 xa, .int .i64 xm, .slice a5 ln c5] 39, raT ⟨⟨⟨xn, xa, xm, xacts⟩, a5, c5⟩, zs⟩]) (ae HA2) (ae g1) (ae g2) (ae g3)))
       refine hK.out _ _ (dX (ae HG) (ae HA3).kp) (fun hHeld2 => ?_)
       clear hK K hHeld
       have hHeld := hHeld2
       clear hHeld2
       try simp only [Act.put, sx, sy, sz]
       refine tk 25 ?_ rfl (by kernel_rfl) (fun _ _ _ h => h) (by rfl) ?_ hHeld ?_;rotate_left;· intro w hSw;(try dsimp only at hSw);go_simp;try with_reducible rfl
       try simp only [Act.put, sx, sy, sz]
       refine wpAnyH_done (by kernel_rfl) ?_ _
       clear hHeld g1 g2 g3
       go_wp2_with fail
       refine ⟨⟨i + 1, a2, c2, n + 1, by omega, by omega, rfl, by go_num, ys ++ [⟨⟨⟨xn, xa, xm, xacts⟩, a5, c5⟩, zs⟩], ?_, ?_, ?_, fun y hy => ?_, fun y hy => ?_⟩, by simp [intOf]; omega⟩
       ·have e1 : aP ((ys ++ [(⟨⟨⟨xn, xa, xm, xacts⟩, a5, c5⟩, zs⟩ : Dy)]).map Dy.x) = aP (ys.map Dy.x) ++ [.int .i64 xn, .int .i64 xa, .int .i64 xm, .slice a5 ln c5] := by
         rw [List.map_append, dx]
         simp [aP, dxc, ae HLX]
        rw [e1, List.map_append]
        refine (ae HA3).perm ?_
        have p1 : (raT ⟨⟨⟨xn, xa, xm, xacts⟩, a5, c5⟩, zs⟩ :: KwT 39 4 a2 (n + 1) c2 (aP (ys.map Dy.x) ++ [.int .i64 xn, .int .i64 xa, .int .i64 xm, .slice a5 ln c5]) :: ys.map raT).Perm (KwT 39 4 a2 (n + 1) c2 (aP (ys.map Dy.x) ++ [.int .i64 xn, .int .i64 xa, .int .i64 xm, .slice a5 ln c5]) :: (raT ⟨⟨⟨xn, xa, xm, xacts⟩, a5, c5⟩, zs⟩ :: ys.map raT)) := List.Perm.swap _ _ _
        refine p1.trans (List.Perm.cons _ ?_)
        exact (List.perm_append_comm (l₁ := ys.map raT) (l₂ := [raT ⟨⟨⟨xn, xa, xm, xacts⟩, a5, c5⟩, zs⟩])).symm
       ·rw [List.length_append, (ae HZ).nl]; rfl
       ·rw [List.map_append, (ae HZ).map, ae HT]; rfl
       ·rcases List.mem_append.1 hy with e | e
        ·exact (ae HZ).acts y e
        ·rw [List.mem_singleton.1 e]; exact (ae HM5).symm
       ·rcases List.mem_append.1 hy with e | e
        ·exact (ae HZ).sl y e
        ·rw [List.mem_singleton.1 e]; exact ae HS5
      ·have i1 : ¬ (i : Int) < (m : Int) := by omega
       have hmp := (ae HZ).map
       rw [List.take_of_length_le (by have := ae HM; omega)] at hmp
       have hl : n = m := by rw [(ae HZ).nl, ← ae HM, ← hmp, List.length_map]
       have hdn := (ae HZ).dns
       rw [hmp] at hdn
       have HDU := ag hdn
       clear hmp hdn
       have HC1 := ag (fun W (hk : Kp [] wr W) => gw aD cD ds W (((ae HD).kp0 (ae HZ).zoo.kp).kp0 hk) (ae HO).1 (ae HO).2)
       have HC2 := ag (fun W (hk : Kp [] wr W) => kP aU cU ds W ((ae HDU).kp0 hk) (ae HO).1 (ae HO).2)
       rw [ae HM] at HC1 HC2
       rw [← hl] at HC2
       clear hl
       obtain ⟨bs, hbs⟩ : ∃ b, ser ds = b := ⟨_, rfl⟩
       rw [hbs] at HC1 HC2
       clear hbs
       have A9 := ag (ai ((ae HZG).kp0 (ae HZ).zoo.kp) (mt (mh)))
       have A11 := ag (ai ((ae HZG).kp0 (ae HZ).zoo.kp) (mh))
       have heq := yF X
       have hbx : (bX == bX) = true := by simp
       have hbb : (bs == bs) = true := by simp
       go_wp2_with (first | (refine ei (by rfl) _ rfl p9 rfl X (ae A9) ?_) | (refine ej (by rfl) _ rfl p11 rfl X (ae A11) ?_))
       refine (ae HC1 _ (Kp.refl [] _)).mono ?_
       rintro e w8 ⟨rfl, hk8⟩
       have HK8 := ag hk8
       clear hk8
       go_wp2_with fail
       refine (ae HC2 w8 (ae HK8)).mono ?_
       rintro e w10 ⟨rfl, hk10⟩
       have HKF := ag ((ae HZG).kp.trans0 ((ae HZ).zoo.kp.trans0 ((ae HK8).trans0 hk10)))
       clear hk10
       go_wp2_with fail
       go_ret
       exact ⟨by trivial, (ae HKF).below (Nat.le_refl _) (by simp)⟩
   ·go_simp
    have HA1 := ag ((ae HA0).box (ay (fun _ => dv)) 48)
    rw [bI] at HA1
    refine hK.out _ _ (aE (ai (ae HA1) (mt (mt (mh))))) (fun hHeld2 => ?_)
    clear hK K hHeld
    have hHeld := hHeld2
    clear hHeld2
    try simp only [Act.put, sx, sy, sz]
    generalize WD.heap.size = p11 at *
    refine aj (i := 2) rfl (by kernel_rfl) (fun K hK => ?_)
    go_simp
    refine (ae HRA _ _ (ae HA1).kp).mono ?_
    rintro e w6 ⟨a6, c6, zs6, rfl, hr6, hk6, hm6, hs6⟩
    rw [ae HN] at hr6
    have HA2 := ag ((ae HA1).kp0 hk6)
    have HI1 := ag (show bM w6 a6 l by rw [← hm6]; exact fQ hr6 (fun y hy => (hs6 y hy).kp0 (ae HA2).kp))
    rw [ae HN]
    clear hr6 hk6 hm6 hs6
    go_wp2_with fail
    refine hK.out _ _ (aE (ai (ae HA2) (mt (mt (mh))))) (fun hHeld2 => ?_)
    clear hK K hHeld
    have hHeld := hHeld2
    clear hHeld2
    try simp only [Act.put, sx, sy, sz]
    refine aj (i := 3) rfl (by kernel_rfl) (fun K hK => ?_)
    go_simp
    refine (ae HRR _ _ _ (ae HI1)).mono ?_
    rintro e w7 ⟨rfl, hk7⟩
    rw [(ae HXX).1, (ae HXX).2]
    have HA3 := ag ((ae HA2).kp0 hk7)
    clear hk7
    go_wp2_with fail
    refine hK.out _ _ (aE (ai (ae HA3) (mt (mt (mh))))) (fun hHeld2 => ?_)
    clear hK K hHeld
    have hHeld := hHeld2
    clear hHeld2
    try simp only [Act.put, sx, sy, sz]
    refine tk 4 ?_ rfl (by kernel_rfl) (fun _ _ _ h => h) (by rfl) ?_ hHeld ?_;rotate_left;· intro w hSw;(try dsimp only at hSw);go_simp;try with_reducible rfl
    try simp only [Act.put, sx, sy, sz]
    refine tk 5 ?_ rfl (by kernel_rfl) (fun _ _ _ h => h) (by rfl) ?_ hHeld ?_;rotate_left;· intro w hSw;(try dsimp only at hSw);go_simp;try with_reducible rfl
    try simp only [Act.put, sx, sy, sz]
    refine tk 6 ?_ rfl (by kernel_rfl) (fun _ _ _ h => h) (by rfl) ?_ hHeld ?_;rotate_left;· intro w hSw;(try dsimp only at hSw);go_simp;try with_reducible rfl
    try simp only [Act.put, sx, sy, sz]
    refine aj (i := 8) rfl (by kernel_rfl) (fun K hK => ?_)
    rw [if_pos (by rfl)]
    refine wp_store_row 48 _ _ rfl p11 (ay X) rfl rfl 48 _ (ai (ae HA3) (mh)) Tryz.size48 rfl (aS _) ?_
    have HZG := ag (bN (l1 := []) (c' := ay X) (ae HA3))
    refine hK.out _ _ (aE (ai (ae HZG) (mt (mt (mh))))) (fun hHeld2 => ?_)
    clear hK K hHeld
    have hHeld := hHeld2
    clear hHeld2
    simp only [Act.put]
    refine tk 9 ?_ rfl (by kernel_rfl) (fun _ _ _ h => h) (by rfl) ?_ hHeld ?_;rotate_left;· intro w hSw;(try dsimp only at hSw);go_simp;try with_reducible rfl
    try simp only [Act.put, sx, sy, sz]
    refine wpAnyH_done (by kernel_rfl) ?_ _
    generalize World.setRow _ _ _ = W9 at HZG ⊢
    clear hHeld
    have HD := ag ((ae HDD).ins.kp0 (ae HZG).kp)
    go_wp2_with fail
    go_loopw [17, 18] (fun x y wr => ∃ (i : Nat) (aU : Option Addr) (cU n : Nat), i ≤ m ∧ n ≤ i ∧ x = .slice aU n cU ∧ y = .int .i64 i ∧ Hid (∃ ys, RuI ds W9 wr aU cU n i ys)) (fun _ y _ => m - (intOf y).toNat)
    case atStart => exact ⟨0, none, 0, 0, Nat.zero_le _, Nat.le_refl _, rfl, rfl, [], du 39 4 (cg (Kp.refl [] W9)), rfl, rfl, fun y hy => by simp at hy, fun y hy => by simp at hy⟩
    case round =>
     obtain ⟨i, aU, cU, n, hi, hni, rfl, rfl, HI⟩ := hrel
     obtain ⟨ys, hz⟩ := ae HI
     have HZ := ag hz
     clear hz HI
     by_cases hlt : i < m
     ·have i1 : (i : Int) < (m : Int) := by omega
      have i0 : (0 : Int) ≤ (i : Int) := by omega
      have hln : i < ds.length := by have := ae HM; omega
      obtain ⟨g, o, rfl, hb⟩ := (ae HD) (by omega)
      obtain ⟨x, hx⟩ : ∃ x, ds[i]? = some x := ⟨_, List.getElem?_eq_getElem hln⟩
      have htk : ds.take (i + 1) = ds.take i ++ [x] := by rw [List.take_add_one, hx]; rfl
      have hok := (ae HO).1.2 x (List.mem_of_getElem? hx)
      have hat := hb i x hx
      obtain ⟨la, lc, z3, hls⟩ := hat.ls
      have HT := ag htk
      have HLS := ag hls
      have HG := ag (And.intro hat.c0 (And.intro hat.c1 (And.intro hat.c2 z3)))
      clear hat hb hx hls z3 htk
      obtain ⟨xn, xa, xm, xacts⟩ := x
      dsimp only at HG HLS hok
      have HOK := ag hok
      clear hok
      obtain ⟨ln, hlen⟩ : ∃ ln, xacts.length = ln := ⟨_, rfl⟩
      rw [hlen] at HG
      have HLX := ag hlen
      clear hlen
      go_wp2_with fail
      refine wp_region_held_drew (S := fun w' => w'.cell? ⟨g, o + i * 4, none⟩ = some (.int .i64 xn) ∧ w'.cell? ⟨g, o + i * 4 + 1, none⟩ = some (.int .i64 xa) ∧ w'.cell? ⟨g, o + i * 4 + 2, none⟩ = some (.int .i64 xm) ∧ w'.cell? ⟨g, o + i * 4 + 3, none⟩ = some (.slice la ln lc)) (by kernel_rfl) (dX (ae HG) ((ae HZ).zoo.kp.drew)) (fun hHeld => ?_)
      have HA0 := ag ((ae HZ).zoo.kp0 ((Kp.refl [] wr).drew))
      generalize World.drew _ = WD at HA0 hHeld ⊢
      refine tk 0 ?_ rfl (by kernel_rfl) (fun _ _ _ h => h) (by rfl) ?_ hHeld ?_;rotate_left;· intro w hSw;(try dsimp only at hSw);go_simp;try with_reducible rfl
      try simp only [Act.put, sx, sy, sz]
      refine tk 1 ?_ rfl (by kernel_rfl) (fun _ _ _ h => h) (by rfl) ?_ hHeld ?_;rotate_left;· intro w hSw;(try dsimp only at hSw);go_simp;try with_reducible rfl
      try simp only [Act.put, sx, sy, sz]
      refine tk 2 ?_ rfl (by kernel_rfl) (fun _ _ _ h => h) (by rfl) ?_ hHeld ?_;rotate_left;· intro w hSw;(try dsimp only at hSw);go_simp;try with_reducible rfl
      try simp only [Act.put, sx, sy, sz]
      refine tk 3 ?_ rfl (by kernel_rfl) (fun _ _ _ h => h) (by rfl) ?_ hHeld ?_;rotate_left;· intro w hSw;(try dsimp only at hSw);go_simp;try with_reducible rfl
      try simp only [Act.put, sx, sy, sz]
      refine tk 4 ?_ rfl (by kernel_rfl) (fun _ _ _ h => h) (by rfl) ?_ hHeld ?_;rotate_left;· intro w hSw;(try dsimp only at hSw);go_simp;try with_reducible rfl
      try simp only [Act.put, sx, sy, sz]
      refine tk 5 ?_ rfl (by kernel_rfl) (fun _ _ _ h => h) (by rfl) ?_ hHeld ?_;rotate_left;· intro w hSw;(try dsimp only at hSw);go_simp;try with_reducible rfl
      try simp only [Act.put, sx, sy, sz]
      refine tk 6 ?_ rfl (by kernel_rfl) (fun _ _ _ h => h) (by rfl) ?_ hHeld ?_;rotate_left;· intro w hSw;(try dsimp only at hSw);go_simp;try with_reducible rfl
      try simp only [Act.put, sx, sy, sz]
      refine tk 7 ?_ rfl (by kernel_rfl) (fun _ _ _ h => h) (by rfl) ?_ hHeld ?_;rotate_left;· intro w hSw;(try dsimp only at hSw);go_simp;try with_reducible rfl
      try simp only [Act.put, sx, sy, sz]
      refine tk 8 ?_ rfl (by kernel_rfl) (fun _ _ _ h => h) (by rfl) ?_ hHeld ?_;rotate_left;· intro w hSw;(try dsimp only at hSw);go_simp;try with_reducible rfl
      try simp only [Act.put, sx, sy, sz]
      refine tk 9 ?_ rfl (by kernel_rfl) (fun _ _ _ h => h) (by rfl) ?_ hHeld ?_;rotate_left;· intro w hSw;(try dsimp only at hSw);go_simp;try with_reducible rfl
      try simp only [Act.put, sx, sy, sz]
      refine tk 10 ?_ rfl (by kernel_rfl) (fun _ _ _ h => h) (by rfl) ?_ hHeld ?_;rotate_left;· intro w hSw;(try dsimp only at hSw);go_simp;try with_reducible rfl
      try simp only [Act.put, sx, sy, sz]
      refine tk 11 ?_ rfl (by kernel_rfl) (fun _ _ _ h => h) (by rfl) ?_ hHeld ?_;rotate_left;· intro w hSw;(try dsimp only at hSw);go_simp;try with_reducible rfl
      try simp only [Act.put, sx, sy, sz]
      refine tk 12 ?_ rfl (by kernel_rfl) (fun _ _ _ h => h) (by rfl) ?_ hHeld ?_;rotate_left;· intro w hSw;(try dsimp only at hSw);go_simp;try with_reducible rfl
      try simp only [Act.put, sx, sy, sz]
      refine tk 13 ?_ rfl (by kernel_rfl) (fun _ _ _ h => h) (by rfl) ?_ hHeld ?_;rotate_left;· intro w hSw;(try dsimp only at hSw);go_simp;try with_reducible rfl
      try simp only [Act.put, sx, sy, sz]
      refine tk 14 ?_ rfl (by kernel_rfl) (fun _ _ _ h => h) (by rfl) ?_ hHeld ?_;rotate_left;· intro w hSw;(try dsimp only at hSw);go_simp;try with_reducible rfl
      try simp only [Act.put, sx, sy, sz]
      refine tk 15 ?_ rfl (by kernel_rfl) (fun _ _ _ h => h) (by rfl) ?_ hHeld ?_;rotate_left;· intro w hSw;(try dsimp only at hSw);go_simp;try with_reducible rfl
      try simp only [Act.put, sx, sy, sz]
      refine tk 16 ?_ rfl (by kernel_rfl) (fun _ _ _ h => h) (by rfl) ?_ hHeld ?_;rotate_left;· intro w hSw;(try dsimp only at hSw);go_simp;try with_reducible rfl
      try simp only [Act.put, sx, sy, sz]
      refine tk 17 ?_ rfl (by kernel_rfl) (fun _ _ _ h => h) (by rfl) ?_ hHeld ?_;rotate_left;· intro w hSw;(try dsimp only at hSw);go_simp;try with_reducible rfl
      try simp only [Act.put, sx, sy, sz]
      refine tk 18 ?_ rfl (by kernel_rfl) (fun _ _ _ h => h) (by rfl) ?_ hHeld ?_;rotate_left;· intro w hSw;(try dsimp only at hSw);go_simp;try with_reducible rfl
      try simp only [Act.put, sx, sy, sz]
      refine tk 19 ?_ rfl (by kernel_rfl) (fun _ _ _ h => h) (by rfl) ?_ hHeld ?_;rotate_left;· intro w hSw;(try dsimp only at hSw);go_simp;try with_reducible rfl
      try simp only [Act.put, sx, sy, sz]
      refine tk 20 ?_ rfl (by kernel_rfl) (fun _ _ _ h => h) (by rfl) ?_ hHeld ?_;rotate_left;· intro w hSw;(try dsimp only at hSw);go_simp;try with_reducible rfl
      try simp only [Act.put, sx, sy, sz]
      refine aj (i := 21) rfl (by kernel_rfl) (fun K hK => ?_)
      go_simp
      rw [← ae HLX]
      refine (oH la lc xacts W9 WD (ae HA0).kp (ae HLS) (ae HOK)).mono ?_
      rintro e w5 ⟨a5, c5, zs, rfl, hr5, hk5, hm5, hs5⟩
      have hzl : zs.length = xacts.length := by rw [← hm5, List.length_map]
      rw [← hzl] at hr5
      have HA1 := ag ((ae HA0).cons (o := raT ⟨⟨⟨xn, xa, xm, xacts⟩, a5, c5⟩, zs⟩) (F := ob a5) ⟨hr5, rfl⟩ hk5)
      have HM5 := ag hm5
      have HS5 : Hid (∀ z, z ∈ zs → SlO W9 z.a z.x.l) := hs5
      rw [ae HLX]
      clear hr5 hk5 hm5 hs5 hzl
      go_wp2_with fail
      refine hK.out _ _ (dX (ae HG) (ae HA1).kp) (fun hHeld2 => ?_)
      clear hK K hHeld
      have hHeld := hHeld2
      clear hHeld2
      try simp only [Act.put, sx, sy, sz]
      refine tk 22 ?_ rfl (by kernel_rfl) (fun _ _ _ h => h) (by rfl) ?_ hHeld ?_;rotate_left;· intro w hSw;(try dsimp only at hSw);go_simp;try with_reducible rfl
      try simp only [Act.put, sx, sy, sz]
      refine aj (i := 23) rfl (by kernel_rfl) (fun K hK => ?_)
      go_simp
      have HA2 := ag ((ae HA1).box #[.int .i64 xn, .int .i64 xa, .int .i64 xm, .slice a5 ln c5] 39)
      refine hK.out _ _ (dX (ae HG) (ae HA2).kp) (fun hHeld2 => ?_)
      clear hK K hHeld
      have hHeld := hHeld2
      clear hHeld2
      try simp only [Act.put, sx, sy, sz]
      have HBX := ag (Zoo.var (ae HA2))
      have hBw := Zoo.base (ae HA2)
      generalize w5.alloc (.cells #[.int .i64 xn, .int .i64 xa, .int .i64 xm, .slice a5 ln c5] 39) = W1 at *
      generalize w5.heap.size = p3 at *
      refine aj (i := 24) rfl (by kernel_rfl) (fun K hK => ?_)
      refine bd (by rfl) (.tmp 145) (.tmp 168) 33 (by rfl) hu Tryz.info39 rfl (by omega) (bq (l1 := [au p3 #[.int .i64 xn, .int .i64 xa, .int .i64 xm, .slice a5 ln c5] 39, raT ⟨⟨⟨xn, xa, xm, xacts⟩, a5, c5⟩, zs⟩]) (ae HA2)) hBw (.slice (some ⟨p3, 0, none⟩) 1 1) [.int .i64 xn, .int .i64 xa, .int .i64 xm, .slice a5 ln c5] 1 (by rfl) (by rfl) (aQ (cs := #[.int .i64 xn, .int .i64 xa, .int .i64 xm, .slice a5 ln c5]) hu (ae HBX) rfl (by simp [Value.oneCell'])) (by omega) (n + 1) rfl ?_
      intro a2 c2 w9 g1 g2 g3
      have HA3 := ag (Zoo.tail (cS (l1 := [au p3 #[.int .i64 xn, .int .i64 xa, .int .i64 xm, .slice a5 ln c5] 39, raT ⟨⟨⟨xn, xa, xm, xacts⟩, a5, c5⟩, zs⟩]) (ae HA2) (ae g1) (ae g2) (ae g3)))
      refine hK.out _ _ (dX (ae HG) (ae HA3).kp) (fun hHeld2 => ?_)
      clear hK K hHeld
      have hHeld := hHeld2
      clear hHeld2
      try simp only [Act.put, sx, sy, sz]
      refine tk 25 ?_ rfl (by kernel_rfl) (fun _ _ _ h => h) (by rfl) ?_ hHeld ?_;rotate_left;· intro w hSw;(try dsimp only at hSw);go_simp;try with_reducible rfl
      try simp only [Act.put, sx, sy, sz]
      refine wpAnyH_done (by kernel_rfl) ?_ _
      clear hHeld g1 g2 g3
      go_wp2_with fail
      refine ⟨⟨i + 1, a2, c2, n + 1, by omega, by omega, rfl, by go_num, ys ++ [⟨⟨⟨xn, xa, xm, xacts⟩, a5, c5⟩, zs⟩], ?_, ?_, ?_, fun y hy => ?_, fun y hy => ?_⟩, by simp [intOf]; omega⟩
      ·have e1 : aP ((ys ++ [(⟨⟨⟨xn, xa, xm, xacts⟩, a5, c5⟩, zs⟩ : Dy)]).map Dy.x) = aP (ys.map Dy.x) ++ [.int .i64 xn, .int .i64 xa, .int .i64 xm, .slice a5 ln c5] := by
        rw [List.map_append, dx]
        simp [aP, dxc, ae HLX]
       rw [e1, List.map_append]
       refine (ae HA3).perm ?_
       have p1 : (raT ⟨⟨⟨xn, xa, xm, xacts⟩, a5, c5⟩, zs⟩ :: KwT 39 4 a2 (n + 1) c2 (aP (ys.map Dy.x) ++ [.int .i64 xn, .int .i64 xa, .int .i64 xm, .slice a5 ln c5]) :: ys.map raT).Perm (KwT 39 4 a2 (n + 1) c2 (aP (ys.map Dy.x) ++ [.int .i64 xn, .int .i64 xa, .int .i64 xm, .slice a5 ln c5]) :: (raT ⟨⟨⟨xn, xa, xm, xacts⟩, a5, c5⟩, zs⟩ :: ys.map raT)) := List.Perm.swap _ _ _
       refine p1.trans (List.Perm.cons _ ?_)
       exact (List.perm_append_comm (l₁ := ys.map raT) (l₂ := [raT ⟨⟨⟨xn, xa, xm, xacts⟩, a5, c5⟩, zs⟩])).symm
      ·rw [List.length_append, (ae HZ).nl]; rfl
      ·rw [List.map_append, (ae HZ).map, ae HT]; rfl
      ·rcases List.mem_append.1 hy with e | e
       ·exact (ae HZ).acts y e
       ·rw [List.mem_singleton.1 e]; exact (ae HM5).symm
      ·rcases List.mem_append.1 hy with e | e
       ·exact (ae HZ).sl y e
       ·rw [List.mem_singleton.1 e]; exact ae HS5
     ·have i1 : ¬ (i : Int) < (m : Int) := by omega
      have hmp := (ae HZ).map
      rw [List.take_of_length_le (by have := ae HM; omega)] at hmp
      have hl : n = m := by rw [(ae HZ).nl, ← ae HM, ← hmp, List.length_map]
      have hdn := (ae HZ).dns
      rw [hmp] at hdn
      have HDU := ag hdn
      clear hmp hdn
      have HC1 := ag (fun W (hk : Kp [] wr W) => gw aD cD ds W (((ae HD).kp0 (ae HZ).zoo.kp).kp0 hk) (ae HO).1 (ae HO).2)
      have HC2 := ag (fun W (hk : Kp [] wr W) => kP aU cU ds W ((ae HDU).kp0 hk) (ae HO).1 (ae HO).2)
      rw [ae HM] at HC1 HC2
      rw [← hl] at HC2
      clear hl
      obtain ⟨bs, hbs⟩ : ∃ b, ser ds = b := ⟨_, rfl⟩
      rw [hbs] at HC1 HC2
      clear hbs
      have A9 := ag (ai ((ae HZG).kp0 (ae HZ).zoo.kp) (mt (mh)))
      have A11 := ag (ai ((ae HZG).kp0 (ae HZ).zoo.kp) (mh))
      have heq := yF X
      have hbx : (bX == bX) = true := by simp
      have hbb : (bs == bs) = true := by simp
      go_wp2_with (first | (refine ei (by rfl) _ rfl p9 rfl X (ae A9) ?_) | (refine ej (by rfl) _ rfl p11 rfl X (ae A11) ?_))
      refine (ae HC1 _ (Kp.refl [] _)).mono ?_
      rintro e w8 ⟨rfl, hk8⟩
      have HK8 := ag hk8
      clear hk8
      go_wp2_with fail
      refine (ae HC2 w8 (ae HK8)).mono ?_
      rintro e w10 ⟨rfl, hk10⟩
      have HKF := ag ((ae HZG).kp.trans0 ((ae HZ).zoo.kp.trans0 ((ae HK8).trans0 hk10)))
      clear hk10
      go_wp2_with fail
      go_ret
      exact ⟨by trivial, (ae HKF).below (Nat.le_refl _) (by simp)⟩
end
end Go.Proofs.YtldkeaeohceckacGreat
