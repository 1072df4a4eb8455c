/- A court's Do: Tear. -/
import Derived.Test.YtehhpmfeaeabgacCt1
namespace Go.Proofs.Ytehhpmfeaeabgac
open Go.RowKit
set_option maxRecDepth 20000
attribute [local go_sem ↓] Go.wp_at_zero Go.wp_at_succ

theorem zoof_mem {B : Nat} {w : World} {os : List Thing} {X : List Nat} {o : Thing} (h : ZooF B w os X) (hm : o ∈ os) : ∃ F, o.holds B w F ∧ ∀ x ∈ F, x ∈ X := by
  obtain ⟨l1, l2, rfl⟩ := List.append_of_mem hm
  obtain ⟨F, Y, _, ⟨F1, Y1, h1, _, _, e1⟩, _, rfl⟩ := zoof_app h
  exact ⟨F1, h1, fun x hx => by rw [e1]; simp [hx]⟩
theorem zoo_mk {w0 w w' : World} {o o' : Thing} {r : List Thing} {F Y : List Nat} (h1 : o.holds w0.heap.size w F) (h2 : ZooF w0.heap.size w r Y) (h3 : ∀ x, x ∈ F → x ∉ Y) (h4 : Kp [] w0 w) (hc : Ch o' w0.heap.size w F w') : Zoo w0 w' (o' :: r) := by
  obtain ⟨F', k1, k2, k3⟩ := hc
  refine ⟨F' ++ Y, ⟨F', Y, k1, h2.kp k2 (fun x hx hf => h3 x hf hx), fun x hx hy => ?_, rfl⟩, h4.trans k2 (fun x hx => .inr (o.lo h1 x hx).1)⟩
  rcases k3 x hx with e | e
  · exact h3 x e hy
  · have := (h2.lo x hy).2; omega
section
variable {w0 w : World} {cb sb : Nat} {h : HSt} {st : Nat → Sd} {r : List Thing}

theorem c_may {s D : Nat} {d : Dp} (hs : s < 5) (hd : st s = some (D, d)) (hrl : d.rs.length ≤ 2000) (hwl : d.ws.length ≤ 900) (hz : Cou w0 w cb sb h st r) :
    Calls Try.prog 55 #[.pointer (some ⟨D, 0, none⟩), .pointer (some ⟨sb, 0, none⟩)] w fun e w' => e = .returned (.int .i64 (dm h.f d.md d.y d.rs d.ws)) ∧ Hid (Cou w0 w' cb sb h st r) := by
  obtain ⟨G, Gr, Gs, bx, k, _⟩ := hz.crt
  obtain ⟨H, hW⟩ := hz.wrk hs hd
  exact (wmay69x w k.s hW (Nat.le_trans hrl (by omega)) hwl).mono (fun e w' ⟨he, hk⟩ => ⟨he, hz.kp0 hk⟩)
theorem c_writes {s D : Nat} {d : Dp} {WW : List Ver} (hWW : wk d.ws 8 = WW) (hs : s < 5) (hd : st s = some (D, d)) (hwl : d.ws.length ≤ 900) (hz : Cou w0 w cb sb h st r) :
    Calls Try.prog 56 #[.pointer (some ⟨D, 0, none⟩)] w fun e w' => ∃ a cap, e = .returned (.slice a WW.length cap) ∧ Hid (Cou w0 w' cb sb h st (PsT a cap WW :: r)) := by
  obtain ⟨H, hW⟩ := hz.wrk hs hd
  subst hWW
  refine (wwrites67 w hW hwl).mono ?_
  rintro e w' ⟨a, cap, rfl, ho, hk⟩
  have h1 : Zoo w0 w' (PsT a cap (wk d.ws 8) :: (CrtT cb sb h.f h.n h.cs [] (ads st) :: (wseats st ++ r))) := Zoo.cons hz (F := ob a) ⟨ho, rfl⟩ hk
  exact ⟨a, cap, rfl, h1.perm (List.perm_middle (l₁ := CrtT cb sb h.f h.n h.cs [] (ads st) :: wseats st)).symm⟩
theorem c_rtear {a : Option Addr} {cap : Nat} {ps : List Ver} (keep : Int) (hp : pf (-1) ps = 0) (hm : PsT a cap ps ∈ r) (hz : Cou w0 w cb sb h st r) :
    Calls Try.prog 57 #[.pointer (some ⟨cb, 1, none⟩), .slice a ps.length cap, .int .i64 keep] w fun e w' => e = .returned (.int .i64 (lcode h.cs ps)) ∧ ∃ torn, Hid (Zoo w0 w' (CrtT cb sb h.f h.n (ltear h.cs ps keep) torn (ads st) :: (wseats st ++ r))) := by
  have hpr := slo_prs (ps_slo (w0 := w0) (cap := cap) hz (List.Mem.tail _ (List.mem_append_right _ hm))) hp
  have hz' := hz
  obtain ⟨X, ⟨G0, Y, ⟨Gr, Gs, bx, k⟩, hY, hd, _⟩, hk0⟩ := hz'
  obtain ⟨FP, hP, hPY⟩ := zoof_mem hY (List.mem_append_right _ hm)
  have hfar : 0 < ps.length → ∀ g o, a = some ⟨g, o, none⟩ → g ∉ Gr := fun _ g o ea hm' => hd g (k.rG g hm') (hPY g (by rw [hP.2, ea]; simp [ob]))
  refine (rxtear a cap ps keep w k.r hpr hfar (by have := pf_len8 hp; omega)).mono ?_
  rintro e w' ⟨rfl, hL⟩
  exact ⟨rfl, _, zoo_mk (o := CrtT cb sb h.f h.n h.cs [] (ads st)) ⟨Gr, Gs, bx, k⟩ hY hd hk0 (k.roll hL)⟩
set_option maxHeartbeats 1000000 in
theorem cdo_tearA (x : HStep) (hx : x.d = 10) {j D : Nat} {d : Dp} (hj : x.s = (j : Int)) (h5 : j < 5) (hsd : st j = some (D, d)) (hs : Sts st h.seat) (hz : Cou w0 w cb sb h st r) (hi : HInv h) (hrl : d.rs.length ≤ 2000) (hwl : d.ws.length ≤ 900) (hz0 : ¬ dm h.f d.md d.y d.rs d.ws = 0) :
    Calls Try.prog 16 #[.pointer (some ⟨cb, 0, none⟩), .agg #[.int .i64 x.d, .int .i64 x.s, .int .i64 x.md, .int .i64 x.at_, .int .i64 x.key, .int .i64 x.to_, .int .i64 x.keep, .string x.b]] w fun e w' => GoEndC w0 cb r (hdo h x) (hev h x) e w' := by
  have HS := hide hs
  have HX := hide (hz.two (xcs x) 37 #[.int .i64 0, .int .i64 0, .bool false, .string ⟨#[]⟩, .slice none 0 0] 34)
  have hjs : x.s.toNat = j := by omega
  have hsj : h.seat j = some d := by rw [← hs j, hsd]; rfl
  have heq := (HKind.tear (h := h) (x := x) d hx ⟨by omega, by omega⟩ (by rw [hjs]; exact hsj)).eq
  rw [heq.1, heq.2]
  clear heq hz hs hsj
  have HI := hide hi
  have hlen := hi.vi.len
  have hn40 := hi.inv.n40
  have HPF := hide ((hi.ok j d (by rw [← unhide HS j, hsd]; rfl)).pf)
  clear hi
  rw [(v_may (cs := h.cs) hz0).1, t_may (keep := x.keep) hz0, tnum_same (t_may (keep := x.keep) hz0)]
  have hzb : (dm h.f d.md d.y d.rs d.ws == 0) = false := beq_eq_false_iff_ne.2 hz0
  clear hz0
  obtain ⟨WW, hWW⟩ : ∃ WW, wk d.ws 8 = WW := ⟨_, rfl⟩
  have HWW := hide hWW
  rw [hWW] at HPF
  have hwl8 := wk_len d.ws 8
  rw [hWW] at hwl8
  clear hWW
  obtain ⟨xd, xs, xm, xa, xk, xt, xp, xb⟩ := x
  dsimp only [xcs] at *
  subst hx hj
  have hsb : seatB (j : Int) = true := decide_eq_true (by omega)
  have i0 : (0 : Int) ≤ (j : Int) := by omega
  have i5 : (j : Int) < 5 := by omega
  go_enter Try.func16, Try.ntmps16
  go_wp2_with fail
  generalize (w.alloc (.cells #[.int .i64 10, .int .i64 (j : Int), .int .i64 xm, .int .i64 xa, .int .i64 xk, .int .i64 xt, .int .i64 xp, .string xb] 37)).alloc (.cells #[.int .i64 0, .int .i64 0, .bool false, .string ⟨#[]⟩, .slice none 0 0] 34) = W at HX ⊢
  generalize w.heap.size = q at HX ⊢
  generalize q + 1 = p at HX ⊢
  have hq := (unhide HX).var (List.Mem.tail _ (List.Mem.head _))
  have x0 : W.cell? ⟨q, 0, none⟩ = some (.int .i64 10) := cell_of_block hq rfl
  have x1 : W.cell? ⟨q, 1, none⟩ = some (.int .i64 (j : Int)) := cell_of_block hq rfl
  clear hq
  have s1 := (unhide HX).cs_ h5
  rw [hsd] at s1
  rw [show ad (some (D, d)) = some ⟨D, 0, none⟩ from rfl] at s1
  refine (isseat (j : Int) _).mono ?_
  rintro e w' ⟨rfl, hw'⟩
  subst w'
  rw [hsb]
  go_wp2_with fail
  go_quiet (fail)
  have HX2 := hide ((unhide HX).kp0 ((Kp.refl [] W).drewN nq))
  clear HX x0 x1 s1
  generalize W.drewN nq = W2 at HX2 ⊢
  have hq := (unhide HX2).var (List.Mem.tail _ (List.Mem.head _))
  have x0 : W2.cell? ⟨q, 0, none⟩ = some (.int .i64 10) := cell_of_block hq rfl
  have x1 : W2.cell? ⟨q, 1, none⟩ = some (.int .i64 (j : Int)) := cell_of_block hq rfl
  have x2 : W2.cell? ⟨q, 2, none⟩ = some (.int .i64 xm) := cell_of_block hq rfl
  have x3 : W2.cell? ⟨q, 3, none⟩ = some (.int .i64 xa) := cell_of_block hq rfl
  have x4 : W2.cell? ⟨q, 4, none⟩ = some (.int .i64 xk) := cell_of_block hq rfl
  have x5 : W2.cell? ⟨q, 5, none⟩ = some (.int .i64 xt) := cell_of_block hq rfl
  have x6 : W2.cell? ⟨q, 6, none⟩ = some (.int .i64 xp) := cell_of_block hq rfl
  have x7 : W2.cell? ⟨q, 7, none⟩ = some (.string xb) := cell_of_block hq rfl
  have ql := lt_of_block hq
  clear hq
  have c0 := (unhide HX2).c0
  go_wp2_with fail
  refine (c_may h5 hsd hrl hwl (unhide HX2)).mono ?_
  rintro e w3 ⟨rfl, HX3⟩
  clear x0 x1 x2 x3 x4 x5 x6 x7 ql c0 HX2
  have c0 := (unhide HX3).c0
  have n0 := (unhide HX3).n0
  go_wp2_with fail
  refine (c_writes (unhide HWW) h5 hsd hwl (unhide HX3)).mono ?_
  rintro e w4 ⟨a, cap, rfl, HX4⟩
  clear c0 n0 HX3
  go_wp2_with fail
  refine (c_again (unhide HX4)).mono ?_
  rintro e w6 ⟨rfl, sb', HY0⟩
  clear HX4
  have HY := hide (unhide HY0).tail
  clear HY0
  have c0 := (unhide HY).c0
  have n0 := (unhide HY).n0
  dsimp only at n0
  have hg1 : ¬ (h.n : Int) < (h.cs.length : Int) := by omega
  obtain ⟨e0, e1, e2, e3, e4, g0, g1, g2, g3, g4⟩ := evF ((unhide HY).var (List.Mem.head _))
  have HLEN := hide hlen
  clear hlen
  go_wp2_with fail
  refine bodyPost_ret (v := .agg #[.int .i64 (dm h.f d.md d.y d.rs d.ws), .int .i64 0, .bool false, .string ⟨#[]⟩, .slice none 0 0]) (by simp [results, Try.results16, go_sem, e0, e1, e2, e3, e4]) rfl ?_
  exact ⟨sb', _, none, 0, rfl, fun _ => rfl, slo_nil _ _, ((unhide HY).fin _ _ _ _ _).as rfl rfl rfl⟩
set_option maxHeartbeats 1000000 in
theorem cdo_tearB (x : HStep) (hx : x.d = 10) {j D : Nat} {d : Dp} (hj : x.s = (j : Int)) (h5 : j < 5) (hsd : st j = some (D, d)) (hs : Sts st h.seat) (hz : Cou w0 w cb sb h st r) (hi : HInv h) (hrl : d.rs.length ≤ 2000) (hwl : d.ws.length ≤ 900) (hz0 : dm h.f d.md d.y d.rs d.ws = 0) (hl0 : (wk d.ws 8).length = 0) :
    Calls Try.prog 16 #[.pointer (some ⟨cb, 0, none⟩), .agg #[.int .i64 x.d, .int .i64 x.s, .int .i64 x.md, .int .i64 x.at_, .int .i64 x.key, .int .i64 x.to_, .int .i64 x.keep, .string x.b]] w fun e w' => GoEndC w0 cb r (hdo h x) (hev h x) e w' := by
  have HS := hide hs
  have HX := hide (hz.two (xcs x) 37 #[.int .i64 0, .int .i64 0, .bool false, .string ⟨#[]⟩, .slice none 0 0] 34)
  have hjs : x.s.toNat = j := by omega
  have hsj : h.seat j = some d := by rw [← hs j, hsd]; rfl
  have heq := (HKind.tear (h := h) (x := x) d hx ⟨by omega, by omega⟩ (by rw [hjs]; exact hsj)).eq
  rw [heq.1, heq.2]
  clear heq hz hs hsj
  have HI := hide hi
  have hlen := hi.vi.len
  have hn40 := hi.inv.n40
  have HPF := hide ((hi.ok j d (by rw [← unhide HS j, hsd]; rfl)).pf)
  clear hi
  rw [(v_none (cs := h.cs) hz0 hl0).1, t_none (f := h.f) (cs := h.cs) (md := d.md) (y := d.y) (rs := d.rs) (keep := x.keep) hl0, tnum_same (t_none (f := h.f) (cs := h.cs) (md := d.md) (y := d.y) (rs := d.rs) (keep := x.keep) hl0)]
  obtain ⟨WW, hWW⟩ : ∃ WW, wk d.ws 8 = WW := ⟨_, rfl⟩
  have HWW := hide hWW
  rw [hWW] at HPF
  have hwl8 := wk_len d.ws 8
  rw [hWW] at hwl8
  rw [hWW] at hl0
  clear hWW
  obtain ⟨xd, xs, xm, xa, xk, xt, xp, xb⟩ := x
  dsimp only [xcs] at *
  subst hx hj
  have hsb : seatB (j : Int) = true := decide_eq_true (by omega)
  have i0 : (0 : Int) ≤ (j : Int) := by omega
  have i5 : (j : Int) < 5 := by omega
  go_enter Try.func16, Try.ntmps16
  go_wp2_with fail
  generalize (w.alloc (.cells #[.int .i64 10, .int .i64 (j : Int), .int .i64 xm, .int .i64 xa, .int .i64 xk, .int .i64 xt, .int .i64 xp, .string xb] 37)).alloc (.cells #[.int .i64 0, .int .i64 0, .bool false, .string ⟨#[]⟩, .slice none 0 0] 34) = W at HX ⊢
  generalize w.heap.size = q at HX ⊢
  generalize q + 1 = p at HX ⊢
  have hq := (unhide HX).var (List.Mem.tail _ (List.Mem.head _))
  have x0 : W.cell? ⟨q, 0, none⟩ = some (.int .i64 10) := cell_of_block hq rfl
  have x1 : W.cell? ⟨q, 1, none⟩ = some (.int .i64 (j : Int)) := cell_of_block hq rfl
  clear hq
  have s1 := (unhide HX).cs_ h5
  rw [hsd] at s1
  rw [show ad (some (D, d)) = some ⟨D, 0, none⟩ from rfl] at s1
  refine (isseat (j : Int) _).mono ?_
  rintro e w' ⟨rfl, hw'⟩
  subst w'
  rw [hsb]
  go_wp2_with fail
  go_quiet (fail)
  have HX2 := hide ((unhide HX).kp0 ((Kp.refl [] W).drewN nq))
  clear HX x0 x1 s1
  generalize W.drewN nq = W2 at HX2 ⊢
  have hq := (unhide HX2).var (List.Mem.tail _ (List.Mem.head _))
  have x0 : W2.cell? ⟨q, 0, none⟩ = some (.int .i64 10) := cell_of_block hq rfl
  have x1 : W2.cell? ⟨q, 1, none⟩ = some (.int .i64 (j : Int)) := cell_of_block hq rfl
  have x2 : W2.cell? ⟨q, 2, none⟩ = some (.int .i64 xm) := cell_of_block hq rfl
  have x3 : W2.cell? ⟨q, 3, none⟩ = some (.int .i64 xa) := cell_of_block hq rfl
  have x4 : W2.cell? ⟨q, 4, none⟩ = some (.int .i64 xk) := cell_of_block hq rfl
  have x5 : W2.cell? ⟨q, 5, none⟩ = some (.int .i64 xt) := cell_of_block hq rfl
  have x6 : W2.cell? ⟨q, 6, none⟩ = some (.int .i64 xp) := cell_of_block hq rfl
  have x7 : W2.cell? ⟨q, 7, none⟩ = some (.string xb) := cell_of_block hq rfl
  have ql := lt_of_block hq
  clear hq
  have c0 := (unhide HX2).c0
  go_wp2_with fail
  refine (c_may h5 hsd hrl hwl (unhide HX2)).mono ?_
  rintro e w3 ⟨rfl, HX3⟩
  rw [hz0]
  clear x0 x1 x2 x3 x4 x5 x6 x7 ql c0 HX2
  have c0 := (unhide HX3).c0
  have n0 := (unhide HX3).n0
  go_wp2_with fail
  refine (c_writes (unhide HWW) h5 hsd hwl (unhide HX3)).mono ?_
  rintro e w4 ⟨a, cap, rfl, HX4⟩
  clear c0 n0 HX3
  rw [hl0]
  go_wp2_with fail
  refine (c_again (unhide HX4)).mono ?_
  rintro e w6 ⟨rfl, sb', HY0⟩
  clear HX4
  have HY := hide (unhide HY0).tail
  clear HY0
  have c0 := (unhide HY).c0
  have n0 := (unhide HY).n0
  dsimp only at n0
  have hg1 : ¬ (h.n : Int) < (h.cs.length : Int) := by omega
  obtain ⟨e0, e1, e2, e3, e4, g0, g1, g2, g3, g4⟩ := evF ((unhide HY).var (List.Mem.head _))
  have HLEN := hide hlen
  clear hlen
  go_wp2_with fail
  refine bodyPost_ret (v := .agg #[.int .i64 0, .int .i64 0, .bool false, .string ⟨#[]⟩, .slice none 0 0]) (by simp [results, Try.results16, go_sem, e0, e1, e2, e3, e4]) rfl ?_
  exact ⟨sb', _, none, 0, rfl, fun _ => rfl, slo_nil _ _, ((unhide HY).fin _ _ _ _ _).as rfl rfl rfl⟩
set_option maxHeartbeats 1000000 in
theorem cdo_tearC (x : HStep) (hx : x.d = 10) {j D : Nat} {d : Dp} (hj : x.s = (j : Int)) (h5 : j < 5) (hsd : st j = some (D, d)) (hs : Sts st h.seat) (hz : Cou w0 w cb sb h st r) (hi : HInv h) (hrl : d.rs.length ≤ 2000) (hwl : d.ws.length ≤ 900) (hz0 : dm h.f d.md d.y d.rs d.ws = 0) (hl0 : ¬ (wk d.ws 8).length = 0) (hgt : h.cs.length < (ltear h.cs (wk d.ws 8) x.keep).length) :
    Calls Try.prog 16 #[.pointer (some ⟨cb, 0, none⟩), .agg #[.int .i64 x.d, .int .i64 x.s, .int .i64 x.md, .int .i64 x.at_, .int .i64 x.key, .int .i64 x.to_, .int .i64 x.keep, .string x.b]] w fun e w' => GoEndC w0 cb r (hdo h x) (hev h x) e w' := by
  have HS := hide hs
  have HX := hide (hz.two (xcs x) 37 #[.int .i64 0, .int .i64 0, .bool false, .string ⟨#[]⟩, .slice none 0 0] 34)
  have hjs : x.s.toNat = j := by omega
  have hsj : h.seat j = some d := by rw [← hs j, hsd]; rfl
  have heq := (HKind.tear (h := h) (x := x) d hx ⟨by omega, by omega⟩ (by rw [hjs]; exact hsj)).eq
  rw [heq.1, heq.2]
  clear heq hz hs hsj
  have HI := hide hi
  have hlen := hi.vi.len
  have hn40 := hi.inv.n40
  have HPF := hide ((hi.ok j d (by rw [← unhide HS j, hsd]; rfl)).pf)
  clear hi
  have hvc : vcode h.f h.cs d.md d.y d.rs d.ws = lcode h.cs (wk d.ws 8) := by unfold vcode; rw [if_pos hz0, if_neg hl0]
  have htn : tnum h.f h.cs d.md d.y d.rs d.ws x.keep = ((ltear h.cs (wk d.ws 8) x.keep).length : Int) := by unfold tnum; rw [t_tear hz0 hl0]; exact if_pos hgt
  rw [hvc, htn, t_tear (keep := x.keep) hz0 hl0]
  clear hvc htn
  have hlt41 : (ltear h.cs (wk d.ws 8) x.keep).length ≤ 41 := by unfold ltear; split <;> (try simp) <;> omega
  obtain ⟨cs', hcs'⟩ : ∃ cs', ltear h.cs (wk d.ws 8) x.keep = cs' := ⟨_, rfl⟩
  have HCS := hide hcs'
  rw [hcs'] at hlt41 hgt ⊢
  clear hcs'
  obtain ⟨z, hz1⟩ : ∃ z, lcode h.cs (wk d.ws 8) = z := ⟨_, rfl⟩
  have HZ1 := hide hz1
  rw [hz1]
  clear hz1
  obtain ⟨WW, hWW⟩ : ∃ WW, wk d.ws 8 = WW := ⟨_, rfl⟩
  have HWW := hide hWW
  rw [hWW] at HPF
  have hwl8 := wk_len d.ws 8
  rw [hWW] at hwl8
  rw [hWW] at hl0 HCS HZ1
  clear hWW
  obtain ⟨xd, xs, xm, xa, xk, xt, xp, xb⟩ := x
  dsimp only [xcs] at *
  subst hx hj
  have hsb : seatB (j : Int) = true := decide_eq_true (by omega)
  have i0 : (0 : Int) ≤ (j : Int) := by omega
  have i5 : (j : Int) < 5 := by omega
  go_enter Try.func16, Try.ntmps16
  go_wp2_with fail
  generalize (w.alloc (.cells #[.int .i64 10, .int .i64 (j : Int), .int .i64 xm, .int .i64 xa, .int .i64 xk, .int .i64 xt, .int .i64 xp, .string xb] 37)).alloc (.cells #[.int .i64 0, .int .i64 0, .bool false, .string ⟨#[]⟩, .slice none 0 0] 34) = W at HX ⊢
  generalize w.heap.size = q at HX ⊢
  generalize q + 1 = p at HX ⊢
  have hq := (unhide HX).var (List.Mem.tail _ (List.Mem.head _))
  have x0 : W.cell? ⟨q, 0, none⟩ = some (.int .i64 10) := cell_of_block hq rfl
  have x1 : W.cell? ⟨q, 1, none⟩ = some (.int .i64 (j : Int)) := cell_of_block hq rfl
  clear hq
  have s1 := (unhide HX).cs_ h5
  rw [hsd] at s1
  rw [show ad (some (D, d)) = some ⟨D, 0, none⟩ from rfl] at s1
  refine (isseat (j : Int) _).mono ?_
  rintro e w' ⟨rfl, hw'⟩
  subst w'
  rw [hsb]
  go_wp2_with fail
  go_quiet (fail)
  have HX2 := hide ((unhide HX).kp0 ((Kp.refl [] W).drewN nq))
  clear HX x0 x1 s1
  generalize W.drewN nq = W2 at HX2 ⊢
  have hq := (unhide HX2).var (List.Mem.tail _ (List.Mem.head _))
  have x0 : W2.cell? ⟨q, 0, none⟩ = some (.int .i64 10) := cell_of_block hq rfl
  have x1 : W2.cell? ⟨q, 1, none⟩ = some (.int .i64 (j : Int)) := cell_of_block hq rfl
  have x2 : W2.cell? ⟨q, 2, none⟩ = some (.int .i64 xm) := cell_of_block hq rfl
  have x3 : W2.cell? ⟨q, 3, none⟩ = some (.int .i64 xa) := cell_of_block hq rfl
  have x4 : W2.cell? ⟨q, 4, none⟩ = some (.int .i64 xk) := cell_of_block hq rfl
  have x5 : W2.cell? ⟨q, 5, none⟩ = some (.int .i64 xt) := cell_of_block hq rfl
  have x6 : W2.cell? ⟨q, 6, none⟩ = some (.int .i64 xp) := cell_of_block hq rfl
  have x7 : W2.cell? ⟨q, 7, none⟩ = some (.string xb) := cell_of_block hq rfl
  have ql := lt_of_block hq
  clear hq
  have c0 := (unhide HX2).c0
  go_wp2_with fail
  refine (c_may h5 hsd hrl hwl (unhide HX2)).mono ?_
  rintro e w3 ⟨rfl, HX3⟩
  rw [hz0]
  clear x0 x1 x2 x3 x4 x5 x6 x7 ql c0 HX2
  have c0 := (unhide HX3).c0
  have n0 := (unhide HX3).n0
  go_wp2_with fail
  refine (c_writes (unhide HWW) h5 hsd hwl (unhide HX3)).mono ?_
  rintro e w4 ⟨a, cap, rfl, HX4⟩
  clear c0 n0 HX3
  have hl1 : (0 : Int) < (WW.length : Int) := by omega
  have hq := (unhide HX4).var (p := q) (List.Mem.tail _ (List.Mem.tail _ (List.Mem.head _)))
  have x6 : w4.cell? ⟨q, 6, none⟩ = some (.int .i64 xp) := cell_of_block hq rfl
  clear hq
  have HG := hide (fun W' (hk : Kp [] w4 W') => c_rtear xp (unhide HPF) (List.Mem.head _) ((unhide HX4).kp0 hk))
  rw [unhide HCS, unhide HZ1] at HG
  go_wp2_with fail
  go_region_with (go_at_call 57; refine (unhide HG _ (Kp.refl [] w4).drew).mono ?_; rintro e w5 ⟨rfl, torn, HX5⟩)
  all_goals
    clear x6 HG HX4
    go_wp2_with fail
    refine (c_again (unhide HX5)).mono ?_
    rintro e w6 ⟨rfl, sb', HY0⟩
    clear HX5
    have HY := hide (unhide HY0).tail
    clear HY0
    have c0 := (unhide HY).c0
    have n0 := (unhide HY).n0
    dsimp only at n0
    have hsl := (unhide HY).sl
    obtain ⟨e0, e1, e2, e3, e4, g0, g1, g2, g3, g4⟩ := evF ((unhide HY).var (List.Mem.head _))
    have hg1 : (h.n : Int) < (cs'.length : Int) := by omega
    have HGT := hide hgt
    have HLEN := hide hlen
    clear hgt hlen
    go_wp2_with fail
    refine bodyPost_ret (v := .agg #[.int .i64 z, .int .i64 (cs'.length : Int), .bool false, .string ⟨#[]⟩, .slice none 0 0]) (by simp [results, Try.results16, go_sem, e0, e1, e2, e3, e4]) rfl ?_
    exact ⟨sb', _, none, 0, rfl, fun _ => rfl, slo_nil _ _, ((unhide HY).fin _ _ _ _ _).as rfl rfl rfl⟩
set_option maxHeartbeats 1000000 in
theorem cdo_tearD (x : HStep) (hx : x.d = 10) {j D : Nat} {d : Dp} (hj : x.s = (j : Int)) (h5 : j < 5) (hsd : st j = some (D, d)) (hs : Sts st h.seat) (hz : Cou w0 w cb sb h st r) (hi : HInv h) (hrl : d.rs.length ≤ 2000) (hwl : d.ws.length ≤ 900) (hz0 : dm h.f d.md d.y d.rs d.ws = 0) (hl0 : ¬ (wk d.ws 8).length = 0) (hgt : ¬ h.cs.length < (ltear h.cs (wk d.ws 8) x.keep).length) :
    Calls Try.prog 16 #[.pointer (some ⟨cb, 0, none⟩), .agg #[.int .i64 x.d, .int .i64 x.s, .int .i64 x.md, .int .i64 x.at_, .int .i64 x.key, .int .i64 x.to_, .int .i64 x.keep, .string x.b]] w fun e w' => GoEndC w0 cb r (hdo h x) (hev h x) e w' := by
  have HS := hide hs
  have HX := hide (hz.two (xcs x) 37 #[.int .i64 0, .int .i64 0, .bool false, .string ⟨#[]⟩, .slice none 0 0] 34)
  have hjs : x.s.toNat = j := by omega
  have hsj : h.seat j = some d := by rw [← hs j, hsd]; rfl
  have heq := (HKind.tear (h := h) (x := x) d hx ⟨by omega, by omega⟩ (by rw [hjs]; exact hsj)).eq
  rw [heq.1, heq.2]
  clear heq hz hs hsj
  have HI := hide hi
  have hlen := hi.vi.len
  have hn40 := hi.inv.n40
  have HPF := hide ((hi.ok j d (by rw [← unhide HS j, hsd]; rfl)).pf)
  clear hi
  have hvc : vcode h.f h.cs d.md d.y d.rs d.ws = lcode h.cs (wk d.ws 8) := by unfold vcode; rw [if_pos hz0, if_neg hl0]
  have htn : tnum h.f h.cs d.md d.y d.rs d.ws x.keep = 0 := by unfold tnum; rw [t_tear hz0 hl0]; exact if_neg hgt
  rw [hvc, htn, t_tear (keep := x.keep) hz0 hl0]
  clear hvc htn
  have hlt41 : (ltear h.cs (wk d.ws 8) x.keep).length ≤ 41 := by unfold ltear; split <;> (try simp) <;> omega
  obtain ⟨cs', hcs'⟩ : ∃ cs', ltear h.cs (wk d.ws 8) x.keep = cs' := ⟨_, rfl⟩
  have HCS := hide hcs'
  rw [hcs'] at hlt41 hgt ⊢
  clear hcs'
  obtain ⟨z, hz1⟩ : ∃ z, lcode h.cs (wk d.ws 8) = z := ⟨_, rfl⟩
  have HZ1 := hide hz1
  rw [hz1]
  clear hz1
  obtain ⟨WW, hWW⟩ : ∃ WW, wk d.ws 8 = WW := ⟨_, rfl⟩
  have HWW := hide hWW
  rw [hWW] at HPF
  have hwl8 := wk_len d.ws 8
  rw [hWW] at hwl8
  rw [hWW] at hl0 HCS HZ1
  clear hWW
  obtain ⟨xd, xs, xm, xa, xk, xt, xp, xb⟩ := x
  dsimp only [xcs] at *
  subst hx hj
  have hsb : seatB (j : Int) = true := decide_eq_true (by omega)
  have i0 : (0 : Int) ≤ (j : Int) := by omega
  have i5 : (j : Int) < 5 := by omega
  go_enter Try.func16, Try.ntmps16
  go_wp2_with fail
  generalize (w.alloc (.cells #[.int .i64 10, .int .i64 (j : Int), .int .i64 xm, .int .i64 xa, .int .i64 xk, .int .i64 xt, .int .i64 xp, .string xb] 37)).alloc (.cells #[.int .i64 0, .int .i64 0, .bool false, .string ⟨#[]⟩, .slice none 0 0] 34) = W at HX ⊢
  generalize w.heap.size = q at HX ⊢
  generalize q + 1 = p at HX ⊢
  have hq := (unhide HX).var (List.Mem.tail _ (List.Mem.head _))
  have x0 : W.cell? ⟨q, 0, none⟩ = some (.int .i64 10) := cell_of_block hq rfl
  have x1 : W.cell? ⟨q, 1, none⟩ = some (.int .i64 (j : Int)) := cell_of_block hq rfl
  clear hq
  have s1 := (unhide HX).cs_ h5
  rw [hsd] at s1
  rw [show ad (some (D, d)) = some ⟨D, 0, none⟩ from rfl] at s1
  refine (isseat (j : Int) _).mono ?_
  rintro e w' ⟨rfl, hw'⟩
  subst w'
  rw [hsb]
  go_wp2_with fail
  go_quiet (fail)
  have HX2 := hide ((unhide HX).kp0 ((Kp.refl [] W).drewN nq))
  clear HX x0 x1 s1
  generalize W.drewN nq = W2 at HX2 ⊢
  have hq := (unhide HX2).var (List.Mem.tail _ (List.Mem.head _))
  have x0 : W2.cell? ⟨q, 0, none⟩ = some (.int .i64 10) := cell_of_block hq rfl
  have x1 : W2.cell? ⟨q, 1, none⟩ = some (.int .i64 (j : Int)) := cell_of_block hq rfl
  have x2 : W2.cell? ⟨q, 2, none⟩ = some (.int .i64 xm) := cell_of_block hq rfl
  have x3 : W2.cell? ⟨q, 3, none⟩ = some (.int .i64 xa) := cell_of_block hq rfl
  have x4 : W2.cell? ⟨q, 4, none⟩ = some (.int .i64 xk) := cell_of_block hq rfl
  have x5 : W2.cell? ⟨q, 5, none⟩ = some (.int .i64 xt) := cell_of_block hq rfl
  have x6 : W2.cell? ⟨q, 6, none⟩ = some (.int .i64 xp) := cell_of_block hq rfl
  have x7 : W2.cell? ⟨q, 7, none⟩ = some (.string xb) := cell_of_block hq rfl
  have ql := lt_of_block hq
  clear hq
  have c0 := (unhide HX2).c0
  go_wp2_with fail
  refine (c_may h5 hsd hrl hwl (unhide HX2)).mono ?_
  rintro e w3 ⟨rfl, HX3⟩
  rw [hz0]
  clear x0 x1 x2 x3 x4 x5 x6 x7 ql c0 HX2
  have c0 := (unhide HX3).c0
  have n0 := (unhide HX3).n0
  go_wp2_with fail
  refine (c_writes (unhide HWW) h5 hsd hwl (unhide HX3)).mono ?_
  rintro e w4 ⟨a, cap, rfl, HX4⟩
  clear c0 n0 HX3
  have hl1 : (0 : Int) < (WW.length : Int) := by omega
  have hq := (unhide HX4).var (p := q) (List.Mem.tail _ (List.Mem.tail _ (List.Mem.head _)))
  have x6 : w4.cell? ⟨q, 6, none⟩ = some (.int .i64 xp) := cell_of_block hq rfl
  clear hq
  have HG := hide (fun W' (hk : Kp [] w4 W') => c_rtear xp (unhide HPF) (List.Mem.head _) ((unhide HX4).kp0 hk))
  rw [unhide HCS, unhide HZ1] at HG
  go_wp2_with fail
  go_region_with (go_at_call 57; refine (unhide HG _ (Kp.refl [] w4).drew).mono ?_; rintro e w5 ⟨rfl, torn, HX5⟩)
  all_goals
    clear x6 HG HX4
    go_wp2_with fail
    refine (c_again (unhide HX5)).mono ?_
    rintro e w6 ⟨rfl, sb', HY0⟩
    clear HX5
    have HY := hide (unhide HY0).tail
    clear HY0
    have c0 := (unhide HY).c0
    have n0 := (unhide HY).n0
    dsimp only at n0
    have hsl := (unhide HY).sl
    obtain ⟨e0, e1, e2, e3, e4, g0, g1, g2, g3, g4⟩ := evF ((unhide HY).var (List.Mem.head _))
    have hg1 : ¬ (h.n : Int) < (cs'.length : Int) := by omega
    have HGT := hide hgt
    have HLEN := hide hlen
    clear hgt hlen
    go_wp2_with fail
    refine bodyPost_ret (v := .agg #[.int .i64 z, .int .i64 0, .bool false, .string ⟨#[]⟩, .slice none 0 0]) (by simp [results, Try.results16, go_sem, e0, e1, e2, e3, e4]) rfl ?_
    exact ⟨sb', _, none, 0, rfl, fun _ => rfl, slo_nil _ _, ((unhide HY).fin _ _ _ _ _).as rfl rfl rfl⟩
end
end Go.Proofs.Ytehhpmfeaeabgac
