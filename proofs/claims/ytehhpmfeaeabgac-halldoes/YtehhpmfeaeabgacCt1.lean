/- A court's Do: Begin; Commit. -/
import Derived.Test.YtehhpmfeaeabgacCb
namespace Go.Proofs.Ytehhpmfeaeabgac
open Go.RowKit
set_option maxRecDepth 20000
attribute [local go_sem ↓] Go.wp_at_zero Go.wp_at_succ

/-- What a court's Do leaves. -/
def GoEndC (w0 : World) (cb : Nat) (r : List Thing) (h' : HSt) (v : Ev) (e : Ending) (w' : World) : Prop := ∃ sb' st' a cap, e = .returned (.agg #[.int .i64 v.c, .int .i64 v.n, .bool v.t, .string v.s, .slice a v.l.length cap]) ∧ Sts st' h'.seat ∧ Hid (SlO w' a v.l) ∧ Hid (Cou w0 w' cb sb' h' st' r)
theorem slo_nil (w : World) (a : Option Addr) : SlO w a [] := fun h => by simp at h
theorem slo_kp {w w' : World} {a : Option Addr} {l : List Ver} {S : List Nat} (h : SlO w a l) (hk : Kp S w w') (hS : ∀ x ∈ ob a, x ∉ S) : SlO w' a l := fun hp => by
  obtain ⟨g, o, e, hs⟩ := h hp
  subst e
  exact ⟨g, o, rfl, hs.kp hk (hS g (by simp [ob]))⟩
section
variable {w0 w : World} {cb sb : Nat} {h : HSt} {st : Nat → Sd} {r : List Thing}
set_option maxHeartbeats 1000000 in
theorem cdo_begun (x : HStep) (hx : x.d = 1) {j : Nat} (hj : x.s = (j : Int)) (h5 : j < 5) (hsd : st j = none) (hb0 : bcode h.f h.n x.md x.at_ = 0) (hs : Sts st h.seat) (hz : Cou w0 w cb sb h st r) :
    Calls Try.prog 16 #[.pointer (some ⟨cb, 0, none⟩), .agg #[.int .i64 x.d, .int .i64 x.s, .int .i64 x.md, .int .i64 x.at_, .int .i64 x.key, .int .i64 x.to_, .int .i64 x.keep, .string x.b]] w fun e w' => GoEndC w0 cb r (hdo h x) (hev h x) e w' := by
  have HS := hide hs
  have HX := hide (hz.two (xcs x) 37 #[.int .i64 0, .int .i64 0, .bool false, .string ⟨#[]⟩, .slice none 0 0] 34)
  have hjs : x.s.toNat = j := by omega
  have hsj : h.seat j = none := by rw [← hs j, hsd]; rfl
  have heq := (HKind.began (h := h) (x := x) hx ⟨by omega, by omega⟩ (by rw [hjs]; exact hsj) hb0).eq
  rw [heq.1, heq.2]
  clear heq hz hs hsj
  have HB0 := hide hb0
  clear hb0
  obtain ⟨xd, xs, xm, xa, xk, xt, xp, xb⟩ := x
  dsimp only [xcs] at *
  subst hx hj
  have hsb : seatB (j : Int) = true := decide_eq_true (by omega)
  have i0 : (0 : Int) ≤ (j : Int) := by omega
  have i5 : (j : Int) < 5 := by omega
  go_enter Try.func16, Try.ntmps16
  go_wp2_with fail
  generalize (w.alloc (.cells #[.int .i64 1, .int .i64 (j : Int), .int .i64 xm, .int .i64 xa, .int .i64 xk, .int .i64 xt, .int .i64 xp, .string xb] 37)).alloc (.cells #[.int .i64 0, .int .i64 0, .bool false, .string ⟨#[]⟩, .slice none 0 0] 34) = W at HX ⊢
  generalize w.heap.size = q at HX ⊢
  generalize q + 1 = p at HX ⊢
  have hq := (unhide HX).var (List.Mem.tail _ (List.Mem.head _))
  have x0 : W.cell? ⟨q, 0, none⟩ = some (.int .i64 1) := cell_of_block hq rfl
  have x1 : W.cell? ⟨q, 1, none⟩ = some (.int .i64 (j : Int)) := cell_of_block hq rfl
  clear hq
  have s1 := (unhide HX).cs_ h5
  rw [hsd] at s1
  rw [show ad none = none from rfl] at s1
  refine (isseat (j : Int) _).mono ?_
  rintro e w' ⟨rfl, hw'⟩
  subst w'
  rw [hsb]
  go_wp2_with fail
  go_quiet (fail)
  have HX2 := hide ((unhide HX).kp0 ((Kp.refl [] W).drewN nq))
  clear HX x0 x1 s1
  generalize W.drewN nq = W2 at HX2 ⊢
  have hq := (unhide HX2).var (List.Mem.tail _ (List.Mem.head _))
  have x0 : W2.cell? ⟨q, 0, none⟩ = some (.int .i64 1) := cell_of_block hq rfl
  have x1 : W2.cell? ⟨q, 1, none⟩ = some (.int .i64 (j : Int)) := cell_of_block hq rfl
  have x2 : W2.cell? ⟨q, 2, none⟩ = some (.int .i64 xm) := cell_of_block hq rfl
  have x3 : W2.cell? ⟨q, 3, none⟩ = some (.int .i64 xa) := cell_of_block hq rfl
  have x4 : W2.cell? ⟨q, 4, none⟩ = some (.int .i64 xk) := cell_of_block hq rfl
  have x5 : W2.cell? ⟨q, 5, none⟩ = some (.int .i64 xt) := cell_of_block hq rfl
  have x6 : W2.cell? ⟨q, 6, none⟩ = some (.int .i64 xp) := cell_of_block hq rfl
  have x7 : W2.cell? ⟨q, 7, none⟩ = some (.string xb) := cell_of_block hq rfl
  have ql := lt_of_block hq
  clear hq
  go_wp2_with fail
  refine (c_begin (unhide HB0) (unhide HX2)).mono ?_
  rintro e w3 ⟨D, rfl, HY⟩
  clear x0 x1 x2 x3 x4 x5 x6 x7 ql HX2
  have hq := (unhide HY).var (p := q) (List.Mem.tail _ (List.Mem.tail _ (List.Mem.head _)))
  have x1 : w3.cell? ⟨q, 1, none⟩ = some (.int .i64 (j : Int)) := cell_of_block hq rfl
  clear hq
  have c2 := (unhide HY).cs_ h5
  have f2 := (unhide HY).fz (3 + j)
  rw [hsd] at c2
  rw [show ad none = none from rfl] at c2
  have HN := hide (((unhide HY).sitNew (l1 := []) h5 hsd).kp0 (Kp.refl [] _).drew)
  go_wp2_with fail
  go_region
  clear x1 c2 f2 HY
  generalize World.drew _ = W4 at HN ⊢
  have HY := HN
  obtain ⟨e0, e1, e2, e3, e4, g0, g1, g2, g3, g4⟩ := evF ((unhide HY).var (List.Mem.head _))
  go_wp2_with fail
  refine bodyPost_ret (v := .agg #[.int .i64 0, .int .i64 0, .bool false, .string ⟨#[]⟩, .slice none 0 0]) (by simp [results, Try.results16, go_sem, e0, e1, e2, e3, e4]) rfl ?_
  exact ⟨sb, upd st j (some (D, _)), none, 0, rfl, by show Sts _ (upd h.seat ((j : Int).toNat) _); rw [hjs]; exact (unhide HS).put j (some (D, _)), slo_nil _ _, ((unhide HY).fin _ _ _ _ _).as rfl rfl rfl⟩
set_option maxHeartbeats 1000000 in
theorem cdo_begunNot (x : HStep) (hx : x.d = 1) {j : Nat} (hj : x.s = (j : Int)) (h5 : j < 5) (hsd : st j = none) (hb0 : ¬ bcode h.f h.n x.md x.at_ = 0) (hs : Sts st h.seat) (hz : Cou w0 w cb sb h st r) :
    Calls Try.prog 16 #[.pointer (some ⟨cb, 0, none⟩), .agg #[.int .i64 x.d, .int .i64 x.s, .int .i64 x.md, .int .i64 x.at_, .int .i64 x.key, .int .i64 x.to_, .int .i64 x.keep, .string x.b]] w fun e w' => GoEndC w0 cb r (hdo h x) (hev h x) e w' := by
  have HS := hide hs
  have HX := hide (hz.two (xcs x) 37 #[.int .i64 0, .int .i64 0, .bool false, .string ⟨#[]⟩, .slice none 0 0] 34)
  have hjs : x.s.toNat = j := by omega
  have hsj : h.seat j = none := by rw [← hs j, hsd]; rfl
  have heq := (HKind.beganNot (h := h) (x := x) hx ⟨by omega, by omega⟩ (by rw [hjs]; exact hsj) hb0).eq
  rw [heq.1, heq.2]
  clear heq hz hs hsj
  have HB0 := hide hb0
  clear hb0
  generalize hzz : bcode h.f h.n x.md x.at_ = z at HB0 ⊢
  have HZ0 := hide hzz
  clear hzz
  obtain ⟨xd, xs, xm, xa, xk, xt, xp, xb⟩ := x
  dsimp only [xcs] at *
  subst hx hj
  have hsb : seatB (j : Int) = true := decide_eq_true (by omega)
  have i0 : (0 : Int) ≤ (j : Int) := by omega
  have i5 : (j : Int) < 5 := by omega
  go_enter Try.func16, Try.ntmps16
  go_wp2_with fail
  generalize (w.alloc (.cells #[.int .i64 1, .int .i64 (j : Int), .int .i64 xm, .int .i64 xa, .int .i64 xk, .int .i64 xt, .int .i64 xp, .string xb] 37)).alloc (.cells #[.int .i64 0, .int .i64 0, .bool false, .string ⟨#[]⟩, .slice none 0 0] 34) = W at HX ⊢
  generalize w.heap.size = q at HX ⊢
  generalize q + 1 = p at HX ⊢
  have hq := (unhide HX).var (List.Mem.tail _ (List.Mem.head _))
  have x0 : W.cell? ⟨q, 0, none⟩ = some (.int .i64 1) := cell_of_block hq rfl
  have x1 : W.cell? ⟨q, 1, none⟩ = some (.int .i64 (j : Int)) := cell_of_block hq rfl
  clear hq
  have s1 := (unhide HX).cs_ h5
  rw [hsd] at s1
  rw [show ad none = none from rfl] at s1
  refine (isseat (j : Int) _).mono ?_
  rintro e w' ⟨rfl, hw'⟩
  subst w'
  rw [hsb]
  go_wp2_with fail
  go_quiet (fail)
  have HX2 := hide ((unhide HX).kp0 ((Kp.refl [] W).drewN nq))
  clear HX x0 x1 s1
  generalize W.drewN nq = W2 at HX2 ⊢
  have hq := (unhide HX2).var (List.Mem.tail _ (List.Mem.head _))
  have x0 : W2.cell? ⟨q, 0, none⟩ = some (.int .i64 1) := cell_of_block hq rfl
  have x1 : W2.cell? ⟨q, 1, none⟩ = some (.int .i64 (j : Int)) := cell_of_block hq rfl
  have x2 : W2.cell? ⟨q, 2, none⟩ = some (.int .i64 xm) := cell_of_block hq rfl
  have x3 : W2.cell? ⟨q, 3, none⟩ = some (.int .i64 xa) := cell_of_block hq rfl
  have x4 : W2.cell? ⟨q, 4, none⟩ = some (.int .i64 xk) := cell_of_block hq rfl
  have x5 : W2.cell? ⟨q, 5, none⟩ = some (.int .i64 xt) := cell_of_block hq rfl
  have x6 : W2.cell? ⟨q, 6, none⟩ = some (.int .i64 xp) := cell_of_block hq rfl
  have x7 : W2.cell? ⟨q, 7, none⟩ = some (.string xb) := cell_of_block hq rfl
  have ql := lt_of_block hq
  clear hq
  go_wp2_with fail
  refine (c_none (unhide HZ0) (unhide HB0) (unhide HX2)).mono ?_
  rintro e w3 ⟨rfl, HY⟩
  clear x0 x1 x2 x3 x4 x5 x6 x7 ql HX2
  have hq := (unhide HY).var (p := q) (List.Mem.tail _ (List.Mem.head _))
  have x1 : w3.cell? ⟨q, 1, none⟩ = some (.int .i64 (j : Int)) := cell_of_block hq rfl
  clear hq
  have c2 := (unhide HY).cs_ h5
  have f2 := (unhide HY).fz (3 + j)
  rw [hsd] at c2
  rw [show ad none = none from rfl] at c2
  have HN := hide ((by have h9 := (unhide HY).leave h5; rw [upd_id hsd] at h9; exact (h9.tail).kp0 (Kp.refl [] _).drew : Cou w0 _ cb sb h st _))
  go_wp2_with fail
  go_region
  clear x1 c2 f2 HY
  generalize World.drew _ = W4 at HN ⊢
  have HY := HN
  obtain ⟨e0, e1, e2, e3, e4, g0, g1, g2, g3, g4⟩ := evF ((unhide HY).var (List.Mem.head _))
  go_wp2_with fail
  refine bodyPost_ret (v := .agg #[.int .i64 z, .int .i64 0, .bool false, .string ⟨#[]⟩, .slice none 0 0]) (by simp [results, Try.results16, go_sem, e0, e1, e2, e3, e4]) rfl ?_
  exact ⟨sb, st, none, 0, rfl, unhide HS, slo_nil _ _, (unhide HY).fin _ _ _ _ _⟩
set_option maxHeartbeats 1000000 in
theorem cdo_commit (x : HStep) (hx : x.d = 6) {j D : Nat} {d : Dp} (hj : x.s = (j : Int)) (h5 : j < 5) (hsd : st j = some (D, d)) (hs : Sts st h.seat) (hz : Cou w0 w cb sb h st r) (hi : HInv h) (hrl : d.rs.length ≤ 2000) (hwl : d.ws.length ≤ 900) :
    Calls Try.prog 16 #[.pointer (some ⟨cb, 0, none⟩), .agg #[.int .i64 x.d, .int .i64 x.s, .int .i64 x.md, .int .i64 x.at_, .int .i64 x.key, .int .i64 x.to_, .int .i64 x.keep, .string x.b]] w fun e w' => GoEndC w0 cb r (hdo h x) (hev h x) e w' := by
  have HS := hide hs
  have HX := hide (hz.two (xcs x) 37 #[.int .i64 0, .int .i64 0, .bool false, .string ⟨#[]⟩, .slice none 0 0] 34)
  have hjs : x.s.toNat = j := by omega
  have hsj : h.seat j = some d := by rw [← hs j, hsd]; rfl
  have heq := (HKind.commit (h := h) (x := x) d hx ⟨by omega, by omega⟩ (by rw [hjs]; exact hsj)).eq
  rw [heq.1, heq.2]
  clear heq hz hs hsj
  have HI := hide hi
  have HW := hide (hi.ok j d (by rw [← unhide HS j, hsd]; rfl))
  clear hi
  obtain ⟨xd, xs, xm, xa, xk, xt, xp, xb⟩ := x
  dsimp only [xcs] at *
  subst hx hj
  have hsb : seatB (j : Int) = true := decide_eq_true (by omega)
  have i0 : (0 : Int) ≤ (j : Int) := by omega
  have i5 : (j : Int) < 5 := by omega
  go_enter Try.func16, Try.ntmps16
  go_wp2_with fail
  generalize (w.alloc (.cells #[.int .i64 6, .int .i64 (j : Int), .int .i64 xm, .int .i64 xa, .int .i64 xk, .int .i64 xt, .int .i64 xp, .string xb] 37)).alloc (.cells #[.int .i64 0, .int .i64 0, .bool false, .string ⟨#[]⟩, .slice none 0 0] 34) = W at HX ⊢
  generalize w.heap.size = q at HX ⊢
  generalize q + 1 = p at HX ⊢
  have hq := (unhide HX).var (List.Mem.tail _ (List.Mem.head _))
  have x0 : W.cell? ⟨q, 0, none⟩ = some (.int .i64 6) := cell_of_block hq rfl
  have x1 : W.cell? ⟨q, 1, none⟩ = some (.int .i64 (j : Int)) := cell_of_block hq rfl
  clear hq
  have s1 := (unhide HX).cs_ h5
  rw [hsd] at s1
  rw [show ad (some (D, d)) = some ⟨D, 0, none⟩ from rfl] at s1
  refine (isseat (j : Int) _).mono ?_
  rintro e w' ⟨rfl, hw'⟩
  subst w'
  rw [hsb]
  go_wp2_with fail
  go_quiet (fail)
  have HX2 := hide ((unhide HX).kp0 ((Kp.refl [] W).drewN nq))
  clear HX x0 x1 s1
  generalize W.drewN nq = W2 at HX2 ⊢
  have hq := (unhide HX2).var (List.Mem.tail _ (List.Mem.head _))
  have x0 : W2.cell? ⟨q, 0, none⟩ = some (.int .i64 6) := cell_of_block hq rfl
  have x1 : W2.cell? ⟨q, 1, none⟩ = some (.int .i64 (j : Int)) := cell_of_block hq rfl
  have x2 : W2.cell? ⟨q, 2, none⟩ = some (.int .i64 xm) := cell_of_block hq rfl
  have x3 : W2.cell? ⟨q, 3, none⟩ = some (.int .i64 xa) := cell_of_block hq rfl
  have x4 : W2.cell? ⟨q, 4, none⟩ = some (.int .i64 xk) := cell_of_block hq rfl
  have x5 : W2.cell? ⟨q, 5, none⟩ = some (.int .i64 xt) := cell_of_block hq rfl
  have x6 : W2.cell? ⟨q, 6, none⟩ = some (.int .i64 xp) := cell_of_block hq rfl
  have x7 : W2.cell? ⟨q, 7, none⟩ = some (.string xb) := cell_of_block hq rfl
  have ql := lt_of_block hq
  clear hq
  go_wp2_with fail
  refine (c_commit (unhide HI) h5 hsd (unhide HW) hrl hwl (unhide HX2)).mono ?_
  rintro e w3 ⟨rfl, HY⟩
  clear x0 x1 x2 x3 x4 x5 x6 x7 ql HX2
  have hq := (unhide HY).var (p := q) (List.Mem.tail _ (List.Mem.head _))
  have x1 : w3.cell? ⟨q, 1, none⟩ = some (.int .i64 (j : Int)) := cell_of_block hq rfl
  clear hq
  have c2 := (unhide HY).cs_ h5
  have f2 := (unhide HY).fz (3 + j)
  have HN := hide (((unhide HY).leave h5).tail.kp0 (Kp.refl [] _).drew)
  go_wp2_with fail
  go_region
  clear x1 c2 f2 HY
  generalize World.drew _ = W4 at HN ⊢
  have HY := HN
  obtain ⟨e0, e1, e2, e3, e4, g0, g1, g2, g3, g4⟩ := evF ((unhide HY).var (List.Mem.head _))
  go_wp2_with fail
  refine bodyPost_ret (v := .agg #[.int .i64 (vcode h.f h.cs d.md d.y d.rs d.ws), .int .i64 (vnum h.f h.n h.cs d.md d.y d.rs d.ws), .bool false, .string ⟨#[]⟩, .slice none 0 0]) (by simp [results, Try.results16, go_sem, e0, e1, e2, e3, e4]) rfl ?_
  exact ⟨sb, _, none, 0, rfl, by show Sts _ (upd h.seat ((j : Int).toNat) none); rw [hjs]; exact (unhide HS).put j none, slo_nil _ _, ((unhide HY).fin _ _ _ _ _).as rfl rfl rfl⟩
end
end Go.Proofs.Ytehhpmfeaeabgac
