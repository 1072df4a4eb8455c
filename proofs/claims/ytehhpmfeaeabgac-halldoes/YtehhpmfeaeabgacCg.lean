/- The document's court: Do of SAbort. -/
import Derived.Test.YtehhpmfeaeabgacCf
namespace Go.Proofs.Ytehhpmfeaeabgac
open Go.RowKit
set_option maxRecDepth 20000
attribute [local go_sem ↓] Go.wp_at_zero Go.wp_at_succ

set_option maxHeartbeats 1000000 in
theorem cdo_abort {B cb sb n wb : Nat} {G Gr Gs : List Nat} {bx : Array Value} {f : Nat → List Ver} {cs : List (List Ver)} {torn : List UInt8} {st : Nat → Option Addr} {s : Nat} (x : HStep) (w : World) (h : Crt B w cb sb G Gr Gs bx f n cs torn st) (hd : x.d = 7) (hs : s < 5) (hx : x.s = (s : Int)) (hst : st s = some ⟨wb, 0, none⟩) :
    Calls Try.prog 16 #[.pointer (some ⟨cb, 0, none⟩), .agg #[.int .i64 x.d, .int .i64 x.s, .int .i64 x.md, .int .i64 x.at_, .int .i64 x.key, .int .i64 x.to_, .int .i64 x.keep, .string x.b]] w fun e w' => e = .returned (.agg #[.int .i64 0, .int .i64 0, .bool false, .string ⟨#[]⟩, .slice none 0 0]) ∧ Ch (CrtT cb sb f n cs torn (upd st s none)) B w G w' := by
  have HLO := hide (fun z (hz : z ∈ G) => (h.lo z hz).2)
  have HSI := hide (fun W (hk : Kp [] w W) => (h.kp0 hk).sit hs none)
  have HFZ := hide (fun W (hk : Kp [] w W) => (h.kp0 hk).fz (3 + s))
  have HDO := hide (doX w x)
  obtain ⟨xd, xs, xm, xa, xk, xt, xp, xb⟩ := x
  dsimp only at *
  subst hd hx
  have hsb : seatB (s : Int) = true := decide_eq_true (by omega)
  have s0 := h.seat hs
  rw [hst] at s0
  have hcb := (h.lo cb h.cG).2
  have i0 : (0 : Int) ≤ (s : Int) := by omega
  have i5 : (s : Int) < 5 := by omega
  clear h hst
  go_enter Try.func16, Try.ntmps16
  go_wp2_with fail
  generalize hW : (w.alloc (.cells #[.int .i64 7, .int .i64 (s : Int), .int .i64 xm, .int .i64 xa, .int .i64 xk, .int .i64 xt, .int .i64 xp, .string xb] 37)).alloc (.cells #[.int .i64 0, .int .i64 0, .bool false, .string ⟨#[]⟩, .slice none 0 0] 34) = W at HDO ⊢
  clear hW
  generalize hq : w.heap.size = q at HDO ⊢
  clear hq
  generalize q + 1 = p at HDO ⊢
  obtain ⟨x0, x1, x2, x3, x4, x5, x6, x7⟩ := (unhide HDO).s.c
  obtain ⟨e0, e1, e2, e3, e4, g0, g1, g2, g3, g4⟩ := (unhide HDO).e.c
  dsimp only at x0 x1 x2 x3 x4 x5 x6 x7
  refine (isseat (s : Int) _).mono ?_
  rintro e w' ⟨rfl, hw'⟩
  subst w'
  rw [hsb]
  have s1 := (unhide HDO).kp.cell (by simp) s0
  go_wp2_with fail
  go_quiet (fail)
  have z2 := unhide HFZ _ (unhide HDO).kp
  have hpc : p ≠ cb := by have := (unhide HDO).hp; omega
  have hcp : cb ≠ p := fun e => hpc e.symm
  have HX := hide (unhide HSI _ ((unhide HDO).kp.drewN (nq + 1)))
  go_wp2_with fail
  go_region
  all_goals
    go_wp2_with fail
    refine bodyPost_ret (v := .agg #[.int .i64 0, .int .i64 0, .bool false, .string ⟨#[]⟩, .slice none 0 0]) (by simp [results, Try.results16, go_sem, e0, e1, e2, e3, e4]) rfl ⟨rfl, ?_⟩
    exact (unhide HX).side ((unhide HDO).kp.drewN (nq + 1)) (unhide HLO) (by have := (unhide HDO).hp; omega) (lt_of_block ((unhide HDO).kp0 ((Kp.refl [] W).drewN (nq + 1))).e) (ev5 _ _ _ _ _)
end Go.Proofs.Ytehhpmfeaeabgac
