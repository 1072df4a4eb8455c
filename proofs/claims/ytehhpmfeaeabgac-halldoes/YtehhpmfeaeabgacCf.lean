/- The document's court: Do of whatever step; the steps that change nothing. -/
import Derived.Test.YtehhpmfeaeabgacM7
namespace Go.Proofs.Ytehhpmfeaeabgac
open Go.RowKit
set_option maxRecDepth 20000
attribute [local go_sem ↓] Go.wp_at_zero Go.wp_at_succ

def xcells (x : HStep) : Array Value := #[.int .i64 x.d, .int .i64 x.s, .int .i64 x.md, .int .i64 x.at_, .int .i64 x.key, .int .i64 x.to_, .int .i64 x.keep, .string x.b]
/-- The cells of a step in a variable. -/
structure StX (w : World) (q : Nat) (x : HStep) : Prop where
  c0 : w.cell? ⟨q, 0, none⟩ = some (.int .i64 x.d)
  c1 : w.cell? ⟨q, 1, none⟩ = some (.int .i64 x.s)
  c2 : w.cell? ⟨q, 2, none⟩ = some (.int .i64 x.md)
  c3 : w.cell? ⟨q, 3, none⟩ = some (.int .i64 x.at_)
  c4 : w.cell? ⟨q, 4, none⟩ = some (.int .i64 x.key)
  c5 : w.cell? ⟨q, 5, none⟩ = some (.int .i64 x.to_)
  c6 : w.cell? ⟨q, 6, none⟩ = some (.int .i64 x.keep)
  c7 : w.cell? ⟨q, 7, none⟩ = some (.string x.b)
def StXB (w : World) (q : Nat) (x : HStep) : Prop := w.heap[q]? = some (.cells (xcells x) 37 (0, 0))
theorem StXB.c {w : World} {q : Nat} {x : HStep} (h : StXB w q x) : StX w q x := ⟨cell_of_block h rfl, cell_of_block h rfl, cell_of_block h rfl, cell_of_block h rfl, cell_of_block h rfl, cell_of_block h rfl, cell_of_block h rfl, cell_of_block h rfl⟩
/-- The world in which Do begins: the step and the event lie in new variables. -/
structure DoX (w W : World) (q p : Nat) (x : HStep) : Prop where
  kp : Kp [] w W
  s : StXB W q x
  e : EvB W p
  hq : q = w.heap.size
  hp : p = w.heap.size + 1
theorem doX (w : World) (x : HStep) : DoX w ((w.alloc (.cells #[.int .i64 x.d, .int .i64 x.s, .int .i64 x.md, .int .i64 x.at_, .int .i64 x.key, .int .i64 x.to_, .int .i64 x.keep, .string x.b] 37)).alloc (.cells #[.int .i64 0, .int .i64 0, .bool false, .string ⟨#[]⟩, .slice none 0 0] 34)) w.heap.size (w.heap.size + 1) x :=
  ⟨((Kp.refl [] w).alloc _).alloc _, by
    show ((w.alloc _).alloc _).heap[w.heap.size]? = _
    rw [Below.heap_alloc _ _ _ (by simp)]
    exact heap_alloc_new _ _, two_alloc _ _ _, rfl, rfl⟩
theorem DoX.kp0 {w W W' : World} {q p : Nat} {x : HStep} (h : DoX w W q p x) (hk : Kp [] W W') : DoX w W' q p x :=
  ⟨h.kp.trans0 hk, by show W'.heap[q]? = _; rw [hk.block q (lt_of_block h.s) (by simp)]; exact h.s, by show W'.heap[p]? = _; rw [hk.block p (lt_of_block h.e) (by simp)]; exact h.e, h.hq, h.hp⟩
theorem DoX.ch {w W w1 : World} {q p : Nat} {x : HStep} {o' : Thing} {B : Nat} {G : List Nat} (h : DoX w W q p x) (hc : Ch o' B W G w1) (hG : ∀ x, x ∈ G → x < w.heap.size) : StXB w1 q x ∧ EvB w1 p :=
  ⟨hc.far (fun hm => by have := hG _ hm; have := h.hq; omega) h.s, hc.far (fun hm => by have := hG _ hm; have := h.hp; omega) h.e⟩
theorem DoX.back {w W w' : World} {q p : Nat} {x : HStep} (h : DoX w W q p x) (hk : Kp [p] W w') : Kp [] w w' := h.kp.trans hk (fun y hy => .inr (by rw [List.mem_singleton.1 hy, h.hp]; omega))
/-- What is told: an event. -/
def evCells (c n : Int) (t : Bool) (s : ByteArray) (l : Value) : Array Value := #[.int .i64 c, .int .i64 n, .bool t, .string s, l]

set_option maxHeartbeats 1000000 in
theorem cdo_kind (cb : Nat) (x : HStep) (w : World) (hd : x.d < 1 ∨ 10 < x.d) :
    Calls Try.prog 16 #[.pointer (some ⟨cb, 0, none⟩), .agg #[.int .i64 x.d, .int .i64 x.s, .int .i64 x.md, .int .i64 x.at_, .int .i64 x.key, .int .i64 x.to_, .int .i64 x.keep, .string x.b]] w fun e w' => e = .returned (.agg #[.int .i64 3, .int .i64 0, .bool false, .string ⟨#[]⟩, .slice none 0 0]) ∧ Kp [] w w' := by
  obtain ⟨xd, xs, xm, xa, xk, xt, xp, xb⟩ := x
  dsimp only at *
  rcases hd with hd | hd
  · go_enter Try.func16, Try.ntmps16
    go_wp2_with fail
    refine bodyPost_ret (v := .agg #[.int .i64 3, .int .i64 0, .bool false, .string ⟨#[]⟩, .slice none 0 0]) (by simp [results, Try.results16, go_sem]) rfl ⟨rfl, ?_⟩
    exact ((Kp.refl [] w).alloc _).alloc _
  · have hd1 : ¬ xd < 1 := by omega
    go_enter Try.func16, Try.ntmps16
    go_wp2_with fail
    refine bodyPost_ret (v := .agg #[.int .i64 3, .int .i64 0, .bool false, .string ⟨#[]⟩, .slice none 0 0]) (by simp [results, Try.results16, go_sem]) rfl ⟨rfl, ?_⟩
    exact ((Kp.refl [] w).alloc _).alloc _

set_option maxHeartbeats 1000000 in
theorem cdo_range (cb : Nat) (x : HStep) (w : World) (hd : 1 ≤ x.d ∧ x.d ≤ 10 ∧ x.d ≠ 8 ∧ x.d ≠ 9) (hs : ¬ (0 ≤ x.s ∧ x.s < 5)) :
    Calls Try.prog 16 #[.pointer (some ⟨cb, 0, none⟩), .agg #[.int .i64 x.d, .int .i64 x.s, .int .i64 x.md, .int .i64 x.at_, .int .i64 x.key, .int .i64 x.to_, .int .i64 x.keep, .string x.b]] w fun e w' => e = .returned (.agg #[.int .i64 1, .int .i64 0, .bool false, .string ⟨#[]⟩, .slice none 0 0]) ∧ Kp [] w w' := by
  have HDO := hide (doX w x)
  obtain ⟨xd, xs, xm, xa, xk, xt, xp, xb⟩ := x
  dsimp only at *
  have k1 : ¬ xd < 1 := by omega
  have k10 : ¬ 10 < xd := by omega
  have k8 : (xd == 8) = false := beq_eq_false_iff_ne.2 (by omega)
  have k9 : (xd == 9) = false := beq_eq_false_iff_ne.2 (by omega)
  have hsb : seatB xs = false := decide_eq_false hs
  go_enter Try.func16, Try.ntmps16
  go_wp2_with fail
  generalize hW : (w.alloc (.cells #[.int .i64 xd, .int .i64 xs, .int .i64 xm, .int .i64 xa, .int .i64 xk, .int .i64 xt, .int .i64 xp, .string xb] 37)).alloc (.cells #[.int .i64 0, .int .i64 0, .bool false, .string ⟨#[]⟩, .slice none 0 0] 34) = W at HDO ⊢
  clear hW
  generalize hq : w.heap.size = q at HDO ⊢
  clear hq
  generalize q + 1 = p at HDO ⊢
  obtain ⟨x0, x1, x2, x3, x4, x5, x6, x7⟩ := (unhide HDO).s.c
  obtain ⟨e0, e1, e2, e3, e4, g0, g1, g2, g3, g4⟩ := (unhide HDO).e.c
  dsimp only at x0 x1 x2 x3 x4 x5 x6 x7
  refine (isseat xs _).mono ?_
  rintro e w' ⟨rfl, hw'⟩
  subst w'
  rw [hsb]
  go_wp2_with fail
  refine bodyPost_ret (v := .agg #[.int .i64 1, .int .i64 0, .bool false, .string ⟨#[]⟩, .slice none 0 0]) (by simp [results, Try.results16, go_sem, e0, e1, e2, e3, e4]) rfl ⟨rfl, ?_⟩
  exact (unhide HDO).back (ev5 _ _ _ _ _)

set_option maxHeartbeats 1000000 in
theorem cdo_there {B cb sb n wb : Nat} {G Gr Gs : List Nat} {bx : Array Value} {f : Nat → List Ver} {cs : List (List Ver)} {torn : List UInt8} {st : Nat → Option Addr} {s : Nat} (x : HStep) (w : World) (h : Crt B w cb sb G Gr Gs bx f n cs torn st) (hd : x.d = 1) (hs : s < 5) (hx : x.s = (s : Int)) (hst : st s = some ⟨wb, 0, none⟩) :
    Calls Try.prog 16 #[.pointer (some ⟨cb, 0, none⟩), .agg #[.int .i64 x.d, .int .i64 x.s, .int .i64 x.md, .int .i64 x.at_, .int .i64 x.key, .int .i64 x.to_, .int .i64 x.keep, .string x.b]] w fun e w' => e = .returned (.agg #[.int .i64 8, .int .i64 0, .bool false, .string ⟨#[]⟩, .slice none 0 0]) ∧ Kp [] w w' := by
  have HDO := hide (doX w x)
  obtain ⟨xd, xs, xm, xa, xk, xt, xp, xb⟩ := x
  dsimp only at *
  subst hd hx
  have hsb : seatB (s : Int) = true := decide_eq_true (by omega)
  have s0 := h.seat hs
  rw [hst] at s0
  have hcb := (h.lo cb h.cG).2
  have i0 : (0 : Int) ≤ (s : Int) := by omega
  have i5 : (s : Int) < 5 := by omega
  clear h hst
  go_enter Try.func16, Try.ntmps16
  go_wp2_with fail
  generalize hW : (w.alloc (.cells #[.int .i64 1, .int .i64 (s : Int), .int .i64 xm, .int .i64 xa, .int .i64 xk, .int .i64 xt, .int .i64 xp, .string xb] 37)).alloc (.cells #[.int .i64 0, .int .i64 0, .bool false, .string ⟨#[]⟩, .slice none 0 0] 34) = W at HDO ⊢
  clear hW
  generalize hq : w.heap.size = q at HDO ⊢
  clear hq
  generalize q + 1 = p at HDO ⊢
  obtain ⟨x0, x1, x2, x3, x4, x5, x6, x7⟩ := (unhide HDO).s.c
  obtain ⟨e0, e1, e2, e3, e4, g0, g1, g2, g3, g4⟩ := (unhide HDO).e.c
  dsimp only at x0 x1 x2 x3 x4 x5 x6 x7
  refine (isseat (s : Int) _).mono ?_
  rintro e w' ⟨rfl, hw'⟩
  subst w'
  rw [hsb]
  have s1 := (unhide HDO).kp.cell (by simp) s0
  go_wp2_with fail
  go_quiet (fail)
  go_wp2_with fail
  refine bodyPost_ret (v := .agg #[.int .i64 8, .int .i64 0, .bool false, .string ⟨#[]⟩, .slice none 0 0]) (by simp [results, Try.results16, go_sem, e0, e1, e2, e3, e4]) rfl ⟨rfl, ?_⟩
  exact ((unhide HDO).kp0 ((Kp.refl [] W).drewN nq)).back (ev5 _ _ _ _ _)
/-- The document's deed, as a thing. -/
def WkT (wb : Nat) (md y : Int) (rs : List Int) (ws : List Ver) : Thing where
  holds B w F := Wrk B w wb F md y rs ws
  kp := fun h hk hS => h.kp hk hS
  lo := fun h => h.lo
  base := fun h hC => h.base hC

set_option maxHeartbeats 1000000 in
theorem cdo_none {B cb sb n : Nat} {G Gr Gs : List Nat} {bx : Array Value} {f : Nat → List Ver} {cs : List (List Ver)} {torn : List UInt8} {st : Nat → Option Addr} {s : Nat} (x : HStep) (w : World) (h : Crt B w cb sb G Gr Gs bx f n cs torn st) (hd : 2 ≤ x.d ∧ x.d ≤ 10 ∧ x.d ≠ 8 ∧ x.d ≠ 9) (hs : s < 5) (hx : x.s = (s : Int)) (hst : st s = none) :
    Calls Try.prog 16 #[.pointer (some ⟨cb, 0, none⟩), .agg #[.int .i64 x.d, .int .i64 x.s, .int .i64 x.md, .int .i64 x.at_, .int .i64 x.key, .int .i64 x.to_, .int .i64 x.keep, .string x.b]] w fun e w' => e = .returned (.agg #[.int .i64 7, .int .i64 0, .bool false, .string ⟨#[]⟩, .slice none 0 0]) ∧ Kp [] w w' := by
  have HDO := hide (doX w x)
  obtain ⟨xd, xs, xm, xa, xk, xt, xp, xb⟩ := x
  dsimp only at *
  subst hx
  have k1 : ¬ xd < 1 := by omega
  have k10 : ¬ 10 < xd := by omega
  have k8 : (xd == 8) = false := beq_eq_false_iff_ne.2 (by omega)
  have k9 : (xd == 9) = false := beq_eq_false_iff_ne.2 (by omega)
  have k2 : (xd == 1) = false := beq_eq_false_iff_ne.2 (by omega)
  have hsb : seatB (s : Int) = true := decide_eq_true (by omega)
  have s0 := h.seat hs
  rw [hst] at s0
  have hcb := (h.lo cb h.cG).2
  have i0 : (0 : Int) ≤ (s : Int) := by omega
  have i5 : (s : Int) < 5 := by omega
  clear h hst hd
  go_enter Try.func16, Try.ntmps16
  go_wp2_with fail
  generalize hW : (w.alloc (.cells #[.int .i64 xd, .int .i64 (s : Int), .int .i64 xm, .int .i64 xa, .int .i64 xk, .int .i64 xt, .int .i64 xp, .string xb] 37)).alloc (.cells #[.int .i64 0, .int .i64 0, .bool false, .string ⟨#[]⟩, .slice none 0 0] 34) = W at HDO ⊢
  clear hW
  generalize hq : w.heap.size = q at HDO ⊢
  clear hq
  generalize q + 1 = p at HDO ⊢
  obtain ⟨x0, x1, x2, x3, x4, x5, x6, x7⟩ := (unhide HDO).s.c
  obtain ⟨e0, e1, e2, e3, e4, g0, g1, g2, g3, g4⟩ := (unhide HDO).e.c
  dsimp only at x0 x1 x2 x3 x4 x5 x6 x7
  refine (isseat (s : Int) _).mono ?_
  rintro e w' ⟨rfl, hw'⟩
  subst w'
  rw [hsb]
  have s1 := (unhide HDO).kp.cell (by simp) s0
  go_wp2_with fail
  go_quiet (fail)
  go_wp2_with fail
  refine bodyPost_ret (v := .agg #[.int .i64 7, .int .i64 0, .bool false, .string ⟨#[]⟩, .slice none 0 0]) (by simp [results, Try.results16, go_sem, e0, e1, e2, e3, e4]) rfl ⟨rfl, ?_⟩
  exact ((unhide HDO).kp0 ((Kp.refl [] W).drewN nq)).back (ev5 _ _ _ _ _)

set_option maxHeartbeats 1000000 in
theorem cdo_put {B cb sb n wb : Nat} {G Gr Gs : List Nat} {bx : Array Value} {f : Nat → List Ver} {cs : List (List Ver)} {torn : List UInt8} {st : Nat → Option Addr} {s : Nat} (x : HStep) (w : World) (h : Crt B w cb sb G Gr Gs bx f n cs torn st) (hd : x.d = 3) (hs : s < 5) (hx : x.s = (s : Int)) (hst : st s = some ⟨wb, 0, none⟩) {H : List Nat} {md y : Int} {rs : List Int} {ws : List Ver} (hw : Wrk B w wb H md y rs ws) (hb : x.b.size ≤ maxLen) (hwl : ws.length ≤ 900) :
    Calls Try.prog 16 #[.pointer (some ⟨cb, 0, none⟩), .agg #[.int .i64 x.d, .int .i64 x.s, .int .i64 x.md, .int .i64 x.at_, .int .i64 x.key, .int .i64 x.to_, .int .i64 x.keep, .string x.b]] w fun e w' => e = .returned (.agg #[.int .i64 (dpc md x.key true x.b), .int .i64 0, .bool false, .string ⟨#[]⟩, .slice none 0 0]) ∧ Ch (WkT wb md y rs (dpw md ws x.key true x.b)) B w H w' := by
  have HLO := hide (fun z (hz : z ∈ H) => (hw.lo z hz).2)
  have HPT := hide (fun W (hk : Kp [] w W) => wput58 x.key true x.b W (hw.kp0 hk) hb hwl)
  have HDO := hide (doX w x)
  obtain ⟨xd, xs, xm, xa, xk, xt, xp, xb⟩ := x
  dsimp only at *
  subst hd hx
  have hsb : seatB (s : Int) = true := decide_eq_true (by omega)
  have s0 := h.seat hs
  rw [hst] at s0
  have hcb := (h.lo cb h.cG).2
  have i0 : (0 : Int) ≤ (s : Int) := by omega
  have i5 : (s : Int) < 5 := by omega
  clear h hst hw hb hwl
  go_enter Try.func16, Try.ntmps16
  go_wp2_with fail
  generalize hW : (w.alloc (.cells #[.int .i64 3, .int .i64 (s : Int), .int .i64 xm, .int .i64 xa, .int .i64 xk, .int .i64 xt, .int .i64 xp, .string xb] 37)).alloc (.cells #[.int .i64 0, .int .i64 0, .bool false, .string ⟨#[]⟩, .slice none 0 0] 34) = W at HDO ⊢
  clear hW
  generalize hq : w.heap.size = q at HDO ⊢
  clear hq
  generalize q + 1 = p at HDO ⊢
  obtain ⟨x0, x1, x2, x3, x4, x5, x6, x7⟩ := (unhide HDO).s.c
  obtain ⟨e0, e1, e2, e3, e4, g0, g1, g2, g3, g4⟩ := (unhide HDO).e.c
  dsimp only at x0 x1 x2 x3 x4 x5 x6 x7
  refine (isseat (s : Int) _).mono ?_
  rintro e w' ⟨rfl, hw'⟩
  subst w'
  rw [hsb]
  have s1 := (unhide HDO).kp.cell (by simp) s0
  go_wp2_with fail
  go_quiet (fail)
  go_wp2_with fail
  refine (unhide HPT _ ((unhide HDO).kp.drewN _)).mono ?_
  rintro e w1 ⟨rfl, H1, k1, k2, k3⟩
  have hCh : Ch (WkT wb md y rs _) B _ H w1 := ⟨H1, k1, k2, k3⟩
  obtain ⟨hst1, hev1⟩ := ((unhide HDO).kp0 ((Kp.refl [] W).drewN nq)).ch hCh (unhide HLO)
  have HC := hide hCh
  clear hCh hst1 k1 k2 k3 e0 e1 e2 e3 e4 g0 g1 g2 g3 g4
  obtain ⟨e0, e1, e2, e3, e4, g0, g1, g2, g3, g4⟩ := hev1.c
  clear hev1
  go_wp2_with fail
  refine bodyPost_ret (v := .agg #[.int .i64 _, .int .i64 0, .bool false, .string ⟨#[]⟩, .slice none 0 0]) (by simp [results, Try.results16, go_sem, e0, e1, e2, e3, e4]) rfl ⟨rfl, ?_⟩
  exact (unhide HC).side ((unhide HDO).kp.drewN nq) (unhide HLO) (by have := (unhide HDO).hp; omega) (lt_of_block ((unhide HDO).kp0 ((Kp.refl [] W).drewN nq)).e) (ev5 _ _ _ _ _)

set_option maxHeartbeats 1000000 in
theorem cdo_drop {B cb sb n wb : Nat} {G Gr Gs : List Nat} {bx : Array Value} {f : Nat → List Ver} {cs : List (List Ver)} {torn : List UInt8} {st : Nat → Option Addr} {s : Nat} (x : HStep) (w : World) (h : Crt B w cb sb G Gr Gs bx f n cs torn st) (hd : x.d = 4) (hs : s < 5) (hx : x.s = (s : Int)) (hst : st s = some ⟨wb, 0, none⟩) {H : List Nat} {md y : Int} {rs : List Int} {ws : List Ver} (hw : Wrk B w wb H md y rs ws) (hb : x.b.size ≤ maxLen) (hwl : ws.length ≤ 900) :
    Calls Try.prog 16 #[.pointer (some ⟨cb, 0, none⟩), .agg #[.int .i64 x.d, .int .i64 x.s, .int .i64 x.md, .int .i64 x.at_, .int .i64 x.key, .int .i64 x.to_, .int .i64 x.keep, .string x.b]] w fun e w' => e = .returned (.agg #[.int .i64 (dpc md x.key false ⟨#[]⟩), .int .i64 0, .bool false, .string ⟨#[]⟩, .slice none 0 0]) ∧ Ch (WkT wb md y rs (dpw md ws x.key false ⟨#[]⟩)) B w H w' := by
  have HLO := hide (fun z (hz : z ∈ H) => (hw.lo z hz).2)
  have HPT := hide (fun W (hk : Kp [] w W) => wput58 x.key false ⟨#[]⟩ W (hw.kp0 hk) (Nat.zero_le _) hwl)
  have HDO := hide (doX w x)
  obtain ⟨xd, xs, xm, xa, xk, xt, xp, xb⟩ := x
  dsimp only at *
  subst hd hx
  have hsb : seatB (s : Int) = true := decide_eq_true (by omega)
  have s0 := h.seat hs
  rw [hst] at s0
  have hcb := (h.lo cb h.cG).2
  have i0 : (0 : Int) ≤ (s : Int) := by omega
  have i5 : (s : Int) < 5 := by omega
  clear h hst hw hb hwl
  go_enter Try.func16, Try.ntmps16
  go_wp2_with fail
  generalize hW : (w.alloc (.cells #[.int .i64 4, .int .i64 (s : Int), .int .i64 xm, .int .i64 xa, .int .i64 xk, .int .i64 xt, .int .i64 xp, .string xb] 37)).alloc (.cells #[.int .i64 0, .int .i64 0, .bool false, .string ⟨#[]⟩, .slice none 0 0] 34) = W at HDO ⊢
  clear hW
  generalize hq : w.heap.size = q at HDO ⊢
  clear hq
  generalize q + 1 = p at HDO ⊢
  obtain ⟨x0, x1, x2, x3, x4, x5, x6, x7⟩ := (unhide HDO).s.c
  obtain ⟨e0, e1, e2, e3, e4, g0, g1, g2, g3, g4⟩ := (unhide HDO).e.c
  dsimp only at x0 x1 x2 x3 x4 x5 x6 x7
  refine (isseat (s : Int) _).mono ?_
  rintro e w' ⟨rfl, hw'⟩
  subst w'
  rw [hsb]
  have s1 := (unhide HDO).kp.cell (by simp) s0
  go_wp2_with fail
  go_quiet (fail)
  go_wp2_with fail
  refine (unhide HPT _ ((unhide HDO).kp.drewN _)).mono ?_
  rintro e w1 ⟨rfl, H1, k1, k2, k3⟩
  have hCh : Ch (WkT wb md y rs _) B _ H w1 := ⟨H1, k1, k2, k3⟩
  obtain ⟨hst1, hev1⟩ := ((unhide HDO).kp0 ((Kp.refl [] W).drewN nq)).ch hCh (unhide HLO)
  have HC := hide hCh
  clear hCh hst1 k1 k2 k3 e0 e1 e2 e3 e4 g0 g1 g2 g3 g4
  obtain ⟨e0, e1, e2, e3, e4, g0, g1, g2, g3, g4⟩ := hev1.c
  clear hev1
  go_wp2_with fail
  refine bodyPost_ret (v := .agg #[.int .i64 _, .int .i64 0, .bool false, .string ⟨#[]⟩, .slice none 0 0]) (by simp [results, Try.results16, go_sem, e0, e1, e2, e3, e4]) rfl ⟨rfl, ?_⟩
  exact (unhide HC).side ((unhide HDO).kp.drewN nq) (unhide HLO) (by have := (unhide HDO).hp; omega) (lt_of_block ((unhide HDO).kp0 ((Kp.refl [] W).drewN nq)).e) (ev5 _ _ _ _ _)

end Go.Proofs.Ytehhpmfeaeabgac
