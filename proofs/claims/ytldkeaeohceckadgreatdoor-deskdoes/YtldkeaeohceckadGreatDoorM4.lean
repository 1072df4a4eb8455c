/- Bound together for a claim. -/
import Derived.Test.YtldkeaeohceckadGreatDoorM3
import Derived.Deep.MidRow
import Derived.Deep.AppendLies
namespace Go.Proofs.YtldkeaeohceckadGreatDoor
set_option maxRecDepth 20000
set_option maxHeartbeats 64000000
/- Plain words for halls: what a deed's worlds are; its lists. -/
section
open Go.RowKit

/-- The keys from a to b that have a value, of the first m. -/
def wl (v : Nat → Ver) (a b : Int) : Nat → List Ver
  | 0 => []
  | m + 1 => if a ≤ (m : Int) ∧ (m : Int) ≤ b ∧ (v m).t = true then wl v a b m ++ [⟨(m : Int), (v m).t, (v m).s⟩] else wl v a b m
theorem wl_lo {v : Nat → Ver} {a b : Int} : ∀ {m : Nat}, (m : Int) ≤ a → wl v a b m = [] := by
  intro m
  induction m with
  | zero => intro _; rfl
  | succ m ih => intro h; simp only [wl]; rw [if_neg (by omega), ih (by omega)]
theorem dgo_wl {f : Nat → List Ver} {n : Nat} {y : Int} {ws : List Ver} {v : Nat → Ver} {p t : Nat} (ht : t < 8) (hv : ∀ k : Nat, k < 8 → dg f n y ws k = ⟨0, (v k).t, (v k).s⟩) : ∀ (m k : Nat) (acc : List Ver) (rs : List Int), p ≤ k → k + m ≤ t + 1 → acc = wl v p t k → (dgo f n y ws k m acc rs).1 = wl v p t (k + m) ∧ (dgo f n y ws k m acc rs).2.1 = 0 := by
  intro m
  induction m with
  | zero => intro k acc rs _ _ e; exact ⟨e, rfl⟩
  | succ m ih =>
    intro k acc rs h1 h2 e
    have hk := hv k (by omega)
    simp only [dgo]
    rw [hk]
    dsimp only
    rw [show k + (m + 1) = (k + 1) + m by omega]
    simp only [if_true]
    cases hb : (v k).t with
    | true =>
      simp only [if_true]
      exact ih (k + 1) _ _ (by omega) (by omega) (by rw [e]; simp only [wl]; rw [if_pos ⟨by omega, by omega, hb⟩, hb])
    | false =>
      simp only [Bool.false_eq_true, if_false]
      exact ih (k + 1) _ _ (by omega) (by omega) (by rw [e]; simp only [wl]; rw [if_neg (fun q => by rw [hb] at q; exact absurd q.2.2 (by simp))])
end
/- Plain words for halls: first come. -/
section
open Go.RowKit

end
/- Rows of all keys' values: append onto them, and one of them read; beside a vault. -/
section
open Go.RowKit

section
variable {w0 w W w2 : World} {V : Thing} {r : List Thing} {a : Option Addr} {cap : Nat} {us : List (Nat → Ver)}
end
end
/- A hall's log; five answers in a variable. -/
section
open Go.RowKit
attribute [local go_sem ↓] Go.wp_at_zero Go.wp_at_succ

section
variable {w0 w : World} {hb vb tb gb : Nat} {h : HSt} {st : Nat → Sd} {r : List Thing}
end
end
/- Plain words for HallClears: what is asked of what is forgotten. -/
section
open Go.RowKit
attribute [local go_sem ↓] Go.wp_at_zero Go.wp_at_succ

theorem tr_a_known {h : HSt} (hi : HInv h) {s : Nat} {d : Dp} (hs : h.seat s = some d) (k : Int) : (dg h.f h.n d.y d.ws k).a = 0 ∨ (dg h.f h.n d.y d.ws k).a = 1 := by
  cases q : keyB k with
  | false => right; unfold dg; rw [q]; simp
  | true =>
    left
    simp only [keyB, decide_eq_true_eq] at q
    obtain ⟨j, rfl⟩ : ∃ j : Nat, k = (j : Int) := ⟨k.toNat, by omega⟩
    rw [dg_see hi hs (by omega)]
theorem dls_code {h : HSt} (hi : HInv h) {s : Nat} {d : Dp} (hs : h.seat s = some d) (a b : Int) : (dls h.f h.n d.y d.ws d.rs a b).2.1 = 0 ∨ (dls h.f h.n d.y d.ws d.rs a b).2.1 = 1 := by
  unfold dls
  split
  · rename_i hk
    left
    simp only [keyB, decide_eq_true_eq] at hk
    obtain ⟨p, rfl⟩ : ∃ p : Nat, a = (p : Int) := ⟨a.toNat, by omega⟩
    obtain ⟨t, rfl⟩ : ∃ t : Nat, b = (t : Int) := ⟨b.toNat, by omega⟩
    rw [Int.toNat_natCast, show ((t : Int) + 1 - (p : Int)).toNat = t + 1 - p by omega]
    by_cases hpt : p ≤ t + 1
    · exact (dgo_wl (v := hsee h d) (p := p) (t := t) (by omega) (fun k hk => dg_see hi hs hk) (t + 1 - p) p [] d.rs (Nat.le_refl _) (by omega) (wl_lo (Int.le_refl _)).symm).2
    · rw [show t + 1 - p = 0 by omega]; rfl
  · right; rfl
/-- How long a list is that is told. -/
theorem dgo_len8 {f : Nat → List Ver} {n : Nat} {y : Int} {ws : List Ver} : ∀ (m k : Nat) (acc : List Ver) (rs : List Int), (dgo f n y ws k m acc rs).1.length ≤ acc.length + m := by
  intro m
  induction m with
  | zero => intro k acc rs; simp [dgo]
  | succ m ih =>
    intro k acc rs
    simp only [dgo]
    split
    · split
      · have := ih (k + 1) (acc ++ [⟨k, (dg f n y ws k).t, (dg f n y ws k).s⟩]) (dr f n y rs ws k)
        simp at this
        omega
      · have := ih (k + 1) acc (dr f n y rs ws k)
        omega
    · simp
theorem lt_of_cell {w : World} {b o : Nat} {v : Value} (h : w.cell? ⟨b, o, none⟩ = some v) : b < w.heap.size := by
  rcases Nat.lt_or_ge b w.heap.size with q | q
  · exact q
  · have : w.heap[b]? = none := Array.getElem?_eq_none q
    simp [World.cell?, this] at h
section
variable {w0 w : World} {hb : Nat} {h : HSt} {os : List Thing}
theorem ps_slo {a : Option Addr} {cap : Nat} {l : List Ver} (hz : Zoo w0 w os) (hm : PsT a cap l ∈ os) : SlO w a l := by
  obtain ⟨F, h1, _⟩ := zoo_mem hz hm
  exact slo_own h1 rfl
end
end
/- The document's court: Do of whatever step; the steps that change nothing. -/
section
open Go.RowKit
attribute [local go_sem ↓] Go.wp_at_zero Go.wp_at_succ

def xcells (x : HStep) : Array Value := #[.int .i64 x.d, .int .i64 x.s, .int .i64 x.md, .int .i64 x.at_, .int .i64 x.key, .int .i64 x.to_, .int .i64 x.keep, .string x.b]
/-- The cells of a step in a variable. -/
structure StX (w : World) (q : Nat) (x : HStep) : Prop where
  c0 : w.cell? ⟨q, 0, none⟩ = some (.int .i64 x.d)
  c1 : w.cell? ⟨q, 1, none⟩ = some (.int .i64 x.s)
  c2 : w.cell? ⟨q, 2, none⟩ = some (.int .i64 x.md)
  c3 : w.cell? ⟨q, 3, none⟩ = some (.int .i64 x.at_)
  c4 : w.cell? ⟨q, 4, none⟩ = some (.int .i64 x.key)
  c5 : w.cell? ⟨q, 5, none⟩ = some (.int .i64 x.to_)
  c6 : w.cell? ⟨q, 6, none⟩ = some (.int .i64 x.keep)
  c7 : w.cell? ⟨q, 7, none⟩ = some (.string x.b)
def StXB (w : World) (q : Nat) (x : HStep) : Prop := w.heap[q]? = some (.cells (xcells x) 79 (0, 0))
theorem StXB.c {w : World} {q : Nat} {x : HStep} (h : StXB w q x) : StX w q x := ⟨cell_of_block h rfl, cell_of_block h rfl, cell_of_block h rfl, cell_of_block h rfl, cell_of_block h rfl, cell_of_block h rfl, cell_of_block h rfl, cell_of_block h rfl⟩
/-- The world in which Do begins: the step and the event lie in new variables. -/
structure DoX (w W : World) (q p : Nat) (x : HStep) : Prop where
  kp : Kp [] w W
  s : StXB W q x
  e : EvB W p
  hq : q = w.heap.size
  hp : p = w.heap.size + 1
theorem doX (w : World) (x : HStep) : DoX w ((w.alloc (.cells #[.int .i64 x.d, .int .i64 x.s, .int .i64 x.md, .int .i64 x.at_, .int .i64 x.key, .int .i64 x.to_, .int .i64 x.keep, .string x.b] 79)).alloc (.cells #[.int .i64 0, .int .i64 0, .bool false, .string ⟨#[]⟩, .slice none 0 0] 102)) w.heap.size (w.heap.size + 1) x :=
  ⟨((Kp.refl [] w).alloc _).alloc _, by
    show ((w.alloc _).alloc _).heap[w.heap.size]? = _
    rw [Below.heap_alloc _ _ _ (by simp)]
    exact heap_alloc_new _ _, two_alloc _ _ _, rfl, rfl⟩
theorem DoX.kp0 {w W W' : World} {q p : Nat} {x : HStep} (h : DoX w W q p x) (hk : Kp [] W W') : DoX w W' q p x :=
  ⟨h.kp.trans0 hk, by show W'.heap[q]? = _; rw [hk.block q (lt_of_block h.s) (by simp)]; exact h.s, by show W'.heap[p]? = _; rw [hk.block p (lt_of_block h.e) (by simp)]; exact h.e, h.hq, h.hp⟩
theorem DoX.ch {w W w1 : World} {q p : Nat} {x : HStep} {o' : Thing} {B : Nat} {G : List Nat} (h : DoX w W q p x) (hc : Ch o' B W G w1) (hG : ∀ x, x ∈ G → x < w.heap.size) : StXB w1 q x ∧ EvB w1 p :=
  ⟨hc.far (fun hm => by have := hG _ hm; have := h.hq; omega) h.s, hc.far (fun hm => by have := hG _ hm; have := h.hp; omega) h.e⟩
theorem DoX.back {w W w' : World} {q p : Nat} {x : HStep} (h : DoX w W q p x) (hk : Kp [p] W w') : Kp [] w w' := h.kp.trans hk (fun y hy => .inr (by rw [List.mem_singleton.1 hy, h.hp]; omega))
set_option maxHeartbeats 1000000 in
theorem cdo_kind (cb : Nat) (x : HStep) (w : World) (hd : x.d < 1 ∨ 10 < x.d) :
    Calls Tryz.prog 39 #[.pointer (some ⟨cb, 0, none⟩), .agg #[.int .i64 x.d, .int .i64 x.s, .int .i64 x.md, .int .i64 x.at_, .int .i64 x.key, .int .i64 x.to_, .int .i64 x.keep, .string x.b]] w fun e w' => e = .returned (.agg #[.int .i64 3, .int .i64 0, .bool false, .string ⟨#[]⟩, .slice none 0 0]) ∧ Kp [] w w' := by
  obtain ⟨xd, xs, xm, xa, xk, xt, xp, xb⟩ := x
  dsimp only at *
  rcases hd with hd | hd
  · go_enter Tryz.func39, Tryz.ntmps39
    go_wp2_with fail
    refine bodyPost_ret (v := .agg #[.int .i64 3, .int .i64 0, .bool false, .string ⟨#[]⟩, .slice none 0 0]) (by simp [results, Tryz.results39, go_sem]) rfl ⟨rfl, ?_⟩
    exact ((Kp.refl [] w).alloc _).alloc _
  · have hd1 : ¬ xd < 1 := by omega
    go_enter Tryz.func39, Tryz.ntmps39
    go_wp2_with fail
    refine bodyPost_ret (v := .agg #[.int .i64 3, .int .i64 0, .bool false, .string ⟨#[]⟩, .slice none 0 0]) (by simp [results, Tryz.results39, go_sem]) rfl ⟨rfl, ?_⟩
    exact ((Kp.refl [] w).alloc _).alloc _

set_option maxHeartbeats 1000000 in
theorem cdo_range (cb : Nat) (x : HStep) (w : World) (hd : 1 ≤ x.d ∧ x.d ≤ 10 ∧ x.d ≠ 8 ∧ x.d ≠ 9) (hs : ¬ (0 ≤ x.s ∧ x.s < 5)) :
    Calls Tryz.prog 39 #[.pointer (some ⟨cb, 0, none⟩), .agg #[.int .i64 x.d, .int .i64 x.s, .int .i64 x.md, .int .i64 x.at_, .int .i64 x.key, .int .i64 x.to_, .int .i64 x.keep, .string x.b]] w fun e w' => e = .returned (.agg #[.int .i64 1, .int .i64 0, .bool false, .string ⟨#[]⟩, .slice none 0 0]) ∧ Kp [] w w' := by
  have HDO := hide (doX w x)
  obtain ⟨xd, xs, xm, xa, xk, xt, xp, xb⟩ := x
  dsimp only at *
  have k1 : ¬ xd < 1 := by omega
  have k10 : ¬ 10 < xd := by omega
  have k8 : (xd == 8) = false := beq_eq_false_iff_ne.2 (by omega)
  have k9 : (xd == 9) = false := beq_eq_false_iff_ne.2 (by omega)
  have hsb : seatB xs = false := decide_eq_false hs
  go_enter Tryz.func39, Tryz.ntmps39
  go_wp2_with fail
  generalize hW : (w.alloc (.cells #[.int .i64 xd, .int .i64 xs, .int .i64 xm, .int .i64 xa, .int .i64 xk, .int .i64 xt, .int .i64 xp, .string xb] 79)).alloc (.cells #[.int .i64 0, .int .i64 0, .bool false, .string ⟨#[]⟩, .slice none 0 0] 102) = W at HDO ⊢
  clear hW
  generalize hq : w.heap.size = q at HDO ⊢
  clear hq
  generalize q + 1 = p at HDO ⊢
  obtain ⟨x0, x1, x2, x3, x4, x5, x6, x7⟩ := (unhide HDO).s.c
  obtain ⟨e0, e1, e2, e3, e4, g0, g1, g2, g3, g4⟩ := (unhide HDO).e.c
  dsimp only at x0 x1 x2 x3 x4 x5 x6 x7
  refine (isseat xs _).mono ?_
  rintro e w' ⟨rfl, hw'⟩
  subst w'
  rw [hsb]
  go_wp2_with fail
  refine bodyPost_ret (v := .agg #[.int .i64 1, .int .i64 0, .bool false, .string ⟨#[]⟩, .slice none 0 0]) (by simp [results, Tryz.results39, go_sem, e0, e1, e2, e3, e4]) rfl ⟨rfl, ?_⟩
  exact (unhide HDO).back (ev5 _ _ _ _ _)

set_option maxHeartbeats 1000000 in
theorem cdo_there {B cb sb n wb : Nat} {G Gr Gs : List Nat} {bx : Array Value} {f : Nat → List Ver} {cs : List (List Ver)} {torn : List UInt8} {st : Nat → Option Addr} {s : Nat} (x : HStep) (w : World) (h : Crt B w cb sb G Gr Gs bx f n cs torn st) (hd : x.d = 1) (hs : s < 5) (hx : x.s = (s : Int)) (hst : st s = some ⟨wb, 0, none⟩) :
    Calls Tryz.prog 39 #[.pointer (some ⟨cb, 0, none⟩), .agg #[.int .i64 x.d, .int .i64 x.s, .int .i64 x.md, .int .i64 x.at_, .int .i64 x.key, .int .i64 x.to_, .int .i64 x.keep, .string x.b]] w fun e w' => e = .returned (.agg #[.int .i64 8, .int .i64 0, .bool false, .string ⟨#[]⟩, .slice none 0 0]) ∧ Kp [] w w' := by
  have HDO := hide (doX w x)
  obtain ⟨xd, xs, xm, xa, xk, xt, xp, xb⟩ := x
  dsimp only at *
  subst hd hx
  have hsb : seatB (s : Int) = true := decide_eq_true (by omega)
  have s0 := h.seat hs
  rw [hst] at s0
  have hcb := (h.lo cb h.cG).2
  have i0 : (0 : Int) ≤ (s : Int) := by omega
  have i5 : (s : Int) < 5 := by omega
  clear h hst
  go_enter Tryz.func39, Tryz.ntmps39
  go_wp2_with fail
  generalize hW : (w.alloc (.cells #[.int .i64 1, .int .i64 (s : Int), .int .i64 xm, .int .i64 xa, .int .i64 xk, .int .i64 xt, .int .i64 xp, .string xb] 79)).alloc (.cells #[.int .i64 0, .int .i64 0, .bool false, .string ⟨#[]⟩, .slice none 0 0] 102) = W at HDO ⊢
  clear hW
  generalize hq : w.heap.size = q at HDO ⊢
  clear hq
  generalize q + 1 = p at HDO ⊢
  obtain ⟨x0, x1, x2, x3, x4, x5, x6, x7⟩ := (unhide HDO).s.c
  obtain ⟨e0, e1, e2, e3, e4, g0, g1, g2, g3, g4⟩ := (unhide HDO).e.c
  dsimp only at x0 x1 x2 x3 x4 x5 x6 x7
  refine (isseat (s : Int) _).mono ?_
  rintro e w' ⟨rfl, hw'⟩
  subst w'
  rw [hsb]
  have s1 := (unhide HDO).kp.cell (by simp) s0
  go_wp2_with fail
  go_quiet (fail)
  go_wp2_with fail
  refine bodyPost_ret (v := .agg #[.int .i64 8, .int .i64 0, .bool false, .string ⟨#[]⟩, .slice none 0 0]) (by simp [results, Tryz.results39, go_sem, e0, e1, e2, e3, e4]) rfl ⟨rfl, ?_⟩
  exact ((unhide HDO).kp0 ((Kp.refl [] W).drewN nq)).back (ev5 _ _ _ _ _)
/-- The document's deed, as a thing. -/
def WkT (wb : Nat) (md y : Int) (rs : List Int) (ws : List Ver) : Thing where
  holds B w F := Wrk B w wb F md y rs ws
  kp := fun h hk hS => h.kp hk hS
  lo := fun h => h.lo
  base := fun h hC => h.base hC

set_option maxHeartbeats 1000000 in
theorem cdo_none {B cb sb n : Nat} {G Gr Gs : List Nat} {bx : Array Value} {f : Nat → List Ver} {cs : List (List Ver)} {torn : List UInt8} {st : Nat → Option Addr} {s : Nat} (x : HStep) (w : World) (h : Crt B w cb sb G Gr Gs bx f n cs torn st) (hd : 2 ≤ x.d ∧ x.d ≤ 10 ∧ x.d ≠ 8 ∧ x.d ≠ 9) (hs : s < 5) (hx : x.s = (s : Int)) (hst : st s = none) :
    Calls Tryz.prog 39 #[.pointer (some ⟨cb, 0, none⟩), .agg #[.int .i64 x.d, .int .i64 x.s, .int .i64 x.md, .int .i64 x.at_, .int .i64 x.key, .int .i64 x.to_, .int .i64 x.keep, .string x.b]] w fun e w' => e = .returned (.agg #[.int .i64 7, .int .i64 0, .bool false, .string ⟨#[]⟩, .slice none 0 0]) ∧ Kp [] w w' := by
  have HDO := hide (doX w x)
  obtain ⟨xd, xs, xm, xa, xk, xt, xp, xb⟩ := x
  dsimp only at *
  subst hx
  have k1 : ¬ xd < 1 := by omega
  have k10 : ¬ 10 < xd := by omega
  have k8 : (xd == 8) = false := beq_eq_false_iff_ne.2 (by omega)
  have k9 : (xd == 9) = false := beq_eq_false_iff_ne.2 (by omega)
  have k2 : (xd == 1) = false := beq_eq_false_iff_ne.2 (by omega)
  have hsb : seatB (s : Int) = true := decide_eq_true (by omega)
  have s0 := h.seat hs
  rw [hst] at s0
  have hcb := (h.lo cb h.cG).2
  have i0 : (0 : Int) ≤ (s : Int) := by omega
  have i5 : (s : Int) < 5 := by omega
  clear h hst hd
  go_enter Tryz.func39, Tryz.ntmps39
  go_wp2_with fail
  generalize hW : (w.alloc (.cells #[.int .i64 xd, .int .i64 (s : Int), .int .i64 xm, .int .i64 xa, .int .i64 xk, .int .i64 xt, .int .i64 xp, .string xb] 79)).alloc (.cells #[.int .i64 0, .int .i64 0, .bool false, .string ⟨#[]⟩, .slice none 0 0] 102) = W at HDO ⊢
  clear hW
  generalize hq : w.heap.size = q at HDO ⊢
  clear hq
  generalize q + 1 = p at HDO ⊢
  obtain ⟨x0, x1, x2, x3, x4, x5, x6, x7⟩ := (unhide HDO).s.c
  obtain ⟨e0, e1, e2, e3, e4, g0, g1, g2, g3, g4⟩ := (unhide HDO).e.c
  dsimp only at x0 x1 x2 x3 x4 x5 x6 x7
  refine (isseat (s : Int) _).mono ?_
  rintro e w' ⟨rfl, hw'⟩
  subst w'
  rw [hsb]
  have s1 := (unhide HDO).kp.cell (by simp) s0
  go_wp2_with fail
  go_quiet (fail)
  go_wp2_with fail
  refine bodyPost_ret (v := .agg #[.int .i64 7, .int .i64 0, .bool false, .string ⟨#[]⟩, .slice none 0 0]) (by simp [results, Tryz.results39, go_sem, e0, e1, e2, e3, e4]) rfl ⟨rfl, ?_⟩
  exact ((unhide HDO).kp0 ((Kp.refl [] W).drewN nq)).back (ev5 _ _ _ _ _)

set_option maxHeartbeats 1000000 in
theorem cdo_put {B cb sb n wb : Nat} {G Gr Gs : List Nat} {bx : Array Value} {f : Nat → List Ver} {cs : List (List Ver)} {torn : List UInt8} {st : Nat → Option Addr} {s : Nat} (x : HStep) (w : World) (h : Crt B w cb sb G Gr Gs bx f n cs torn st) (hd : x.d = 3) (hs : s < 5) (hx : x.s = (s : Int)) (hst : st s = some ⟨wb, 0, none⟩) {H : List Nat} {md y : Int} {rs : List Int} {ws : List Ver} (hw : Wrk B w wb H md y rs ws) (hb : x.b.size ≤ maxLen) (hwl : ws.length ≤ 900) :
    Calls Tryz.prog 39 #[.pointer (some ⟨cb, 0, none⟩), .agg #[.int .i64 x.d, .int .i64 x.s, .int .i64 x.md, .int .i64 x.at_, .int .i64 x.key, .int .i64 x.to_, .int .i64 x.keep, .string x.b]] w fun e w' => e = .returned (.agg #[.int .i64 (dpc md x.key true x.b), .int .i64 0, .bool false, .string ⟨#[]⟩, .slice none 0 0]) ∧ Ch (WkT wb md y rs (dpw md ws x.key true x.b)) B w H w' := by
  have HLO := hide (fun z (hz : z ∈ H) => (hw.lo z hz).2)
  have HPT := hide (fun W (hk : Kp [] w W) => wput58 x.key true x.b W (hw.kp0 hk) hb hwl)
  have HDO := hide (doX w x)
  obtain ⟨xd, xs, xm, xa, xk, xt, xp, xb⟩ := x
  dsimp only at *
  subst hd hx
  have hsb : seatB (s : Int) = true := decide_eq_true (by omega)
  have s0 := h.seat hs
  rw [hst] at s0
  have hcb := (h.lo cb h.cG).2
  have i0 : (0 : Int) ≤ (s : Int) := by omega
  have i5 : (s : Int) < 5 := by omega
  clear h hst hw hb hwl
  go_enter Tryz.func39, Tryz.ntmps39
  go_wp2_with fail
  generalize hW : (w.alloc (.cells #[.int .i64 3, .int .i64 (s : Int), .int .i64 xm, .int .i64 xa, .int .i64 xk, .int .i64 xt, .int .i64 xp, .string xb] 79)).alloc (.cells #[.int .i64 0, .int .i64 0, .bool false, .string ⟨#[]⟩, .slice none 0 0] 102) = W at HDO ⊢
  clear hW
  generalize hq : w.heap.size = q at HDO ⊢
  clear hq
  generalize q + 1 = p at HDO ⊢
  obtain ⟨x0, x1, x2, x3, x4, x5, x6, x7⟩ := (unhide HDO).s.c
  obtain ⟨e0, e1, e2, e3, e4, g0, g1, g2, g3, g4⟩ := (unhide HDO).e.c
  dsimp only at x0 x1 x2 x3 x4 x5 x6 x7
  refine (isseat (s : Int) _).mono ?_
  rintro e w' ⟨rfl, hw'⟩
  subst w'
  rw [hsb]
  have s1 := (unhide HDO).kp.cell (by simp) s0
  go_wp2_with fail
  go_quiet (fail)
  go_wp2_with fail
  refine (unhide HPT _ ((unhide HDO).kp.drewN _)).mono ?_
  rintro e w1 ⟨rfl, H1, k1, k2, k3⟩
  have hCh : Ch (WkT wb md y rs _) B _ H w1 := ⟨H1, k1, k2, k3⟩
  obtain ⟨hst1, hev1⟩ := ((unhide HDO).kp0 ((Kp.refl [] W).drewN nq)).ch hCh (unhide HLO)
  have HC := hide hCh
  clear hCh hst1 k1 k2 k3 e0 e1 e2 e3 e4 g0 g1 g2 g3 g4
  obtain ⟨e0, e1, e2, e3, e4, g0, g1, g2, g3, g4⟩ := hev1.c
  clear hev1
  go_wp2_with fail
  refine bodyPost_ret (v := .agg #[.int .i64 _, .int .i64 0, .bool false, .string ⟨#[]⟩, .slice none 0 0]) (by simp [results, Tryz.results39, go_sem, e0, e1, e2, e3, e4]) rfl ⟨rfl, ?_⟩
  exact (unhide HC).side ((unhide HDO).kp.drewN nq) (unhide HLO) (by have := (unhide HDO).hp; omega) (lt_of_block ((unhide HDO).kp0 ((Kp.refl [] W).drewN nq)).e) (ev5 _ _ _ _ _)

set_option maxHeartbeats 1000000 in
theorem cdo_drop {B cb sb n wb : Nat} {G Gr Gs : List Nat} {bx : Array Value} {f : Nat → List Ver} {cs : List (List Ver)} {torn : List UInt8} {st : Nat → Option Addr} {s : Nat} (x : HStep) (w : World) (h : Crt B w cb sb G Gr Gs bx f n cs torn st) (hd : x.d = 4) (hs : s < 5) (hx : x.s = (s : Int)) (hst : st s = some ⟨wb, 0, none⟩) {H : List Nat} {md y : Int} {rs : List Int} {ws : List Ver} (hw : Wrk B w wb H md y rs ws) (hb : x.b.size ≤ maxLen) (hwl : ws.length ≤ 900) :
    Calls Tryz.prog 39 #[.pointer (some ⟨cb, 0, none⟩), .agg #[.int .i64 x.d, .int .i64 x.s, .int .i64 x.md, .int .i64 x.at_, .int .i64 x.key, .int .i64 x.to_, .int .i64 x.keep, .string x.b]] w fun e w' => e = .returned (.agg #[.int .i64 (dpc md x.key false ⟨#[]⟩), .int .i64 0, .bool false, .string ⟨#[]⟩, .slice none 0 0]) ∧ Ch (WkT wb md y rs (dpw md ws x.key false ⟨#[]⟩)) B w H w' := by
  have HLO := hide (fun z (hz : z ∈ H) => (hw.lo z hz).2)
  have HPT := hide (fun W (hk : Kp [] w W) => wput58 x.key false ⟨#[]⟩ W (hw.kp0 hk) (Nat.zero_le _) hwl)
  have HDO := hide (doX w x)
  obtain ⟨xd, xs, xm, xa, xk, xt, xp, xb⟩ := x
  dsimp only at *
  subst hd hx
  have hsb : seatB (s : Int) = true := decide_eq_true (by omega)
  have s0 := h.seat hs
  rw [hst] at s0
  have hcb := (h.lo cb h.cG).2
  have i0 : (0 : Int) ≤ (s : Int) := by omega
  have i5 : (s : Int) < 5 := by omega
  clear h hst hw hb hwl
  go_enter Tryz.func39, Tryz.ntmps39
  go_wp2_with fail
  generalize hW : (w.alloc (.cells #[.int .i64 4, .int .i64 (s : Int), .int .i64 xm, .int .i64 xa, .int .i64 xk, .int .i64 xt, .int .i64 xp, .string xb] 79)).alloc (.cells #[.int .i64 0, .int .i64 0, .bool false, .string ⟨#[]⟩, .slice none 0 0] 102) = W at HDO ⊢
  clear hW
  generalize hq : w.heap.size = q at HDO ⊢
  clear hq
  generalize q + 1 = p at HDO ⊢
  obtain ⟨x0, x1, x2, x3, x4, x5, x6, x7⟩ := (unhide HDO).s.c
  obtain ⟨e0, e1, e2, e3, e4, g0, g1, g2, g3, g4⟩ := (unhide HDO).e.c
  dsimp only at x0 x1 x2 x3 x4 x5 x6 x7
  refine (isseat (s : Int) _).mono ?_
  rintro e w' ⟨rfl, hw'⟩
  subst w'
  rw [hsb]
  have s1 := (unhide HDO).kp.cell (by simp) s0
  go_wp2_with fail
  go_quiet (fail)
  go_wp2_with fail
  refine (unhide HPT _ ((unhide HDO).kp.drewN _)).mono ?_
  rintro e w1 ⟨rfl, H1, k1, k2, k3⟩
  have hCh : Ch (WkT wb md y rs _) B _ H w1 := ⟨H1, k1, k2, k3⟩
  obtain ⟨hst1, hev1⟩ := ((unhide HDO).kp0 ((Kp.refl [] W).drewN nq)).ch hCh (unhide HLO)
  have HC := hide hCh
  clear hCh hst1 k1 k2 k3 e0 e1 e2 e3 e4 g0 g1 g2 g3 g4
  obtain ⟨e0, e1, e2, e3, e4, g0, g1, g2, g3, g4⟩ := hev1.c
  clear hev1
  go_wp2_with fail
  refine bodyPost_ret (v := .agg #[.int .i64 _, .int .i64 0, .bool false, .string ⟨#[]⟩, .slice none 0 0]) (by simp [results, Tryz.results39, go_sem, e0, e1, e2, e3, e4]) rfl ⟨rfl, ?_⟩
  exact (unhide HC).side ((unhide HDO).kp.drewN nq) (unhide HLO) (by have := (unhide HDO).hp; omega) (lt_of_block ((unhide HDO).kp0 ((Kp.refl [] W).drewN nq)).e) (ev5 _ _ _ _ _)

end
/- The document's court: Do of SAbort. -/
section
open Go.RowKit
attribute [local go_sem ↓] Go.wp_at_zero Go.wp_at_succ

set_option maxHeartbeats 1000000 in
theorem cdo_abort {B cb sb n wb : Nat} {G Gr Gs : List Nat} {bx : Array Value} {f : Nat → List Ver} {cs : List (List Ver)} {torn : List UInt8} {st : Nat → Option Addr} {s : Nat} (x : HStep) (w : World) (h : Crt B w cb sb G Gr Gs bx f n cs torn st) (hd : x.d = 7) (hs : s < 5) (hx : x.s = (s : Int)) (hst : st s = some ⟨wb, 0, none⟩) :
    Calls Tryz.prog 39 #[.pointer (some ⟨cb, 0, none⟩), .agg #[.int .i64 x.d, .int .i64 x.s, .int .i64 x.md, .int .i64 x.at_, .int .i64 x.key, .int .i64 x.to_, .int .i64 x.keep, .string x.b]] w fun e w' => e = .returned (.agg #[.int .i64 0, .int .i64 0, .bool false, .string ⟨#[]⟩, .slice none 0 0]) ∧ Ch (CrtT cb sb f n cs torn (upd st s none)) B w G w' := by
  have HLO := hide (fun z (hz : z ∈ G) => (h.lo z hz).2)
  have HSI := hide (fun W (hk : Kp [] w W) => (h.kp0 hk).sit hs none)
  have HFZ := hide (fun W (hk : Kp [] w W) => (h.kp0 hk).fz (3 + s))
  have HDO := hide (doX w x)
  obtain ⟨xd, xs, xm, xa, xk, xt, xp, xb⟩ := x
  dsimp only at *
  subst hd hx
  have hsb : seatB (s : Int) = true := decide_eq_true (by omega)
  have s0 := h.seat hs
  rw [hst] at s0
  have hcb := (h.lo cb h.cG).2
  have i0 : (0 : Int) ≤ (s : Int) := by omega
  have i5 : (s : Int) < 5 := by omega
  clear h hst
  go_enter Tryz.func39, Tryz.ntmps39
  go_wp2_with fail
  generalize hW : (w.alloc (.cells #[.int .i64 7, .int .i64 (s : Int), .int .i64 xm, .int .i64 xa, .int .i64 xk, .int .i64 xt, .int .i64 xp, .string xb] 79)).alloc (.cells #[.int .i64 0, .int .i64 0, .bool false, .string ⟨#[]⟩, .slice none 0 0] 102) = W at HDO ⊢
  clear hW
  generalize hq : w.heap.size = q at HDO ⊢
  clear hq
  generalize q + 1 = p at HDO ⊢
  obtain ⟨x0, x1, x2, x3, x4, x5, x6, x7⟩ := (unhide HDO).s.c
  obtain ⟨e0, e1, e2, e3, e4, g0, g1, g2, g3, g4⟩ := (unhide HDO).e.c
  dsimp only at x0 x1 x2 x3 x4 x5 x6 x7
  refine (isseat (s : Int) _).mono ?_
  rintro e w' ⟨rfl, hw'⟩
  subst w'
  rw [hsb]
  have s1 := (unhide HDO).kp.cell (by simp) s0
  go_wp2_with fail
  go_quiet (fail)
  have z2 := unhide HFZ _ (unhide HDO).kp
  have hpc : p ≠ cb := by have := (unhide HDO).hp; omega
  have hcp : cb ≠ p := fun e => hpc e.symm
  have HX := hide (unhide HSI _ ((unhide HDO).kp.drewN (nq + 1)))
  go_wp2_with fail
  go_region
  all_goals
    go_wp2_with fail
    refine bodyPost_ret (v := .agg #[.int .i64 0, .int .i64 0, .bool false, .string ⟨#[]⟩, .slice none 0 0]) (by simp [results, Tryz.results39, go_sem, e0, e1, e2, e3, e4]) rfl ⟨rfl, ?_⟩
    exact (unhide HX).side ((unhide HDO).kp.drewN (nq + 1)) (unhide HLO) (by have := (unhide HDO).hp; omega) (lt_of_block ((unhide HDO).kp0 ((Kp.refl [] W).drewN (nq + 1))).e) (ev5 _ _ _ _ _)
end
/- Contracts of the document's deed and court that hold of longer lists of keys read. -/
section
open Go.RowKit
attribute [local go_sem ↓] Go.wp_at_zero Go.wp_at_succ

set_option maxHeartbeats 400000 in
theorem in72x {l : List Int} (a : Option Addr) (cap : Nat) (x : Int) (w : World) (h : SlI w a l) (hm : l.length ≤ 5000) :
    Calls Tryz.prog 108 #[.slice a l.length cap, .int .i64 x] w fun e w' => e = .returned (.bool (decide (x ∈ l))) ∧ w' = w := by
  have HS := hide h
  clear h
  go_enter Tryz.func108, Tryz.ntmps108
  go_wp2_with fail
  go_loop [5] (fun i => ∃ d : Nat, d ≤ l.length ∧ i = .int .i64 d ∧ Hid (∀ j, j < d → ig l j ≠ x)) (fun i => l.length - (intOf i).toNat)
  case atStart => exact ⟨0, Nat.zero_le _, rfl, fun j hj => by omega⟩
  case round =>
    obtain ⟨d, hd, rfl, HN⟩ := hrel
    by_cases hlt : d < l.length
    · obtain ⟨g, o, rfl, hs⟩ := unhide HS (by omega)
      have q0 := hs d hlt
      have i0 : (0 : Int) ≤ (d : Int) := by omega
      have i1 : (d : Int) < (l.length : Int) := by omega
      clear hs
      by_cases hx : ig l d = x
      · have HM : Hid (decide (x ∈ l) = true) := decide_eq_true (mem_ig.2 ⟨d, hlt, hx⟩)
        rw [hx] at q0
        clear hx
        go_wp2
        go_ret
        exact ⟨ret_bool (unhide HM).symm, rfl⟩
      · have HN2 : Hid (∀ j, j < d + 1 → ig l j ≠ x) := fun j hj => by
          by_cases e : j = d
          · subst e; exact hx
          · exact unhide HN j (by omega)
        have ex : (ig l d == x) = false := beq_eq_false_iff_ne.2 hx
        clear hx
        go_wp2
        exact ⟨⟨d + 1, by omega, by go_num, HN2⟩, by simp [intOf]; omega⟩
    · have HM : Hid (decide (x ∈ l) = false) := decide_eq_false (fun hm => by
        obtain ⟨j, hj, e⟩ := mem_ig.1 hm
        exact unhide HN j (by omega) e)
      go_wp2
      go_ret
      exact ⟨ret_bool (unhide HM).symm, rfl⟩

set_option maxHeartbeats 2000000 in
theorem wget56x {B sb n wb : Nat} {G H : List Nat} {f : Nat → List Ver} {md y : Int} {rs : List Int} {ws : List Ver} (k : Int) (w : World) (h : Sht B w sb G f n) (hw : Wrk B w wb H md y rs ws) (hrl : rs.length ≤ 3000) (hwl : ws.length ≤ 900) :
    Calls Tryz.prog 68 #[.pointer (some ⟨wb, 0, none⟩), .pointer (some ⟨sb, 0, none⟩), .int .i64 k] w fun e w' => WgEnd B w wb H md y (dr f n y rs ws k) ws (.tuple #[.agg #[.bool (dg f n y ws k).t, .string (dg f n y ws k).s], .int .i64 (dg f n y ws k).a]) e w' := by
  obtain ⟨in0, hi0, hz0, hz1, hz2⟩ := info_parts Tryz.info3
  have HT := hide h
  have HW := hide hw
  clear h hw
  by_cases hk : keyB k = true
  · cases hv : lwr ws k with
    | some v =>
      rw [dg_own hk hv, dr_own hv]
      have HV := hide hv
      clear hv
      go_enter Tryz.func68, Tryz.ntmps68
      go_wp2_with fail
      refine (key12 _ _).mono ?_
      rintro e w' ⟨rfl, rfl⟩
      rw [hk]
      clear hk
      go_wp2_with fail
      refine (wlast81 k _ ((unhide HW).kp0 ((Kp.refl [] w).alloc _)) (by omega)).mono ?_
      rintro e w1 ⟨rfl, hkp⟩
      rw [unhide HV]
      simp only [Option.isSome_some, Option.getD_some]
      have p0 : w1.cell? ⟨w.heap.size, 0, none⟩ = some (.bool false) := hkp.cell (by simp) (by simp)
      have p1 : w1.cell? ⟨w.heap.size, 1, none⟩ = some (.string ⟨#[]⟩) := hkp.cell (by simp) (by simp)
      have p2 : w1.frozen? ⟨w.heap.size, 0, none⟩ = false := by rw [hkp.frozen (by simp) (by simp)]; simp
      have p3 : w1.frozen? ⟨w.heap.size, 1, none⟩ = false := by rw [hkp.frozen (by simp) (by simp)]; simp
      have hRs : w.heap.size < w1.heap.size := by have := hkp.size; simp at this; omega
      have HK1 := hide (((Kp.refl [] w).alloc (.cells #[.bool false, .string ⟨#[]⟩] 99)).trans0 hkp)
      clear hkp
      go_wp2
      refine bodyPost_ret (v := .tuple #[.agg #[.bool v.t, .string v.s], .int .i64 0]) (by simp [results, Tryz.results68, go_sem, p0, p1, hRs]) rfl (wgEnd_kp rfl (unhide HW) ?_)
      exact (((unhide HK1).setCell (p := ⟨w.heap.size, 0, none⟩) (.inr (Nat.le_refl _)) _).setCell (p := ⟨w.heap.size, 1, none⟩) (.inr (Nat.le_refl _)) _).alloc _
    | none =>
      rw [dg_tbl hk hv]
      by_cases h0 : (tr f n k y).a = 0
      · rw [dr_tbl hk hv h0, h0]
        have HV := hide hv
        have H0 := hide h0
        clear hv h0
        go_enter Tryz.func68, Tryz.ntmps68
        go_wp2_with fail
        refine (key12 _ _).mono ?_
        rintro e w' ⟨rfl, rfl⟩
        rw [hk]
        clear hk
        go_wp2_with fail
        refine (wlast81 k _ ((unhide HW).kp0 ((Kp.refl [] w).alloc _)) (by omega)).mono ?_
        rintro e w1 ⟨rfl, hkp⟩
        rw [unhide HV]
        simp only [Option.isSome_none, Option.getD_none]
        have hkp1 := ((Kp.refl [] w).alloc (.cells #[.bool false, .string ⟨#[]⟩] 99)).trans0 hkp
        have hR := (two_new w false ⟨#[]⟩).kp0 hkp
        obtain ⟨ra, rc, wa, wc, hw1⟩ := (unhide HW).kp0 hkp1
        have q1 := hw1.c1
        have hl1 := lt_of_block hw1.box
        have HW1 := hide hw1
        have HR := hide hR
        have HK1 := hide hkp1
        clear hkp hkp1 hw1 hR
        go_wp2_with fail
        refine (sread33 k y _ ((unhide HT).kp0 ((unhide HK1).alloc _))).mono ?_
        rintro e w2 ⟨rfl, hkp⟩
        have hkp2 := ((Kp.refl [] w1).alloc (.cells #[.bool false, .string ⟨#[]⟩] 99)).trans0 hkp
        have hw2 := (unhide HW1).kp0 hkp2
        have hR := (unhide HR).kp0 hkp2
        have c2 := hw2.c2
        have hlb := lt_of_block hw2.box
        have hlR := hR.lt
        have hHw := (unhide HW).lo
        have hbw : wb < w.heap.size := (hHw wb hw2.bH).2
        have hBb : B ≤ wb := (hHw wb hw2.bH).1
        have n1 : wb ≠ w.heap.size := by omega
        have n2 : wb ≠ w2.heap.size := by omega
        have n3 : w.heap.size ≠ w2.heap.size := by omega
        have hRH : w.heap.size ∉ H := fun hm => by have := (hHw _ hm).2; omega
        rw [unhide H0]
        generalize hvv : tr f n k y = v at *
        have HVV := hide hvv
        have HO := hide (own_kp0 hw2.ro (((Kp.refl [] w2).alloc (.cells #[.bool v.t, .string v.s] 99)).alloc (.cells #[.int .i64 k] 3)))
        have HW2 := hide hw2
        have HR2 := hide hR
        have HRH := hide hRH
        have HHW := hide hHw
        have HK2 := hide ((unhide HK1).trans0 hkp2)
        clear hvv hw2 hR hkp hkp2 hRH hHw q1
        go_wp2_with (at_builtin; refine wpList_append_lies _ rfl _ _ 86 rfl B 3 in0 _ 1 8 Tryz.underlying86 hi0 hz0 hz1 hz2 rfl (by omega) (.slice ra rs.length rc) rs.length (icells rs) rfl (unhide HO) ⟨w2.heap.size + 1, 0, none⟩ 1 1 [.int .i64 k] (by rfl) (by rfl) (World.news_of_block (cs := #[.int .i64 k]) (t := 3) (fr := (0, 0)) (by have := heap_alloc_new (w2.alloc (.cells #[.bool v.t, .string v.s] 99)) (.cells #[.int .i64 k] 3); simpa using this)) (by simp [Value.oneCell']) (by omega) (by unfold maxLen; omega) (by omega) (by simp; omega) _ rfl ?_; intro g2 cap2 w3 hown hgrow hat hlt3; obtain ⟨r0, r1, r2, r3, r4, r5, r6, r7⟩ := get_far (unhide HW2) (unhide HR2) (unhide HRH) hgrow; have HOW := hide hown; have HGR := hide hgrow; have HAT := hide hat; clear hown hgrow hat c2)
        refine bodyPost_ret (v := .tuple #[.agg #[.bool v.t, .string v.s], .int .i64 0]) (by simp [results, Tryz.results68, go_sem, r4, r5]) rfl ?_
        exact wget_end (by rw [unhide HVV]) (unhide HW2) (fun x hx => (unhide HHW x hx).2) (unhide HK2) hlR (unhide HOW) (unhide HGR) (unhide HAT) hlt3
      · rw [dr_code h0]
        have HV := hide hv
        have HN0 := hide h0
        clear hv h0
        go_enter Tryz.func68, Tryz.ntmps68
        go_wp2_with fail
        refine (key12 _ _).mono ?_
        rintro e w' ⟨rfl, rfl⟩
        rw [hk]
        clear hk
        go_wp2_with fail
        refine (wlast81 k _ ((unhide HW).kp0 ((Kp.refl [] w).alloc _)) (by omega)).mono ?_
        rintro e w1 ⟨rfl, hkp⟩
        rw [unhide HV]
        simp only [Option.isSome_none, Option.getD_none]
        have hkp1 := ((Kp.refl [] w).alloc (.cells #[.bool false, .string ⟨#[]⟩] 99)).trans0 hkp
        have hR := (two_new w false ⟨#[]⟩).kp0 hkp
        obtain ⟨ra, rc, wa, wc, hw1⟩ := (unhide HW).kp0 hkp1
        have q1 := hw1.c1
        have hl1 := lt_of_block hw1.box
        have HW1 := hide hw1
        have HR := hide hR
        have HK1 := hide hkp1
        clear hkp hkp1 hw1 hR
        go_wp2_with fail
        refine (sread33 k y _ ((unhide HT).kp0 ((unhide HK1).alloc _))).mono ?_
        rintro e w2 ⟨rfl, hkp⟩
        have hkp2 := ((Kp.refl [] w1).alloc (.cells #[.bool false, .string ⟨#[]⟩] 99)).trans0 hkp
        have hR := (unhide HR).kp0 hkp2
        have p0 := hR.c0
        have p1 := hR.c1
        have p2 := hR.f0
        have p3 := hR.f1
        have hlR := hR.lt
        have HK2 := hide ((unhide HK1).trans0 hkp2)
        have h0 := unhide HN0
        clear hR hkp hkp2 q1
        generalize hvv : tr f n k y = v at *
        have HVV := hide hvv
        clear hvv
        go_wp2
        refine bodyPost_ret (v := .tuple #[.agg #[.bool v.t, .string v.s], .int .i64 v.a]) (by simp [results, Tryz.results68, go_sem, p0, p1, hlR]) rfl (wgEnd_kp (by rw [unhide HVV]) (unhide HW) ?_)
        exact (((unhide HK2).setCell (p := ⟨w.heap.size, 0, none⟩) (.inr (Nat.le_refl _)) _).setCell (p := ⟨w.heap.size, 1, none⟩) (.inr (Nat.le_refl _)) _).alloc _
  · have hk2 : keyB k = false := by simpa using hk
    rw [dg_out hk2, dr_out hk2]
    clear hk
    go_enter Tryz.func68, Tryz.ntmps68
    go_wp2_with fail
    refine (key12 _ _).mono ?_
    rintro e w' ⟨rfl, rfl⟩
    rw [hk2]
    clear hk2
    go_wp2
    refine bodyPost_ret (v := .tuple #[.agg #[.bool false, .string ByteArray.empty], .int .i64 1]) (by simp [results, Tryz.results68, go_sem]; rfl) rfl (wgEnd_kp rfl (unhide HW) ?_)
    exact (Kp.refl [] w).alloc _
/-- What List tells, and what it leaves. -/
def WlEnd (L : List Ver × Int × List Int) (B : Nat) (w : World) (wb : Nat) (H : List Nat) (md y : Int) (ws : List Ver) (e : Ending) (w' : World) : Prop :=
  ∃ a cap, e = .returned (.tuple #[.slice a L.1.length cap, .int .i64 L.2.1]) ∧ w'.ownsRow w.heap.size 106 3 (.slice a L.1.length cap) L.1.length (vcells L.1) ∧
    ∃ H', Wrk B w' wb H' md y L.2.2 ws ∧ Kp H w w' ∧ (∀ x, x ∈ H' → x ∈ H ∨ w.heap.size ≤ x) ∧ ∀ g, (Value.slice a L.1.length cap).ownBlock = some g → g ∉ H'
theorem wlEnd_mk {L : List Ver × Int × List Int} {B : Nat} {w w' : World} {wb : Nat} {H H' : List Nat} {md y : Int} {ws : List Ver} (acc : List Ver) (code : Int) (rs : List Int) (a : Option Addr) (cap : Nat) (h : L = (acc, code, rs)) (ho : w'.ownsRow w.heap.size 106 3 (.slice a acc.length cap) acc.length (vcells acc))
    (hd : Wrk B w' wb H' md y rs ws) (hk : Kp H w w') (hs : ∀ x, x ∈ H' → x ∈ H ∨ w.heap.size ≤ x) (hf : ∀ g, (Value.slice a acc.length cap).ownBlock = some g → g ∉ H') : WlEnd L B w wb H md y ws (.returned (.tuple #[.slice a acc.length cap, .int .i64 code])) w' := by
  subst h; exact ⟨a, cap, rfl, ho, H', hd, hk, hs, hf⟩

/-- What stands at the head of a round of List. -/
structure WlI (R : List Ver × Int × List Int) (B : Nat) (w : World) (wb : Nat) (H : List Nat) (md y : Int) (f : Nat → List Ver) (n : Nat) (ws : List Ver) (t k : Nat) (acc : List Ver) (rs : List Int) (a : Option Addr) (cap : Nat) (wr : World) (Hk : List Nat) : Prop where
  goes : dgo f n y ws k (t + 1 - k) acc rs = R
  own : wr.ownsRow w.heap.size 106 3 (.slice a acc.length cap) acc.length (vcells acc)
  wrk : Wrk B wr wb Hk md y rs ws
  kp : Kp H w wr
  sub : ∀ x, x ∈ Hk → x ∈ H ∨ w.heap.size ≤ x
  far : ∀ g, (Value.slice a acc.length cap).ownBlock = some g → g ∉ Hk
  len : acc.length ≤ k

theorem own_lt {B : Nat} {w : World} {e : TypeId} {size n g : Nat} {v : Value} {xs : List Value} (h : w.ownsRow B e size v n xs) (hg : v.ownBlock = some g) : g < w.heap.size := by
  rcases h.2 with ⟨hn, _⟩ | ⟨g', cap, cur, rfl, h2, h3, h4⟩
  · subst hn; simp [Value.ownBlock] at hg
  · have : g' = g := by simpa [Value.ownBlock] using hg
    subst this
    exact lt_of_block h3

section
variable {R : List Ver × Int × List Int} {B : Nat} {w wr w1 W w2 : World} {wb : Nat} {H Hk H1 : List Nat} {md y : Int} {f : Nat → List Ver} {n : Nat} {ws : List Ver} {t k : Nat} {acc : List Ver} {rs : List Int} {a : Option Addr} {cap : Nat}
theorem WlI.own1 (h : WlI R B w wb H md y f n ws t k acc rs a cap wr Hk) (hk : Kp Hk wr w1) : w1.ownsRow w.heap.size 106 3 (.slice a acc.length cap) acc.length (vcells acc) := own_kp h.own hk h.far
theorem WlI.far1 (h : WlI R B w wb H md y f n ws t k acc rs a cap wr Hk) (hs : ∀ x, x ∈ H1 → x ∈ Hk ∨ wr.heap.size ≤ x) : ∀ g, (Value.slice a acc.length cap).ownBlock = some g → g ∉ H1 := by
  intro g hg hm
  rcases hs g hm with e | e
  · exact h.far g hg e
  · have := own_lt h.own hg; omega
theorem WlI.sub1 (h : WlI R B w wb H md y f n ws t k acc rs a cap wr Hk) (hs : ∀ x, x ∈ H1 → x ∈ Hk ∨ wr.heap.size ≤ x) : ∀ x, x ∈ H1 → x ∈ H ∨ w.heap.size ≤ x := by
  intro x hx
  rcases hs x hx with e | e
  · exact h.sub x e
  · right; have := h.kp.size; omega
theorem WlI.skip (h : WlI R B w wb H md y f n ws t k acc rs a cap wr Hk) (hk : k ≤ t) (hw : Kp Hk wr w1) (hd : Wrk B w1 wb H1 md y (dr f n y rs ws k) ws) (hs : ∀ x, x ∈ H1 → x ∈ Hk ∨ wr.heap.size ≤ x)
    (h0 : (dg f n y ws k).a = 0) (ht : ¬ (dg f n y ws k).t = true) : WlI R B w wb H md y f n ws t (k + 1) acc (dr f n y rs ws k) a cap w1 H1 :=
  ⟨by have := h.goes; rw [show t + 1 - k = (t + 1 - (k + 1)) + 1 by omega] at this; exact dgo_skip this h0 ht, h.own1 hw, hd, h.kp.trans hw h.sub, h.sub1 hs, h.far1 hs, by have := h.len; omega⟩
theorem WlI.more (h : WlI R B w wb H md y f n ws t k acc rs a cap wr Hk) (hk : k ≤ t) (hw : Kp Hk wr W) (hd : Wrk B W wb H1 md y (dr f n y rs ws k) ws) (hs : ∀ x, x ∈ H1 → x ∈ Hk ∨ wr.heap.size ≤ x)
    (h0 : (dg f n y ws k).a = 0) (ht : (dg f n y ws k).t = true) {g2 cap2 : Nat} (hown : w2.ownsRow w.heap.size 106 3 (.slice (some ⟨g2, 0, none⟩) (acc.length + 1) cap2) (acc.length + 1) (vcells acc ++ [.int .i64 k, .bool true, .string (dg f n y ws k).s]))
    (hgrow : W.grownBy w2 (Value.slice a acc.length cap).ownBlock) (hat : (Value.slice a acc.length cap).ownBlock = some g2 ∨ g2 = W.heap.size) : WlI R B w wb H md y f n ws t (k + 1) (acc ++ [⟨k, (dg f n y ws k).t, (dg f n y ws k).s⟩]) (dr f n y rs ws k) (some ⟨g2, 0, none⟩) cap2 w2 H1 := by
  have hk1 : Kp (Value.slice a acc.length cap).ownBlock.toList W w2 := (Kp.refl _ W).grown hgrow (fun g hg => .inl (by simp [hg]))
  refine ⟨by have := h.goes; rw [show t + 1 - k = (t + 1 - (k + 1)) + 1 by omega] at this; exact dgo_more this h0 ht, ?_, hd.kp hk1 (fun x hx hm => h.far1 hs x (by simpa using hm) hx), ?_, h.sub1 hs, ?_, by have := h.len; simp; omega⟩
  · have hv : vcells acc ++ [.int .i64 k, .bool true, .string (dg f n y ws k).s] = vcells (acc ++ [⟨k, (dg f n y ws k).t, (dg f n y ws k).s⟩]) := by rw [vcells_append, ht]; rfl
    rw [hv] at hown
    simpa using hown
  · exact (h.kp.trans hw h.sub).grown hgrow (fun g hg => .inr (own_ge h.own hg))
  · intro g hg hm
    have e : g2 = g := by simpa [Value.ownBlock] using hg
    subst e
    rcases hat with e | e
    · exact h.far1 hs g2 e hm
    · have := (hd.lo g2 hm).2; omega
end

set_option maxHeartbeats 2000000 in
theorem wlist60x {B sb n wb : Nat} {G H : List Nat} {f : Nat → List Ver} {md y : Int} {rs : List Int} {ws : List Ver} (fr to_ : Int) (w : World) (h : Sht B w sb G f n) (hd : Wrk B w wb H md y rs ws) (hF : ∀ x, x ∈ G → x ∉ H) (hrl : rs.length ≤ 2900) (hwl : ws.length ≤ 900) :
    Calls Tryz.prog 70 #[.pointer (some ⟨wb, 0, none⟩), .pointer (some ⟨sb, 0, none⟩), .int .i64 fr, .int .i64 to_] w fun e w' => WlEnd (dls f n y ws rs fr to_) B w wb H md y ws e w' := by
  obtain ⟨in0, hi0, hz0, hz1, hz2⟩ := info_parts Tryz.info106
  have HT := hide h
  have HD := hide hd
  have HF := hide hF
  clear h hd hF
  by_cases hf : keyB fr = true
  · by_cases ht : keyB to_ = true
    · obtain ⟨p, hp, rfl⟩ := keyB_nat hf
      obtain ⟨t, ht8, rfl⟩ := keyB_nat ht
      have H0 : Hid (WlI (dls f n y ws rs p t) B w wb H md y f n ws t p [] rs none 0 w H) := ⟨(dls_in hf ht).symm, World.ownsRow_nil _ _ _ _, unhide HD, Kp.refl _ _, fun _ hx => .inl hx, fun g hg => by simp [Value.ownBlock] at hg, by simp⟩
      generalize dls f n y ws rs p t = R at *
      go_enter Tryz.func70, Tryz.ntmps70
      go_wp2_with fail
      refine (key12 _ _).mono ?_
      rintro e w' ⟨rfl, hw'⟩
      subst w'
      rw [hf]
      go_wp2_with fail
      refine (key12 _ _).mono ?_
      rintro e w' ⟨rfl, hw'⟩
      subst w'
      rw [ht]
      clear hf ht
      go_wp2_with fail
      go_loopw [10, 11] (fun s i wr => ∃ (k : Nat) (acc : List Ver) (rk : List Int) (a : Option Addr) (cap : Nat) (Hk : List Nat), k ≤ 8 ∧ s = .slice a acc.length cap ∧ i = .int .i64 k ∧ rk.length ≤ 2900 + k ∧ Hid (WlI R B w wb H md y f n ws t k acc rk a cap wr Hk)) (fun _ i _ => 8 - (intOf i).toNat)
      case atStart => exact ⟨p, [], rs, none, 0, H, by omega, rfl, rfl, by omega, H0⟩
      case round =>
        obtain ⟨k, acc, rk, a, cap, Hk, hk, rfl, rfl, hrk, HL⟩ := hrel
        by_cases hlt : k ≤ t
        · have j0 : (k : Int) ≤ (t : Int) := by omega
          have hdl := dr_len f n y rk ws k
          go_wp2_with fail
          refine (wget56x k _ ((unhide HT).kp (unhide HL).kp (unhide HF)) (unhide HL).wrk (by omega) hwl).mono ?_
          rintro e w1 ⟨rfl, H1, hd1, hk1, hs1⟩
          have HK1 := hide hk1
          have HD1 := hide hd1
          have HS1 := hide hs1
          clear hk1 hd1 hs1
          by_cases h0 : (dg f n y ws k).a = 0
          · have H00 := hide h0
            rw [h0]
            clear h0
            by_cases h1 : (dg f n y ws k).t = true
            · have H1T := hide h1
              rw [h1]
              have hOW := hide ((unhide HL).own1 (((unhide HK1).alloc (.cells #[.bool true, .string (dg f n y ws k).s] 99)).alloc (.cells #[.int .i64 k, .bool true, .string (dg f n y ws k).s] 106)))
              have hal := (unhide HL).len
              have hwl2 := Nat.le_trans (unhide HL).kp.size (unhide HK1).size
              go_wp2_with (at_builtin; refine wpList_append_lies _ rfl _ _ 100 rfl w.heap.size 106 in0 _ 3 32 Tryz.underlying100 hi0 hz0 hz1 hz2 rfl (by omega) (.slice a acc.length cap) acc.length (vcells acc) rfl (unhide hOW) ⟨w1.heap.size + 1, 0, none⟩ 1 1 [.int .i64 k, .bool true, .string (dg f n y ws k).s] (by rfl) (by rfl) (World.news_of_block (cs := #[.int .i64 k, .bool true, .string (dg f n y ws k).s]) (t := 106) (fr := (0, 0)) (by have := heap_alloc_new (w1.alloc (.cells #[.bool true, .string (dg f n y ws k).s] 99)) (.cells #[.int .i64 k, .bool true, .string (dg f n y ws k).s] 106); simpa using this)) (by simp [Value.oneCell']) (by omega) (by unfold maxLen; omega) (by omega) (by simp; omega) _ rfl ?_; intro g2 cap2 w2 hown hgrow hat hlt2)
              have HL2 := hide ((unhide HL).more hlt (((unhide HK1).alloc _).alloc _) ((unhide HD1).kp0 (((Kp.refl [] w1).alloc _).alloc _)) (unhide HS1) (unhide H00) (unhide H1T) hown hgrow hat)
              clear hown hgrow hat
              go_wp2_with fail
              exact ⟨⟨k + 1, _, _, _, _, _, by omega, by simp, by go_num, by omega, HL2⟩, by simp [intOf]; omega⟩
            · have HL2 := hide ((unhide HL).skip hlt ((unhide HK1).alloc (.cells #[.bool (dg f n y ws k).t, .string (dg f n y ws k).s] 99)) ((unhide HD1).kp0 ((Kp.refl [] w1).alloc _)) (unhide HS1) (unhide H00) h1)
              have h1' : (dg f n y ws k).t = false := by simpa using h1
              rw [h1'] at HL2 ⊢
              clear h1 h1'
              go_wp2_with fail
              exact ⟨⟨k + 1, acc, _, a, cap, _, by omega, rfl, by go_num, by omega, HL2⟩, by simp [intOf]; omega⟩
          · have hg := (unhide HL).goes
            rw [show t + 1 - k = (t - k) + 1 by omega] at hg
            have hst := dgo_stop hg h0
            clear hg
            have HST := hide hst
            have HK2 := hide (((unhide HL).kp.trans (unhide HK1) (unhide HL).sub).alloc (.cells #[.bool (dg f n y ws k).t, .string (dg f n y ws k).s] 99))
            have HD2 := hide ((unhide HD1).kp0 ((Kp.refl [] w1).alloc (.cells #[.bool (dg f n y ws k).t, .string (dg f n y ws k).s] 99)))
            have HS2 := hide ((unhide HL).sub1 (unhide HS1))
            clear hst
            generalize (dg f n y ws k).a = q at *
            generalize (dg f n y ws k).t = qt at *
            generalize (dg f n y ws k).s = qs at *
            go_wp2_with fail
            go_ret2
            exact wlEnd_mk [] _ _ none 0 (unhide HST) (World.ownsRow_nil _ _ _ _) (unhide HD2) (unhide HK2) (unhide HS2) (fun g hg => by simp [Value.ownBlock] at hg)
        · have j0 : ¬ (k : Int) ≤ (t : Int) := by omega
          have hst := dgo_end (unhide HL).goes (by omega)
          have HST := hide hst
          clear hst
          go_wp2_with fail
          go_ret2
          exact wlEnd_mk acc 0 _ a cap (unhide HST) (unhide HL).own (unhide HL).wrk (unhide HL).kp (unhide HL).sub (unhide HL).far
    · have HE1 := hide (dls_out (f := f) (n := n) (y := y) (ws := ws) (rs := rs) (p := fr) (t := to_) (fun h => ht h.2))
      have ht2 : keyB to_ = false := by simpa using ht
      clear ht
      go_enter Tryz.func70, Tryz.ntmps70
      go_wp2_with fail
      refine (key12 _ _).mono ?_
      rintro e w' ⟨rfl, rfl⟩
      rw [hf]
      go_wp2_with fail
      refine (key12 _ _).mono ?_
      rintro e w' ⟨rfl, rfl⟩
      rw [ht2]
      go_wp2_with fail
      go_ret2
      exact wlEnd_mk [] 1 _ none 0 (unhide HE1) (World.ownsRow_nil _ _ _ _) (unhide HD) (Kp.refl _ _) (fun _ hx => .inl hx) (fun g hg => by simp [Value.ownBlock] at hg)
  · have HE1 := hide (dls_out (f := f) (n := n) (y := y) (ws := ws) (rs := rs) (p := fr) (t := to_) (fun h => hf h.1))
    have hf2 : keyB fr = false := by simpa using hf
    clear hf
    go_enter Tryz.func70, Tryz.ntmps70
    go_wp2_with fail
    refine (key12 _ _).mono ?_
    rintro e w' ⟨rfl, rfl⟩
    rw [hf2]
    go_wp2_with fail
    go_ret2
    exact wlEnd_mk [] 1 _ none 0 (unhide HE1) (World.ownsRow_nil _ _ _ _) (unhide HD) (Kp.refl _ _) (fun _ hx => .inl hx) (fun g hg => by simp [Value.ownBlock] at hg)

set_option maxHeartbeats 2000000 in
theorem wmay69x {B sb n wb : Nat} {G H : List Nat} {f : Nat → List Ver} {md y : Int} {rs : List Int} {ws : List Ver} (w : World) (h : Sht B w sb G f n) (hd : Wrk B w wb H md y rs ws) (hrl : rs.length ≤ 3000) (hwl : ws.length ≤ 900) :
    Calls Tryz.prog 72 #[.pointer (some ⟨wb, 0, none⟩), .pointer (some ⟨sb, 0, none⟩)] w fun e w' => e = .returned (.int .i64 (dm f md y rs ws)) ∧ Kp [] w w' := by
  obtain ⟨g, o, cap, h⟩ := h
  have HT := hide h
  have HD := hide hd
  clear h hd
  have HC0 : Hid (cls f y ws 0 = false) := rfl
  go_enter Tryz.func72, Tryz.ntmps72
  go_wp2_with fail
  go_loopw [5] (fun i wr => ∃ k : Nat, k ≤ 8 ∧ i = .int .i64 k ∧ Hid (cls f y ws k = false) ∧ Hid (Kp [] w wr)) (fun i _ => 8 - (intOf i).toNat)
  case atStart => exact ⟨0, by omega, rfl, HC0, Kp.refl _ _⟩
  case round =>
    obtain ⟨k, hk, rfl, HC, HK⟩ := hrel
    by_cases hlt8 : k < 8
    · have i0 : (0 : Int) ≤ (k : Int) := by omega
      have i1 : (k : Int) < 8 := by omega
      go_wp2_with fail
      refine (wlast81 k _ ((unhide HD).kp0 (unhide HK)) (by omega)).mono ?_
      rintro e w1 ⟨rfl, hkp⟩
      have hk1 := (unhide HK).trans0 hkp
      generalize hsn : snc f k = sn at *
      have HSN := hide hsn
      clear hsn
      cases hv : lwr ws k with
      | some v =>
        simp only [Option.isSome_some, Option.getD_some]
        have hk2 := hk1.alloc (.cells #[.bool v.t, .string v.s] 99)
        obtain ⟨ra, rc, wa, wc, hw1⟩ := (unhide HD).kp0 hk1
        have ht1 := (unhide HT).kp hk1 (fun _ _ => by simp)
        have qL := ht1.kcell hlt8
        have qy := hw1.c1
        have hlb := lt_of_block hw1.box
        have hls := (ht1.lo sb ht1.sG).2
        have HK2 := hide hk2
        have HV := hide hv
        clear hkp hk1 hk2 hw1 ht1 hv
        by_cases hgt : y < sn
        · have HN := hide (dm_clash (md := md) (rs := rs) (cls_mono (cls_yes (unhide HV) (by rw [unhide HSN]; exact hgt)) 8 (by omega)))
          go_wp2_with fail
          go_quiet ((go_at_call 107; exact Calls.quiet_of_same (sl_last _ (unhide HT) ((unhide HK2).drewN _) hlt8 sn (unhide HSN))))
          go_wp2
          go_ret
          exact ⟨ret_int (unhide HN).symm, (unhide HK2).drewN _⟩
        · have HN := hide (cls_old (ws := ws) (f := f) (y := y) (k := k) (by rw [unhide HSN]; omega))
          have hle : sn ≤ y := by omega
          go_wp2_with fail
          go_quiet ((go_at_call 107; exact Calls.quiet_of_same (sl_last _ (unhide HT) ((unhide HK2).drewN _) hlt8 sn (unhide HSN))))
          go_wp2
          exact ⟨⟨k + 1, by omega, by go_num, by rw [unhide HN]; exact HC, (unhide HK2).drewN _⟩, by simp [intOf]; omega⟩
      | none =>
        simp only [Option.isSome_none, Option.getD_none]
        have HK2 := hide (hk1.alloc (.cells #[.bool dv.t, .string dv.s] 99))
        have HN := hide (cls_no (f := f) (y := y) hv)
        clear hkp hk1 hv
        go_wp2_with fail
        go_quiet (fail)
        go_wp2
        exact ⟨⟨k + 1, by omega, by go_num, by rw [unhide HN]; exact HC, (unhide HK2).drewN _⟩, by simp [intOf]; omega⟩
    · have e : k = 8 := by omega
      subst e
      have HE := hide (dm_end (md := md) (rs := rs) (unhide HC))
      have HM0 : Hid (mcd f md y rs 0 = 0) := by simp [mcd, stl]; exact trivial
      have HK0 := HK
      clear HC
      go_wp2_with fail
      go_loopw [8] (fun i wr => ∃ k : Nat, k ≤ 8 ∧ i = .int .i64 k ∧ Hid (mcd f md y rs k = 0) ∧ Hid (Kp [] w wr)) (fun i _ => 8 - (intOf i).toNat)
      case atStart => exact ⟨0, by omega, rfl, HM0, HK0⟩
      case round =>
        obtain ⟨k, hk, rfl, HC, HK⟩ := hrel
        by_cases hlt8 : k < 8
        · have i0 : (0 : Int) ≤ (k : Int) := by omega
          have i1 : (k : Int) < 8 := by omega
          obtain ⟨ra, rc, wa, wc, hw1⟩ := (unhide HD).kp0 (unhide HK)
          have ht1 := (unhide HT).kp (unhide HK) (fun _ _ => by simp)
          have qL := ht1.kcell hlt8
          have qm := hw1.c0
          have qy := hw1.c1
          have qr := hw1.c2
          have HS := hide hw1.rsl
          clear hw1 ht1
          generalize hsn : snc f k = sn at *
          have HSN := hide hsn
          clear hsn
          by_cases hm : md = 2
          · by_cases hr : (k : Int) ∈ rs
            · have hd : decide ((k : Int) ∈ rs) = true := by simp [hr]
              have HD2 := hide hd
              by_cases hgt : y < sn
              · have HN : Hid (dm f md y rs ws = 11) := (unhide HE).trans (mcd_yes hm (stl_mono (stl_yes hr (by rw [unhide HSN]; exact hgt)) 8 (by omega)))
                subst hm
                clear hr hd
                go_wp2_with fail
                go_quiet ((first | (go_at_call 108; exact Calls.quiet_of_same ((in72x ra rc k _ ((unhide HS).kp0 ((Kp.refl [] _).drewN _)) (by omega)).mono (fun e w' q => ⟨by rw [q.1, unhide HD2], q.2⟩))) | (go_at_call 107; exact Calls.quiet_of_same (sl_last _ (unhide HT) ((unhide HK).drewN _) hlt8 sn (unhide HSN)))))
                go_wp2
                go_ret
                exact ⟨ret_int (unhide HN).symm, (unhide HK).drewN _⟩
              · have HN := hide ((mcd_eq (md := md) (stl_old (rs := rs) (f := f) (y := y) (k := k) (by rw [unhide HSN]; omega))).trans (unhide HC))
                have hle : sn ≤ y := by omega
                subst hm
                clear hr hd
                go_wp2_with fail
                go_quiet ((first | (go_at_call 108; exact Calls.quiet_of_same ((in72x ra rc k _ ((unhide HS).kp0 ((Kp.refl [] _).drewN _)) (by omega)).mono (fun e w' q => ⟨by rw [q.1, unhide HD2], q.2⟩))) | (go_at_call 107; exact Calls.quiet_of_same (sl_last _ (unhide HT) ((unhide HK).drewN _) hlt8 sn (unhide HSN)))))
                go_wp2
                refine ⟨⟨_, _, _, _, _, _, _, _, _, _, _, _, _, _, _, _, _, _, _, _, _, _, _, _, _, _, _, _, _, _, _, _, _, ?_, rfl⟩, by simp [intOf]; omega⟩
                exact ⟨k + 1, by omega, by go_num, HN, (unhide HK).drewN _⟩
            · have hd : decide ((k : Int) ∈ rs) = false := by simp [hr]
              have HD2 := hide hd
              have HN := hide ((mcd_eq (md := md) (stl_no (f := f) (y := y) hr)).trans (unhide HC))
              subst hm
              clear hr hd
              go_wp2_with fail
              go_quiet ((go_at_call 108; exact Calls.quiet_of_same ((in72x ra rc k _ ((unhide HS).kp0 ((Kp.refl [] _).drewN _)) (by omega)).mono (fun e w' q => ⟨by rw [q.1, unhide HD2], q.2⟩))))
              go_wp2
              exact ⟨⟨k + 1, by omega, by go_num, HN, (unhide HK).drewN _⟩, by simp [intOf]; omega⟩
          · have HN := hide (mcd_not (f := f) (y := y) (rs := rs) (k := k + 1) hm)
            have em : (md == 2) = false := beq_eq_false_iff_ne.2 hm
            clear hm
            go_wp2_with fail
            go_quiet (fail)
            go_wp2
            exact ⟨⟨k + 1, by omega, by go_num, HN, (unhide HK).drewN _⟩, by simp [intOf]; omega⟩
        · have e : k = 8 := by omega
          subst e
          have HN := hide ((unhide HE).trans (unhide HC))
          go_wp2_with fail
          go_ret
          exact ⟨ret_int (unhide HN).symm, unhide HK⟩
set_option maxHeartbeats 1000000 in
theorem ccommitx {B cb sb n wb : Nat} {G Gr Gs H : List Nat} {bx : Array Value} {f : Nat → List Ver} {cs : List (List Ver)} {st : Nat → Option Addr} {md y : Int} {rs : List Int} {ws : List Ver} (w : World) (h : Crt B w cb sb G Gr Gs bx f n cs [] st) (hv : VI f n cs) (hd : Wrk B w wb H md y rs ws) (hw : WOk ws) (hrl : rs.length ≤ 3000) (hwl : ws.length ≤ 900) :
    Calls Tryz.prog 71 #[.pointer (some ⟨cb, 0, none⟩), .pointer (some ⟨wb, 0, none⟩)] w fun e w' => e = .returned (.tuple #[.int .i64 (vnum f n cs md y rs ws), .int .i64 (vcode f cs md y rs ws)]) ∧ Ch (CrtT cb sb (vf f n cs md y rs ws) (vn f n cs md y rs ws) (vcs f cs md y rs ws) [] st) B w G w' := by
  have HM := hide (wmay69x w h.s hd hrl hwl)
  have HD := hide hd
  have HV := hide h
  have c0 := h.c0
  have hpl := wk_len ws 8
  have HP := hide hw.pf
  have HR := hide hv
  have hn40 := h.s.inv.n40
  clear h hd hw hv
  by_cases hz : dm f md y rs ws = 0
  · rw [hz] at HM
    by_cases hl : (wk ws 8).length = 0
    · obtain ⟨e1, e2⟩ := v_none (cs := cs) hz hl
      obtain ⟨e3, e4, e5, e6⟩ := v_not (n := n) e2
      rw [e1, e3, e4, e5, e6]
      clear e1 e2 e3 e4 e5 e6 HR HP
      go_enter Tryz.func71, Tryz.ntmps71
      go_wp2_with fail
      refine (unhide HM).mono ?_
      rintro e w0 ⟨rfl, hk0⟩
      have HK0 := hide hk0
      clear hk0 HM
      go_wp2_with fail
      refine (wwrites67 w0 ((unhide HD).kp0 (unhide HK0)) hwl).mono ?_
      rintro e w1 ⟨a, cap, rfl, _, hk⟩
      rw [hl]
      have HK := hide ((unhide HK0).trans0 hk)
      clear hk hl
      go_wp2_with fail
      go_ret2
      exact ⟨rfl, Ch.same ⟨Gr, Gs, bx, unhide HV⟩ (unhide HK)⟩
    · have HL := hide hl
      by_cases hc : lcode cs (wk ws 8) = 0
      · obtain ⟨e1, e2⟩ := v_yes hz hl hc
        obtain ⟨e3, e4, e5, e6⟩ := v_did (n := n) e2
        rw [e1, e3, e4, e5, e6]
        clear e1 e2 e3 e4 e5 e6
        obtain ⟨q1, q2, q3⟩ := (unhide HR).room hc
        have hlp : lput cs (wk ws 8) = cs ++ [wk ws 8] := by unfold lput; rw [if_pos hc]
        have HLP := hide hlp
        have HC := hide hc
        have HQ := hide (And.intro q1 (And.intro q2 q3))
        clear q1 q2 q3 hlp hc hz
        have HWW := hide (fun w0 (hk0 : Kp [] w w0) => wwrites67 w0 ((unhide HD).kp0 hk0) hwl)
        generalize wk ws 8 = ps at *
        go_enter Tryz.func71, Tryz.ntmps71
        go_wp2_with fail
        refine (unhide HM).mono ?_
        rintro e w0 ⟨rfl, hk0⟩
        have HK0 := hide hk0
        clear hk0 HM
        go_wp2_with fail
        refine (unhide HWW w0 (unhide HK0)).mono ?_
        rintro e w1 ⟨a, cap, rfl, ho0, hk1⟩
        have ho := own_base ho0 (unhide HK0).size
        have hk := (unhide HK0).trans0 hk1
        have h1 := (unhide HV).kp0 hk
        have HPR := hide (slo_prs (slo_own ho rfl) (unhide HP))
        have HO := hide ho
        have H1 := hide h1
        have HK := hide hk
        clear ho ho0 h1 hk hk1 HWW HK0
        go_wp2_with fail
        refine (rxput a cap ps w1 (unhide H1).r (unhide HPR) (by omega)).mono ?_
        rintro e w2 ⟨rfl, hL⟩
        rw [unhide HC]
        rw [unhide HLP] at hL
        obtain ⟨G2, ⟨Gr2, Gs2, bx2, h2⟩, k2, s2⟩ := (unhide H1).roll hL
        have hfar : ∀ g o, a = some ⟨g, o, none⟩ → g ∉ G := fun g o ea hm => by
          have h3 := (own_addr1 (unhide HO) g o ea).1
          have h4 := ((unhide HV).lo g hm).2
          omega
        have hfar2 : ∀ g o, a = some ⟨g, o, none⟩ → g ∉ Gs2 := fun g o ea hm => by
          rcases s2 g (h2.sG g hm) with e | e
          · exact hfar g o ea e
          · have h3 := (own_addr1 (unhide HO) g o ea).2
            omega
        have HPR2 := hide ((unhide HPR).kp k2 hfar)
        have HFAR := hide hfar2
        have d0 := h2.c0
        have H2 := hide h2
        have K2 := hide k2
        have S2 := hide s2
        clear h2 k2 s2 hL hfar hfar2 c0
        go_wp2_with fail
        refine (swrite56 a cap ps w2 (unhide H2).s (unhide HPR2) (fun _ => unhide HFAR) (by omega)).mono ?_
        rintro e w3 ⟨rfl, Gs3, hT, hk3, hs3⟩
        rw [(unhide HQ).1, (unhide HQ).2.2]
        rw [(unhide HQ).2.1] at hT
        have HZ := hide (Ch.after (unhide HK) (Ch.trans (unhide K2) (unhide S2) ((unhide H2).sheet hT hk3 hs3)))
        clear hT hk3 hs3
        go_wp2_with fail
        go_ret2
        exact ⟨rfl, unhide HZ⟩
      · obtain ⟨e1, e2⟩ := v_full hz hl hc
        obtain ⟨e3, e4, e5, e6⟩ := v_not (n := n) e2
        rw [e1, e3, e4, e5, e6]
        clear e1 e2 e3 e4 e5 e6
        have hlp : lput cs (wk ws 8) = cs := by unfold lput; rw [if_neg hc]
        have HLP := hide hlp
        clear hlp hz
        generalize hzz : lcode cs (wk ws 8) = z at *
        have HZZ := hide hzz
        clear hzz
        have HWW := hide (fun w0 (hk0 : Kp [] w w0) => wwrites67 w0 ((unhide HD).kp0 hk0) hwl)
        generalize wk ws 8 = ps at *
        go_enter Tryz.func71, Tryz.ntmps71
        go_wp2_with fail
        refine (unhide HM).mono ?_
        rintro e w0 ⟨rfl, hk0⟩
        have HK0 := hide hk0
        clear hk0 HM
        go_wp2_with fail
        refine (unhide HWW w0 (unhide HK0)).mono ?_
        rintro e w1 ⟨a, cap, rfl, ho, hk1⟩
        have hk := (unhide HK0).trans0 hk1
        have h1 := (unhide HV).kp0 hk
        have HPR := hide (slo_prs (slo_own ho rfl) (unhide HP))
        have H1 := hide h1
        have HK := hide hk
        clear ho h1 hk hk1 HWW HK0
        go_wp2_with fail
        refine (rxput a cap ps w1 (unhide H1).r (unhide HPR) (by omega)).mono ?_
        rintro e w2 ⟨rfl, hL⟩
        rw [unhide HZZ]
        rw [unhide HLP] at hL
        have HX := hide (Ch.after (unhide HK) ((unhide H1).roll hL))
        clear hL c0
        go_wp2_with fail
        go_ret2
        exact ⟨rfl, unhide HX⟩
  · obtain ⟨e1, e2⟩ := v_may (cs := cs) hz
    obtain ⟨e3, e4, e5, e6⟩ := v_not (n := n) e2
    rw [e1, e3, e4, e5, e6]
    clear e1 e2 e3 e4 e5 e6 HR HP
    generalize dm f md y rs ws = z at *
    go_enter Tryz.func71, Tryz.ntmps71
    go_wp2_with fail
    refine (unhide HM).mono ?_
    rintro e w1 ⟨rfl, hk⟩
    have HK := hide hk
    clear hk HM
    go_wp2_with fail
    go_ret2
    exact ⟨rfl, Ch.same ⟨Gr, Gs, bx, unhide HV⟩ (unhide HK)⟩

end
/- A court among things: its box, its seats' deeds. -/
section
open Go.RowKit

/-- A seat's deed of the document. -/
def WOpt : Sd → Thing
  | none => ManyT []
  | some x => WkT x.1 x.2.md x.2.y x.2.rs x.2.ws
def ad (o : Sd) : Option Addr := o.map fun x => ⟨x.1, 0, none⟩
def ads (st : Nat → Sd) : Nat → Option Addr := fun s => ad (st s)
theorem ads_upd (st : Nat → Sd) (s : Nat) (d : Sd) : ads (upd st s d) = upd (ads st) s (ad d) := by
  funext j
  simp only [ads, upd]
  split <;> rfl
theorem ads_same {st : Nat → Sd} {s : Nat} {d : Sd} (h : ad d = ad (st s)) : ads (upd st s d) = ads st := by
  rw [ads_upd, h]
  funext j
  simp only [ads, upd]
  split
  · rename_i e; rw [e]
  · rfl
def wseats (st : Nat → Sd) : List Thing := [WOpt (st 0), WOpt (st 1), WOpt (st 2), WOpt (st 3), WOpt (st 4)]
/-- A court among things, its parts known. -/
def Cou (w0 w : World) (cb sb : Nat) (h : HSt) (st : Nat → Sd) (r : List Thing) : Prop := Zoo w0 w (CrtT cb sb h.f h.n h.cs [] (ads st) :: (wseats st ++ r))
def CouT (cb : Nat) (h : HSt) : Thing where
  holds B w F := ∃ sb st, Sts st h.seat ∧ HInv h ∧ ZooF B w (CrtT cb sb h.f h.n h.cs [] (ads st) :: wseats st) F
  kp := fun ⟨sb, st, h1, h2, h3⟩ hk hS => ⟨sb, st, h1, h2, ZooF.kp hk h3 hS⟩
  lo := fun ⟨_, _, _, _, h⟩ => h.lo
  base := fun ⟨sb, st, h1, h2, h3⟩ hC => ⟨sb, st, h1, h2, ZooF.base hC h3⟩
section
variable {w0 w w' : World} {cb sb : Nat} {h h' : HSt} {st : Nat → Sd} {r : List Thing}
theorem cou_open (hz : Zoo w0 w (CouT cb h :: r)) : ∃ sb st, Sts st h.seat ∧ HInv h ∧ Cou w0 w cb sb h st r := by
  obtain ⟨X, ⟨F, Y, ⟨sb, st, h1, h2, k⟩, h4, h5, rfl⟩, hk⟩ := hz
  exact ⟨sb, st, h1, h2, F ++ Y, zoof_join k h4 h5, hk⟩
theorem cou_close (hs : Sts st h.seat) (hi : HInv h) (hz : Cou w0 w cb sb h st r) : Zoo w0 w (CouT cb h :: r) := by
  obtain ⟨X, h1, hk⟩ := hz
  obtain ⟨F, Y, k1, k2, k3, rfl⟩ := zoof_app (us := CrtT cb sb h.f h.n h.cs [] (ads st) :: wseats st) (vs := r) h1
  exact ⟨F ++ Y, ⟨F, Y, ⟨sb, st, hs, hi, k1⟩, k2, k3, rfl⟩, hk⟩
theorem Cou.kp0 (hz : Cou w0 w cb sb h st r) (hk : Kp [] w w') : Cou w0 w' cb sb h st r := Zoo.kp0 hz hk
theorem Cou.as {h' : HSt} (hz : Cou w0 w cb sb h st r) (e1 : h'.f = h.f) (e2 : h'.n = h.n) (e3 : h'.cs = h.cs) : Cou w0 w cb sb h' st r := by
  unfold Cou at hz ⊢
  rw [e1, e2, e3]
  exact hz
theorem Cou.crt (hz : Cou w0 w cb sb h st r) : ∃ G Gr Gs bx, Crt w0.heap.size w cb sb G Gr Gs bx h.f h.n h.cs [] (ads st) ∧ ∀ (sb' : Nat) (f : Nat → List Ver) (n : Nat) (cs : List (List Ver)) (seat : Nat → Option Dp) (w' : World), Ch (CrtT cb sb' f n cs [] (ads st)) w0.heap.size w G w' → Cou w0 w' cb sb' ⟨f, n, cs, seat⟩ st r := by
  obtain ⟨G, ⟨Gr, Gs, bx, k⟩, k2⟩ := zoo_at0 hz
  exact ⟨G, Gr, Gs, bx, k, fun sb' f n cs seat w' hc => k2 _ _ hc⟩
theorem Cou.c0 (hz : Cou w0 w cb sb h st r) : w.cell? ⟨cb, 0, none⟩ = some (.pointer (some ⟨sb, 0, none⟩)) := by
  obtain ⟨G, Gr, Gs, bx, k, _⟩ := hz.crt
  exact k.c0
theorem Cou.cs_ (hz : Cou w0 w cb sb h st r) {s : Nat} (hs : s < 5) : w.cell? ⟨cb, 3 + s, none⟩ = some (.pointer (ad (st s))) := by
  obtain ⟨G, Gr, Gs, bx, k, _⟩ := hz.crt
  exact k.seat hs
theorem Cou.fz (hz : Cou w0 w cb sb h st r) (i : Nat) : w.frozen? ⟨cb, i, none⟩ = false := by
  obtain ⟨G, Gr, Gs, bx, k, _⟩ := hz.crt
  exact k.fz i
theorem Cou.n0 (hz : Cou w0 w cb sb h st r) : w.cell? ⟨sb, 8, none⟩ = some (.int .i64 h.n) := by
  obtain ⟨G, Gr, Gs, bx, k, _⟩ := hz.crt
  exact k.s.ncell
theorem Cou.sl (hz : Cou w0 w cb sb h st r) : sb < w.heap.size := lt_of_cell hz.n0
theorem Cou.new (hz : Cou w0 w cb sb h st r) (c : Array Value) (T : TypeId) : Cou w0 (w.alloc (.cells c T)) cb sb h st (BoxT w.heap.size c T :: r) := by
  have h1 := Zoo.box hz c T
  exact h1.perm (List.perm_middle (l₁ := CrtT cb sb h.f h.n h.cs [] (ads st) :: wseats st)).symm
theorem Cou.two (hz : Cou w0 w cb sb h st r) (c : Array Value) (T : TypeId) (c2 : Array Value) (T2 : TypeId) : Cou w0 ((w.alloc (.cells c T)).alloc (.cells c2 T2)) cb sb h st (BoxT (w.heap.size + 1) c2 T2 :: BoxT w.heap.size c T :: r) := by
  have h1 := (hz.new c T).new c2 T2
  rw [show (w.alloc (.cells c T)).heap.size = w.heap.size + 1 by simp] at h1
  exact h1
theorem Cou.perm {r' : List Thing} (hz : Cou w0 w cb sb h st r) (hp : r.Perm r') : Cou w0 w cb sb h st r' := Zoo.perm hz (List.Perm.cons _ (List.Perm.append_left _ hp))
theorem Cou.var {p : Nat} {c : Array Value} {T : TypeId} (hz : Cou w0 w cb sb h st r) (hm : BoxT p c T ∈ r) : w.heap[p]? = some (.cells c T (0, 0)) := zoo_varm hz (by simp [hm])
theorem Cou.at_ {l1 l2 : List Thing} {o : Thing} (hz : Cou w0 w cb sb h st (l1 ++ o :: l2)) : ∃ F, o.holds w0.heap.size w F ∧ ∀ (o' : Thing) (w' : World), Ch o' w0.heap.size w F w' → Cou w0 w' cb sb h st (l1 ++ o' :: l2) := by
  have hz' : Zoo w0 w ((CrtT cb sb h.f h.n h.cs [] (ads st) :: (wseats st ++ l1)) ++ o :: l2) := by
    have := hz
    unfold Cou at this
    rw [← List.append_assoc] at this
    exact this
  obtain ⟨F, h1, h2⟩ := hz'.at_
  refine ⟨F, h1, fun o' w' hc => ?_⟩
  have := h2 o' w' hc
  unfold Cou
  rw [← List.append_assoc]
  exact this
theorem Cou.tail {o : Thing} (hz : Cou w0 w cb sb h st (o :: r)) : Cou w0 w cb sb h st r := Zoo.drop_ (l1 := CrtT cb sb h.f h.n h.cs [] (ads st) :: wseats st) hz
theorem Cou.set0 {p : Nat} {c : Array Value} {T : TypeId} (hz : Cou w0 w cb sb h st (BoxT p c T :: r)) (i : Nat) (v : Value) : Cou w0 (w.setCell ⟨p, i, none⟩ v) cb sb h st (BoxT p (c.setIfInBounds i v) T :: r) := by
  obtain ⟨F, ⟨hbx, h2, h3⟩, k2⟩ := Cou.at_ (l1 := []) hz
  exact k2 _ _ ⟨F, ⟨heap_setCell_at _ _ hbx, h2, h3⟩, by rw [h2]; exact (Kp.refl [p] w).setCell (.inl (by simp)) _, fun x hx => .inl hx⟩
theorem Cou.fin {W : World} {p q : Nat} {c xc : Array Value} {T U : TypeId} (hz : Cou w0 W cb sb h st (BoxT p c T :: BoxT q xc U :: r)) (a b c' d e : Value) : Cou w0 (((((W.setCell ⟨p, 0, none⟩ a).setCell ⟨p, 1, none⟩ b).setCell ⟨p, 2, none⟩ c').setCell ⟨p, 3, none⟩ d).setCell ⟨p, 4, none⟩ e) cb sb h st r := (((((hz.set0 0 a).set0 1 b).set0 2 c').set0 3 d).set0 4 e).tail.tail
theorem wseats_at (st : Nat → Sd) {s : Nat} (hs : s < 5) : ∃ l1 l2, wseats st = l1 ++ WOpt (st s) :: l2 ∧ ∀ d, wseats (upd st s d) = l1 ++ WOpt d :: l2 := by
  rcases (show s = 0 ∨ s = 1 ∨ s = 2 ∨ s = 3 ∨ s = 4 by omega) with e | e | e | e | e <;> subst e
  · exact ⟨[], [WOpt (st 1), WOpt (st 2), WOpt (st 3), WOpt (st 4)], rfl, fun d => by simp [wseats, upd]⟩
  · exact ⟨[WOpt (st 0)], [WOpt (st 2), WOpt (st 3), WOpt (st 4)], rfl, fun d => by simp [wseats, upd]⟩
  · exact ⟨[WOpt (st 0), WOpt (st 1)], [WOpt (st 3), WOpt (st 4)], rfl, fun d => by simp [wseats, upd]⟩
  · exact ⟨[WOpt (st 0), WOpt (st 1), WOpt (st 2)], [WOpt (st 4)], rfl, fun d => by simp [wseats, upd]⟩
  · exact ⟨[WOpt (st 0), WOpt (st 1), WOpt (st 2), WOpt (st 3)], [], rfl, fun d => by simp [wseats, upd]⟩
/-- A seat's deed behind the court; and back, another one in its place, and perhaps a new thing. -/
theorem Cou.out (hz : Cou w0 w cb sb h st r) {s : Nat} (hs : s < 5) : ∃ rest, Zoo w0 w (CrtT cb sb h.f h.n h.cs [] (ads st) :: WOpt (st s) :: rest) ∧
    ∀ (w' : World) (d : Sd) (P : List Thing), ad d = ad (st s) → Zoo w0 w' (CrtT cb sb h.f h.n h.cs [] (ads st) :: WOpt d :: (P ++ rest)) → Cou w0 w' cb sb h (upd st s d) (P ++ r) := by
  obtain ⟨l1, l2, e1, e2⟩ := wseats_at st hs
  refine ⟨l1 ++ (l2 ++ r), ?_, fun w' d P hd hz' => ?_⟩
  · have h1 := hz
    unfold Cou at h1
    rw [e1, List.append_assoc] at h1
    exact h1.perm (List.Perm.cons _ List.perm_middle)
  · unfold Cou
    rw [e2, ads_same hd, List.append_assoc]
    refine hz'.perm (List.Perm.cons _ ?_)
    have p1 := (List.perm_middle (l₁ := l1) (a := WOpt d) (l₂ := l2 ++ (P ++ r))).symm
    refine List.Perm.trans (List.Perm.cons _ ?_) p1
    have p2 : (P ++ (l1 ++ l2 ++ r)).Perm (l1 ++ l2 ++ (P ++ r)) := by
      rw [← List.append_assoc, ← List.append_assoc (l1 ++ l2)]
      exact List.perm_append_comm.append_right r
    have e3 : ∀ q : List Thing, l1 ++ (l2 ++ q) = l1 ++ l2 ++ q := fun q => by simp
    rw [e3, e3]
    exact p2
theorem Cou.sitP {s : Nat} (hs : s < 5) (d : Sd) (k : Zoo w0 w (CrtT cb sb h.f h.n h.cs [] (ads st) :: (wseats (upd st s d) ++ r))) : Cou w0 (w.setCell ⟨cb, 3 + s, none⟩ (.pointer (ad d))) cb sb h (upd st s d) r := by
  obtain ⟨G, ⟨Gr, Gs, bx, k1⟩, k2⟩ := zoo_at0 k
  have := k2 _ _ (k1.sit hs (ad d))
  unfold Cou
  rw [ads_upd]
  exact this
theorem wopt_none (hz : Zoo w0 w r) : Zoo w0 w (WOpt none :: r) := many_close (os := []) hz
theorem Cou.leave (hz : Cou w0 w cb sb h st r) {s : Nat} (hs : s < 5) : Cou w0 (w.setCell ⟨cb, 3 + s, none⟩ (.pointer none)) cb sb h (upd st s none) (WOpt (st s) :: r) := by
  obtain ⟨l1, l2, e1, e2⟩ := wseats_at st hs
  generalize hA : CrtT cb sb h.f h.n h.cs [] (ads st) :: l1 = A
  have h1 : Zoo w0 w (A ++ WOpt (st s) :: (l2 ++ r)) := by
    have := hz
    unfold Cou at this
    rw [e1, List.append_assoc] at this
    rw [← hA]
    exact this
  have h2 := (wopt_none h1).perm ((List.Perm.cons _ List.perm_middle).trans (List.Perm.swap _ _ _))
  have h3 := h2.perm (List.Perm.cons _ (List.perm_middle (l₁ := A)).symm)
  have h4 : Zoo w0 w (WOpt (st s) :: ((A ++ WOpt none :: l2) ++ r)) := by rw [List.append_assoc]; exact h3
  have h5 := h4.perm (List.perm_middle (l₁ := A ++ WOpt none :: l2)).symm
  have h6 : Zoo w0 w (CrtT cb sb h.f h.n h.cs [] (ads st) :: (wseats (upd st s none) ++ (WOpt (st s) :: r))) := by
    rw [e2]
    rw [← hA] at h5
    exact h5
  exact Cou.sitP hs none h6
theorem Cou.sitNew {D : Nat} {d : Dp} {l1 l2 : List Thing} (hz : Cou w0 w cb sb h st (l1 ++ WOpt (some (D, d)) :: l2)) {s : Nat} (hs : s < 5) (hn : st s = none) : Cou w0 (w.setCell ⟨cb, 3 + s, none⟩ (.pointer (some ⟨D, 0, none⟩))) cb sb h (upd st s (some (D, d))) (l1 ++ l2) := by
  have h1 := hz.perm (List.perm_middle (l₁ := l1))
  obtain ⟨m1, m2, e1, e2⟩ := wseats_at st hs
  refine Cou.sitP (h := h) (st := st) hs (some (D, d)) ?_
  unfold Cou at h1
  rw [e1, hn, List.append_assoc] at h1
  have h2 : Zoo w0 w ((CrtT cb sb h.f h.n h.cs [] (ads st) :: m1) ++ WOpt none :: (m2 ++ (WOpt (some (D, d)) :: (l1 ++ l2)))) := h1
  have h3 := h2.drop_
  rw [e2, List.append_assoc]
  have h4 : Zoo w0 w ((CrtT cb sb h.f h.n h.cs [] (ads st) :: (m1 ++ m2)) ++ WOpt (some (D, d)) :: (l1 ++ l2)) := by
    have := h3
    simp only [List.cons_append, List.append_assoc] at this ⊢
    exact this
  have h5 := h4.perm List.perm_middle
  have h6 : Zoo w0 w (WOpt (some (D, d)) :: ((CrtT cb sb h.f h.n h.cs [] (ads st) :: m1) ++ (m2 ++ (l1 ++ l2)))) := by
    have := h5
    simp only [List.cons_append, List.append_assoc] at this ⊢
    exact this
  exact h6.perm (List.perm_middle (l₁ := CrtT cb sb h.f h.n h.cs [] (ads st) :: m1)).symm
/-- All deeds are let go. -/
theorem Cou.stand {f : Nat → List Ver} {n : Nat} {cs : List (List Ver)} {sb' : Nat} (hz : Zoo w0 w (CrtT cb sb' f n cs [] (fun _ => none) :: (wseats st ++ r))) : Cou w0 w cb sb' ⟨f, n, cs, fun _ => none⟩ (fun _ => none) r := by
  have h1 : Zoo w0 w (wseats st ++ (CrtT cb sb' f n cs [] (fun _ => none) :: r)) := hz.perm (List.perm_middle (l₁ := wseats st)).symm
  have h2 := (many_close h1).tail
  have h3 := wopt_none (wopt_none (wopt_none (wopt_none (wopt_none h2))))
  exact h3.perm (List.perm_middle (l₁ := wseats (fun _ => none)))
theorem Cou.wrk (hz : Cou w0 w cb sb h st r) {s D : Nat} {d : Dp} (hs : s < 5) (hd : st s = some (D, d)) : ∃ H, Wrk w0.heap.size w D H d.md d.y d.rs d.ws := by
  obtain ⟨rest, h1, _⟩ := hz.out hs
  rw [hd] at h1
  obtain ⟨F, h2, _⟩ := zoo_at1 h1
  exact ⟨F, h2⟩
end
end
/- A court's functions, among things. -/
section
open Go.RowKit
attribute [local go_sem ↓] Go.wp_at_zero Go.wp_at_succ

section
variable {w0 w : World} {cb sb : Nat} {h : HSt} {st : Nat → Sd} {r : List Thing} {s D : Nat} {d : Dp}
theorem c_begin {md at_ : Int} (hb0 : bcode h.f h.n md at_ = 0) (hz : Cou w0 w cb sb h st r) :
    Calls Tryz.prog 67 #[.pointer (some ⟨cb, 0, none⟩), .int .i64 md, .int .i64 at_] w fun e w' => ∃ D, e = .returned (.tuple #[.pointer (some ⟨D, 0, none⟩), .int .i64 0]) ∧ Hid (Cou w0 w' cb sb h st (WOpt (some (D, ⟨md, bat h.n md at_, [], []⟩)) :: r)) := by
  obtain ⟨G, Gr, Gs, bx, k, _⟩ := hz.crt
  refine (cbegin md at_ w k).mono ?_
  rintro e w' (⟨_, D, H, rfl, hd, hk⟩ | ⟨h, _⟩)
  · refine ⟨D, rfl, ?_⟩
    have h1 : Zoo w0 w' (WkT D md (bat h.n md at_) [] [] :: (CrtT cb sb h.f h.n h.cs [] (ads st) :: (wseats st ++ r))) := Zoo.cons hz (F := H) hd hk
    exact h1.perm (List.perm_middle (l₁ := CrtT cb sb h.f h.n h.cs [] (ads st) :: wseats st)).symm
  · exact absurd hb0 h
theorem c_none {md at_ z : Int} (hb0 : bcode h.f h.n md at_ = z) (h0 : z ≠ 0) (hz : Cou w0 w cb sb h st r) :
    Calls Tryz.prog 67 #[.pointer (some ⟨cb, 0, none⟩), .int .i64 md, .int .i64 at_] w fun e w' => e = .returned (.tuple #[.pointer none, .int .i64 z]) ∧ Hid (Cou w0 w' cb sb h st r) := by
  obtain ⟨G, Gr, Gs, bx, k, _⟩ := hz.crt
  refine (cbegin md at_ w k).mono ?_
  rintro e w' (⟨h, _⟩ | ⟨_, rfl, hk⟩)
  · exact absurd (hb0.symm.trans h) h0
  · exact ⟨by rw [hb0], hz.kp0 hk⟩
theorem c_get (k : Int) (hs : s < 5) (hd : st s = some (D, d)) (hrl : d.rs.length ≤ 2900) (hwl : d.ws.length ≤ 900) (hz : Cou w0 w cb sb h st r) :
    Calls Tryz.prog 68 #[.pointer (some ⟨D, 0, none⟩), .pointer (some ⟨sb, 0, none⟩), .int .i64 k] w fun e w' => e = .returned (.tuple #[.agg #[.bool (dg h.f h.n d.y d.ws k).t, .string (dg h.f h.n d.y d.ws k).s], .int .i64 (dg h.f h.n d.y d.ws k).a]) ∧ Hid (Cou w0 w' cb sb h (upd st s (some (D, { d with rs := dr h.f h.n d.y d.rs d.ws k }))) r) := by
  obtain ⟨G, Gr, Gs, bx, kc, _⟩ := hz.crt
  obtain ⟨rest, h1, h2⟩ := hz.out hs
  rw [hd] at h1 h2
  obtain ⟨H, hw, k2⟩ := zoo_at1 h1
  refine (wget56x k w kc.s hw (Nat.le_trans hrl (by omega)) hwl).mono ?_
  rintro e w' ⟨rfl, hc⟩
  exact ⟨rfl, h2 w' (some (D, { d with rs := dr h.f h.n d.y d.rs d.ws k })) [] rfl (k2 _ _ hc)⟩
theorem c_list (fr to_ : Int) (hs : s < 5) (hd : st s = some (D, d)) (hrl : d.rs.length ≤ 2900) (hwl : d.ws.length ≤ 900) (hz : Cou w0 w cb sb h st r) :
    Calls Tryz.prog 70 #[.pointer (some ⟨D, 0, none⟩), .pointer (some ⟨sb, 0, none⟩), .int .i64 fr, .int .i64 to_] w fun e w' => ∃ a cap, e = .returned (.tuple #[.slice a (dls h.f h.n d.y d.ws d.rs fr to_).1.length cap, .int .i64 (dls h.f h.n d.y d.ws d.rs fr to_).2.1]) ∧ Hid (SlO w' a (dls h.f h.n d.y d.ws d.rs fr to_).1) ∧ Hid (∀ x ∈ ob a, w.heap.size ≤ x) ∧ Hid (Cou w0 w' cb sb h (upd st s (some (D, { d with rs := (dls h.f h.n d.y d.ws d.rs fr to_).2.2 }))) r) := by
  obtain ⟨rest, h1, h2⟩ := hz.out hs
  rw [hd] at h1 h2
  have h1' := h1
  obtain ⟨X, ⟨Fv, Y, ⟨Gr, Gs, bx, kc⟩, ⟨H0, Z, hw0, hZ, hdZ, e2⟩, hdj, eX⟩, hkX⟩ := h1'
  have hF : ∀ x, x ∈ Gs → x ∉ H0 := fun x hx hm => hdj x (kc.sG x hx) (by rw [e2]; simp [hm])
  refine (wlist60x fr to_ w kc.s hw0 hF (Nat.le_trans hrl (by omega)) hwl).mono ?_
  rintro e w' ⟨a, cap, rfl, ho, H', hw', hk, hH, _⟩
  refine ⟨a, cap, rfl, slo_own ho rfl, fun x hx => ?_, ?_⟩
  · cases a with
    | none => simp [ob] at hx
    | some ad =>
      simp only [ob, List.mem_singleton] at hx
      subst hx
      exact own_ge ho rfl
  · refine h2 w' (some (D, { d with rs := (dls h.f h.n d.y d.ws d.rs fr to_).2.2 })) [] rfl ?_
    have hn : ∀ x, x ∈ H' → x ∉ Fv ++ Z := fun x hx hm => by
      rcases hH x hx with q | q
      · rcases List.mem_append.1 hm with q2 | q2
        · exact hdj x q2 (by rw [e2]; simp [q])
        · exact hdZ x q q2
      · rcases List.mem_append.1 hm with q2 | q2
        · have := (kc.lo x q2).2; omega
        · have := (ZooF.lo hZ x q2).2; omega
    refine ⟨Fv ++ (H' ++ Z), ⟨Fv, H' ++ Z, ⟨Gr, Gs, bx, kc.kp hk (fun x hx hm => hdj x hx (by rw [e2]; simp [hm]))⟩, ⟨H', Z, hw', ZooF.kp hk hZ (fun x hx hm => hdZ x hm hx), fun x hx hz' => hn x hx (by simp [hz']), rfl⟩, fun x hx hm => ?_, rfl⟩, hkX.trans hk (fun x hx => .inr (by have := (hw0.lo x hx).1; exact this))⟩
    rcases List.mem_append.1 hm with q | q
    · exact hn x q (by simp [hx])
    · exact hdj x hx (by rw [e2]; simp [q])
theorem c_commit (hi : HInv h) (hs : s < 5) (hd : st s = some (D, d)) (hw : WOk d.ws) (hrl : d.rs.length ≤ 2900) (hwl : d.ws.length ≤ 900) (hz : Cou w0 w cb sb h st r) :
    Calls Tryz.prog 71 #[.pointer (some ⟨cb, 0, none⟩), .pointer (some ⟨D, 0, none⟩)] w fun e w' => e = .returned (.tuple #[.int .i64 (vnum h.f h.n h.cs d.md d.y d.rs d.ws), .int .i64 (vcode h.f h.cs d.md d.y d.rs d.ws)]) ∧ Hid (Cou w0 w' cb sb ⟨vf h.f h.n h.cs d.md d.y d.rs d.ws, vn h.f h.n h.cs d.md d.y d.rs d.ws, vcs h.f h.cs d.md d.y d.rs d.ws, h.seat⟩ st r) := by
  obtain ⟨G, Gr, Gs, bx, k, k2⟩ := hz.crt
  obtain ⟨H, hW⟩ := hz.wrk hs hd
  refine (ccommitx w k hi.vi hW hw (Nat.le_trans hrl (by omega)) hwl).mono ?_
  rintro e w' ⟨rfl, hc⟩
  exact ⟨rfl, k2 _ _ _ _ _ _ hc⟩
theorem c_again {torn : List UInt8} {f : Nat → List Ver} {n : Nat} {cs : List (List Ver)} (hz : Zoo w0 w (CrtT cb sb f n cs torn (ads st) :: (wseats st ++ r))) :
    Calls Tryz.prog 65 #[.pointer (some ⟨cb, 0, none⟩)] w fun e w' => e = .returned (.tuple #[]) ∧ ∃ sb', Hid (Cou w0 w' cb sb' ⟨wal0 cs, cs.length, cs, fun _ => none⟩ (fun _ => none) r) := by
  obtain ⟨G, ⟨Gr, Gs, bx, k⟩, k2⟩ := zoo_at0 hz
  refine (cagain w k).mono ?_
  rintro e w' ⟨rfl, sb', hc⟩
  exact ⟨rfl, sb', Cou.stand (k2 _ _ hc)⟩
theorem c_clear (y : Int) (hz : Cou w0 w cb sb h st r) :
    Calls Tryz.prog 64 #[.pointer (some ⟨sb, 0, none⟩), .int .i64 y] w fun e w' => e = .returned (.int .i64 (cln h.f y 8 : Nat)) ∧ Hid (Cou w0 w' cb sb ⟨clm h.f y 8, h.n, h.cs, h.seat⟩ st r) := by
  obtain ⟨G, Gr, Gs, bx, k, k2⟩ := hz.crt
  refine (sclear57 y w k.s).mono ?_
  rintro e w' ⟨rfl, G', h1, h2, h3⟩
  exact ⟨rfl, k2 _ _ _ _ _ _ (k.sheet h1 h2 h3)⟩
set_option maxHeartbeats 1000000 in
theorem c_least (hs : Sts st h.seat) (hz : Cou w0 w cb sb h st r) : Calls Tryz.prog 38 #[.pointer (some ⟨cb, 0, none⟩)] w fun e w' => e = .returned (.int .i64 (least h.n h.seat 5)) ∧ w' = w := by
  have c0 := hz.c0
  have n0 := hz.n0
  have HZ := hide hz
  clear hz
  go_enter Tryz.func38, Tryz.ntmps38
  go_wp2_with fail
  clear c0 n0
  go_loop [3, 4] (fun x i => ∃ k : Nat, k ≤ 5 ∧ x = .int .i64 (least h.n h.seat k) ∧ i = .int .i64 k) (fun _ i => 5 - (intOf i).toNat)
  case atStart => exact ⟨0, by omega, rfl, rfl⟩
  case round =>
    obtain ⟨k, hk, rfl, rfl⟩ := hrel
    by_cases hlt : k < 5
    · have i0 : (0 : Int) ≤ (k : Int) := by omega
      have i1 : (k : Int) < 5 := by omega
      have hk1 := hs k
      have s0 := (unhide HZ).cs_ hlt
      have HLS := hide (show least h.n h.seat (k + 1) = match h.seat k with | some d => if d.y < least h.n h.seat k then d.y else least h.n h.seat k | none => least h.n h.seat k from rfl)
      cases ho : st k with
      | none =>
        rw [ho] at s0 hk1
        rw [show ad none = none from rfl] at s0
        have E1 := hide (show least h.n h.seat (k + 1) = least h.n h.seat k by rw [unhide HLS, ← hk1]; rfl)
        clear HLS hk1
        go_wp2_with fail
        exact ⟨⟨k + 1, by omega, by rw [unhide E1], by go_num⟩, by simp [intOf]; omega⟩
      | some xx =>
        obtain ⟨D, d⟩ := xx
        rw [ho] at s0 hk1
        rw [show ad (some (D, d)) = some ⟨D, 0, none⟩ from rfl] at s0
        have E1 := hide (show least h.n h.seat (k + 1) = if d.y < least h.n h.seat k then d.y else least h.n h.seat k by rw [unhide HLS, ← hk1]; rfl)
        obtain ⟨H, ra, rc, wa, wc, hw⟩ := (unhide HZ).wrk hlt ho
        have y1 := cell_of_block (i := 1) (v := .int .i64 d.y) hw.box rfl
        clear HLS hk1 hw
        generalize least h.n h.seat k = z at *
        by_cases hlt2 : d.y < z
        · rw [if_pos hlt2] at E1
          go_wp2_with fail
          exact ⟨⟨k + 1, by omega, by rw [unhide E1], by go_num⟩, by simp [intOf]; omega⟩
        · rw [if_neg hlt2] at E1
          go_wp2_with fail
          exact ⟨⟨k + 1, by omega, by rw [unhide E1], by go_num⟩, by simp [intOf]; omega⟩
    · have e : k = 5 := by omega
      subst e
      go_wp2
      go_ret
      exact ⟨rfl, rfl⟩
end
end
/- A court's Do: Begin; Commit. -/
section
open Go.RowKit
attribute [local go_sem ↓] Go.wp_at_zero Go.wp_at_succ

/-- What a court's Do leaves. -/
def GoEndC (w0 : World) (cb : Nat) (r : List Thing) (h' : HSt) (v : Ev) (e : Ending) (w' : World) : Prop := ∃ sb' st' a cap, e = .returned (.agg #[.int .i64 v.c, .int .i64 v.n, .bool v.t, .string v.s, .slice a v.l.length cap]) ∧ Sts st' h'.seat ∧ Hid (SlO w' a v.l) ∧ Hid (Cou w0 w' cb sb' h' st' r)
theorem slo_nil (w : World) (a : Option Addr) : SlO w a [] := fun h => by simp at h
theorem slo_kp {w w' : World} {a : Option Addr} {l : List Ver} {S : List Nat} (h : SlO w a l) (hk : Kp S w w') (hS : ∀ x ∈ ob a, x ∉ S) : SlO w' a l := fun hp => by
  obtain ⟨g, o, e, hs⟩ := h hp
  subst e
  exact ⟨g, o, rfl, hs.kp hk (hS g (by simp [ob]))⟩
section
variable {w0 w : World} {cb sb : Nat} {h : HSt} {st : Nat → Sd} {r : List Thing}
set_option maxHeartbeats 1000000 in
theorem cdo_begun (x : HStep) (hx : x.d = 1) {j : Nat} (hj : x.s = (j : Int)) (h5 : j < 5) (hsd : st j = none) (hb0 : bcode h.f h.n x.md x.at_ = 0) (hs : Sts st h.seat) (hz : Cou w0 w cb sb h st r) :
    Calls Tryz.prog 39 #[.pointer (some ⟨cb, 0, none⟩), .agg #[.int .i64 x.d, .int .i64 x.s, .int .i64 x.md, .int .i64 x.at_, .int .i64 x.key, .int .i64 x.to_, .int .i64 x.keep, .string x.b]] w fun e w' => GoEndC w0 cb r (hdo h x) (hev h x) e w' := by
  have HS := hide hs
  have HX := hide (hz.two (xcs x) 79 #[.int .i64 0, .int .i64 0, .bool false, .string ⟨#[]⟩, .slice none 0 0] 102)
  have hjs : x.s.toNat = j := by omega
  have hsj : h.seat j = none := by rw [← hs j, hsd]; rfl
  have heq := (HKind.began (h := h) (x := x) hx ⟨by omega, by omega⟩ (by rw [hjs]; exact hsj) hb0).eq
  rw [heq.1, heq.2]
  clear heq hz hs hsj
  have HB0 := hide hb0
  clear hb0
  obtain ⟨xd, xs, xm, xa, xk, xt, xp, xb⟩ := x
  dsimp only [xcs] at *
  subst hx hj
  have hsb : seatB (j : Int) = true := decide_eq_true (by omega)
  have i0 : (0 : Int) ≤ (j : Int) := by omega
  have i5 : (j : Int) < 5 := by omega
  go_enter Tryz.func39, Tryz.ntmps39
  go_wp2_with fail
  generalize (w.alloc (.cells #[.int .i64 1, .int .i64 (j : Int), .int .i64 xm, .int .i64 xa, .int .i64 xk, .int .i64 xt, .int .i64 xp, .string xb] 79)).alloc (.cells #[.int .i64 0, .int .i64 0, .bool false, .string ⟨#[]⟩, .slice none 0 0] 102) = W at HX ⊢
  generalize w.heap.size = q at HX ⊢
  generalize q + 1 = p at HX ⊢
  have hq := (unhide HX).var (List.Mem.tail _ (List.Mem.head _))
  have x0 : W.cell? ⟨q, 0, none⟩ = some (.int .i64 1) := cell_of_block hq rfl
  have x1 : W.cell? ⟨q, 1, none⟩ = some (.int .i64 (j : Int)) := cell_of_block hq rfl
  clear hq
  have s1 := (unhide HX).cs_ h5
  rw [hsd] at s1
  rw [show ad none = none from rfl] at s1
  refine (isseat (j : Int) _).mono ?_
  rintro e w' ⟨rfl, hw'⟩
  subst w'
  rw [hsb]
  go_wp2_with fail
  go_quiet (fail)
  have HX2 := hide ((unhide HX).kp0 ((Kp.refl [] W).drewN nq))
  clear HX x0 x1 s1
  generalize W.drewN nq = W2 at HX2 ⊢
  have hq := (unhide HX2).var (List.Mem.tail _ (List.Mem.head _))
  have x0 : W2.cell? ⟨q, 0, none⟩ = some (.int .i64 1) := cell_of_block hq rfl
  have x1 : W2.cell? ⟨q, 1, none⟩ = some (.int .i64 (j : Int)) := cell_of_block hq rfl
  have x2 : W2.cell? ⟨q, 2, none⟩ = some (.int .i64 xm) := cell_of_block hq rfl
  have x3 : W2.cell? ⟨q, 3, none⟩ = some (.int .i64 xa) := cell_of_block hq rfl
  have x4 : W2.cell? ⟨q, 4, none⟩ = some (.int .i64 xk) := cell_of_block hq rfl
  have x5 : W2.cell? ⟨q, 5, none⟩ = some (.int .i64 xt) := cell_of_block hq rfl
  have x6 : W2.cell? ⟨q, 6, none⟩ = some (.int .i64 xp) := cell_of_block hq rfl
  have x7 : W2.cell? ⟨q, 7, none⟩ = some (.string xb) := cell_of_block hq rfl
  have ql := lt_of_block hq
  clear hq
  go_wp2_with fail
  refine (c_begin (unhide HB0) (unhide HX2)).mono ?_
  rintro e w3 ⟨D, rfl, HY⟩
  clear x0 x1 x2 x3 x4 x5 x6 x7 ql HX2
  have hq := (unhide HY).var (p := q) (List.Mem.tail _ (List.Mem.tail _ (List.Mem.head _)))
  have x1 : w3.cell? ⟨q, 1, none⟩ = some (.int .i64 (j : Int)) := cell_of_block hq rfl
  clear hq
  have c2 := (unhide HY).cs_ h5
  have f2 := (unhide HY).fz (3 + j)
  rw [hsd] at c2
  rw [show ad none = none from rfl] at c2
  have HN := hide (((unhide HY).sitNew (l1 := []) h5 hsd).kp0 (Kp.refl [] _).drew)
  go_wp2_with fail
  go_region
  clear x1 c2 f2 HY
  generalize World.drew _ = W4 at HN ⊢
  have HY := HN
  obtain ⟨e0, e1, e2, e3, e4, g0, g1, g2, g3, g4⟩ := evF ((unhide HY).var (List.Mem.head _))
  go_wp2_with fail
  refine bodyPost_ret (v := .agg #[.int .i64 0, .int .i64 0, .bool false, .string ⟨#[]⟩, .slice none 0 0]) (by simp [results, Tryz.results39, go_sem, e0, e1, e2, e3, e4]) rfl ?_
  exact ⟨sb, upd st j (some (D, _)), none, 0, rfl, by show Sts _ (upd h.seat ((j : Int).toNat) _); rw [hjs]; exact (unhide HS).put j (some (D, _)), slo_nil _ _, ((unhide HY).fin _ _ _ _ _).as rfl rfl rfl⟩
set_option maxHeartbeats 1000000 in
theorem cdo_begunNot (x : HStep) (hx : x.d = 1) {j : Nat} (hj : x.s = (j : Int)) (h5 : j < 5) (hsd : st j = none) (hb0 : ¬ bcode h.f h.n x.md x.at_ = 0) (hs : Sts st h.seat) (hz : Cou w0 w cb sb h st r) :
    Calls Tryz.prog 39 #[.pointer (some ⟨cb, 0, none⟩), .agg #[.int .i64 x.d, .int .i64 x.s, .int .i64 x.md, .int .i64 x.at_, .int .i64 x.key, .int .i64 x.to_, .int .i64 x.keep, .string x.b]] w fun e w' => GoEndC w0 cb r (hdo h x) (hev h x) e w' := by
  have HS := hide hs
  have HX := hide (hz.two (xcs x) 79 #[.int .i64 0, .int .i64 0, .bool false, .string ⟨#[]⟩, .slice none 0 0] 102)
  have hjs : x.s.toNat = j := by omega
  have hsj : h.seat j = none := by rw [← hs j, hsd]; rfl
  have heq := (HKind.beganNot (h := h) (x := x) hx ⟨by omega, by omega⟩ (by rw [hjs]; exact hsj) hb0).eq
  rw [heq.1, heq.2]
  clear heq hz hs hsj
  have HB0 := hide hb0
  clear hb0
  generalize hzz : bcode h.f h.n x.md x.at_ = z at HB0 ⊢
  have HZ0 := hide hzz
  clear hzz
  obtain ⟨xd, xs, xm, xa, xk, xt, xp, xb⟩ := x
  dsimp only [xcs] at *
  subst hx hj
  have hsb : seatB (j : Int) = true := decide_eq_true (by omega)
  have i0 : (0 : Int) ≤ (j : Int) := by omega
  have i5 : (j : Int) < 5 := by omega
  go_enter Tryz.func39, Tryz.ntmps39
  go_wp2_with fail
  generalize (w.alloc (.cells #[.int .i64 1, .int .i64 (j : Int), .int .i64 xm, .int .i64 xa, .int .i64 xk, .int .i64 xt, .int .i64 xp, .string xb] 79)).alloc (.cells #[.int .i64 0, .int .i64 0, .bool false, .string ⟨#[]⟩, .slice none 0 0] 102) = W at HX ⊢
  generalize w.heap.size = q at HX ⊢
  generalize q + 1 = p at HX ⊢
  have hq := (unhide HX).var (List.Mem.tail _ (List.Mem.head _))
  have x0 : W.cell? ⟨q, 0, none⟩ = some (.int .i64 1) := cell_of_block hq rfl
  have x1 : W.cell? ⟨q, 1, none⟩ = some (.int .i64 (j : Int)) := cell_of_block hq rfl
  clear hq
  have s1 := (unhide HX).cs_ h5
  rw [hsd] at s1
  rw [show ad none = none from rfl] at s1
  refine (isseat (j : Int) _).mono ?_
  rintro e w' ⟨rfl, hw'⟩
  subst w'
  rw [hsb]
  go_wp2_with fail
  go_quiet (fail)
  have HX2 := hide ((unhide HX).kp0 ((Kp.refl [] W).drewN nq))
  clear HX x0 x1 s1
  generalize W.drewN nq = W2 at HX2 ⊢
  have hq := (unhide HX2).var (List.Mem.tail _ (List.Mem.head _))
  have x0 : W2.cell? ⟨q, 0, none⟩ = some (.int .i64 1) := cell_of_block hq rfl
  have x1 : W2.cell? ⟨q, 1, none⟩ = some (.int .i64 (j : Int)) := cell_of_block hq rfl
  have x2 : W2.cell? ⟨q, 2, none⟩ = some (.int .i64 xm) := cell_of_block hq rfl
  have x3 : W2.cell? ⟨q, 3, none⟩ = some (.int .i64 xa) := cell_of_block hq rfl
  have x4 : W2.cell? ⟨q, 4, none⟩ = some (.int .i64 xk) := cell_of_block hq rfl
  have x5 : W2.cell? ⟨q, 5, none⟩ = some (.int .i64 xt) := cell_of_block hq rfl
  have x6 : W2.cell? ⟨q, 6, none⟩ = some (.int .i64 xp) := cell_of_block hq rfl
  have x7 : W2.cell? ⟨q, 7, none⟩ = some (.string xb) := cell_of_block hq rfl
  have ql := lt_of_block hq
  clear hq
  go_wp2_with fail
  refine (c_none (unhide HZ0) (unhide HB0) (unhide HX2)).mono ?_
  rintro e w3 ⟨rfl, HY⟩
  clear x0 x1 x2 x3 x4 x5 x6 x7 ql HX2
  have hq := (unhide HY).var (p := q) (List.Mem.tail _ (List.Mem.head _))
  have x1 : w3.cell? ⟨q, 1, none⟩ = some (.int .i64 (j : Int)) := cell_of_block hq rfl
  clear hq
  have c2 := (unhide HY).cs_ h5
  have f2 := (unhide HY).fz (3 + j)
  rw [hsd] at c2
  rw [show ad none = none from rfl] at c2
  have HN := hide ((by have h9 := (unhide HY).leave h5; rw [upd_id hsd] at h9; exact (h9.tail).kp0 (Kp.refl [] _).drew : Cou w0 _ cb sb h st _))
  go_wp2_with fail
  go_region
  clear x1 c2 f2 HY
  generalize World.drew _ = W4 at HN ⊢
  have HY := HN
  obtain ⟨e0, e1, e2, e3, e4, g0, g1, g2, g3, g4⟩ := evF ((unhide HY).var (List.Mem.head _))
  go_wp2_with fail
  refine bodyPost_ret (v := .agg #[.int .i64 z, .int .i64 0, .bool false, .string ⟨#[]⟩, .slice none 0 0]) (by simp [results, Tryz.results39, go_sem, e0, e1, e2, e3, e4]) rfl ?_
  exact ⟨sb, st, none, 0, rfl, unhide HS, slo_nil _ _, (unhide HY).fin _ _ _ _ _⟩
set_option maxHeartbeats 1000000 in
theorem cdo_commit (x : HStep) (hx : x.d = 6) {j D : Nat} {d : Dp} (hj : x.s = (j : Int)) (h5 : j < 5) (hsd : st j = some (D, d)) (hs : Sts st h.seat) (hz : Cou w0 w cb sb h st r) (hi : HInv h) (hrl : d.rs.length ≤ 2900) (hwl : d.ws.length ≤ 900) :
    Calls Tryz.prog 39 #[.pointer (some ⟨cb, 0, none⟩), .agg #[.int .i64 x.d, .int .i64 x.s, .int .i64 x.md, .int .i64 x.at_, .int .i64 x.key, .int .i64 x.to_, .int .i64 x.keep, .string x.b]] w fun e w' => GoEndC w0 cb r (hdo h x) (hev h x) e w' := by
  have HS := hide hs
  have HX := hide (hz.two (xcs x) 79 #[.int .i64 0, .int .i64 0, .bool false, .string ⟨#[]⟩, .slice none 0 0] 102)
  have hjs : x.s.toNat = j := by omega
  have hsj : h.seat j = some d := by rw [← hs j, hsd]; rfl
  have heq := (HKind.commit (h := h) (x := x) d hx ⟨by omega, by omega⟩ (by rw [hjs]; exact hsj)).eq
  rw [heq.1, heq.2]
  clear heq hz hs hsj
  have HI := hide hi
  have HW := hide (hi.ok j d (by rw [← unhide HS j, hsd]; rfl))
  clear hi
  obtain ⟨xd, xs, xm, xa, xk, xt, xp, xb⟩ := x
  dsimp only [xcs] at *
  subst hx hj
  have hsb : seatB (j : Int) = true := decide_eq_true (by omega)
  have i0 : (0 : Int) ≤ (j : Int) := by omega
  have i5 : (j : Int) < 5 := by omega
  go_enter Tryz.func39, Tryz.ntmps39
  go_wp2_with fail
  generalize (w.alloc (.cells #[.int .i64 6, .int .i64 (j : Int), .int .i64 xm, .int .i64 xa, .int .i64 xk, .int .i64 xt, .int .i64 xp, .string xb] 79)).alloc (.cells #[.int .i64 0, .int .i64 0, .bool false, .string ⟨#[]⟩, .slice none 0 0] 102) = W at HX ⊢
  generalize w.heap.size = q at HX ⊢
  generalize q + 1 = p at HX ⊢
  have hq := (unhide HX).var (List.Mem.tail _ (List.Mem.head _))
  have x0 : W.cell? ⟨q, 0, none⟩ = some (.int .i64 6) := cell_of_block hq rfl
  have x1 : W.cell? ⟨q, 1, none⟩ = some (.int .i64 (j : Int)) := cell_of_block hq rfl
  clear hq
  have s1 := (unhide HX).cs_ h5
  rw [hsd] at s1
  rw [show ad (some (D, d)) = some ⟨D, 0, none⟩ from rfl] at s1
  refine (isseat (j : Int) _).mono ?_
  rintro e w' ⟨rfl, hw'⟩
  subst w'
  rw [hsb]
  go_wp2_with fail
  go_quiet (fail)
  have HX2 := hide ((unhide HX).kp0 ((Kp.refl [] W).drewN nq))
  clear HX x0 x1 s1
  generalize W.drewN nq = W2 at HX2 ⊢
  have hq := (unhide HX2).var (List.Mem.tail _ (List.Mem.head _))
  have x0 : W2.cell? ⟨q, 0, none⟩ = some (.int .i64 6) := cell_of_block hq rfl
  have x1 : W2.cell? ⟨q, 1, none⟩ = some (.int .i64 (j : Int)) := cell_of_block hq rfl
  have x2 : W2.cell? ⟨q, 2, none⟩ = some (.int .i64 xm) := cell_of_block hq rfl
  have x3 : W2.cell? ⟨q, 3, none⟩ = some (.int .i64 xa) := cell_of_block hq rfl
  have x4 : W2.cell? ⟨q, 4, none⟩ = some (.int .i64 xk) := cell_of_block hq rfl
  have x5 : W2.cell? ⟨q, 5, none⟩ = some (.int .i64 xt) := cell_of_block hq rfl
  have x6 : W2.cell? ⟨q, 6, none⟩ = some (.int .i64 xp) := cell_of_block hq rfl
  have x7 : W2.cell? ⟨q, 7, none⟩ = some (.string xb) := cell_of_block hq rfl
  have ql := lt_of_block hq
  clear hq
  go_wp2_with fail
  refine (c_commit (unhide HI) h5 hsd (unhide HW) hrl hwl (unhide HX2)).mono ?_
  rintro e w3 ⟨rfl, HY⟩
  clear x0 x1 x2 x3 x4 x5 x6 x7 ql HX2
  have hq := (unhide HY).var (p := q) (List.Mem.tail _ (List.Mem.head _))
  have x1 : w3.cell? ⟨q, 1, none⟩ = some (.int .i64 (j : Int)) := cell_of_block hq rfl
  clear hq
  have c2 := (unhide HY).cs_ h5
  have f2 := (unhide HY).fz (3 + j)
  have HN := hide (((unhide HY).leave h5).tail.kp0 (Kp.refl [] _).drew)
  go_wp2_with fail
  go_region
  clear x1 c2 f2 HY
  generalize World.drew _ = W4 at HN ⊢
  have HY := HN
  obtain ⟨e0, e1, e2, e3, e4, g0, g1, g2, g3, g4⟩ := evF ((unhide HY).var (List.Mem.head _))
  go_wp2_with fail
  refine bodyPost_ret (v := .agg #[.int .i64 (vcode h.f h.cs d.md d.y d.rs d.ws), .int .i64 (vnum h.f h.n h.cs d.md d.y d.rs d.ws), .bool false, .string ⟨#[]⟩, .slice none 0 0]) (by simp [results, Tryz.results39, go_sem, e0, e1, e2, e3, e4]) rfl ?_
  exact ⟨sb, _, none, 0, rfl, by show Sts _ (upd h.seat ((j : Int).toNat) none); rw [hjs]; exact (unhide HS).put j none, slo_nil _ _, ((unhide HY).fin _ _ _ _ _).as rfl rfl rfl⟩
end
end
/- A court's Do: Get; List. -/
section
open Go.RowKit
attribute [local go_sem ↓] Go.wp_at_zero Go.wp_at_succ

theorem val_set (a b x y : Value) : ((#[a, b] : Array Value).setIfInBounds 0 x).setIfInBounds 1 y = #[x, y] := rfl
section
variable {w0 w : World} {cb sb : Nat} {h : HSt} {st : Nat → Sd} {r : List Thing}
set_option maxHeartbeats 1000000 in
theorem cdo_get (x : HStep) (hx : x.d = 2) {j D : Nat} {d : Dp} (hj : x.s = (j : Int)) (h5 : j < 5) (hsd : st j = some (D, d)) (hs : Sts st h.seat) (hz : Cou w0 w cb sb h st r) (hrl : d.rs.length ≤ 2900) (hwl : d.ws.length ≤ 900) :
    Calls Tryz.prog 39 #[.pointer (some ⟨cb, 0, none⟩), .agg #[.int .i64 x.d, .int .i64 x.s, .int .i64 x.md, .int .i64 x.at_, .int .i64 x.key, .int .i64 x.to_, .int .i64 x.keep, .string x.b]] w fun e w' => GoEndC w0 cb r (hdo h x) (hev h x) e w' := by
  have HS := hide hs
  have HX := hide (hz.two (xcs x) 79 #[.int .i64 0, .int .i64 0, .bool false, .string ⟨#[]⟩, .slice none 0 0] 102)
  have hjs : x.s.toNat = j := by omega
  have hsj : h.seat j = some d := by rw [← hs j, hsd]; rfl
  have heq := (HKind.get (h := h) (x := x) d hx ⟨by omega, by omega⟩ (by rw [hjs]; exact hsj)).eq
  rw [heq.1, heq.2]
  clear heq hz hs hsj
  obtain ⟨v, hv⟩ : ∃ v, dg h.f h.n d.y d.ws x.key = v := ⟨_, rfl⟩
  have HV := hide hv
  rw [hv]
  clear hv
  obtain ⟨xd, xs, xm, xa, xk, xt, xp, xb⟩ := x
  dsimp only [xcs] at *
  subst hx hj
  have hsb : seatB (j : Int) = true := decide_eq_true (by omega)
  have i0 : (0 : Int) ≤ (j : Int) := by omega
  have i5 : (j : Int) < 5 := by omega
  go_enter Tryz.func39, Tryz.ntmps39
  go_wp2_with fail
  generalize (w.alloc (.cells #[.int .i64 2, .int .i64 (j : Int), .int .i64 xm, .int .i64 xa, .int .i64 xk, .int .i64 xt, .int .i64 xp, .string xb] 79)).alloc (.cells #[.int .i64 0, .int .i64 0, .bool false, .string ⟨#[]⟩, .slice none 0 0] 102) = W at HX ⊢
  generalize w.heap.size = q at HX ⊢
  generalize q + 1 = p at HX ⊢
  have hq := (unhide HX).var (List.Mem.tail _ (List.Mem.head _))
  have x0 : W.cell? ⟨q, 0, none⟩ = some (.int .i64 2) := cell_of_block hq rfl
  have x1 : W.cell? ⟨q, 1, none⟩ = some (.int .i64 (j : Int)) := cell_of_block hq rfl
  clear hq
  have s1 := (unhide HX).cs_ h5
  rw [hsd] at s1
  rw [show ad (some (D, d)) = some ⟨D, 0, none⟩ from rfl] at s1
  refine (isseat (j : Int) _).mono ?_
  rintro e w' ⟨rfl, hw'⟩
  subst w'
  rw [hsb]
  go_wp2_with fail
  go_quiet (fail)
  have HX2 := hide ((unhide HX).kp0 ((Kp.refl [] W).drewN nq))
  clear HX x0 x1 s1
  generalize W.drewN nq = W2 at HX2 ⊢
  have hq := (unhide HX2).var (List.Mem.tail _ (List.Mem.head _))
  have x0 : W2.cell? ⟨q, 0, none⟩ = some (.int .i64 2) := cell_of_block hq rfl
  have x1 : W2.cell? ⟨q, 1, none⟩ = some (.int .i64 (j : Int)) := cell_of_block hq rfl
  have x2 : W2.cell? ⟨q, 2, none⟩ = some (.int .i64 xm) := cell_of_block hq rfl
  have x3 : W2.cell? ⟨q, 3, none⟩ = some (.int .i64 xa) := cell_of_block hq rfl
  have x4 : W2.cell? ⟨q, 4, none⟩ = some (.int .i64 xk) := cell_of_block hq rfl
  have x5 : W2.cell? ⟨q, 5, none⟩ = some (.int .i64 xt) := cell_of_block hq rfl
  have x6 : W2.cell? ⟨q, 6, none⟩ = some (.int .i64 xp) := cell_of_block hq rfl
  have x7 : W2.cell? ⟨q, 7, none⟩ = some (.string xb) := cell_of_block hq rfl
  have ql := lt_of_block hq
  clear hq
  go_wp2_with fail
  have HXD := hide ((unhide HX2).kp0 (Kp.refl [] _).drew)
  clear x0 x1 x2 x3 x4 x5 x6 x7 ql HX2
  have c0 := (unhide HXD).c0
  have hq := (unhide HXD).var (p := q) (List.Mem.tail _ (List.Mem.head _))
  have x4 := cell_of_block (i := 4) (v := .int .i64 xk) hq rfl
  clear hq
  refine wp_region_held_drew (S := fun w' => w'.cell? ⟨cb, 0, none⟩ = some (.pointer (some ⟨sb, 0, none⟩)) ∧ w'.cell? ⟨q, 4, none⟩ = some (.int .i64 xk)) (by kernel_rfl) ⟨c0, x4⟩ (fun hHeld => ?_)
  clear c0 x4
  generalize World.drew _ = WD at HXD hHeld ⊢
  refine wpAnyH_tk (i := 0) (v := ?_) rfl (by kernel_rfl) (by kernel_rfl) (by kernel_rfl) (fun _ _ _ h => h) (Or.inl ⟨by rfl, ?_⟩) hHeld ?_
  rotate_left
  · intro w hSw
    try dsimp only at hSw
    go_simp
    try with_reducible rfl
  try simp only [Act.put, List.setIfInBounds_toArray, List.set_cons_zero, List.set_cons_succ]
  refine wpAnyH_tk (i := 1) (v := ?_) rfl (by kernel_rfl) (by kernel_rfl) (by kernel_rfl) (fun _ _ _ h => h) (Or.inl ⟨by rfl, ?_⟩) hHeld ?_
  rotate_left
  · intro w hSw
    try dsimp only at hSw
    go_simp
    try with_reducible rfl
  try simp only [Act.put, List.setIfInBounds_toArray, List.set_cons_zero, List.set_cons_succ]
  refine wpAnyH_tk (i := 2) (v := ?_) rfl (by kernel_rfl) (by kernel_rfl) (by kernel_rfl) (fun _ _ _ h => h) (Or.inl ⟨by rfl, ?_⟩) hHeld ?_
  rotate_left
  · intro w hSw
    try dsimp only at hSw
    go_simp
    try with_reducible rfl
  try simp only [Act.put, List.setIfInBounds_toArray, List.set_cons_zero, List.set_cons_succ]
  refine wpAnyH_tk (i := 3) (v := ?_) rfl (by kernel_rfl) (by kernel_rfl) (by kernel_rfl) (fun _ _ _ h => h) (Or.inl ⟨by rfl, ?_⟩) hHeld ?_
  rotate_left
  · intro w hSw
    try dsimp only at hSw
    go_simp
    try with_reducible rfl
  try simp only [Act.put, List.setIfInBounds_toArray, List.set_cons_zero, List.set_cons_succ]
  refine wpAnyH_tk (i := 4) (v := ?_) rfl (by kernel_rfl) (by kernel_rfl) (by kernel_rfl) (fun _ _ _ h => h) (Or.inl ⟨by rfl, ?_⟩) hHeld ?_
  rotate_left
  · intro w hSw
    try dsimp only at hSw
    go_simp
    try with_reducible rfl
  try simp only [Act.put, List.setIfInBounds_toArray, List.set_cons_zero, List.set_cons_succ]
  refine wpAnyH_tk (i := 5) (v := ?_) rfl (by kernel_rfl) (by kernel_rfl) (by kernel_rfl) (fun _ _ _ h => h) (Or.inl ⟨by rfl, ?_⟩) hHeld ?_
  rotate_left
  · intro w hSw
    try dsimp only at hSw
    go_simp
    try with_reducible rfl
  try simp only [Act.put, List.setIfInBounds_toArray, List.set_cons_zero, List.set_cons_succ]
  refine wpAnyH_tk (i := 6) (v := ?_) rfl (by kernel_rfl) (by kernel_rfl) (by kernel_rfl) (fun _ _ _ h => h) (Or.inl ⟨by rfl, ?_⟩) hHeld ?_
  rotate_left
  · intro w hSw
    try dsimp only at hSw
    go_simp
    try with_reducible rfl
  try simp only [Act.put, List.setIfInBounds_toArray, List.set_cons_zero, List.set_cons_succ]
  refine wpAnyH_two (i := 7) (j := 11) rfl rfl (by kernel_rfl) (fun K hK => ?_) (fun K hK => ?_)
  · go_simp
    refine (c_get xk h5 hsd hrl hwl (unhide HXD)).mono ?_
    rintro e w11 ⟨rfl, HC11⟩
    rw [unhide HV]
    have hq2 := (unhide HC11).var (p := q) (List.Mem.tail _ (List.Mem.head _))
    have y4 := cell_of_block (i := 4) (v := .int .i64 xk) hq2 rfl
    clear hq2
    go_wp2_with fail
    refine hK.out _ _ (⟨(unhide HC11).c0, y4⟩) (fun hHeld2 => ?_)
    clear hK K hHeld
    have hHeld := hHeld2
    clear hHeld2
    try simp only [Act.put, List.setIfInBounds_toArray, List.set_cons_zero, List.set_cons_succ]
    clear y4
    refine wpAnyH_tk (i := 8) (v := ?_) rfl (by kernel_rfl) (by kernel_rfl) (by kernel_rfl) (fun _ _ _ h => h) (Or.inl ⟨by rfl, ?_⟩) hHeld ?_
    rotate_left
    · intro w hSw
      try dsimp only at hSw
      go_simp
      try with_reducible rfl
    try simp only [Act.put, List.setIfInBounds_toArray, List.set_cons_zero, List.set_cons_succ]
    refine wpAnyH_tk (i := 9) (v := ?_) rfl (by kernel_rfl) (by kernel_rfl) (by kernel_rfl) (fun _ _ _ h => h) (Or.inl ⟨by rfl, ?_⟩) hHeld ?_
    rotate_left
    · intro w hSw
      try dsimp only at hSw
      go_simp
      try with_reducible rfl
    try simp only [Act.put, List.setIfInBounds_toArray, List.set_cons_zero, List.set_cons_succ]
    refine wpAnyH_tk (i := 10) (v := ?_) rfl (by kernel_rfl) (by kernel_rfl) (by kernel_rfl) (fun _ _ _ h => h) (Or.inl ⟨by rfl, ?_⟩) hHeld ?_
    rotate_left
    · intro w hSw
      try dsimp only at hSw
      go_simp
      try with_reducible rfl
    try simp only [Act.put, List.setIfInBounds_toArray, List.set_cons_zero, List.set_cons_succ]
    refine wpAnyH_only (i := 11) rfl (by kernel_rfl) (fun K hK => ?_)
    go_simp
    have HCA := hide ((unhide HC11).new #[.bool false, .string ⟨#[]⟩] 99)
    have hq2 := (unhide HCA).var (p := q) (List.Mem.tail _ (List.Mem.tail _ (List.Mem.head _)))
    have y4 := cell_of_block (i := 4) (v := .int .i64 xk) hq2 rfl
    have y0 := (unhide HCA).c0
    clear hq2
    refine hK.out _ _ (⟨y0, y4⟩) (fun hHeld2 => ?_)
    clear hK K hHeld
    have hHeld := hHeld2
    clear hHeld2
    try simp only [Act.put, List.setIfInBounds_toArray, List.set_cons_zero, List.set_cons_succ]
    clear y4 y0
    generalize hp3 : w11.heap.size = p3 at HCA ⊢
    clear hp3
    refine wpAnyH_only (i := 12) rfl (by kernel_rfl) (fun K hK => ?_)
    have hv3 := (unhide HCA).var (p := p3) (List.Mem.head _)
    have z0 := cell_of_block (i := 0) (v := .bool false) hv3 rfl
    have z1 := cell_of_block (i := 1) (v := .string ⟨#[]⟩) hv3 rfl
    have f0 := frozen_of_block 0 hv3
    have f1 := frozen_of_block 1 hv3
    clear hv3
    go_simp
    have HCE := hide (((unhide HCA).set0 0 (.bool v.t)).set0 1 (.string v.s))
    have hq2 := (unhide HCE).var (p := q) (List.Mem.tail _ (List.Mem.tail _ (List.Mem.head _)))
    have y4 := cell_of_block (i := 4) (v := .int .i64 xk) hq2 rfl
    have y0 := (unhide HCE).c0
    clear hq2 z0 z1 f0 f1
    refine hK.out _ _ (⟨y0, y4⟩) (fun hHeld2 => ?_)
    clear hK K hHeld
    have hHeld := hHeld2
    clear hHeld2
    try simp only [Act.put, List.setIfInBounds_toArray, List.set_cons_zero, List.set_cons_succ]
    clear y0 y4
    refine wpAnyH_tk (i := 13) (v := ?_) rfl (by kernel_rfl) (by kernel_rfl) (by kernel_rfl) (fun _ _ _ h => h) (Or.inl ⟨by rfl, ?_⟩) hHeld ?_
    rotate_left
    · intro w hSw
      try dsimp only at hSw
      go_simp
      try with_reducible rfl
    try simp only [Act.put, List.setIfInBounds_toArray, List.set_cons_zero, List.set_cons_succ]
    refine wpAnyH_done (by kernel_rfl) ?_ _
    clear hHeld
    rw [val_set] at HCE
    generalize World.setCell _ _ _ = W5 at HCE ⊢
    have hv3 := (unhide HCE).var (p := p3) (List.Mem.head _)
    have z0 := cell_of_block (i := 0) (v := .bool v.t) hv3 rfl
    have z1 := cell_of_block (i := 1) (v := .string v.s) hv3 rfl
    clear hv3
    obtain ⟨e0, e1, e2, e3, e4, g0, g1, g2, g3, g4⟩ := evF ((unhide HCE).var (p := p) (List.Mem.tail _ (List.Mem.head _)))
    go_wp2_with fail
    refine bodyPost_ret (v := .agg #[.int .i64 v.a, .int .i64 0, .bool v.t, .string v.s, .slice none 0 0]) (by simp [results, Tryz.results39, go_sem, e0, e1, e2, e3, e4]) rfl ?_
    exact ⟨sb, _, none, 0, rfl, by show Sts _ (upd h.seat ((j : Int).toNat) _); rw [hjs]; exact (unhide HS).put j (some (D, _)), slo_nil _ _, (((unhide HCE).tail).fin _ _ _ _ _).as rfl rfl rfl⟩
  · go_simp
    have HCA := hide ((unhide HXD).new #[.bool false, .string ⟨#[]⟩] 99)
    have hq2 := (unhide HCA).var (p := q) (List.Mem.tail _ (List.Mem.tail _ (List.Mem.head _)))
    have y4 := cell_of_block (i := 4) (v := .int .i64 xk) hq2 rfl
    have y0 := (unhide HCA).c0
    clear hq2
    refine hK.out _ _ (⟨y0, y4⟩) (fun hHeld2 => ?_)
    clear hK K hHeld
    have hHeld := hHeld2
    clear hHeld2
    try simp only [Act.put, List.setIfInBounds_toArray, List.set_cons_zero, List.set_cons_succ]
    clear y4 y0
    generalize hp3 : WD.heap.size = p3 at HCA ⊢
    clear hp3
    refine wpAnyH_only (i := 7) rfl (by kernel_rfl) (fun K hK => ?_)
    go_simp
    refine (c_get xk h5 hsd hrl hwl (unhide HCA)).mono ?_
    rintro e w11 ⟨rfl, HC11⟩
    rw [unhide HV]
    have hq2 := (unhide HC11).var (p := q) (List.Mem.tail _ (List.Mem.tail _ (List.Mem.head _)))
    have y4 := cell_of_block (i := 4) (v := .int .i64 xk) hq2 rfl
    clear hq2
    go_wp2_with fail
    refine hK.out _ _ (⟨(unhide HC11).c0, y4⟩) (fun hHeld2 => ?_)
    clear hK K hHeld
    have hHeld := hHeld2
    clear hHeld2
    try simp only [Act.put, List.setIfInBounds_toArray, List.set_cons_zero, List.set_cons_succ]
    clear y4
    refine wpAnyH_tk (i := 8) (v := ?_) rfl (by kernel_rfl) (by kernel_rfl) (by kernel_rfl) (fun _ _ _ h => h) (Or.inl ⟨by rfl, ?_⟩) hHeld ?_
    rotate_left
    · intro w hSw
      try dsimp only at hSw
      go_simp
      try with_reducible rfl
    try simp only [Act.put, List.setIfInBounds_toArray, List.set_cons_zero, List.set_cons_succ]
    refine wpAnyH_tk (i := 9) (v := ?_) rfl (by kernel_rfl) (by kernel_rfl) (by kernel_rfl) (fun _ _ _ h => h) (Or.inl ⟨by rfl, ?_⟩) hHeld ?_
    rotate_left
    · intro w hSw
      try dsimp only at hSw
      go_simp
      try with_reducible rfl
    try simp only [Act.put, List.setIfInBounds_toArray, List.set_cons_zero, List.set_cons_succ]
    refine wpAnyH_tk (i := 10) (v := ?_) rfl (by kernel_rfl) (by kernel_rfl) (by kernel_rfl) (fun _ _ _ h => h) (Or.inl ⟨by rfl, ?_⟩) hHeld ?_
    rotate_left
    · intro w hSw
      try dsimp only at hSw
      go_simp
      try with_reducible rfl
    try simp only [Act.put, List.setIfInBounds_toArray, List.set_cons_zero, List.set_cons_succ]
    refine wpAnyH_only (i := 12) rfl (by kernel_rfl) (fun K hK => ?_)
    have hv3 := (unhide HC11).var (p := p3) (List.Mem.head _)
    have z0 := cell_of_block (i := 0) (v := .bool false) hv3 rfl
    have z1 := cell_of_block (i := 1) (v := .string ⟨#[]⟩) hv3 rfl
    have f0 := frozen_of_block 0 hv3
    have f1 := frozen_of_block 1 hv3
    clear hv3
    go_simp
    have HCE := hide (((unhide HC11).set0 0 (.bool v.t)).set0 1 (.string v.s))
    have hq2 := (unhide HCE).var (p := q) (List.Mem.tail _ (List.Mem.tail _ (List.Mem.head _)))
    have y4 := cell_of_block (i := 4) (v := .int .i64 xk) hq2 rfl
    have y0 := (unhide HCE).c0
    clear hq2 z0 z1 f0 f1
    refine hK.out _ _ (⟨y0, y4⟩) (fun hHeld2 => ?_)
    clear hK K hHeld
    have hHeld := hHeld2
    clear hHeld2
    try simp only [Act.put, List.setIfInBounds_toArray, List.set_cons_zero, List.set_cons_succ]
    clear y0 y4
    refine wpAnyH_tk (i := 13) (v := ?_) rfl (by kernel_rfl) (by kernel_rfl) (by kernel_rfl) (fun _ _ _ h => h) (Or.inl ⟨by rfl, ?_⟩) hHeld ?_
    rotate_left
    · intro w hSw
      try dsimp only at hSw
      go_simp
      try with_reducible rfl
    try simp only [Act.put, List.setIfInBounds_toArray, List.set_cons_zero, List.set_cons_succ]
    refine wpAnyH_done (by kernel_rfl) ?_ _
    clear hHeld
    rw [val_set] at HCE
    generalize World.setCell _ _ _ = W5 at HCE ⊢
    have hv3 := (unhide HCE).var (p := p3) (List.Mem.head _)
    have z0 := cell_of_block (i := 0) (v := .bool v.t) hv3 rfl
    have z1 := cell_of_block (i := 1) (v := .string v.s) hv3 rfl
    clear hv3
    obtain ⟨e0, e1, e2, e3, e4, g0, g1, g2, g3, g4⟩ := evF ((unhide HCE).var (p := p) (List.Mem.tail _ (List.Mem.head _)))
    go_wp2_with fail
    refine bodyPost_ret (v := .agg #[.int .i64 v.a, .int .i64 0, .bool v.t, .string v.s, .slice none 0 0]) (by simp [results, Tryz.results39, go_sem, e0, e1, e2, e3, e4]) rfl ?_
    exact ⟨sb, _, none, 0, rfl, by show Sts _ (upd h.seat ((j : Int).toNat) _); rw [hjs]; exact (unhide HS).put j (some (D, _)), slo_nil _ _, (((unhide HCE).tail).fin _ _ _ _ _).as rfl rfl rfl⟩
set_option maxHeartbeats 1000000 in
theorem cdo_list (x : HStep) (hx : x.d = 5) {j D : Nat} {d : Dp} (hj : x.s = (j : Int)) (h5 : j < 5) (hsd : st j = some (D, d)) (hs : Sts st h.seat) (hz : Cou w0 w cb sb h st r) (hrl : d.rs.length ≤ 2900) (hwl : d.ws.length ≤ 900) :
    Calls Tryz.prog 39 #[.pointer (some ⟨cb, 0, none⟩), .agg #[.int .i64 x.d, .int .i64 x.s, .int .i64 x.md, .int .i64 x.at_, .int .i64 x.key, .int .i64 x.to_, .int .i64 x.keep, .string x.b]] w fun e w' => GoEndC w0 cb r (hdo h x) (hev h x) e w' := by
  have HS := hide hs
  have HX := hide (hz.two (xcs x) 79 #[.int .i64 0, .int .i64 0, .bool false, .string ⟨#[]⟩, .slice none 0 0] 102)
  have hjs : x.s.toNat = j := by omega
  have hsj : h.seat j = some d := by rw [← hs j, hsd]; rfl
  have heq := (HKind.list (h := h) (x := x) d hx ⟨by omega, by omega⟩ (by rw [hjs]; exact hsj)).eq
  rw [heq.1, heq.2]
  clear heq hz hs hsj
  obtain ⟨xd, xs, xm, xa, xk, xt, xp, xb⟩ := x
  dsimp only [xcs] at *
  subst hx hj
  have hsb : seatB (j : Int) = true := decide_eq_true (by omega)
  have i0 : (0 : Int) ≤ (j : Int) := by omega
  have i5 : (j : Int) < 5 := by omega
  go_enter Tryz.func39, Tryz.ntmps39
  go_wp2_with fail
  generalize (w.alloc (.cells #[.int .i64 5, .int .i64 (j : Int), .int .i64 xm, .int .i64 xa, .int .i64 xk, .int .i64 xt, .int .i64 xp, .string xb] 79)).alloc (.cells #[.int .i64 0, .int .i64 0, .bool false, .string ⟨#[]⟩, .slice none 0 0] 102) = W at HX ⊢
  generalize w.heap.size = q at HX ⊢
  generalize q + 1 = p at HX ⊢
  have hq := (unhide HX).var (List.Mem.tail _ (List.Mem.head _))
  have x0 : W.cell? ⟨q, 0, none⟩ = some (.int .i64 5) := cell_of_block hq rfl
  have x1 : W.cell? ⟨q, 1, none⟩ = some (.int .i64 (j : Int)) := cell_of_block hq rfl
  clear hq
  have s1 := (unhide HX).cs_ h5
  rw [hsd] at s1
  rw [show ad (some (D, d)) = some ⟨D, 0, none⟩ from rfl] at s1
  refine (isseat (j : Int) _).mono ?_
  rintro e w' ⟨rfl, hw'⟩
  subst w'
  rw [hsb]
  go_wp2_with fail
  go_quiet (fail)
  have HX2 := hide ((unhide HX).kp0 ((Kp.refl [] W).drewN nq))
  clear HX x0 x1 s1
  generalize W.drewN nq = W2 at HX2 ⊢
  have hq := (unhide HX2).var (List.Mem.tail _ (List.Mem.head _))
  have x0 : W2.cell? ⟨q, 0, none⟩ = some (.int .i64 5) := cell_of_block hq rfl
  have x1 : W2.cell? ⟨q, 1, none⟩ = some (.int .i64 (j : Int)) := cell_of_block hq rfl
  have x2 : W2.cell? ⟨q, 2, none⟩ = some (.int .i64 xm) := cell_of_block hq rfl
  have x3 : W2.cell? ⟨q, 3, none⟩ = some (.int .i64 xa) := cell_of_block hq rfl
  have x4 : W2.cell? ⟨q, 4, none⟩ = some (.int .i64 xk) := cell_of_block hq rfl
  have x5 : W2.cell? ⟨q, 5, none⟩ = some (.int .i64 xt) := cell_of_block hq rfl
  have x6 : W2.cell? ⟨q, 6, none⟩ = some (.int .i64 xp) := cell_of_block hq rfl
  have x7 : W2.cell? ⟨q, 7, none⟩ = some (.string xb) := cell_of_block hq rfl
  have ql := lt_of_block hq
  clear hq
  go_wp2_with fail
  have HXD := hide ((unhide HX2).kp0 (Kp.refl [] _).drew)
  clear x0 x1 x2 x3 x4 x5 x6 x7 ql HX2
  have c0 := (unhide HXD).c0
  have hq := (unhide HXD).var (p := q) (List.Mem.tail _ (List.Mem.head _))
  have x4 := cell_of_block (i := 4) (v := .int .i64 xk) hq rfl
  have x5 := cell_of_block (i := 5) (v := .int .i64 xt) hq rfl
  clear hq
  have hpl := lt_of_block ((unhide HXD).var (p := p) (List.Mem.head _))
  have HPL := hide hpl
  clear hpl
  refine wp_region_held_drew (S := fun w' => w'.cell? ⟨cb, 0, none⟩ = some (.pointer (some ⟨sb, 0, none⟩)) ∧ w'.cell? ⟨q, 4, none⟩ = some (.int .i64 xk) ∧ w'.cell? ⟨q, 5, none⟩ = some (.int .i64 xt)) (by kernel_rfl) ⟨c0, x4, x5⟩ (fun hHeld => ?_)
  clear c0 x4 x5
  generalize World.drew _ = WD at HXD HPL hHeld ⊢
  refine wpAnyH_tk (i := 0) (v := ?_) rfl (by kernel_rfl) (by kernel_rfl) (by kernel_rfl) (fun _ _ _ h => h) (Or.inl ⟨by rfl, ?_⟩) hHeld ?_
  rotate_left
  · intro w hSw
    try dsimp only at hSw
    go_simp
    try with_reducible rfl
  try simp only [Act.put, List.setIfInBounds_toArray, List.set_cons_zero, List.set_cons_succ]
  refine wpAnyH_tk (i := 1) (v := ?_) rfl (by kernel_rfl) (by kernel_rfl) (by kernel_rfl) (fun _ _ _ h => h) (Or.inl ⟨by rfl, ?_⟩) hHeld ?_
  rotate_left
  · intro w hSw
    try dsimp only at hSw
    go_simp
    try with_reducible rfl
  try simp only [Act.put, List.setIfInBounds_toArray, List.set_cons_zero, List.set_cons_succ]
  refine wpAnyH_tk (i := 2) (v := ?_) rfl (by kernel_rfl) (by kernel_rfl) (by kernel_rfl) (fun _ _ _ h => h) (Or.inl ⟨by rfl, ?_⟩) hHeld ?_
  rotate_left
  · intro w hSw
    try dsimp only at hSw
    go_simp
    try with_reducible rfl
  try simp only [Act.put, List.setIfInBounds_toArray, List.set_cons_zero, List.set_cons_succ]
  refine wpAnyH_tk (i := 3) (v := ?_) rfl (by kernel_rfl) (by kernel_rfl) (by kernel_rfl) (fun _ _ _ h => h) (Or.inl ⟨by rfl, ?_⟩) hHeld ?_
  rotate_left
  · intro w hSw
    try dsimp only at hSw
    go_simp
    try with_reducible rfl
  try simp only [Act.put, List.setIfInBounds_toArray, List.set_cons_zero, List.set_cons_succ]
  refine wpAnyH_tk (i := 4) (v := ?_) rfl (by kernel_rfl) (by kernel_rfl) (by kernel_rfl) (fun _ _ _ h => h) (Or.inl ⟨by rfl, ?_⟩) hHeld ?_
  rotate_left
  · intro w hSw
    try dsimp only at hSw
    go_simp
    try with_reducible rfl
  try simp only [Act.put, List.setIfInBounds_toArray, List.set_cons_zero, List.set_cons_succ]
  refine wpAnyH_tk (i := 5) (v := ?_) rfl (by kernel_rfl) (by kernel_rfl) (by kernel_rfl) (fun _ _ _ h => h) (Or.inl ⟨by rfl, ?_⟩) hHeld ?_
  rotate_left
  · intro w hSw
    try dsimp only at hSw
    go_simp
    try with_reducible rfl
  try simp only [Act.put, List.setIfInBounds_toArray, List.set_cons_zero, List.set_cons_succ]
  refine wpAnyH_tk (i := 6) (v := ?_) rfl (by kernel_rfl) (by kernel_rfl) (by kernel_rfl) (fun _ _ _ h => h) (Or.inl ⟨by rfl, ?_⟩) hHeld ?_
  rotate_left
  · intro w hSw
    try dsimp only at hSw
    go_simp
    try with_reducible rfl
  try simp only [Act.put, List.setIfInBounds_toArray, List.set_cons_zero, List.set_cons_succ]
  refine wpAnyH_tk (i := 7) (v := ?_) rfl (by kernel_rfl) (by kernel_rfl) (by kernel_rfl) (fun _ _ _ h => h) (Or.inl ⟨by rfl, ?_⟩) hHeld ?_
  rotate_left
  · intro w hSw
    try dsimp only at hSw
    go_simp
    try with_reducible rfl
  try simp only [Act.put, List.setIfInBounds_toArray, List.set_cons_zero, List.set_cons_succ]
  refine wpAnyH_tk (i := 8) (v := ?_) rfl (by kernel_rfl) (by kernel_rfl) (by kernel_rfl) (fun _ _ _ h => h) (Or.inl ⟨by rfl, ?_⟩) hHeld ?_
  rotate_left
  · intro w hSw
    try dsimp only at hSw
    go_simp
    try with_reducible rfl
  try simp only [Act.put, List.setIfInBounds_toArray, List.set_cons_zero, List.set_cons_succ]
  refine wpAnyH_only (i := 9) rfl (by kernel_rfl) (fun K hK => ?_)
  go_simp
  refine (c_list xk xt h5 hsd hrl hwl (unhide HXD)).mono ?_
  rintro e w11 ⟨a, cap, rfl, HSL, HFR, HY⟩
  have hq2 := (unhide HY).var (p := q) (List.Mem.tail _ (List.Mem.head _))
  have y4 := cell_of_block (i := 4) (v := .int .i64 xk) hq2 rfl
  have y5 := cell_of_block (i := 5) (v := .int .i64 xt) hq2 rfl
  clear hq2
  go_wp2_with fail
  refine hK.out _ _ (⟨(unhide HY).c0, y4, y5⟩) (fun hHeld2 => ?_)
  clear hK K hHeld
  have hHeld := hHeld2
  clear hHeld2
  try simp only [Act.put, List.setIfInBounds_toArray, List.set_cons_zero, List.set_cons_succ]
  clear y4 y5
  refine wpAnyH_tk (i := 10) (v := ?_) rfl (by kernel_rfl) (by kernel_rfl) (by kernel_rfl) (fun _ _ _ h => h) (Or.inl ⟨by rfl, ?_⟩) hHeld ?_
  rotate_left
  · intro w hSw
    try dsimp only at hSw
    go_simp
    try with_reducible rfl
  try simp only [Act.put, List.setIfInBounds_toArray, List.set_cons_zero, List.set_cons_succ]
  refine wpAnyH_tk (i := 11) (v := ?_) rfl (by kernel_rfl) (by kernel_rfl) (by kernel_rfl) (fun _ _ _ h => h) (Or.inl ⟨by rfl, ?_⟩) hHeld ?_
  rotate_left
  · intro w hSw
    try dsimp only at hSw
    go_simp
    try with_reducible rfl
  try simp only [Act.put, List.setIfInBounds_toArray, List.set_cons_zero, List.set_cons_succ]
  refine wpAnyH_tk (i := 12) (v := ?_) rfl (by kernel_rfl) (by kernel_rfl) (by kernel_rfl) (fun _ _ _ h => h) (Or.inl ⟨by rfl, ?_⟩) hHeld ?_
  rotate_left
  · intro w hSw
    try dsimp only at hSw
    go_simp
    try with_reducible rfl
  try simp only [Act.put, List.setIfInBounds_toArray, List.set_cons_zero, List.set_cons_succ]
  refine wpAnyH_tk (i := 13) (v := ?_) rfl (by kernel_rfl) (by kernel_rfl) (by kernel_rfl) (fun _ _ _ h => h) (Or.inl ⟨by rfl, ?_⟩) hHeld ?_
  rotate_left
  · intro w hSw
    try dsimp only at hSw
    go_simp
    try with_reducible rfl
  try simp only [Act.put, List.setIfInBounds_toArray, List.set_cons_zero, List.set_cons_succ]
  refine wpAnyH_tk (i := 14) (v := ?_) rfl (by kernel_rfl) (by kernel_rfl) (by kernel_rfl) (fun _ _ _ h => h) (Or.inl ⟨by rfl, ?_⟩) hHeld ?_
  rotate_left
  · intro w hSw
    try dsimp only at hSw
    go_simp
    try with_reducible rfl
  try simp only [Act.put, List.setIfInBounds_toArray, List.set_cons_zero, List.set_cons_succ]
  refine wpAnyH_done (by kernel_rfl) ?_ _
  clear hHeld
  obtain ⟨e0, e1, e2, e3, e4, g0, g1, g2, g3, g4⟩ := evF ((unhide HY).var (List.Mem.head _))
  go_wp2_with fail
  refine bodyPost_ret (v := .agg #[.int .i64 (dls h.f h.n d.y d.ws d.rs xk xt).2.1, .int .i64 0, .bool false, .string ⟨#[]⟩, .slice a (dls h.f h.n d.y d.ws d.rs xk xt).1.length cap]) (by simp [results, Tryz.results39, go_sem, e0, e1, e2, e3, e4]) rfl ?_
  exact ⟨sb, _, a, cap, rfl, by show Sts _ (upd h.seat ((j : Int).toNat) _); rw [hjs]; exact (unhide HS).put j (some (D, _)), slo_kp (unhide HSL) (ev5 _ _ _ _ _) (fun x hx e => by have := unhide HFR x hx; have := unhide HPL; rw [List.mem_singleton.1 e] at *; omega), ((unhide HY).fin _ _ _ _ _).as rfl rfl rfl⟩
end
end
/- A court's Do: Crash; Clear. -/
section
open Go.RowKit
attribute [local go_sem ↓] Go.wp_at_zero Go.wp_at_succ

section
variable {w0 w : World} {cb sb : Nat} {h : HSt} {st : Nat → Sd} {r : List Thing}
set_option maxHeartbeats 1000000 in
theorem cdo_crash (x : HStep) (hx : x.d = 9) (hz : Cou w0 w cb sb h st r) :
    Calls Tryz.prog 39 #[.pointer (some ⟨cb, 0, none⟩), .agg #[.int .i64 x.d, .int .i64 x.s, .int .i64 x.md, .int .i64 x.at_, .int .i64 x.key, .int .i64 x.to_, .int .i64 x.keep, .string x.b]] w fun e w' => GoEndC w0 cb r (hdo h x) (hev h x) e w' := by
  have heq := (HKind.crash (h := h) (x := x) hx).eq
  rw [heq.1, heq.2]
  clear heq
  have HX := hide (hz.two (xcs x) 79 #[.int .i64 0, .int .i64 0, .bool false, .string ⟨#[]⟩, .slice none 0 0] 102)
  clear hz
  obtain ⟨xd, xs, xm, xa, xk, xt, xp, xb⟩ := x
  dsimp only [xcs] at *
  subst hx
  go_enter Tryz.func39, Tryz.ntmps39
  go_wp2_with fail
  generalize (w.alloc (.cells #[.int .i64 9, .int .i64 xs, .int .i64 xm, .int .i64 xa, .int .i64 xk, .int .i64 xt, .int .i64 xp, .string xb] 79)).alloc (.cells #[.int .i64 0, .int .i64 0, .bool false, .string ⟨#[]⟩, .slice none 0 0] 102) = W at HX ⊢
  generalize w.heap.size = q at HX ⊢
  generalize q + 1 = p at HX ⊢
  refine (c_again (unhide HX)).mono ?_
  rintro e w1 ⟨rfl, sb', HY⟩
  clear HX
  obtain ⟨e0, e1, e2, e3, e4, g0, g1, g2, g3, g4⟩ := evF ((unhide HY).var (List.Mem.head _))
  go_wp2_with fail
  refine bodyPost_ret (v := .agg #[.int .i64 0, .int .i64 0, .bool false, .string ⟨#[]⟩, .slice none 0 0]) (by simp [results, Tryz.results39, go_sem, e0, e1, e2, e3, e4]) rfl ?_
  exact ⟨sb', _, none, 0, rfl, fun _ => rfl, slo_nil _ _, ((unhide HY).fin _ _ _ _ _).as rfl rfl rfl⟩
set_option maxHeartbeats 1000000 in
theorem cdo_clear (x : HStep) (hx : x.d = 8) (hs : Sts st h.seat) (hz : Cou w0 w cb sb h st r) :
    Calls Tryz.prog 39 #[.pointer (some ⟨cb, 0, none⟩), .agg #[.int .i64 x.d, .int .i64 x.s, .int .i64 x.md, .int .i64 x.at_, .int .i64 x.key, .int .i64 x.to_, .int .i64 x.keep, .string x.b]] w fun e w' => GoEndC w0 cb r (hdo h x) (hev h x) e w' := by
  have heq := (HKind.clear (h := h) (x := x) hx).eq
  rw [heq.1, heq.2]
  clear heq
  have HS := hide hs
  have HX := hide (hz.two (xcs x) 79 #[.int .i64 0, .int .i64 0, .bool false, .string ⟨#[]⟩, .slice none 0 0] 102)
  clear hz hs
  have HLE := hide (fun W r (hz : Cou w0 W cb sb h st r) => c_least (unhide HS) hz)
  generalize least h.n h.seat 5 = y at *
  obtain ⟨xd, xs, xm, xa, xk, xt, xp, xb⟩ := x
  dsimp only [xcs] at *
  subst hx
  go_enter Tryz.func39, Tryz.ntmps39
  go_wp2_with fail
  generalize (w.alloc (.cells #[.int .i64 8, .int .i64 xs, .int .i64 xm, .int .i64 xa, .int .i64 xk, .int .i64 xt, .int .i64 xp, .string xb] 79)).alloc (.cells #[.int .i64 0, .int .i64 0, .bool false, .string ⟨#[]⟩, .slice none 0 0] 102) = W at HX ⊢
  generalize w.heap.size = q at HX ⊢
  generalize q + 1 = p at HX ⊢
  have HXD := hide ((unhide HX).kp0 (Kp.refl [] _).drew)
  clear HX
  have c0 := (unhide HXD).c0
  refine wp_region_held_drew (S := fun w' => w'.cell? ⟨cb, 0, none⟩ = some (.pointer (some ⟨sb, 0, none⟩))) (by kernel_rfl) (c0) (fun hHeld => ?_)
  refine wpAnyH_tk (i := 0) (v := ?_) rfl (by kernel_rfl) (by kernel_rfl) (by kernel_rfl) (fun _ _ _ h => h) (Or.inl ⟨by rfl, ?_⟩) hHeld ?_
  rotate_left
  · intro w hSw
    try dsimp only at hSw
    go_simp
    try with_reducible rfl
  try simp only [Act.put, List.setIfInBounds_toArray, List.set_cons_zero, List.set_cons_succ]
  refine wpAnyH_tk (i := 1) (v := ?_) rfl (by kernel_rfl) (by kernel_rfl) (by kernel_rfl) (fun _ _ _ h => h) (Or.inl ⟨by rfl, ?_⟩) hHeld ?_
  rotate_left
  · intro w hSw
    try dsimp only at hSw
    go_simp
    try with_reducible rfl
  try simp only [Act.put, List.setIfInBounds_toArray, List.set_cons_zero, List.set_cons_succ]
  refine wpAnyH_tk (i := 2) (v := ?_) rfl (by kernel_rfl) (by kernel_rfl) (by kernel_rfl) (fun _ _ _ h => h) (Or.inl ⟨by rfl, ?_⟩) hHeld ?_
  rotate_left
  · intro w hSw
    try dsimp only at hSw
    go_simp
    try with_reducible rfl
  try simp only [Act.put, List.setIfInBounds_toArray, List.set_cons_zero, List.set_cons_succ]
  refine wpAnyH_tk (i := 3) (v := ?_) rfl (by kernel_rfl) (by kernel_rfl) (by kernel_rfl) (fun _ _ _ h => h) (Or.inl ⟨by rfl, ?_⟩) hHeld ?_
  rotate_left
  · intro w hSw
    try dsimp only at hSw
    go_simp
    try with_reducible rfl
  try simp only [Act.put, List.setIfInBounds_toArray, List.set_cons_zero, List.set_cons_succ]
  refine wpAnyH_tk (i := 4) (v := ?_) rfl (by kernel_rfl) (by kernel_rfl) (by kernel_rfl) (fun _ _ _ h => h) (Or.inl ⟨by rfl, ?_⟩) hHeld ?_
  rotate_left
  · intro w hSw
    try dsimp only at hSw
    go_simp
    try with_reducible rfl
  try simp only [Act.put, List.setIfInBounds_toArray, List.set_cons_zero, List.set_cons_succ]
  refine wpAnyH_only (i := 5) rfl (by kernel_rfl) (fun K hK => ?_)
  go_simp
  refine (unhide HLE _ _ (unhide HXD)).mono ?_
  rintro e w' ⟨rfl, hw'⟩
  subst w'
  go_wp2_with fail
  refine hK.out _ _ (c0) (fun hHeld2 => ?_)
  clear hK K hHeld
  have hHeld := hHeld2
  clear hHeld2
  try simp only [Act.put, List.setIfInBounds_toArray, List.set_cons_zero, List.set_cons_succ]
  refine wpAnyH_only (i := 6) rfl (by kernel_rfl) (fun K hK => ?_)
  go_simp
  refine (c_clear y (unhide HXD)).mono ?_
  rintro e w3 ⟨rfl, HY⟩
  go_wp2_with fail
  refine hK.out _ _ ((unhide HY).c0) (fun hHeld2 => ?_)
  clear hK K hHeld
  have hHeld := hHeld2
  clear hHeld2
  try simp only [Act.put, List.setIfInBounds_toArray, List.set_cons_zero, List.set_cons_succ]
  refine wpAnyH_tk (i := 7) (v := ?_) rfl (by kernel_rfl) (by kernel_rfl) (by kernel_rfl) (fun _ _ _ h => h) (Or.inl ⟨by rfl, ?_⟩) hHeld ?_
  rotate_left
  · intro w hSw
    try dsimp only at hSw
    go_simp
    try with_reducible rfl
  try simp only [Act.put, List.setIfInBounds_toArray, List.set_cons_zero, List.set_cons_succ]
  refine wpAnyH_only (i := 8) rfl (by kernel_rfl) (fun K hK => ?_)
  go_simp
  obtain ⟨e0, e1, e2, e3, e4, g0, g1, g2, g3, g4⟩ := evF ((unhide HY).var (List.Mem.head _))
  go_simp
  have HF := hide ((((((unhide HY).set0 0 (.int .i64 0)).set0 1 (.int .i64 (cln h.f y 8 : Nat))).set0 2 (.bool false)).set0 3 (.string ⟨#[]⟩)).set0 4 (.slice none 0 0))
  go_wp2_with fail
  refine hK.out _ _ ((unhide HF).c0) (fun hHeld2 => ?_)
  clear hK K hHeld
  have hHeld := hHeld2
  clear hHeld2
  try simp only [Act.put, List.setIfInBounds_toArray, List.set_cons_zero, List.set_cons_succ]
  refine wpAnyH_done (by kernel_rfl) ?_ _
  go_wp2_with fail
  refine bodyPost_ret (v := .agg #[.int .i64 0, .int .i64 (cln h.f y 8 : Nat), .bool false, .string ⟨#[]⟩, .slice none 0 0]) (by simp [results, Tryz.results39, go_sem, e0, e1, e2, e3, e4]) rfl ?_
  exact ⟨sb, st, none, 0, rfl, unhide HS, slo_nil _ _, ((unhide HY).fin _ _ _ _ _).as rfl rfl rfl⟩
end
end
/- A court's Do: Tear. -/
section
open Go.RowKit
attribute [local go_sem ↓] Go.wp_at_zero Go.wp_at_succ

theorem zoof_mem {B : Nat} {w : World} {os : List Thing} {X : List Nat} {o : Thing} (h : ZooF B w os X) (hm : o ∈ os) : ∃ F, o.holds B w F ∧ ∀ x ∈ F, x ∈ X := by
  obtain ⟨l1, l2, rfl⟩ := List.append_of_mem hm
  obtain ⟨F, Y, _, ⟨F1, Y1, h1, _, _, e1⟩, _, rfl⟩ := zoof_app h
  exact ⟨F1, h1, fun x hx => by rw [e1]; simp [hx]⟩
theorem zoo_mk {w0 w w' : World} {o o' : Thing} {r : List Thing} {F Y : List Nat} (h1 : o.holds w0.heap.size w F) (h2 : ZooF w0.heap.size w r Y) (h3 : ∀ x, x ∈ F → x ∉ Y) (h4 : Kp [] w0 w) (hc : Ch o' w0.heap.size w F w') : Zoo w0 w' (o' :: r) := by
  obtain ⟨F', k1, k2, k3⟩ := hc
  refine ⟨F' ++ Y, ⟨F', Y, k1, h2.kp k2 (fun x hx hf => h3 x hf hx), fun x hx hy => ?_, rfl⟩, h4.trans k2 (fun x hx => .inr (o.lo h1 x hx).1)⟩
  rcases k3 x hx with e | e
  · exact h3 x e hy
  · have := (h2.lo x hy).2; omega
section
variable {w0 w : World} {cb sb : Nat} {h : HSt} {st : Nat → Sd} {r : List Thing}

theorem c_may {s D : Nat} {d : Dp} (hs : s < 5) (hd : st s = some (D, d)) (hrl : d.rs.length ≤ 2900) (hwl : d.ws.length ≤ 900) (hz : Cou w0 w cb sb h st r) :
    Calls Tryz.prog 72 #[.pointer (some ⟨D, 0, none⟩), .pointer (some ⟨sb, 0, none⟩)] w fun e w' => e = .returned (.int .i64 (dm h.f d.md d.y d.rs d.ws)) ∧ Hid (Cou w0 w' cb sb h st r) := by
  obtain ⟨G, Gr, Gs, bx, k, _⟩ := hz.crt
  obtain ⟨H, hW⟩ := hz.wrk hs hd
  exact (wmay69x w k.s hW (Nat.le_trans hrl (by omega)) hwl).mono (fun e w' ⟨he, hk⟩ => ⟨he, hz.kp0 hk⟩)
theorem c_writes {s D : Nat} {d : Dp} {WW : List Ver} (hWW : wk d.ws 8 = WW) (hs : s < 5) (hd : st s = some (D, d)) (hwl : d.ws.length ≤ 900) (hz : Cou w0 w cb sb h st r) :
    Calls Tryz.prog 73 #[.pointer (some ⟨D, 0, none⟩)] w fun e w' => ∃ a cap, e = .returned (.slice a WW.length cap) ∧ Hid (Cou w0 w' cb sb h st (PsT a cap WW :: r)) := by
  obtain ⟨H, hW⟩ := hz.wrk hs hd
  subst hWW
  refine (wwrites67 w hW hwl).mono ?_
  rintro e w' ⟨a, cap, rfl, ho, hk⟩
  have h1 : Zoo w0 w' (PsT a cap (wk d.ws 8) :: (CrtT cb sb h.f h.n h.cs [] (ads st) :: (wseats st ++ r))) := Zoo.cons hz (F := ob a) ⟨ho, rfl⟩ hk
  exact ⟨a, cap, rfl, h1.perm (List.perm_middle (l₁ := CrtT cb sb h.f h.n h.cs [] (ads st) :: wseats st)).symm⟩
theorem c_rtear {a : Option Addr} {cap : Nat} {ps : List Ver} (keep : Int) (hp : pf (-1) ps = 0) (hm : PsT a cap ps ∈ r) (hz : Cou w0 w cb sb h st r) :
    Calls Tryz.prog 74 #[.pointer (some ⟨cb, 1, none⟩), .slice a ps.length cap, .int .i64 keep] w fun e w' => e = .returned (.int .i64 (lcode h.cs ps)) ∧ ∃ torn, Hid (Zoo w0 w' (CrtT cb sb h.f h.n (ltear h.cs ps keep) torn (ads st) :: (wseats st ++ r))) := by
  have hpr := slo_prs (ps_slo (w0 := w0) (cap := cap) hz (List.Mem.tail _ (List.mem_append_right _ hm))) hp
  have hz' := hz
  obtain ⟨X, ⟨G0, Y, ⟨Gr, Gs, bx, k⟩, hY, hd, _⟩, hk0⟩ := hz'
  obtain ⟨FP, hP, hPY⟩ := zoof_mem hY (List.mem_append_right _ hm)
  have hfar : 0 < ps.length → ∀ g o, a = some ⟨g, o, none⟩ → g ∉ Gr := fun _ g o ea hm' => hd g (k.rG g hm') (hPY g (by rw [hP.2, ea]; simp [ob]))
  refine (rxtear a cap ps keep w k.r hpr hfar (by have := pf_len8 hp; omega)).mono ?_
  rintro e w' ⟨rfl, hL⟩
  exact ⟨rfl, _, zoo_mk (o := CrtT cb sb h.f h.n h.cs [] (ads st)) ⟨Gr, Gs, bx, k⟩ hY hd hk0 (k.roll hL)⟩
set_option maxHeartbeats 1000000 in
theorem cdo_tearA (x : HStep) (hx : x.d = 10) {j D : Nat} {d : Dp} (hj : x.s = (j : Int)) (h5 : j < 5) (hsd : st j = some (D, d)) (hs : Sts st h.seat) (hz : Cou w0 w cb sb h st r) (hi : HInv h) (hrl : d.rs.length ≤ 2900) (hwl : d.ws.length ≤ 900) (hz0 : ¬ dm h.f d.md d.y d.rs d.ws = 0) :
    Calls Tryz.prog 39 #[.pointer (some ⟨cb, 0, none⟩), .agg #[.int .i64 x.d, .int .i64 x.s, .int .i64 x.md, .int .i64 x.at_, .int .i64 x.key, .int .i64 x.to_, .int .i64 x.keep, .string x.b]] w fun e w' => GoEndC w0 cb r (hdo h x) (hev h x) e w' := by
  have HS := hide hs
  have HX := hide (hz.two (xcs x) 79 #[.int .i64 0, .int .i64 0, .bool false, .string ⟨#[]⟩, .slice none 0 0] 102)
  have hjs : x.s.toNat = j := by omega
  have hsj : h.seat j = some d := by rw [← hs j, hsd]; rfl
  have heq := (HKind.tear (h := h) (x := x) d hx ⟨by omega, by omega⟩ (by rw [hjs]; exact hsj)).eq
  rw [heq.1, heq.2]
  clear heq hz hs hsj
  have HI := hide hi
  have hlen := hi.vi.len
  have hn40 := hi.inv.n40
  have HPF := hide ((hi.ok j d (by rw [← unhide HS j, hsd]; rfl)).pf)
  clear hi
  rw [(v_may (cs := h.cs) hz0).1, t_may (keep := x.keep) hz0, tnum_same (t_may (keep := x.keep) hz0)]
  have hzb : (dm h.f d.md d.y d.rs d.ws == 0) = false := beq_eq_false_iff_ne.2 hz0
  clear hz0
  obtain ⟨WW, hWW⟩ : ∃ WW, wk d.ws 8 = WW := ⟨_, rfl⟩
  have HWW := hide hWW
  rw [hWW] at HPF
  have hwl8 := wk_len d.ws 8
  rw [hWW] at hwl8
  clear hWW
  obtain ⟨xd, xs, xm, xa, xk, xt, xp, xb⟩ := x
  dsimp only [xcs] at *
  subst hx hj
  have hsb : seatB (j : Int) = true := decide_eq_true (by omega)
  have i0 : (0 : Int) ≤ (j : Int) := by omega
  have i5 : (j : Int) < 5 := by omega
  go_enter Tryz.func39, Tryz.ntmps39
  go_wp2_with fail
  generalize (w.alloc (.cells #[.int .i64 10, .int .i64 (j : Int), .int .i64 xm, .int .i64 xa, .int .i64 xk, .int .i64 xt, .int .i64 xp, .string xb] 79)).alloc (.cells #[.int .i64 0, .int .i64 0, .bool false, .string ⟨#[]⟩, .slice none 0 0] 102) = W at HX ⊢
  generalize w.heap.size = q at HX ⊢
  generalize q + 1 = p at HX ⊢
  have hq := (unhide HX).var (List.Mem.tail _ (List.Mem.head _))
  have x0 : W.cell? ⟨q, 0, none⟩ = some (.int .i64 10) := cell_of_block hq rfl
  have x1 : W.cell? ⟨q, 1, none⟩ = some (.int .i64 (j : Int)) := cell_of_block hq rfl
  clear hq
  have s1 := (unhide HX).cs_ h5
  rw [hsd] at s1
  rw [show ad (some (D, d)) = some ⟨D, 0, none⟩ from rfl] at s1
  refine (isseat (j : Int) _).mono ?_
  rintro e w' ⟨rfl, hw'⟩
  subst w'
  rw [hsb]
  go_wp2_with fail
  go_quiet (fail)
  have HX2 := hide ((unhide HX).kp0 ((Kp.refl [] W).drewN nq))
  clear HX x0 x1 s1
  generalize W.drewN nq = W2 at HX2 ⊢
  have hq := (unhide HX2).var (List.Mem.tail _ (List.Mem.head _))
  have x0 : W2.cell? ⟨q, 0, none⟩ = some (.int .i64 10) := cell_of_block hq rfl
  have x1 : W2.cell? ⟨q, 1, none⟩ = some (.int .i64 (j : Int)) := cell_of_block hq rfl
  have x2 : W2.cell? ⟨q, 2, none⟩ = some (.int .i64 xm) := cell_of_block hq rfl
  have x3 : W2.cell? ⟨q, 3, none⟩ = some (.int .i64 xa) := cell_of_block hq rfl
  have x4 : W2.cell? ⟨q, 4, none⟩ = some (.int .i64 xk) := cell_of_block hq rfl
  have x5 : W2.cell? ⟨q, 5, none⟩ = some (.int .i64 xt) := cell_of_block hq rfl
  have x6 : W2.cell? ⟨q, 6, none⟩ = some (.int .i64 xp) := cell_of_block hq rfl
  have x7 : W2.cell? ⟨q, 7, none⟩ = some (.string xb) := cell_of_block hq rfl
  have ql := lt_of_block hq
  clear hq
  have c0 := (unhide HX2).c0
  go_wp2_with fail
  refine (c_may h5 hsd hrl hwl (unhide HX2)).mono ?_
  rintro e w3 ⟨rfl, HX3⟩
  clear x0 x1 x2 x3 x4 x5 x6 x7 ql c0 HX2
  have c0 := (unhide HX3).c0
  have n0 := (unhide HX3).n0
  go_wp2_with fail
  refine (c_writes (unhide HWW) h5 hsd hwl (unhide HX3)).mono ?_
  rintro e w4 ⟨a, cap, rfl, HX4⟩
  clear c0 n0 HX3
  go_wp2_with fail
  refine (c_again (unhide HX4)).mono ?_
  rintro e w6 ⟨rfl, sb', HY0⟩
  clear HX4
  have HY := hide (unhide HY0).tail
  clear HY0
  have c0 := (unhide HY).c0
  have n0 := (unhide HY).n0
  dsimp only at n0
  have hg1 : ¬ (h.n : Int) < (h.cs.length : Int) := by omega
  obtain ⟨e0, e1, e2, e3, e4, g0, g1, g2, g3, g4⟩ := evF ((unhide HY).var (List.Mem.head _))
  have HLEN := hide hlen
  clear hlen
  go_wp2_with fail
  refine bodyPost_ret (v := .agg #[.int .i64 (dm h.f d.md d.y d.rs d.ws), .int .i64 0, .bool false, .string ⟨#[]⟩, .slice none 0 0]) (by simp [results, Tryz.results39, go_sem, e0, e1, e2, e3, e4]) rfl ?_
  exact ⟨sb', _, none, 0, rfl, fun _ => rfl, slo_nil _ _, ((unhide HY).fin _ _ _ _ _).as rfl rfl rfl⟩
set_option maxHeartbeats 1000000 in
theorem cdo_tearB (x : HStep) (hx : x.d = 10) {j D : Nat} {d : Dp} (hj : x.s = (j : Int)) (h5 : j < 5) (hsd : st j = some (D, d)) (hs : Sts st h.seat) (hz : Cou w0 w cb sb h st r) (hi : HInv h) (hrl : d.rs.length ≤ 2900) (hwl : d.ws.length ≤ 900) (hz0 : dm h.f d.md d.y d.rs d.ws = 0) (hl0 : (wk d.ws 8).length = 0) :
    Calls Tryz.prog 39 #[.pointer (some ⟨cb, 0, none⟩), .agg #[.int .i64 x.d, .int .i64 x.s, .int .i64 x.md, .int .i64 x.at_, .int .i64 x.key, .int .i64 x.to_, .int .i64 x.keep, .string x.b]] w fun e w' => GoEndC w0 cb r (hdo h x) (hev h x) e w' := by
  have HS := hide hs
  have HX := hide (hz.two (xcs x) 79 #[.int .i64 0, .int .i64 0, .bool false, .string ⟨#[]⟩, .slice none 0 0] 102)
  have hjs : x.s.toNat = j := by omega
  have hsj : h.seat j = some d := by rw [← hs j, hsd]; rfl
  have heq := (HKind.tear (h := h) (x := x) d hx ⟨by omega, by omega⟩ (by rw [hjs]; exact hsj)).eq
  rw [heq.1, heq.2]
  clear heq hz hs hsj
  have HI := hide hi
  have hlen := hi.vi.len
  have hn40 := hi.inv.n40
  have HPF := hide ((hi.ok j d (by rw [← unhide HS j, hsd]; rfl)).pf)
  clear hi
  rw [(v_none (cs := h.cs) hz0 hl0).1, t_none (f := h.f) (cs := h.cs) (md := d.md) (y := d.y) (rs := d.rs) (keep := x.keep) hl0, tnum_same (t_none (f := h.f) (cs := h.cs) (md := d.md) (y := d.y) (rs := d.rs) (keep := x.keep) hl0)]
  obtain ⟨WW, hWW⟩ : ∃ WW, wk d.ws 8 = WW := ⟨_, rfl⟩
  have HWW := hide hWW
  rw [hWW] at HPF
  have hwl8 := wk_len d.ws 8
  rw [hWW] at hwl8
  rw [hWW] at hl0
  clear hWW
  obtain ⟨xd, xs, xm, xa, xk, xt, xp, xb⟩ := x
  dsimp only [xcs] at *
  subst hx hj
  have hsb : seatB (j : Int) = true := decide_eq_true (by omega)
  have i0 : (0 : Int) ≤ (j : Int) := by omega
  have i5 : (j : Int) < 5 := by omega
  go_enter Tryz.func39, Tryz.ntmps39
  go_wp2_with fail
  generalize (w.alloc (.cells #[.int .i64 10, .int .i64 (j : Int), .int .i64 xm, .int .i64 xa, .int .i64 xk, .int .i64 xt, .int .i64 xp, .string xb] 79)).alloc (.cells #[.int .i64 0, .int .i64 0, .bool false, .string ⟨#[]⟩, .slice none 0 0] 102) = W at HX ⊢
  generalize w.heap.size = q at HX ⊢
  generalize q + 1 = p at HX ⊢
  have hq := (unhide HX).var (List.Mem.tail _ (List.Mem.head _))
  have x0 : W.cell? ⟨q, 0, none⟩ = some (.int .i64 10) := cell_of_block hq rfl
  have x1 : W.cell? ⟨q, 1, none⟩ = some (.int .i64 (j : Int)) := cell_of_block hq rfl
  clear hq
  have s1 := (unhide HX).cs_ h5
  rw [hsd] at s1
  rw [show ad (some (D, d)) = some ⟨D, 0, none⟩ from rfl] at s1
  refine (isseat (j : Int) _).mono ?_
  rintro e w' ⟨rfl, hw'⟩
  subst w'
  rw [hsb]
  go_wp2_with fail
  go_quiet (fail)
  have HX2 := hide ((unhide HX).kp0 ((Kp.refl [] W).drewN nq))
  clear HX x0 x1 s1
  generalize W.drewN nq = W2 at HX2 ⊢
  have hq := (unhide HX2).var (List.Mem.tail _ (List.Mem.head _))
  have x0 : W2.cell? ⟨q, 0, none⟩ = some (.int .i64 10) := cell_of_block hq rfl
  have x1 : W2.cell? ⟨q, 1, none⟩ = some (.int .i64 (j : Int)) := cell_of_block hq rfl
  have x2 : W2.cell? ⟨q, 2, none⟩ = some (.int .i64 xm) := cell_of_block hq rfl
  have x3 : W2.cell? ⟨q, 3, none⟩ = some (.int .i64 xa) := cell_of_block hq rfl
  have x4 : W2.cell? ⟨q, 4, none⟩ = some (.int .i64 xk) := cell_of_block hq rfl
  have x5 : W2.cell? ⟨q, 5, none⟩ = some (.int .i64 xt) := cell_of_block hq rfl
  have x6 : W2.cell? ⟨q, 6, none⟩ = some (.int .i64 xp) := cell_of_block hq rfl
  have x7 : W2.cell? ⟨q, 7, none⟩ = some (.string xb) := cell_of_block hq rfl
  have ql := lt_of_block hq
  clear hq
  have c0 := (unhide HX2).c0
  go_wp2_with fail
  refine (c_may h5 hsd hrl hwl (unhide HX2)).mono ?_
  rintro e w3 ⟨rfl, HX3⟩
  rw [hz0]
  clear x0 x1 x2 x3 x4 x5 x6 x7 ql c0 HX2
  have c0 := (unhide HX3).c0
  have n0 := (unhide HX3).n0
  go_wp2_with fail
  refine (c_writes (unhide HWW) h5 hsd hwl (unhide HX3)).mono ?_
  rintro e w4 ⟨a, cap, rfl, HX4⟩
  clear c0 n0 HX3
  rw [hl0]
  go_wp2_with fail
  refine (c_again (unhide HX4)).mono ?_
  rintro e w6 ⟨rfl, sb', HY0⟩
  clear HX4
  have HY := hide (unhide HY0).tail
  clear HY0
  have c0 := (unhide HY).c0
  have n0 := (unhide HY).n0
  dsimp only at n0
  have hg1 : ¬ (h.n : Int) < (h.cs.length : Int) := by omega
  obtain ⟨e0, e1, e2, e3, e4, g0, g1, g2, g3, g4⟩ := evF ((unhide HY).var (List.Mem.head _))
  have HLEN := hide hlen
  clear hlen
  go_wp2_with fail
  refine bodyPost_ret (v := .agg #[.int .i64 0, .int .i64 0, .bool false, .string ⟨#[]⟩, .slice none 0 0]) (by simp [results, Tryz.results39, go_sem, e0, e1, e2, e3, e4]) rfl ?_
  exact ⟨sb', _, none, 0, rfl, fun _ => rfl, slo_nil _ _, ((unhide HY).fin _ _ _ _ _).as rfl rfl rfl⟩
set_option maxHeartbeats 1000000 in
theorem cdo_tearC (x : HStep) (hx : x.d = 10) {j D : Nat} {d : Dp} (hj : x.s = (j : Int)) (h5 : j < 5) (hsd : st j = some (D, d)) (hs : Sts st h.seat) (hz : Cou w0 w cb sb h st r) (hi : HInv h) (hrl : d.rs.length ≤ 2900) (hwl : d.ws.length ≤ 900) (hz0 : dm h.f d.md d.y d.rs d.ws = 0) (hl0 : ¬ (wk d.ws 8).length = 0) (hgt : h.cs.length < (ltear h.cs (wk d.ws 8) x.keep).length) :
    Calls Tryz.prog 39 #[.pointer (some ⟨cb, 0, none⟩), .agg #[.int .i64 x.d, .int .i64 x.s, .int .i64 x.md, .int .i64 x.at_, .int .i64 x.key, .int .i64 x.to_, .int .i64 x.keep, .string x.b]] w fun e w' => GoEndC w0 cb r (hdo h x) (hev h x) e w' := by
  have HS := hide hs
  have HX := hide (hz.two (xcs x) 79 #[.int .i64 0, .int .i64 0, .bool false, .string ⟨#[]⟩, .slice none 0 0] 102)
  have hjs : x.s.toNat = j := by omega
  have hsj : h.seat j = some d := by rw [← hs j, hsd]; rfl
  have heq := (HKind.tear (h := h) (x := x) d hx ⟨by omega, by omega⟩ (by rw [hjs]; exact hsj)).eq
  rw [heq.1, heq.2]
  clear heq hz hs hsj
  have HI := hide hi
  have hlen := hi.vi.len
  have hn40 := hi.inv.n40
  have HPF := hide ((hi.ok j d (by rw [← unhide HS j, hsd]; rfl)).pf)
  clear hi
  have hvc : vcode h.f h.cs d.md d.y d.rs d.ws = lcode h.cs (wk d.ws 8) := by unfold vcode; rw [if_pos hz0, if_neg hl0]
  have htn : tnum h.f h.cs d.md d.y d.rs d.ws x.keep = ((ltear h.cs (wk d.ws 8) x.keep).length : Int) := by unfold tnum; rw [t_tear hz0 hl0]; exact if_pos hgt
  rw [hvc, htn, t_tear (keep := x.keep) hz0 hl0]
  clear hvc htn
  have hlt41 : (ltear h.cs (wk d.ws 8) x.keep).length ≤ 41 := by unfold ltear; split <;> (try simp) <;> omega
  obtain ⟨cs', hcs'⟩ : ∃ cs', ltear h.cs (wk d.ws 8) x.keep = cs' := ⟨_, rfl⟩
  have HCS := hide hcs'
  rw [hcs'] at hlt41 hgt ⊢
  clear hcs'
  obtain ⟨z, hz1⟩ : ∃ z, lcode h.cs (wk d.ws 8) = z := ⟨_, rfl⟩
  have HZ1 := hide hz1
  rw [hz1]
  clear hz1
  obtain ⟨WW, hWW⟩ : ∃ WW, wk d.ws 8 = WW := ⟨_, rfl⟩
  have HWW := hide hWW
  rw [hWW] at HPF
  have hwl8 := wk_len d.ws 8
  rw [hWW] at hwl8
  rw [hWW] at hl0 HCS HZ1
  clear hWW
  obtain ⟨xd, xs, xm, xa, xk, xt, xp, xb⟩ := x
  dsimp only [xcs] at *
  subst hx hj
  have hsb : seatB (j : Int) = true := decide_eq_true (by omega)
  have i0 : (0 : Int) ≤ (j : Int) := by omega
  have i5 : (j : Int) < 5 := by omega
  go_enter Tryz.func39, Tryz.ntmps39
  go_wp2_with fail
  generalize (w.alloc (.cells #[.int .i64 10, .int .i64 (j : Int), .int .i64 xm, .int .i64 xa, .int .i64 xk, .int .i64 xt, .int .i64 xp, .string xb] 79)).alloc (.cells #[.int .i64 0, .int .i64 0, .bool false, .string ⟨#[]⟩, .slice none 0 0] 102) = W at HX ⊢
  generalize w.heap.size = q at HX ⊢
  generalize q + 1 = p at HX ⊢
  have hq := (unhide HX).var (List.Mem.tail _ (List.Mem.head _))
  have x0 : W.cell? ⟨q, 0, none⟩ = some (.int .i64 10) := cell_of_block hq rfl
  have x1 : W.cell? ⟨q, 1, none⟩ = some (.int .i64 (j : Int)) := cell_of_block hq rfl
  clear hq
  have s1 := (unhide HX).cs_ h5
  rw [hsd] at s1
  rw [show ad (some (D, d)) = some ⟨D, 0, none⟩ from rfl] at s1
  refine (isseat (j : Int) _).mono ?_
  rintro e w' ⟨rfl, hw'⟩
  subst w'
  rw [hsb]
  go_wp2_with fail
  go_quiet (fail)
  have HX2 := hide ((unhide HX).kp0 ((Kp.refl [] W).drewN nq))
  clear HX x0 x1 s1
  generalize W.drewN nq = W2 at HX2 ⊢
  have hq := (unhide HX2).var (List.Mem.tail _ (List.Mem.head _))
  have x0 : W2.cell? ⟨q, 0, none⟩ = some (.int .i64 10) := cell_of_block hq rfl
  have x1 : W2.cell? ⟨q, 1, none⟩ = some (.int .i64 (j : Int)) := cell_of_block hq rfl
  have x2 : W2.cell? ⟨q, 2, none⟩ = some (.int .i64 xm) := cell_of_block hq rfl
  have x3 : W2.cell? ⟨q, 3, none⟩ = some (.int .i64 xa) := cell_of_block hq rfl
  have x4 : W2.cell? ⟨q, 4, none⟩ = some (.int .i64 xk) := cell_of_block hq rfl
  have x5 : W2.cell? ⟨q, 5, none⟩ = some (.int .i64 xt) := cell_of_block hq rfl
  have x6 : W2.cell? ⟨q, 6, none⟩ = some (.int .i64 xp) := cell_of_block hq rfl
  have x7 : W2.cell? ⟨q, 7, none⟩ = some (.string xb) := cell_of_block hq rfl
  have ql := lt_of_block hq
  clear hq
  have c0 := (unhide HX2).c0
  go_wp2_with fail
  refine (c_may h5 hsd hrl hwl (unhide HX2)).mono ?_
  rintro e w3 ⟨rfl, HX3⟩
  rw [hz0]
  clear x0 x1 x2 x3 x4 x5 x6 x7 ql c0 HX2
  have c0 := (unhide HX3).c0
  have n0 := (unhide HX3).n0
  go_wp2_with fail
  refine (c_writes (unhide HWW) h5 hsd hwl (unhide HX3)).mono ?_
  rintro e w4 ⟨a, cap, rfl, HX4⟩
  clear c0 n0 HX3
  have hl1 : (0 : Int) < (WW.length : Int) := by omega
  have hq := (unhide HX4).var (p := q) (List.Mem.tail _ (List.Mem.tail _ (List.Mem.head _)))
  have x6 : w4.cell? ⟨q, 6, none⟩ = some (.int .i64 xp) := cell_of_block hq rfl
  clear hq
  have HG := hide (fun W' (hk : Kp [] w4 W') => c_rtear xp (unhide HPF) (List.Mem.head _) ((unhide HX4).kp0 hk))
  rw [unhide HCS, unhide HZ1] at HG
  go_wp2_with fail
  go_region_with (go_at_call 74; refine (unhide HG _ (Kp.refl [] w4).drew).mono ?_; rintro e w5 ⟨rfl, torn, HX5⟩)
  all_goals
    clear x6 HG HX4
    go_wp2_with fail
    refine (c_again (unhide HX5)).mono ?_
    rintro e w6 ⟨rfl, sb', HY0⟩
    clear HX5
    have HY := hide (unhide HY0).tail
    clear HY0
    have c0 := (unhide HY).c0
    have n0 := (unhide HY).n0
    dsimp only at n0
    have hsl := (unhide HY).sl
    obtain ⟨e0, e1, e2, e3, e4, g0, g1, g2, g3, g4⟩ := evF ((unhide HY).var (List.Mem.head _))
    have hg1 : (h.n : Int) < (cs'.length : Int) := by omega
    have HGT := hide hgt
    have HLEN := hide hlen
    clear hgt hlen
    go_wp2_with fail
    refine bodyPost_ret (v := .agg #[.int .i64 z, .int .i64 (cs'.length : Int), .bool false, .string ⟨#[]⟩, .slice none 0 0]) (by simp [results, Tryz.results39, go_sem, e0, e1, e2, e3, e4]) rfl ?_
    exact ⟨sb', _, none, 0, rfl, fun _ => rfl, slo_nil _ _, ((unhide HY).fin _ _ _ _ _).as rfl rfl rfl⟩
set_option maxHeartbeats 1000000 in
theorem cdo_tearD (x : HStep) (hx : x.d = 10) {j D : Nat} {d : Dp} (hj : x.s = (j : Int)) (h5 : j < 5) (hsd : st j = some (D, d)) (hs : Sts st h.seat) (hz : Cou w0 w cb sb h st r) (hi : HInv h) (hrl : d.rs.length ≤ 2900) (hwl : d.ws.length ≤ 900) (hz0 : dm h.f d.md d.y d.rs d.ws = 0) (hl0 : ¬ (wk d.ws 8).length = 0) (hgt : ¬ h.cs.length < (ltear h.cs (wk d.ws 8) x.keep).length) :
    Calls Tryz.prog 39 #[.pointer (some ⟨cb, 0, none⟩), .agg #[.int .i64 x.d, .int .i64 x.s, .int .i64 x.md, .int .i64 x.at_, .int .i64 x.key, .int .i64 x.to_, .int .i64 x.keep, .string x.b]] w fun e w' => GoEndC w0 cb r (hdo h x) (hev h x) e w' := by
  have HS := hide hs
  have HX := hide (hz.two (xcs x) 79 #[.int .i64 0, .int .i64 0, .bool false, .string ⟨#[]⟩, .slice none 0 0] 102)
  have hjs : x.s.toNat = j := by omega
  have hsj : h.seat j = some d := by rw [← hs j, hsd]; rfl
  have heq := (HKind.tear (h := h) (x := x) d hx ⟨by omega, by omega⟩ (by rw [hjs]; exact hsj)).eq
  rw [heq.1, heq.2]
  clear heq hz hs hsj
  have HI := hide hi
  have hlen := hi.vi.len
  have hn40 := hi.inv.n40
  have HPF := hide ((hi.ok j d (by rw [← unhide HS j, hsd]; rfl)).pf)
  clear hi
  have hvc : vcode h.f h.cs d.md d.y d.rs d.ws = lcode h.cs (wk d.ws 8) := by unfold vcode; rw [if_pos hz0, if_neg hl0]
  have htn : tnum h.f h.cs d.md d.y d.rs d.ws x.keep = 0 := by unfold tnum; rw [t_tear hz0 hl0]; exact if_neg hgt
  rw [hvc, htn, t_tear (keep := x.keep) hz0 hl0]
  clear hvc htn
  have hlt41 : (ltear h.cs (wk d.ws 8) x.keep).length ≤ 41 := by unfold ltear; split <;> (try simp) <;> omega
  obtain ⟨cs', hcs'⟩ : ∃ cs', ltear h.cs (wk d.ws 8) x.keep = cs' := ⟨_, rfl⟩
  have HCS := hide hcs'
  rw [hcs'] at hlt41 hgt ⊢
  clear hcs'
  obtain ⟨z, hz1⟩ : ∃ z, lcode h.cs (wk d.ws 8) = z := ⟨_, rfl⟩
  have HZ1 := hide hz1
  rw [hz1]
  clear hz1
  obtain ⟨WW, hWW⟩ : ∃ WW, wk d.ws 8 = WW := ⟨_, rfl⟩
  have HWW := hide hWW
  rw [hWW] at HPF
  have hwl8 := wk_len d.ws 8
  rw [hWW] at hwl8
  rw [hWW] at hl0 HCS HZ1
  clear hWW
  obtain ⟨xd, xs, xm, xa, xk, xt, xp, xb⟩ := x
  dsimp only [xcs] at *
  subst hx hj
  have hsb : seatB (j : Int) = true := decide_eq_true (by omega)
  have i0 : (0 : Int) ≤ (j : Int) := by omega
  have i5 : (j : Int) < 5 := by omega
  go_enter Tryz.func39, Tryz.ntmps39
  go_wp2_with fail
  generalize (w.alloc (.cells #[.int .i64 10, .int .i64 (j : Int), .int .i64 xm, .int .i64 xa, .int .i64 xk, .int .i64 xt, .int .i64 xp, .string xb] 79)).alloc (.cells #[.int .i64 0, .int .i64 0, .bool false, .string ⟨#[]⟩, .slice none 0 0] 102) = W at HX ⊢
  generalize w.heap.size = q at HX ⊢
  generalize q + 1 = p at HX ⊢
  have hq := (unhide HX).var (List.Mem.tail _ (List.Mem.head _))
  have x0 : W.cell? ⟨q, 0, none⟩ = some (.int .i64 10) := cell_of_block hq rfl
  have x1 : W.cell? ⟨q, 1, none⟩ = some (.int .i64 (j : Int)) := cell_of_block hq rfl
  clear hq
  have s1 := (unhide HX).cs_ h5
  rw [hsd] at s1
  rw [show ad (some (D, d)) = some ⟨D, 0, none⟩ from rfl] at s1
  refine (isseat (j : Int) _).mono ?_
  rintro e w' ⟨rfl, hw'⟩
  subst w'
  rw [hsb]
  go_wp2_with fail
  go_quiet (fail)
  have HX2 := hide ((unhide HX).kp0 ((Kp.refl [] W).drewN nq))
  clear HX x0 x1 s1
  generalize W.drewN nq = W2 at HX2 ⊢
  have hq := (unhide HX2).var (List.Mem.tail _ (List.Mem.head _))
  have x0 : W2.cell? ⟨q, 0, none⟩ = some (.int .i64 10) := cell_of_block hq rfl
  have x1 : W2.cell? ⟨q, 1, none⟩ = some (.int .i64 (j : Int)) := cell_of_block hq rfl
  have x2 : W2.cell? ⟨q, 2, none⟩ = some (.int .i64 xm) := cell_of_block hq rfl
  have x3 : W2.cell? ⟨q, 3, none⟩ = some (.int .i64 xa) := cell_of_block hq rfl
  have x4 : W2.cell? ⟨q, 4, none⟩ = some (.int .i64 xk) := cell_of_block hq rfl
  have x5 : W2.cell? ⟨q, 5, none⟩ = some (.int .i64 xt) := cell_of_block hq rfl
  have x6 : W2.cell? ⟨q, 6, none⟩ = some (.int .i64 xp) := cell_of_block hq rfl
  have x7 : W2.cell? ⟨q, 7, none⟩ = some (.string xb) := cell_of_block hq rfl
  have ql := lt_of_block hq
  clear hq
  have c0 := (unhide HX2).c0
  go_wp2_with fail
  refine (c_may h5 hsd hrl hwl (unhide HX2)).mono ?_
  rintro e w3 ⟨rfl, HX3⟩
  rw [hz0]
  clear x0 x1 x2 x3 x4 x5 x6 x7 ql c0 HX2
  have c0 := (unhide HX3).c0
  have n0 := (unhide HX3).n0
  go_wp2_with fail
  refine (c_writes (unhide HWW) h5 hsd hwl (unhide HX3)).mono ?_
  rintro e w4 ⟨a, cap, rfl, HX4⟩
  clear c0 n0 HX3
  have hl1 : (0 : Int) < (WW.length : Int) := by omega
  have hq := (unhide HX4).var (p := q) (List.Mem.tail _ (List.Mem.tail _ (List.Mem.head _)))
  have x6 : w4.cell? ⟨q, 6, none⟩ = some (.int .i64 xp) := cell_of_block hq rfl
  clear hq
  have HG := hide (fun W' (hk : Kp [] w4 W') => c_rtear xp (unhide HPF) (List.Mem.head _) ((unhide HX4).kp0 hk))
  rw [unhide HCS, unhide HZ1] at HG
  go_wp2_with fail
  go_region_with (go_at_call 74; refine (unhide HG _ (Kp.refl [] w4).drew).mono ?_; rintro e w5 ⟨rfl, torn, HX5⟩)
  all_goals
    clear x6 HG HX4
    go_wp2_with fail
    refine (c_again (unhide HX5)).mono ?_
    rintro e w6 ⟨rfl, sb', HY0⟩
    clear HX5
    have HY := hide (unhide HY0).tail
    clear HY0
    have c0 := (unhide HY).c0
    have n0 := (unhide HY).n0
    dsimp only at n0
    have hsl := (unhide HY).sl
    obtain ⟨e0, e1, e2, e3, e4, g0, g1, g2, g3, g4⟩ := evF ((unhide HY).var (List.Mem.head _))
    have hg1 : ¬ (h.n : Int) < (cs'.length : Int) := by omega
    have HGT := hide hgt
    have HLEN := hide hlen
    clear hgt hlen
    go_wp2_with fail
    refine bodyPost_ret (v := .agg #[.int .i64 z, .int .i64 0, .bool false, .string ⟨#[]⟩, .slice none 0 0]) (by simp [results, Tryz.results39, go_sem, e0, e1, e2, e3, e4]) rfl ?_
    exact ⟨sb', _, none, 0, rfl, fun _ => rfl, slo_nil _ _, ((unhide HY).fin _ _ _ _ _).as rfl rfl rfl⟩
end
end
/- A court's Do of whatever step. -/
section
open Go.RowKit

/-- How much the seats' deeds wrote down. -/
def DLen (h : HSt) (m : Nat) : Prop := ∀ s d, h.seat s = some d → d.rs.length ≤ 8 * m ∧ d.ws.length ≤ m
theorem dgo_rs {f : Nat → List Ver} {n : Nat} {y : Int} {ws : List Ver} : ∀ (m k : Nat) (acc : List Ver) (rs : List Int), (dgo f n y ws k m acc rs).2.2.length ≤ rs.length + m := by
  intro m
  induction m with
  | zero => intro k acc rs; simp [dgo]
  | succ m ih =>
    intro k acc rs
    have hd := dr_len f n y rs ws k
    simp only [dgo]
    split
    · split
      · have := ih (k + 1) (acc ++ [⟨k, (dg f n y ws k).t, (dg f n y ws k).s⟩]) (dr f n y rs ws k)
        omega
      · have := ih (k + 1) acc (dr f n y rs ws k)
        omega
    · dsimp only; omega
theorem dls_rs (f : Nat → List Ver) (n : Nat) (y : Int) (ws : List Ver) (rs : List Int) (a b : Int) : (dls f n y ws rs a b).2.2.length ≤ rs.length + 8 := by
  unfold dls
  split
  · rename_i q
    simp only [keyB, decide_eq_true_eq] at q
    have := dgo_rs (f := f) (n := n) (y := y) (ws := ws) (b + 1 - a).toNat a.toNat [] rs
    omega
  · dsimp only; omega
theorem dpw_len' (md : Int) (ws : List Ver) (k : Int) (t : Bool) (s : ByteArray) : (dpw md ws k t s).length ≤ ws.length + 1 := by
  unfold dpw
  split
  · simp
  · omega
theorem DLen.step {h : HSt} {m : Nat} (hl : DLen h m) (x : HStep) : DLen (hdo h x) (m + 1) := by
  intro s d' hd'
  have hk := hkind h x
  generalize hdo h x = h2 at *
  generalize hev h x = e at *
  have old : ∀ {d : Dp}, h.seat s = some d → d.rs.length ≤ 8 * (m + 1) ∧ d.ws.length ≤ m + 1 := fun q => by have := hl s _ q; omega
  cases hk with
  | kind c => exact old hd'
  | clear c => exact old hd'
  | crash c => cases hd'
  | range c1 c2 => exact old hd'
  | began c1 c2 c3 c4 =>
    rcases sit_at hd' with ⟨q1, q2⟩ | ⟨q1, q2⟩
    · cases q2; simp
    · exact old q2
  | beganNot c1 c2 c3 c4 => exact old hd'
  | none_ c1 c2 c3 => exact old hd'
  | there d0 c1 c2 c3 => exact old hd'
  | get d0 c1 c2 c3 =>
    rcases sit_at hd' with ⟨q1, q2⟩ | ⟨q1, q2⟩
    · cases q2
      have h1 := hl _ _ c3
      have h2 := dr_len h.f h.n d0.y d0.rs d0.ws x.key
      dsimp only; omega
    · exact old q2
  | put d0 c1 c2 c3 =>
    rcases sit_at hd' with ⟨q1, q2⟩ | ⟨q1, q2⟩
    · cases q2
      have h1 := hl _ _ c3
      have h2 := dpw_len' d0.md d0.ws x.key true x.b
      dsimp only; omega
    · exact old q2
  | drop d0 c1 c2 c3 =>
    rcases sit_at hd' with ⟨q1, q2⟩ | ⟨q1, q2⟩
    · cases q2
      have h1 := hl _ _ c3
      have h2 := dpw_len' d0.md d0.ws x.key false ⟨#[]⟩
      dsimp only; omega
    · exact old q2
  | list d0 c1 c2 c3 =>
    rcases sit_at hd' with ⟨q1, q2⟩ | ⟨q1, q2⟩
    · cases q2
      have h1 := hl _ _ c3
      have h2 := dls_rs h.f h.n d0.y d0.ws d0.rs x.key x.to_
      dsimp only; omega
    · exact old q2
  | commit d0 c1 c2 c3 =>
    simp only [upd_at] at hd'
    split at hd'
    · cases hd'
    · exact old hd'
  | tear d0 c1 c2 c3 => cases hd'
  | abort d0 c1 c2 c3 =>
    rcases sit_at hd' with ⟨q1, q2⟩ | ⟨q1, q2⟩
    · cases q2
    · exact old q2
section
variable {w0 w : World} {cb sb : Nat} {h : HSt} {st : Nat → Sd} {r : List Thing}
theorem Cou.gone {f : Nat → List Ver} {n : Nat} {cs : List (List Ver)} {seat : Nat → Option Dp} {s : Nat} (hs : s < 5) (hz : Zoo w0 w (CrtT cb sb f n cs [] (upd (ads st) s none) :: (wseats st ++ r))) : Cou w0 w cb sb ⟨f, n, cs, seat⟩ (upd st s none) r := by
  obtain ⟨l1, l2, e1, e2⟩ := wseats_at st hs
  unfold Cou
  rw [ads_upd, e2, List.append_assoc]
  rw [e1, List.append_assoc] at hz
  have h1 : Zoo w0 w ((CrtT cb sb f n cs [] (upd (ads st) s none) :: l1) ++ WOpt (st s) :: (l2 ++ r)) := hz
  exact (wopt_none h1.drop_).perm (List.perm_middle (l₁ := CrtT cb sb f n cs [] (upd (ads st) s none) :: l1)).symm
theorem c_do (x : HStep) {m : Nat} (hm : m ≤ 300) (hsz : x.b.size ≤ maxLen) (hl : DLen h m) (hs : Sts st h.seat) (hi : HInv h) (hz : Cou w0 w cb sb h st r) :
    Calls Tryz.prog 39 #[.pointer (some ⟨cb, 0, none⟩), .agg #[.int .i64 x.d, .int .i64 x.s, .int .i64 x.md, .int .i64 x.at_, .int .i64 x.key, .int .i64 x.to_, .int .i64 x.keep, .string x.b]] w fun e w' => GoEndC w0 cb r (hdo h x) (hev h x) e w' := by
  have same : ∀ (c : Int) (w' : World), hdo h x = h → hev h x = evc c → Kp [] w w' → GoEndC w0 cb r (hdo h x) (hev h x) (.returned (.agg #[.int .i64 c, .int .i64 0, .bool false, .string ⟨#[]⟩, .slice none 0 0])) w' := fun c w' h1 h2 hk => by
    rw [h1, h2]
    exact ⟨sb, st, none, 0, rfl, hs, slo_nil _ _, hz.kp0 hk⟩
  by_cases c0 : x.d < 1 ∨ 10 < x.d
  · have heq := (HKind.kind (h := h) (x := x) c0).eq
    exact (cdo_kind cb x w c0).mono (fun e w' ⟨he, hk⟩ => by rw [he]; exact same 3 w' heq.1 heq.2 hk)
  by_cases c8 : x.d = 8
  · exact cdo_clear x c8 hs hz
  by_cases c9 : x.d = 9
  · exact cdo_crash x c9 hz
  by_cases hsx : 0 ≤ x.s ∧ x.s < 5
  · obtain ⟨j, hj, h5⟩ := seat_in hsx
    have hjs : x.s.toNat = j := by omega
    obtain ⟨G, Gr, Gs, bx, kc, _⟩ := hz.crt
    cases hsd : st j with
    | none =>
      have hst : ads st j = none := by simp [ads, hsd, ad]
      have hsj : h.seat x.s.toNat = none := by rw [hjs, ← hs j, hsd]; rfl
      by_cases c1 : x.d = 1
      · by_cases hb : bcode h.f h.n x.md x.at_ = 0
        · exact cdo_begun x c1 hj h5 hsd hb hs hz
        · exact cdo_begunNot x c1 hj h5 hsd hb hs hz
      · have heq := (HKind.none_ (h := h) (x := x) (by omega) hsx hsj).eq
        exact (cdo_none x w kc (by omega) h5 hj hst).mono (fun e w' ⟨he, hk⟩ => by rw [he]; exact same 7 w' heq.1 heq.2 hk)
    | some xx =>
      obtain ⟨D, d⟩ := xx
      have hst : ads st j = some ⟨D, 0, none⟩ := by simp [ads, hsd, ad]
      have hsj : h.seat j = some d := by rw [← hs j, hsd]; rfl
      have hsj2 : h.seat x.s.toNat = some d := by rw [hjs]; exact hsj
      obtain ⟨hrl, hwl⟩ := hl j d hsj
      have hrl2 : d.rs.length ≤ 2900 := by omega
      have hwl2 : d.ws.length ≤ 900 := by omega
      by_cases c1 : x.d = 1
      · have heq := (HKind.there (h := h) (x := x) d c1 hsx hsj2).eq
        exact (cdo_there x w kc c1 h5 hj hst).mono (fun e w' ⟨he, hk⟩ => by rw [he]; exact same 8 w' heq.1 heq.2 hk)
      by_cases c2 : x.d = 2
      · exact cdo_get x c2 hj h5 hsd hs hz hrl2 hwl2
      by_cases c3 : x.d = 3
      · have heq := (HKind.put (h := h) (x := x) d c3 hsx hsj2).eq
        obtain ⟨rest, h1, h2⟩ := hz.out h5
        rw [hsd] at h1 h2
        obtain ⟨H, hw, k2⟩ := zoo_at1 h1
        refine (cdo_put x w kc c3 h5 hj hst hw hsz hwl2).mono ?_
        rintro e w' ⟨rfl, hc⟩
        rw [heq.1, heq.2]
        exact ⟨sb, _, none, 0, rfl, by show Sts _ (upd h.seat x.s.toNat _); rw [hjs]; exact hs.put j (some (D, _)), slo_nil _ _, (h2 w' (some (D, { d with ws := dpw d.md d.ws x.key true x.b })) [] rfl (k2 _ _ hc)).as rfl rfl rfl⟩
      by_cases c4 : x.d = 4
      · have heq := (HKind.drop (h := h) (x := x) d c4 hsx hsj2).eq
        obtain ⟨rest, h1, h2⟩ := hz.out h5
        rw [hsd] at h1 h2
        obtain ⟨H, hw, k2⟩ := zoo_at1 h1
        refine (cdo_drop x w kc c4 h5 hj hst hw hsz hwl2).mono ?_
        rintro e w' ⟨rfl, hc⟩
        rw [heq.1, heq.2]
        exact ⟨sb, _, none, 0, rfl, by show Sts _ (upd h.seat x.s.toNat _); rw [hjs]; exact hs.put j (some (D, _)), slo_nil _ _, (h2 w' (some (D, { d with ws := dpw d.md d.ws x.key false ⟨#[]⟩ })) [] rfl (k2 _ _ hc)).as rfl rfl rfl⟩
      by_cases c5 : x.d = 5
      · exact cdo_list x c5 hj h5 hsd hs hz hrl2 hwl2
      by_cases c6 : x.d = 6
      · exact cdo_commit x c6 hj h5 hsd hs hz hi hrl2 hwl2
      by_cases c7 : x.d = 7
      · have heq := (HKind.abort (h := h) (x := x) d c7 hsx hsj2).eq
        obtain ⟨G0, hG0, k0⟩ := zoo_at0 hz
        obtain ⟨Gr0, Gs0, bx0, kc0⟩ := hG0
        refine (cdo_abort x w kc0 c7 h5 hj hst).mono ?_
        rintro e w' ⟨rfl, hc⟩
        rw [heq.1, heq.2]
        exact ⟨sb, _, none, 0, rfl, by show Sts _ (upd h.seat x.s.toNat none); rw [hjs]; exact hs.put j none, slo_nil _ _, Cou.gone h5 (k0 _ _ hc)⟩
      have c10 : x.d = 10 := by omega
      by_cases hz0 : dm h.f d.md d.y d.rs d.ws = 0
      · by_cases hl0 : (wk d.ws 8).length = 0
        · exact cdo_tearB x c10 hj h5 hsd hs hz hi hrl2 hwl2 hz0 hl0
        · by_cases hgt : h.cs.length < (ltear h.cs (wk d.ws 8) x.keep).length
          · exact cdo_tearC x c10 hj h5 hsd hs hz hi hrl2 hwl2 hz0 hl0 hgt
          · exact cdo_tearD x c10 hj h5 hsd hs hz hi hrl2 hwl2 hz0 hl0 hgt
      · exact cdo_tearA x c10 hj h5 hsd hs hz hi hrl2 hwl2 hz0
  · have heq := (HKind.range (h := h) (x := x) (by omega) hsx).eq
    exact (cdo_range cb x w (by omega) hsx).mono (fun e w' ⟨he, hk⟩ => by rw [he]; exact same 1 w' heq.1 heq.2 hk)
/-- Do of whatever step, of a court at the head of a list of things. -/
theorem cou_do (x : HStep) {m : Nat} (hm : m ≤ 300) (hsz : x.b.size ≤ maxLen) (hl : DLen h m) (hz : Zoo w0 w (CouT cb h :: r)) :
    Calls Tryz.prog 39 #[.pointer (some ⟨cb, 0, none⟩), .agg #[.int .i64 x.d, .int .i64 x.s, .int .i64 x.md, .int .i64 x.at_, .int .i64 x.key, .int .i64 x.to_, .int .i64 x.keep, .string x.b]] w fun e w' => ∃ a cap, e = .returned (.agg #[.int .i64 (hev h x).c, .int .i64 (hev h x).n, .bool (hev h x).t, .string (hev h x).s, .slice a (hev h x).l.length cap]) ∧ Hid (SlO w' a (hev h x).l) ∧ Hid (Zoo w0 w' (CouT cb (hdo h x) :: r)) := by
  obtain ⟨sb, st, hs, hi, hz'⟩ := cou_open hz
  refine (c_do x hm hsz hl hs hi hz').mono ?_
  rintro e w' ⟨sb', st', a, cap, rfl, hs', HSL, HY⟩
  exact ⟨a, cap, rfl, HSL, cou_close hs' (hi.step x) (unhide HY)⟩
end
end
/- What is seen of a court at the document's desk, and a new one. -/
section
open Go.RowKit

theorem cou_see {w0 w : World} {cb : Nat} {h : HSt} {l1 r : List Thing} (hz : Zoo w0 w (l1 ++ CouT cb h :: r)) : ∃ sb : Nat, w.cell? ⟨cb, 0, none⟩ = some (.pointer (some ⟨sb, 0, none⟩)) ∧ w.cell? ⟨sb, 8, none⟩ = some (.int .i64 h.n)
    ∧ (∀ W, Kp [] w W → Calls Tryz.prog 37 #[.pointer (some ⟨sb, 0, none⟩)] W fun e w' => e = .returned (.int .i64 (fmx h.f 8)) ∧ w' = W)
    ∧ (∀ W, Kp [] w W → Calls Tryz.prog 38 #[.pointer (some ⟨cb, 0, none⟩)] W fun e w' => e = .returned (.int .i64 (least h.n h.seat 5)) ∧ w' = W) ∧ HInv h := by
  obtain ⟨sb, st, hs, hi, hl⟩ := cou_open (hz.perm List.perm_middle)
  obtain ⟨G, Gr, Gs, bx, k, _⟩ := hl.crt
  exact ⟨sb, hl.c0, hl.n0, fun W hk => sfirst43 W (k.s.kp0 hk), fun W hk => c_least hs (hl.kp0 hk), hi⟩
theorem cou_new (w : World) : Calls Tryz.prog 13 #[] w fun e w' => ∃ cb F, e = .returned (.pointer (some ⟨cb, 0, none⟩)) ∧ (CouT cb hs0).holds w.heap.size w' F ∧ Kp [] w w' := by
  refine (cnew w).mono ?_
  rintro e w' ⟨cb, sb, G, rfl, h1, hk⟩
  have hz0 : Zoo w w' [CrtT cb sb (fun _ => [dv]) 0 [] [] (fun _ => none)] := (zoo_nil (Kp.refl [] w)).cons h1 hk
  have hz1 := wopt_none (wopt_none (wopt_none (wopt_none (wopt_none hz0))))
  have hz2 : Cou w w' cb sb hs0 (fun _ => none) [] := hz1.perm (List.perm_middle (l₁ := wseats (fun _ => none)))
  have hz3 := cou_close (fun _ => rfl) hinv_new hz2
  obtain ⟨F', h5, _⟩ := zoo_at0 hz3
  exact ⟨cb, F', rfl, h5, hz3.kp⟩
end
end Go.Proofs.YtldkeaeohceckadGreatDoor
