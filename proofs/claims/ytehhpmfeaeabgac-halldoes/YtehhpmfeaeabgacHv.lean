/- Plain words for HallClears: what is asked of what is forgotten. -/
import Derived.Test.YtehhpmfeaeabgacHl
namespace Go.Proofs.Ytehhpmfeaeabgac
open Go.RowKit
set_option maxRecDepth 20000
attribute [local go_sem ↓] Go.wp_at_zero Go.wp_at_succ

theorem tr_a_known {h : HSt} (hi : HInv h) {s : Nat} {d : Dp} (hs : h.seat s = some d) (k : Int) : (dg h.f h.n d.y d.ws k).a = 0 ∨ (dg h.f h.n d.y d.ws k).a = 1 := by
  cases q : keyB k with
  | false => right; unfold dg; rw [q]; simp
  | true =>
    left
    simp only [keyB, decide_eq_true_eq] at q
    obtain ⟨j, rfl⟩ : ∃ j : Nat, k = (j : Int) := ⟨k.toNat, by omega⟩
    rw [dg_see hi hs (by omega)]
theorem dls_code {h : HSt} (hi : HInv h) {s : Nat} {d : Dp} (hs : h.seat s = some d) (a b : Int) : (dls h.f h.n d.y d.ws d.rs a b).2.1 = 0 ∨ (dls h.f h.n d.y d.ws d.rs a b).2.1 = 1 := by
  unfold dls
  split
  · rename_i hk
    left
    simp only [keyB, decide_eq_true_eq] at hk
    obtain ⟨p, rfl⟩ : ∃ p : Nat, a = (p : Int) := ⟨a.toNat, by omega⟩
    obtain ⟨t, rfl⟩ : ∃ t : Nat, b = (t : Int) := ⟨b.toNat, by omega⟩
    rw [Int.toNat_natCast, show ((t : Int) + 1 - (p : Int)).toNat = t + 1 - p by omega]
    by_cases hpt : p ≤ t + 1
    · exact (dgo_wl (v := hsee h d) (p := p) (t := t) (by omega) (fun k hk => dg_see hi hs hk) (t + 1 - p) p [] d.rs (Nat.le_refl _) (by omega) (wl_lo (Int.le_refl _)).symm).2
    · rw [show t + 1 - p = 0 by omega]; rfl
  · right; rfl
theorem dpc_ne {md k : Int} {t : Bool} {s : ByteArray} : dpc md k t s ≠ 12 := by
  unfold dpc chk
  repeat' split
  all_goals omega
theorem vcode_ne {f : Nat → List Ver} {cs : List (List Ver)} {md y : Int} {rs : List Int} {ws : List Ver} (hw : WOk ws) : vcode f cs md y rs ws ≠ 12 := by
  have hp := hw.pf
  unfold vcode dm lcode
  rw [if_pos hp]
  repeat' split
  all_goals omega
/-- Behind ErrOld nothing is other. -/
theorem hdo_old {h : HSt} (hi : HInv h) (x : HStep) (hc : (hev h x).c = 12) : hdo h x = h := by
  have hk := hkind h x
  generalize hdo h x = h2 at *
  generalize hev h x = e at *
  cases hk with
  | kind c => rfl
  | clear c => exact absurd hc (by simp [evn])
  | crash c => exact absurd hc (by simp [ev0])
  | range c1 c2 => rfl
  | began c1 c2 c3 c4 => exact absurd hc (by simp [evc])
  | beganNot c1 c2 c3 c4 => rfl
  | none_ c1 c2 c3 => rfl
  | there d0 c1 c2 c3 => rfl
  | get d c1 c2 c3 =>
    dsimp only at hc
    rcases tr_a_known hi c3 x.key with q | q <;> omega
  | put d c1 c2 c3 => exact absurd hc dpc_ne
  | drop d c1 c2 c3 => exact absurd hc dpc_ne
  | list d c1 c2 c3 =>
    dsimp only at hc
    rcases dls_code hi c3 x.key x.to_ with q | q <;> omega
  | commit d c1 c2 c3 => exact absurd hc (vcode_ne (hi.ok _ _ c3))
  | tear d c1 c2 c3 => exact absurd hc (vcode_ne (hi.ok _ _ c3))
  | abort d c1 c2 c3 => exact absurd hc (by simp [ev0])
/-- How long a list is that is told. -/
theorem dgo_len8 {f : Nat → List Ver} {n : Nat} {y : Int} {ws : List Ver} : ∀ (m k : Nat) (acc : List Ver) (rs : List Int), (dgo f n y ws k m acc rs).1.length ≤ acc.length + m := by
  intro m
  induction m with
  | zero => intro k acc rs; simp [dgo]
  | succ m ih =>
    intro k acc rs
    simp only [dgo]
    split
    · split
      · have := ih (k + 1) (acc ++ [⟨k, (dg f n y ws k).t, (dg f n y ws k).s⟩]) (dr f n y rs ws k)
        simp at this
        omega
      · have := ih (k + 1) acc (dr f n y rs ws k)
        omega
    · simp
theorem hev_len (h : HSt) (x : HStep) : (hev h x).l.length ≤ 8 := by
  have hk := hkind h x
  generalize hdo h x = h2 at *
  generalize hev h x = e at *
  cases hk with
  | list d c1 c2 c3 =>
    show (dls h.f h.n d.y d.ws d.rs x.key x.to_).1.length ≤ 8
    unfold dls
    split
    · rename_i q
      simp only [keyB, decide_eq_true_eq] at q
      have := dgo_len8 (f := h.f) (n := h.n) (y := d.y) (ws := d.ws) (x.to_ + 1 - x.key).toNat x.key.toNat [] d.rs
      simp at this
      omega
    · simp
  | _ => simp [evc, evn, ev0]

theorem lt_of_cell {w : World} {b o : Nat} {v : Value} (h : w.cell? ⟨b, o, none⟩ = some v) : b < w.heap.size := by
  rcases Nat.lt_or_ge b w.heap.size with q | q
  · exact q
  · have : w.heap[b]? = none := Array.getElem?_eq_none q
    simp [World.cell?, this] at h
section
variable {w0 w : World} {hb : Nat} {h : HSt} {os : List Thing}
/-- What is seen of a hall among things. -/
theorem hal_view (hz : Zoo w0 w os) (hm : HalT hb h ∈ os) : ∃ vb tb, w.cell? ⟨hb, 0, none⟩ = some (.pointer (some ⟨vb, 0, none⟩)) ∧ w.cell? ⟨vb, 0, none⟩ = some (.pointer (some ⟨tb, 0, none⟩)) ∧
    Hid (∀ W, Kp [] w W → Calls Try.prog 17 #[.pointer (some ⟨tb, 0, none⟩)] W fun e w' => e = .returned (.int .i64 h.n) ∧ w' = W) ∧
    Hid (∀ W bs, Kp [] w W → lb h.cs ++ [] = bs → Calls Try.prog 32 #[.pointer (some ⟨vb, 0, none⟩)] W fun e w' => BtEnd bs W e w') := by
  obtain ⟨l1, l2, rfl⟩ := List.append_of_mem hm
  obtain ⟨vb, tb, gb, st, _, _, hl⟩ := hal_open (hz.perm List.perm_middle)
  exact ⟨vb, tb, hl.c0, hl.v0, fun W hk => h_last (hl.kp0 hk), fun W bs hk hb => h_log hb (hl.kp0 hk)⟩
theorem ps_slo {a : Option Addr} {cap : Nat} {l : List Ver} (hz : Zoo w0 w os) (hm : PsT a cap l ∈ os) : SlO w a l := by
  obtain ⟨F, h1, _⟩ := zoo_mem hz hm
  exact slo_own h1 rfl
end
set_option maxHeartbeats 1000000 in
/-- SameEvent of two events that are the same. -/
theorem sameev (v : Ev) (a a' : Option Addr) (cap cap' : Nat) (w : World) (h : SlO w a v.l) (h' : SlO w a' v.l) (hm : v.l.length ≤ 1000) :
    Calls Try.prog 14 #[.agg #[.int .i64 v.c, .int .i64 v.n, .bool v.t, .string v.s, .slice a v.l.length cap], .agg #[.int .i64 v.c, .int .i64 v.n, .bool v.t, .string v.s, .slice a' v.l.length cap']] w fun e w' => e = .returned (.bool true) ∧ Kp [] w w' := by
  have HC := hide (fun W (hk : Kp [] w W) => same39 a a' cap cap' W (h.kp0 hk) (h'.kp0 hk) hm)
  clear h h' hm
  generalize v.l.length = n at *
  obtain ⟨c, m, t, s, l⟩ := v
  dsimp only at *
  go_enter Try.func14, Try.ntmps14
  go_wp2_with fail
  refine (unhide HC _ (((Kp.refl [] w).alloc _).alloc _)).mono ?_
  rintro e w' ⟨rfl, q, rfl⟩
  go_wp2_with fail
  go_ret
  exact ⟨rfl, (((Kp.refl [] w).alloc _).alloc _).drewN _⟩
end Go.Proofs.Ytehhpmfeaeabgac
