/- A court's functions, among things. -/
import Derived.Test.YtehhpmfeaeabgacCa
namespace Go.Proofs.Ytehhpmfeaeabgac
open Go.RowKit
set_option maxRecDepth 20000
attribute [local go_sem ↓] Go.wp_at_zero Go.wp_at_succ

section
variable {w0 w : World} {cb sb : Nat} {h : HSt} {st : Nat → Sd} {r : List Thing} {s D : Nat} {d : Dp}
theorem c_begin {md at_ : Int} (hb0 : bcode h.f h.n md at_ = 0) (hz : Cou w0 w cb sb h st r) :
    Calls Try.prog 50 #[.pointer (some ⟨cb, 0, none⟩), .int .i64 md, .int .i64 at_] w fun e w' => ∃ D, e = .returned (.tuple #[.pointer (some ⟨D, 0, none⟩), .int .i64 0]) ∧ Hid (Cou w0 w' cb sb h st (WOpt (some (D, ⟨md, bat h.n md at_, [], []⟩)) :: r)) := by
  obtain ⟨G, Gr, Gs, bx, k, _⟩ := hz.crt
  refine (cbegin md at_ w k).mono ?_
  rintro e w' (⟨_, D, H, rfl, hd, hk⟩ | ⟨h, _⟩)
  · refine ⟨D, rfl, ?_⟩
    have h1 : Zoo w0 w' (WkT D md (bat h.n md at_) [] [] :: (CrtT cb sb h.f h.n h.cs [] (ads st) :: (wseats st ++ r))) := Zoo.cons hz (F := H) hd hk
    exact h1.perm (List.perm_middle (l₁ := CrtT cb sb h.f h.n h.cs [] (ads st) :: wseats st)).symm
  · exact absurd hb0 h
theorem c_none {md at_ z : Int} (hb0 : bcode h.f h.n md at_ = z) (h0 : z ≠ 0) (hz : Cou w0 w cb sb h st r) :
    Calls Try.prog 50 #[.pointer (some ⟨cb, 0, none⟩), .int .i64 md, .int .i64 at_] w fun e w' => e = .returned (.tuple #[.pointer none, .int .i64 z]) ∧ Hid (Cou w0 w' cb sb h st r) := by
  obtain ⟨G, Gr, Gs, bx, k, _⟩ := hz.crt
  refine (cbegin md at_ w k).mono ?_
  rintro e w' (⟨h, _⟩ | ⟨_, rfl, hk⟩)
  · exact absurd (hb0.symm.trans h) h0
  · exact ⟨by rw [hb0], hz.kp0 hk⟩
theorem c_get (k : Int) (hs : s < 5) (hd : st s = some (D, d)) (hrl : d.rs.length ≤ 2000) (hwl : d.ws.length ≤ 900) (hz : Cou w0 w cb sb h st r) :
    Calls Try.prog 51 #[.pointer (some ⟨D, 0, none⟩), .pointer (some ⟨sb, 0, none⟩), .int .i64 k] w fun e w' => e = .returned (.tuple #[.agg #[.bool (dg h.f h.n d.y d.ws k).t, .string (dg h.f h.n d.y d.ws k).s], .int .i64 (dg h.f h.n d.y d.ws k).a]) ∧ Hid (Cou w0 w' cb sb h (upd st s (some (D, { d with rs := dr h.f h.n d.y d.rs d.ws k }))) r) := by
  obtain ⟨G, Gr, Gs, bx, kc, _⟩ := hz.crt
  obtain ⟨rest, h1, h2⟩ := hz.out hs
  rw [hd] at h1 h2
  obtain ⟨H, hw, k2⟩ := zoo_at1 h1
  refine (wget56x k w kc.s hw (Nat.le_trans hrl (by omega)) hwl).mono ?_
  rintro e w' ⟨rfl, hc⟩
  exact ⟨rfl, h2 w' (some (D, { d with rs := dr h.f h.n d.y d.rs d.ws k })) [] rfl (k2 _ _ hc)⟩
theorem c_put (k : Int) (t : Bool) (b : ByteArray) (hsz : b.size ≤ maxLen) (hs : s < 5) (hd : st s = some (D, d)) (hwl : d.ws.length ≤ 900) (hz : Cou w0 w cb sb h st r) :
    Calls Try.prog 52 #[.pointer (some ⟨D, 0, none⟩), .int .i64 k, .agg #[.bool t, .string b]] w fun e w' => e = .returned (.int .i64 (dpc d.md k t b)) ∧ Hid (Cou w0 w' cb sb h (upd st s (some (D, { d with ws := dpw d.md d.ws k t b }))) r) := by
  obtain ⟨rest, h1, h2⟩ := hz.out hs
  rw [hd] at h1 h2
  obtain ⟨H, hw, k2⟩ := zoo_at1 h1
  refine (wput58 k t b w hw hsz hwl).mono ?_
  rintro e w' ⟨rfl, hc⟩
  exact ⟨rfl, h2 w' (some (D, { d with ws := dpw d.md d.ws k t b })) [] rfl (k2 _ _ hc)⟩
theorem c_list (fr to_ : Int) (hs : s < 5) (hd : st s = some (D, d)) (hrl : d.rs.length ≤ 2000) (hwl : d.ws.length ≤ 900) (hz : Cou w0 w cb sb h st r) :
    Calls Try.prog 53 #[.pointer (some ⟨D, 0, none⟩), .pointer (some ⟨sb, 0, none⟩), .int .i64 fr, .int .i64 to_] w fun e w' => ∃ a cap, e = .returned (.tuple #[.slice a (dls h.f h.n d.y d.ws d.rs fr to_).1.length cap, .int .i64 (dls h.f h.n d.y d.ws d.rs fr to_).2.1]) ∧ Hid (SlO w' a (dls h.f h.n d.y d.ws d.rs fr to_).1) ∧ Hid (∀ x ∈ ob a, w.heap.size ≤ x) ∧ Hid (Cou w0 w' cb sb h (upd st s (some (D, { d with rs := (dls h.f h.n d.y d.ws d.rs fr to_).2.2 }))) r) := by
  obtain ⟨rest, h1, h2⟩ := hz.out hs
  rw [hd] at h1 h2
  have h1' := h1
  obtain ⟨X, ⟨Fv, Y, ⟨Gr, Gs, bx, kc⟩, ⟨H0, Z, hw0, hZ, hdZ, e2⟩, hdj, eX⟩, hkX⟩ := h1'
  have hF : ∀ x, x ∈ Gs → x ∉ H0 := fun x hx hm => hdj x (kc.sG x hx) (by rw [e2]; simp [hm])
  refine (wlist60x fr to_ w kc.s hw0 hF (Nat.le_trans hrl (by omega)) hwl).mono ?_
  rintro e w' ⟨a, cap, rfl, ho, H', hw', hk, hH⟩
  refine ⟨a, cap, rfl, slo_own ho rfl, fun x hx => ?_, ?_⟩
  · cases a with
    | none => simp [ob] at hx
    | some ad =>
      simp only [ob, List.mem_singleton] at hx
      subst hx
      exact own_ge ho rfl
  · refine h2 w' (some (D, { d with rs := (dls h.f h.n d.y d.ws d.rs fr to_).2.2 })) [] rfl ?_
    have hn : ∀ x, x ∈ H' → x ∉ Fv ++ Z := fun x hx hm => by
      rcases hH x hx with q | q
      · rcases List.mem_append.1 hm with q2 | q2
        · exact hdj x q2 (by rw [e2]; simp [q])
        · exact hdZ x q q2
      · rcases List.mem_append.1 hm with q2 | q2
        · have := (kc.lo x q2).2; omega
        · have := (ZooF.lo hZ x q2).2; omega
    refine ⟨Fv ++ (H' ++ Z), ⟨Fv, H' ++ Z, ⟨Gr, Gs, bx, kc.kp hk (fun x hx hm => hdj x hx (by rw [e2]; simp [hm]))⟩, ⟨H', Z, hw', ZooF.kp hk hZ (fun x hx hm => hdZ x hm hx), fun x hx hz' => hn x hx (by simp [hz']), rfl⟩, fun x hx hm => ?_, rfl⟩, hkX.trans hk (fun x hx => .inr (by have := (hw0.lo x hx).1; exact this))⟩
    rcases List.mem_append.1 hm with q | q
    · exact hn x q (by simp [hx])
    · exact hdj x hx (by rw [e2]; simp [q])
theorem c_commit (hi : HInv h) (hs : s < 5) (hd : st s = some (D, d)) (hw : WOk d.ws) (hrl : d.rs.length ≤ 2000) (hwl : d.ws.length ≤ 900) (hz : Cou w0 w cb sb h st r) :
    Calls Try.prog 54 #[.pointer (some ⟨cb, 0, none⟩), .pointer (some ⟨D, 0, none⟩)] w fun e w' => e = .returned (.tuple #[.int .i64 (vnum h.f h.n h.cs d.md d.y d.rs d.ws), .int .i64 (vcode h.f h.cs d.md d.y d.rs d.ws)]) ∧ Hid (Cou w0 w' cb sb ⟨vf h.f h.n h.cs d.md d.y d.rs d.ws, vn h.f h.n h.cs d.md d.y d.rs d.ws, vcs h.f h.cs d.md d.y d.rs d.ws, h.seat⟩ st r) := by
  obtain ⟨G, Gr, Gs, bx, k, k2⟩ := hz.crt
  obtain ⟨H, hW⟩ := hz.wrk hs hd
  refine (ccommitx w k hi.vi hW hw (Nat.le_trans hrl (by omega)) hwl).mono ?_
  rintro e w' ⟨rfl, hc⟩
  exact ⟨rfl, k2 _ _ _ _ _ _ hc⟩
theorem c_again {torn : List UInt8} {f : Nat → List Ver} {n : Nat} {cs : List (List Ver)} (hz : Zoo w0 w (CrtT cb sb f n cs torn (ads st) :: (wseats st ++ r))) :
    Calls Try.prog 49 #[.pointer (some ⟨cb, 0, none⟩)] w fun e w' => e = .returned (.tuple #[]) ∧ ∃ sb', Hid (Cou w0 w' cb sb' ⟨wal0 cs, cs.length, cs, fun _ => none⟩ (fun _ => none) r) := by
  obtain ⟨G, ⟨Gr, Gs, bx, k⟩, k2⟩ := zoo_at0 hz
  refine (cagain w k).mono ?_
  rintro e w' ⟨rfl, sb', hc⟩
  exact ⟨rfl, sb', Cou.stand (k2 _ _ hc)⟩
theorem c_clear (y : Int) (hz : Cou w0 w cb sb h st r) :
    Calls Try.prog 48 #[.pointer (some ⟨sb, 0, none⟩), .int .i64 y] w fun e w' => e = .returned (.int .i64 (cln h.f y 8 : Nat)) ∧ Hid (Cou w0 w' cb sb ⟨clm h.f y 8, h.n, h.cs, h.seat⟩ st r) := by
  obtain ⟨G, Gr, Gs, bx, k, k2⟩ := hz.crt
  refine (sclear57 y w k.s).mono ?_
  rintro e w' ⟨rfl, G', h1, h2, h3⟩
  exact ⟨rfl, k2 _ _ _ _ _ _ (k.sheet h1 h2 h3)⟩
set_option maxHeartbeats 1000000 in
theorem c_least (hs : Sts st h.seat) (hz : Cou w0 w cb sb h st r) : Calls Try.prog 21 #[.pointer (some ⟨cb, 0, none⟩)] w fun e w' => e = .returned (.int .i64 (least h.n h.seat 5)) ∧ w' = w := by
  have c0 := hz.c0
  have n0 := hz.n0
  have HZ := hide hz
  clear hz
  go_enter Try.func21, Try.ntmps21
  go_wp2_with fail
  clear c0 n0
  go_loop [3, 4] (fun x i => ∃ k : Nat, k ≤ 5 ∧ x = .int .i64 (least h.n h.seat k) ∧ i = .int .i64 k) (fun _ i => 5 - (intOf i).toNat)
  case atStart => exact ⟨0, by omega, rfl, rfl⟩
  case round =>
    obtain ⟨k, hk, rfl, rfl⟩ := hrel
    by_cases hlt : k < 5
    · have i0 : (0 : Int) ≤ (k : Int) := by omega
      have i1 : (k : Int) < 5 := by omega
      have hk1 := hs k
      have s0 := (unhide HZ).cs_ hlt
      have HLS := hide (show least h.n h.seat (k + 1) = match h.seat k with | some d => if d.y < least h.n h.seat k then d.y else least h.n h.seat k | none => least h.n h.seat k from rfl)
      cases ho : st k with
      | none =>
        rw [ho] at s0 hk1
        rw [show ad none = none from rfl] at s0
        have E1 := hide (show least h.n h.seat (k + 1) = least h.n h.seat k by rw [unhide HLS, ← hk1]; rfl)
        clear HLS hk1
        go_wp2_with fail
        exact ⟨⟨k + 1, by omega, by rw [unhide E1], by go_num⟩, by simp [intOf]; omega⟩
      | some xx =>
        obtain ⟨D, d⟩ := xx
        rw [ho] at s0 hk1
        rw [show ad (some (D, d)) = some ⟨D, 0, none⟩ from rfl] at s0
        have E1 := hide (show least h.n h.seat (k + 1) = if d.y < least h.n h.seat k then d.y else least h.n h.seat k by rw [unhide HLS, ← hk1]; rfl)
        obtain ⟨H, ra, rc, wa, wc, hw⟩ := (unhide HZ).wrk hlt ho
        have y1 := cell_of_block (i := 1) (v := .int .i64 d.y) hw.box rfl
        clear HLS hk1 hw
        generalize least h.n h.seat k = z at *
        by_cases hlt2 : d.y < z
        · rw [if_pos hlt2] at E1
          go_wp2_with fail
          exact ⟨⟨k + 1, by omega, by rw [unhide E1], by go_num⟩, by simp [intOf]; omega⟩
        · rw [if_neg hlt2] at E1
          go_wp2_with fail
          exact ⟨⟨k + 1, by omega, by rw [unhide E1], by go_num⟩, by simp [intOf]; omega⟩
    · have e : k = 5 := by omega
      subst e
      go_wp2
      go_ret
      exact ⟨rfl, rfl⟩
end
end Go.Proofs.Ytehhpmfeaeabgac
