/- CodecCut, walked. -/
import Derived.Test.YtlodlepnaliilabQ9
import Derived.Test.YtlodlepnaliilabPq
namespace Go.Proofs.Ytlodlepnaliilab
open Go.RowKit
set_option maxRecDepth 20000
attribute [local go_sem ↓] Go.wp_at_zero Go.wp_at_succ

theorem cut_at (cut : Int) {n : Nat} (h1 : 0 < n) (h2 : n ≤ 200) : ∃ k : Nat, wrap64 ((IntKind.u64.wrap cut).tmod (n : Int)) = (k : Int) ∧ k < n := by
  have e : IntKind.u64.wrap cut = cut % 18446744073709551616 := by simp [IntKind.wrap, IntKind.bits, IntKind.signed]
  have h0 : 0 ≤ cut % 18446744073709551616 := Int.emod_nonneg _ (by omega)
  rw [e, Int.tmod_eq_emod_of_nonneg h0]
  generalize cut % 18446744073709551616 = x at *
  have h3 := Int.emod_nonneg x (show (n : Int) ≠ 0 by omega)
  have h4 := Int.emod_lt_of_pos x (show (0 : Int) < n by omega)
  refine ⟨(x % n).toNat, ?_, by omega⟩
  unfold wrap64
  omega

theorem byt_src' {w : World} {a : Option Addr} {bs : List UInt8} (h : Byt w a bs) {n c : Nat} (hn : n = bs.length) : Src Try.prog 1 23 (.slice a n c) bs.length (bcells bs) w := by
  subst hn
  exact h.src c

theorem Prs.slo {w : World} {a : Option Addr} {ps : List Ver} (h : Prs w a ps) : SlO w a ps := h.mem

set_option maxHeartbeats 4000000 in
theorem ccut5 (a : Option Addr) (c : Nat) (ps : List Ver) (a2 : Option Addr) (c2 : Nat) (qs : List Ver) (cut : Int) (w : World) (h : Prs w a ps) (h2 : Prs w a2 qs) :
    Calls Try.prog 5 #[.slice a ps.length c, .slice a2 qs.length c2, .int .i64 cut] w fun e w' => e = .returned (.bool true) ∧ Below w.heap.size w w' := by
  have HP := hide h
  have HQ := hide h2
  clear h h2
  go_enter Try.func5, Try.ntmps5
  go_wp2_with fail
  refine (codecBegun7 w).mono ?_
  rintro e w1 ⟨rfl, hk1⟩
  have HK1 := hide hk1
  clear hk1
  go_wp2_with fail
  refine (gpairs30 a c ps w1 ((unhide HP).kp0 (unhide HK1))).mono ?_
  rintro e w' ⟨q, rfl, hq, hw'⟩
  subst w'
  cases q with
  | true =>
    clear hq
    go_wp2_with fail
    go_ret
    exact ⟨rfl, (unhide HK1).below (Nat.le_refl _) (by simp)⟩
  | false =>
  have h50 := hq rfl
  clear hq
  go_wp2_with fail
  refine (gpairs30 a2 c2 qs w1 ((unhide HQ).kp0 (unhide HK1))).mono ?_
  rintro e w' ⟨q, rfl, hq, hw'⟩
  subst w'
  cases q with
  | true =>
    clear hq
    go_wp2_with fail
    go_ret
    exact ⟨rfl, (unhide HK1).below (Nat.le_refl _) (by simp)⟩
  | false =>
  have h50' := hq rfl
  clear hq
  by_cases hp : pf (-1) ps = 0
  · have HPF := hide hp
    clear hp
    go_wp2_with fail
    refine (encode_ok a c ps w1 ((unhide HP).kp0 (unhide HK1)) (unhide HPF)).mono ?_
    rintro e w2 ⟨gx, cx, nx, rfl, hnx, hr⟩
    have HNX := hide hnx
    have HRX := hide (hr.since (unhide HK1))
    clear hnx hr
    by_cases hp2 : pf (-1) qs = 0
    · have HPF2 := hide hp2
      clear hp2
      go_wp2_with fail
      refine (encode_ok a2 c2 qs w2 ((unhide HQ).kp0 (unhide HRX).kp) (unhide HPF2)).mono ?_
      rintro e w3 ⟨gy, cy, ny, rfl, hny, hr⟩
      have HNY := hide hny
      have HRY := hide (hr.since (unhide HRX).kp)
      have HX3 := hide ((unhide HRX).byt.kp0 hr.kp)
      have hle : 2 ≤ nx ∧ nx ≤ 200 := by have := unhide HNX; have := enc_length ps; have := pbs_len112 (unhide HPF); omega
      have hle2 : 2 ≤ ny ∧ ny ≤ 200 := by have := hny; have := enc_length qs; have := pbs_len112 (unhide HPF2); omega
      clear hny hr
      obtain ⟨k, hkk, hkn⟩ := cut_at cut (n := nx) (by omega) (by omega)
      have hcx := (unhide HRX).cap
      rw [← unhide HNX] at hcx
      have k0 : (0 : Int) ≤ (k : Int) := by omega
      have k1 : (k : Int) ≤ (cx : Int) := by omega
      go_wp2_with fail
      have hd := decode12 (some ⟨gx, 0, none⟩) k cx ((enc ps).take k) w3 (fun hp => by obtain ⟨g, o, e, hs⟩ := unhide HX3 (by have := unhide HNX; omega); exact ⟨g, o, e, hs.take k⟩) (by have := unhide HNX; simp; omega) (by omega) (by simp; omega)
      rw [dec_cut (unhide HPF) (by have := unhide HNX; omega)] at hd
      refine hd.mono ?_
      clear hd
      rintro e w4 ⟨a4, n4, c4, rfl, hn4, ho4, hk4⟩
      have HK4 := hide hk4
      have hn4' : n4 = 0 := hn4
      subst hn4'
      clear hn4 ho4 hk4 k0 k1 hkk
      go_wp2_with (first | (at_builtin; refine wpList_app_nil (by rfl) _ _ 23 rfl ((unhide HRY).kp.trans0 (unhide HK4)) (.slice (some ⟨gx, 0, none⟩) nx cx) (enc ps) rfl rfl (byt_src' ((unhide HX3).kp0 (unhide HK4)) (unhide HNX)) (by have := unhide HNX; omega) (by have := unhide HNX; omega) ?_; intro g5 c5 n5 w5 hn5 hr5 hk5 hg5) | (at_builtin; refine wpList_app (by rfl) _ _ 23 rfl (unhide hr5) n5 (unhide hn5) (.slice (some ⟨gy, 0, none⟩) ny cy) (enc qs) rfl rfl (byt_src' (((unhide HRY).byt.kp0 (unhide HK4)).kp0 (unhide hk5)) (unhide HNY)) (by have := unhide HNX; have := unhide HNY; omega) ?_; intro g6 c6 n6 w6 hn6 hr6 hk6 hg6))
      have hd := decode12 (some ⟨g6, 0, none⟩) n6 c6 (enc ps ++ enc qs) w6 (unhide hr6).byt (unhide hn6) (by have := (unhide hr6).cap; have := unhide hn6; omega) (by have := unhide HNX; have := unhide HNY; simp; omega)
      rw [dec_enc (enc qs) (unhide HPF), ← unhide HNX] at hd
      refine hd.mono ?_
      clear hd
      rintro e w7 ⟨a7, n7, c7, rfl, hn7, ho7, hk7⟩
      have hn7' : n7 = ps.length := hn7
      subst hn7'
      have HK7 := hide hk7
      have HSM := hide (same39 a7 a c7 c w7 (slo_own ho7 rfl) (((unhide HP).kp0 (unhide hr6).kp).kp0 hk7).slo (by omega))
      clear hn7 ho7 hk7
      go_wp2_with fail
      refine (unhide HSM).mono ?_
      rintro e w8 ⟨rfl, m, hw8⟩
      obtain ⟨a9, hsl, hb9⟩ := part_l (unhide hr6).byt nx c6 n6 (unhide hn6) (by have := unhide HNX; simp; omega) (unhide hr6).cap nx rfl
      have e9 : (enc ps ++ enc qs).drop nx = enc qs := by rw [unhide HNX]; exact List.drop_left
      have l9 : n6 - nx = (enc qs).length := by have h6 := unhide hn6; rw [List.length_append] at h6; have := unhide HNX; omega
      have x9 : nx ≤ n6 := by have h6 := unhide hn6; rw [List.length_append] at h6; have := unhide HNX; omega
      have x9' : (nx : Int) ≤ (n6 : Int) := by omega
      rw [e9] at hb9
      have HK8 : Hid (Kp [] w6 w8) := by rw [hw8]; exact (unhide HK7).drewN m
      have hd := decode12 a9 (n6 - nx) (c6 - nx) (enc qs) w8 (hb9.kp0 (unhide HK8)) l9 (by have := (unhide hr6).cap; have := unhide hn6; omega) (by have := unhide HNY; omega)
      have eq2 := dec_enc [] (unhide HPF2)
      rw [List.append_nil] at eq2
      rw [eq2, ← unhide HNY] at hd
      have HD := hide hd
      clear hd hb9 e9 l9 eq2 hw8 HSM
      go_wp2_with fail
      refine (unhide HD).mono ?_
      rintro e w9 ⟨a10, n10, c10, rfl, hn10, ho10, hk10⟩
      have hn10' : n10 = qs.length := hn10
      subst hn10'
      have HKX := hide (((unhide hr6).kp.trans0 (unhide HK8)).trans0 hk10)
      have HSM := hide (same39 a10 a2 c10 c2 w9 (slo_own ho10 rfl) ((unhide HQ).kp0 (unhide HKX)).slo (by omega))
      clear hn10 ho10 hk10 HD hsl
      go_wp2_with fail
      refine (unhide HSM).mono ?_
      rintro e w10 ⟨rfl, m2, hw10⟩
      have HKY : Hid (Kp [] w w10) := by rw [hw10]; exact (unhide HKX).drewN m2
      clear hw10
      go_wp2_with fail
      go_ret
      exact ⟨rfl, (unhide HKY).below (Nat.le_refl _) (by simp)⟩
    · have hbad := encode_bad a2 c2 qs w2 ((unhide HQ).kp0 (unhide HRX).kp) (by omega) hp2
      generalize pf (-1) qs = z at *
      have hz : (z != 0) = true := by simpa using hp2
      have HBD := hide hbad
      clear hbad
      go_wp2_with fail
      refine (unhide HBD).mono ?_
      rintro e w3 ⟨rfl, hk3⟩
      have HK3 := hide ((unhide HRX).kp.trans0 hk3)
      clear hk3 HBD
      go_wp2_with fail
      go_ret
      exact ⟨rfl, (unhide HK3).below (Nat.le_refl _) (by simp)⟩
  · have hbad := encode_bad a c ps w1 ((unhide HP).kp0 (unhide HK1)) (by omega) hp
    generalize pf (-1) ps = z at *
    have HBD := hide hbad
    clear hbad
    go_wp2_with fail
    refine (unhide HBD).mono ?_
    rintro e w2 ⟨rfl, hk2⟩
    have HK2 := hide ((unhide HK1).trans0 hk2)
    clear hk2 HBD
    by_cases hp2 : pf (-1) qs = 0
    · have HPF2 := hide hp2
      clear hp2
      go_wp2_with fail
      refine (encode_ok a2 c2 qs w2 ((unhide HQ).kp0 (unhide HK2)) (unhide HPF2)).mono ?_
      rintro e w3 ⟨gy, cy, ny, rfl, hny, hr⟩
      have HK3 := hide ((unhide HK2).trans0 hr.kp)
      clear hny hr
      go_wp2_with fail
      go_ret
      exact ⟨rfl, (unhide HK3).below (Nat.le_refl _) (by simp)⟩
    · have hbad := encode_bad a2 c2 qs w2 ((unhide HQ).kp0 (unhide HK2)) (by omega) hp2
      generalize pf (-1) qs = z2 at *
      have HBD := hide hbad
      clear hbad
      go_wp2_with fail
      refine (unhide HBD).mono ?_
      rintro e w3 ⟨rfl, hk3⟩
      have HK3 := hide ((unhide HK2).trans0 hk3)
      clear hk3 HBD
      go_wp2_with fail
      go_ret
      exact ⟨rfl, (unhide HK3).below (Nat.le_refl _) (by simp)⟩
end Go.Proofs.Ytlodlepnaliilab
