/- CodecDoes, walked. -/
import Derived.Test.YtlodlepnaliilabQ9
import Derived.Test.YtlodlepnaliilabQ8
import Derived.Test.YtlodlepnaliilabQ4
namespace Go.Proofs.Ytlodlepnaliilab
open Go.RowKit
set_option maxRecDepth 20000
attribute [local go_sem ↓] Go.wp_at_zero Go.wp_at_succ

set_option maxHeartbeats 4000000 in
theorem cdoes3 (a : Option Addr) (c : Nat) (ps : List Ver) (ab : Option Addr) (n cb : Nat) (bs : List UInt8) (w : World) (h : Prs w a ps) (hb : Byt w ab bs) (hn : n = bs.length) (hc : n ≤ cb) :
    Calls Try.prog 3 #[.slice a ps.length c, .slice ab n cb] w fun e w' => e = .returned (.bool true) ∧ Below w.heap.size w w' := by
  have HP := hide h
  have HB := hide hb
  have HN := hide hn
  clear h hb hn
  go_enter Try.func3, Try.ntmps3
  go_wp2_with fail
  refine (codecBegun7 w).mono ?_
  rintro e w1 ⟨rfl, hk1⟩
  have HK1 := hide hk1
  clear hk1
  go_wp2_with fail
  refine (gpairs30 a c ps w1 ((unhide HP).kp0 (unhide HK1))).mono ?_
  rintro e w' ⟨q, rfl, hq, hw'⟩
  subst w'
  cases q with
  | true =>
    clear hq
    go_wp2_with fail
    go_ret
    exact ⟨rfl, (unhide HK1).below (Nat.le_refl _) (by simp)⟩
  | false =>
    have h50 := hq rfl
    clear hq
    by_cases h5 : 5000 < n
    · have h5' : (5000 : Int) < (n : Int) := by omega
      go_wp2_with fail
      go_ret
      exact ⟨rfl, (unhide HK1).below (Nat.le_refl _) (by simp)⟩
    have h5' : ¬ (5000 : Int) < (n : Int) := by omega
    have hbl : bs.length ≤ 5000 := by have := unhide HN; omega
    by_cases hp : pf (-1) ps = 0
    · have HPF := hide hp
      clear hp
      go_wp2_with fail
      refine (encode_ok a c ps w1 ((unhide HP).kp0 (unhide HK1)) (unhide HPF)).mono ?_
      rintro e w2 ⟨gx, cx, nx, rfl, hnx, hr⟩
      have HNX := hide hnx
      have HR2 := hide hr
      clear hnx hr
      go_wp2_with fail
      refine (pfault37 a c ps w2 (((unhide HP).kp0 (unhide HK1)).kp0 (unhide HR2).kp) (by omega)).mono ?_
      rintro e w3 ⟨rfl, hk3⟩
      have HK3 := hide hk3
      clear hk3
      rw [unhide HPF]
      go_wp2_with fail
      refine (bytesOf11 a c ps w3 ((((unhide HP).kp0 (unhide HK1)).kp0 (unhide HR2).kp).kp0 (unhide HK3)) (unhide HPF)).mono ?_
      rintro e w4 ⟨g4, c4, n4, rfl, hn4, hr4⟩
      have hcw := str_of hr4.byt n4 c4 hn4 w4 (Kp.refl _ _)
      have HKA := hide ((((unhide HK1).trans0 (unhide HR2).kp).trans0 (unhide HK3)).trans0 hr4.kp)
      have HX := hide (((unhide HR2).byt.kp0 (unhide HK3)).kp0 hr4.kp)
      clear hn4 hr4
      generalize enc ps = E at *
      go_wp2_with fail
      refine (decode12 ab n cb bs _ ((unhide HB).kp0 (unhide HKA)) (unhide HN) hc (by omega)).mono ?_
      rintro e w5 ⟨a5, n5, c5, rfl, hn5, ho5, hk5⟩
      have HO5 := hide ho5
      have HK5 := hide hk5
      have HN5 := hide hn5
      clear ho5 hk5 hn5
      go_wp2_with fail
      refine (pairsOf13 ab n cb bs _ (((unhide HB).kp0 (unhide HKA)).kp0 (unhide HK5)) (unhide HN) hc (by omega)).mono ?_
      rintro e w6 ⟨a6, n6, c6, rfl, hn6, ho6, hk6⟩
      have hn5 := unhide HN5
      have hdl : (dec bs).1.length ≤ 8 := dec_len
      have HSM := hide (same39 a5 a6 c5 c6 w6 (slo_own (own_kp0 (unhide HO5) hk6) hn5) (slo_own ho6 hn6) (by omega))
      have hcv := str_of (((unhide HX).kp0 (unhide HK5)).kp0 hk6) nx cx (unhide HNX) w6 (Kp.refl _ _)
      rw [← hn5] at HSM
      have hn56 : n6 = n5 := hn6.trans hn5.symm
      subst hn56
      have HK6 := hide (((unhide HKA).trans0 (unhide HK5)).trans0 hk6)
      clear hn5 hn6 ho6 hk6 hdl HO5 HN5
      generalize (dec bs).2.1 = N at *
      generalize (dec bs).2.2 = Z at *
      go_wp2_with fail
      refine (unhide HSM).mono ?_
      rintro e w7 ⟨rfl, m, hw7⟩
      subst w7
      go_wp2_with fail
      go_ret
      exact ⟨rfl, ((unhide HK6).drewN m).below (Nat.le_refl _) (by simp)⟩
    · have hbad := encode_bad a c ps w1 ((unhide HP).kp0 (unhide HK1)) (by omega) hp
      have hpf := fun w2 (hk : Kp [] w1 w2) => pfault37 a c ps w2 (((unhide HP).kp0 (unhide HK1)).kp0 hk) (by omega)
      generalize pf (-1) ps = z at *
      have HBD := hide hbad
      have HPF := hide hpf
      clear hbad hpf
      go_wp2_with fail
      refine (unhide HBD).mono ?_
      rintro e w2 ⟨rfl, hk2⟩
      have HK2 := hide hk2
      clear hk2
      go_wp2_with fail
      refine (unhide HPF w2 (unhide HK2)).mono ?_
      rintro e w3 ⟨rfl, hk3⟩
      have HKA := hide (((unhide HK1).trans0 (unhide HK2)).trans0 hk3)
      have HX := hide (byt_nil w3 none)
      obtain ⟨nx, hnx⟩ : ∃ nx : Nat, nx = ([] : List UInt8).length := ⟨_, rfl⟩
      obtain ⟨cx, hcx⟩ : ∃ cx : Nat, cx = 0 := ⟨_, rfl⟩
      have HNX := hide hnx
      have hnx0 : nx = 0 := hnx
      clear hk3 hnx HBD HPF
      subst hnx0
      subst hcx
      go_wp2_with fail
      refine (decode12 ab n cb bs _ ((unhide HB).kp0 (unhide HKA)) (unhide HN) hc (by omega)).mono ?_
      rintro e w5 ⟨a5, n5, c5, rfl, hn5, ho5, hk5⟩
      have HO5 := hide ho5
      have HK5 := hide hk5
      have HN5 := hide hn5
      clear ho5 hk5 hn5
      go_wp2_with fail
      refine (pairsOf13 ab n cb bs _ (((unhide HB).kp0 (unhide HKA)).kp0 (unhide HK5)) (unhide HN) hc (by omega)).mono ?_
      rintro e w6 ⟨a6, n6, c6, rfl, hn6, ho6, hk6⟩
      have hn5 := unhide HN5
      have hdl : (dec bs).1.length ≤ 8 := dec_len
      have HSM := hide (same39 a5 a6 c5 c6 w6 (slo_own (own_kp0 (unhide HO5) hk6) hn5) (slo_own ho6 hn6) (by omega))
      have hcv := str_of (((unhide HX).kp0 (unhide HK5)).kp0 hk6) 0 0 (unhide HNX) w6 (Kp.refl _ _)
      rw [← hn5] at HSM
      have hn56 : n6 = n5 := hn6.trans hn5.symm
      subst hn56
      have HK6 := hide (((unhide HKA).trans0 (unhide HK5)).trans0 hk6)
      clear hn5 hn6 ho6 hk6 hdl HO5 HN5
      generalize (dec bs).2.1 = N at *
      generalize (dec bs).2.2 = Z at *
      go_wp2_with fail
      refine (unhide HSM).mono ?_
      rintro e w7 ⟨rfl, m, hw7⟩
      subst w7
      go_wp2_with fail
      go_ret
      exact ⟨rfl, ((unhide HK6).drewN m).below (Nat.le_refl _) (by simp)⟩
end Go.Proofs.Ytlodlepnaliilab
