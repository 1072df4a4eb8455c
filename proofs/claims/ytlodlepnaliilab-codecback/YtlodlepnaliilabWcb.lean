/- CodecBack, walked. -/
import Derived.Test.YtlodlepnaliilabWcc
import Derived.Test.YtlodlepnaliilabQ10
namespace Go.Proofs.Ytlodlepnaliilab
open Go.RowKit
set_option maxRecDepth 20000
attribute [local go_sem ↓] Go.wp_at_zero Go.wp_at_succ

theorem smEnd_true {vs us : List Ver} {w w' : World} {e : Ending} (h : SmEnd vs us w e w') (hv : vs = us) : e = .returned (.bool true) ∧ ∃ m, w' = w.drewN m := by
  obtain ⟨q, rfl, hq, hm⟩ := h
  exact ⟨by rw [hq.2 hv], hm⟩
theorem smEnd_false {vs us : List Ver} {w w' : World} {e : Ending} (h : SmEnd vs us w e w') (hv : ¬ vs = us) : e = .returned (.bool false) ∧ ∃ m, w' = w.drewN m := by
  obtain ⟨q, rfl, hq, hm⟩ := h
  cases q with
  | true => exact absurd (hq.1 rfl) hv
  | false => exact ⟨rfl, hm⟩
theorem enc_other {ps qs : List Ver} (h : pf (-1) ps = 0) (h' : pf (-1) qs = 0) (hne : ¬ ps = qs) : ((⟨(enc ps).toArray⟩ : ByteArray).toList == (⟨(enc qs).toArray⟩ : ByteArray).toList) = false := by
  rw [ByteArray.toList_eq, ByteArray.toList_eq]
  exact beq_eq_false_iff_ne.2 (fun e => hne (enc_inj h h' e))

set_option maxHeartbeats 4000000 in
theorem cback4 (a : Option Addr) (c : Nat) (ps : List Ver) (a2 : Option Addr) (c2 : Nat) (qs : List Ver) (ab : Option Addr) (n cb : Nat) (bs : List UInt8) (w : World) (h : Prs w a ps) (h2 : Prs w a2 qs) (hb : Byt w ab bs) (hn : n = bs.length) (hc : n ≤ cb) :
    Calls Try.prog 4 #[.slice a ps.length c, .slice a2 qs.length c2, .slice ab n cb] w fun e w' => e = .returned (.bool true) ∧ Below w.heap.size w w' := by
  have HP := hide h
  have HQ := hide h2
  have HB := hide hb
  have HN := hide hn
  clear h h2 hb hn
  go_enter Try.func4, Try.ntmps4
  go_wp2_with fail
  refine (codecBegun7 w).mono ?_
  rintro e w1 ⟨rfl, hk1⟩
  have HK1 := hide hk1
  clear hk1
  go_wp2_with fail
  refine (gpairs30 a c ps w1 ((unhide HP).kp0 (unhide HK1))).mono ?_
  rintro e w' ⟨q, rfl, hq, hw'⟩
  subst w'
  cases q with
  | true =>
    clear hq
    go_wp2_with fail
    go_ret
    exact ⟨rfl, (unhide HK1).below (Nat.le_refl _) (by simp)⟩
  | false =>
  have h50 := hq rfl
  clear hq
  go_wp2_with fail
  refine (gpairs30 a2 c2 qs w1 ((unhide HQ).kp0 (unhide HK1))).mono ?_
  rintro e w' ⟨q, rfl, hq, hw'⟩
  subst w'
  cases q with
  | true =>
    clear hq
    go_wp2_with fail
    go_ret
    exact ⟨rfl, (unhide HK1).below (Nat.le_refl _) (by simp)⟩
  | false =>
  have h50' := hq rfl
  clear hq
  by_cases h5 : 5000 < n
  · have h5' : (5000 : Int) < (n : Int) := by omega
    go_wp2_with fail
    go_ret
    exact ⟨rfl, (unhide HK1).below (Nat.le_refl _) (by simp)⟩
  have h5' : ¬ (5000 : Int) < (n : Int) := by omega
  have hbl : bs.length ≤ 5000 := by have := unhide HN; omega
  by_cases hp : pf (-1) ps = 0
  · have HPF := hide hp
    clear hp
    go_wp2_with fail
    refine (encode_ok a c ps w1 ((unhide HP).kp0 (unhide HK1)) (unhide HPF)).mono ?_
    rintro e w2 ⟨gx, cx, nx, rfl, hnx, hr⟩
    have HNX := hide hnx
    have HRX := hide (hr.since (unhide HK1))
    have hle : 2 ≤ nx ∧ nx ≤ 200 := by have := enc_length ps; have := pbs_len112 (unhide HPF); omega
    clear hnx hr
    by_cases hp2 : pf (-1) qs = 0
    · have HPF2 := hide hp2
      clear hp2
      go_wp2_with fail
      refine (encode_ok a2 c2 qs w2 ((unhide HQ).kp0 (unhide HRX).kp) (unhide HPF2)).mono ?_
      rintro e w3 ⟨gy, cy, ny, rfl, hny, hr⟩
      have HNY := hide hny
      have HRY := hide (hr.since (unhide HRX).kp)
      have HX3 := hide ((unhide HRX).byt.kp0 hr.kp)
      have HKQ := hide (unhide HRY).kp
      have hgx := Nat.lt_of_lt_of_le (unhide HRX).lt.2 hr.kp.size
      have hgy := (unhide HRY).lt.2
      clear hny hr
      have HKX := hide (Kp.trans0 (unhide HKQ) (Kp.refl [] w3))
      go_wp2_with (first | (at_builtin; refine wpList_app_nil (by rfl) _ _ 23 rfl (unhide HKQ) (.slice (some ⟨gx, 0, none⟩) nx cx) (enc ps) rfl rfl (byt_src' (unhide HX3) (unhide HNX)) (by have := unhide HNX; omega) (by have := unhide HNX; omega) ?_; intro g5 c5 n5 w5 hn5 hr5 hk5 hg5) | (at_builtin; refine wpList_app (by rfl) _ _ 23 rfl (unhide hr5) n5 (unhide hn5) (.slice ab n cb) bs rfl rfl (byt_src' ((unhide HB).kp0 (unhide hr5).kp) (unhide HN)) (by have := unhide HNX; omega) ?_; intro g6 c6 n6 w6 hn6 hr6 hk6 hg6))
      have hd := decode12 (some ⟨g6, 0, none⟩) n6 c6 (enc ps ++ bs) w6 (unhide hr6).byt (unhide hn6) (by have := (unhide hr6).cap; have := unhide hn6; omega) (by have := unhide HNX; simp; omega)
      rw [dec_enc bs (unhide HPF), ← unhide HNX] at hd
      refine hd.mono ?_
      clear hd
      rintro e w7 ⟨a7, n7, c7, rfl, hn7, ho7, hk7⟩
      have hn7' : n7 = ps.length := hn7
      subst hn7'
      have HK7 := hide ((unhide hr6).kp.trans0 hk7)
      have HO7 : Hid (w7.ownsRow w6.heap.size 40 3 (.slice a7 ps.length c7) ps.length (vcells ps)) := ho7
      have hgf : g5 ≠ gx ∧ g5 ≠ gy := by have := unhide hg5; omega
      have HX7 := hide (((unhide HX3).kp0 (unhide hk5)).kp (unhide hk6) (fun g' o' e => by cases e; simpa using hgf.1.symm) |>.kp0 hk7)
      have HK67 := hide hk7
      clear hn7 ho7 hk7
      have HY7 := hide (((unhide HRY).byt.kp0 (unhide hk5)).kp (unhide hk6) (fun g' o' e => by cases e; simpa using hgf.2.symm) |>.kp0 (unhide HK67))
      have HSM := hide (fun m => same39 a7 a c7 c (w7.drewN m) (slo_own (own_kp0 (unhide HO7) ((Kp.refl [] _).drewN m)) rfl) (((unhide HP).kp0 (unhide HK7)).kp0 ((Kp.refl [] _).drewN m)).slo (by omega))
      have HSQ := hide (fun m => samep14 a a2 c c2 (w7.drewN m) (((unhide HP).kp0 (unhide HK7)).kp0 ((Kp.refl [] _).drewN m)).slo (((unhide HQ).kp0 (unhide HK7)).kp0 ((Kp.refl [] _).drewN m)).slo (by omega))
      have hcx := fun m => str_of (unhide HX7) nx cx (unhide HNX) (w7.drewN m) ((Kp.refl [] _).drewN m)
      have hcy := fun m => str_of (unhide HY7) ny cy (unhide HNY) (w7.drewN m) ((Kp.refl [] _).drewN m)
      by_cases hpq : ps = qs
      · have HSR := hide (fun m => (unhide HSQ m).mono (fun e w' q => smEnd_true q hpq))
        have hss : (⟨(enc qs).toArray⟩ : ByteArray) = ⟨(enc ps).toArray⟩ := by rw [hpq]
        rw [hss] at hcy
        generalize (⟨(enc ps).toArray⟩ : ByteArray) = S at *
        clear hpq hss HSQ
        go_wp2_with fail
        go_quiet ((first | (go_at_call_of 14 c7; exact Calls.quiet_of (unhide HSM _)) | (go_at_call_of 14 c2; exact Calls.quiet_of (unhide HSR _))))
        have HKA := hide ((unhide HK7).drewN nq)
        clear hcx hcy
        go_wp2_with fail
        refine (decode12 ab n cb bs _ ((unhide HB).kp0 (unhide HKA)) (unhide HN) hc (by omega)).mono ?_
        rintro e w5 ⟨a5, n5, c5, rfl, hn5, ho5, hk5⟩
        have HKD := hide ((unhide HKA).trans0 hk5)
        by_cases hz : (dec bs).2.2 = 0
        · obtain ⟨d1, d2, d3, d4⟩ := dec_ok hz
          have hen := encode_ok a5 c5 (dec bs).1 w5 (own_prs ho5 hn5 (by have := dec_len (b := bs); omega) dec_str) d1
          rw [← hn5] at hen
          rw [← d3] at d4
          have HEN := hide hen
          have HD3 := hide d3
          have HD4 := hide d4
          rw [hz]
          clear hn5 ho5 hk5 d1 d3 d4 hz hen
          generalize (dec bs).1 = Z at *
          generalize (dec bs).2.1 = N at *
          go_wp2_with fail
          refine (unhide HEN).mono ?_
          rintro e w6 ⟨g6, c6, n6, rfl, hn6, hr6⟩
          have hn6' : n6 = N := by rw [hn6, ← unhide HD3]; exact (unhide HD4).symm
          obtain ⟨a7, hsl, hb7⟩ := part_h (((unhide HB).kp0 (unhide HKD)).kp0 hr6.kp) N cb n d2 (by have := unhide HN; omega) N rfl
          rw [unhide HD3] at hb7
          rw [hn6'] at hn6
          subst hn6'
          have hcv1 := fun m => str_of hr6.byt n6 c6 hn6 (w6.drewN m) ((Kp.refl [] w6).drewN m)
          have hcv2 := fun m => str_of hb7 n6 cb hn6 (w6.drewN m) ((Kp.refl [] w6).drewN m)
          have HKE := hide ((unhide HKD).trans0 hr6.kp)
          have l1 : (n6 : Int) ≤ (n : Int) := by have := unhide HN; omega
          have l2 : n6 ≤ cb := by have := unhide HN; omega
          clear hn6 hr6 hb7 d2 HEN
          generalize (⟨(enc Z).toArray⟩ : ByteArray) = S at *
          go_wp2_with fail
          go_quiet (fail)
          go_wp2
          go_ret
          exact ⟨rfl, ((unhide HKE).drewN _).below (Nat.le_refl _) (by simp)⟩
        · obtain ⟨d1, d2⟩ := dec_bad hz
          have hn50 : n5 = 0 := by rw [hn5, d1]; rfl
          subst hn50
          rw [d2]
          clear hn5 ho5 hk5 d1 d2
          generalize (dec bs).2.2 = Z at *
          have hz2 : (Z != 0) = true := by simpa using hz
          go_wp2_with fail
          go_ret
          exact ⟨rfl, (unhide HKD).below (Nat.le_refl _) (by simp)⟩
      · have HSR := hide (fun m => (unhide HSQ m).mono (fun e w' q => smEnd_false q hpq))
        have hss : ((⟨(enc ps).toArray⟩ : ByteArray).toList == (⟨(enc qs).toArray⟩ : ByteArray).toList) = false := enc_other (unhide HPF) (unhide HPF2) hpq
        generalize (⟨(enc ps).toArray⟩ : ByteArray) = S at *
        generalize (⟨(enc qs).toArray⟩ : ByteArray) = S' at *
        clear hpq HSQ
        go_wp2_with fail
        go_quiet ((first | (go_at_call_of 14 c7; exact Calls.quiet_of (unhide HSM _)) | (go_at_call_of 14 c2; exact Calls.quiet_of (unhide HSR _))))
        have HKA := hide ((unhide HK7).drewN nq)
        clear hcx hcy
        go_wp2_with fail
        refine (decode12 ab n cb bs _ ((unhide HB).kp0 (unhide HKA)) (unhide HN) hc (by omega)).mono ?_
        rintro e w5 ⟨a5, n5, c5, rfl, hn5, ho5, hk5⟩
        have HKD := hide ((unhide HKA).trans0 hk5)
        by_cases hz : (dec bs).2.2 = 0
        · obtain ⟨d1, d2, d3, d4⟩ := dec_ok hz
          have hen := encode_ok a5 c5 (dec bs).1 w5 (own_prs ho5 hn5 (by have := dec_len (b := bs); omega) dec_str) d1
          rw [← hn5] at hen
          rw [← d3] at d4
          have HEN := hide hen
          have HD3 := hide d3
          have HD4 := hide d4
          rw [hz]
          clear hn5 ho5 hk5 d1 d3 d4 hz hen
          generalize (dec bs).1 = Z at *
          generalize (dec bs).2.1 = N at *
          go_wp2_with fail
          refine (unhide HEN).mono ?_
          rintro e w6 ⟨g6, c6, n6, rfl, hn6, hr6⟩
          have hn6' : n6 = N := by rw [hn6, ← unhide HD3]; exact (unhide HD4).symm
          obtain ⟨a7, hsl, hb7⟩ := part_h (((unhide HB).kp0 (unhide HKD)).kp0 hr6.kp) N cb n d2 (by have := unhide HN; omega) N rfl
          rw [unhide HD3] at hb7
          rw [hn6'] at hn6
          subst hn6'
          have hcv1 := fun m => str_of hr6.byt n6 c6 hn6 (w6.drewN m) ((Kp.refl [] w6).drewN m)
          have hcv2 := fun m => str_of hb7 n6 cb hn6 (w6.drewN m) ((Kp.refl [] w6).drewN m)
          have HKE := hide ((unhide HKD).trans0 hr6.kp)
          have l1 : (n6 : Int) ≤ (n : Int) := by have := unhide HN; omega
          have l2 : n6 ≤ cb := by have := unhide HN; omega
          clear hn6 hr6 hb7 d2 HEN
          generalize (⟨(enc Z).toArray⟩ : ByteArray) = S at *
          go_wp2_with fail
          go_quiet (fail)
          go_wp2
          go_ret
          exact ⟨rfl, ((unhide HKE).drewN _).below (Nat.le_refl _) (by simp)⟩
        · obtain ⟨d1, d2⟩ := dec_bad hz
          have hn50 : n5 = 0 := by rw [hn5, d1]; rfl
          subst hn50
          rw [d2]
          clear hn5 ho5 hk5 d1 d2
          generalize (dec bs).2.2 = Z at *
          have hz2 : (Z != 0) = true := by simpa using hz
          go_wp2_with fail
          go_ret
          exact ⟨rfl, (unhide HKD).below (Nat.le_refl _) (by simp)⟩
    · have hbad := encode_bad a2 c2 qs w2 ((unhide HQ).kp0 (unhide HRX).kp) (by omega) hp2
      generalize pf (-1) qs = z at *
      have hz : (z == 0) = false := by simpa using hp2
      have HBD := hide hbad
      clear hbad
      go_wp2_with fail
      refine (unhide HBD).mono ?_
      rintro e w3 ⟨rfl, hk3⟩
      have HKQ := hide ((unhide HRX).kp.trans0 hk3)
      have HX3 := hide ((unhide HRX).byt.kp0 hk3)
      have hgx := Nat.lt_of_lt_of_le (unhide HRX).lt.2 hk3.size
      clear hk3 HBD
      have HKX := hide (Kp.trans0 (unhide HKQ) (Kp.refl [] w3))
      go_wp2_with (first | (at_builtin; refine wpList_app_nil (by rfl) _ _ 23 rfl (unhide HKQ) (.slice (some ⟨gx, 0, none⟩) nx cx) (enc ps) rfl rfl (byt_src' (unhide HX3) (unhide HNX)) (by have := unhide HNX; omega) (by have := unhide HNX; omega) ?_; intro g5 c5 n5 w5 hn5 hr5 hk5 hg5) | (at_builtin; refine wpList_app (by rfl) _ _ 23 rfl (unhide hr5) n5 (unhide hn5) (.slice ab n cb) bs rfl rfl (byt_src' ((unhide HB).kp0 (unhide hr5).kp) (unhide HN)) (by have := unhide HNX; omega) ?_; intro g6 c6 n6 w6 hn6 hr6 hk6 hg6))
      have hd := decode12 (some ⟨g6, 0, none⟩) n6 c6 (enc ps ++ bs) w6 (unhide hr6).byt (unhide hn6) (by have := (unhide hr6).cap; have := unhide hn6; omega) (by have := unhide HNX; simp; omega)
      rw [dec_enc bs (unhide HPF), ← unhide HNX] at hd
      refine hd.mono ?_
      clear hd
      rintro e w7 ⟨a7, n7, c7, rfl, hn7, ho7, hk7⟩
      have hn7' : n7 = ps.length := hn7
      subst hn7'
      have HK7 := hide ((unhide hr6).kp.trans0 hk7)
      have HO7 : Hid (w7.ownsRow w6.heap.size 40 3 (.slice a7 ps.length c7) ps.length (vcells ps)) := ho7
      have hgf : g5 ≠ gx ∧ True := ⟨by have := unhide hg5; omega, trivial⟩
      have HX7 := hide (((unhide HX3).kp0 (unhide hk5)).kp (unhide hk6) (fun g' o' e => by cases e; simpa using hgf.1.symm) |>.kp0 hk7)
      clear hn7 ho7 hk7
      have HSM := hide (fun m => same39 a7 a c7 c (w7.drewN m) (slo_own (own_kp0 (unhide HO7) ((Kp.refl [] _).drewN m)) rfl) (((unhide HP).kp0 (unhide HK7)).kp0 ((Kp.refl [] _).drewN m)).slo (by omega))
      go_wp2_with fail
      go_quiet ((go_at_call 14; exact Calls.quiet_of (unhide HSM _)))
      have HKA := hide ((unhide HK7).drewN nq)
      go_wp2_with fail
      refine (decode12 ab n cb bs _ ((unhide HB).kp0 (unhide HKA)) (unhide HN) hc (by omega)).mono ?_
      rintro e w5 ⟨a5, n5, c5, rfl, hn5, ho5, hk5⟩
      have HKD := hide ((unhide HKA).trans0 hk5)
      by_cases hz : (dec bs).2.2 = 0
      · obtain ⟨d1, d2, d3, d4⟩ := dec_ok hz
        have hen := encode_ok a5 c5 (dec bs).1 w5 (own_prs ho5 hn5 (by have := dec_len (b := bs); omega) dec_str) d1
        rw [← hn5] at hen
        rw [← d3] at d4
        have HEN := hide hen
        have HD3 := hide d3
        have HD4 := hide d4
        rw [hz]
        clear hn5 ho5 hk5 d1 d3 d4 hz hen
        generalize (dec bs).1 = Z at *
        generalize (dec bs).2.1 = N at *
        go_wp2_with fail
        refine (unhide HEN).mono ?_
        rintro e w6 ⟨g6, c6, n6, rfl, hn6, hr6⟩
        have hn6' : n6 = N := by rw [hn6, ← unhide HD3]; exact (unhide HD4).symm
        obtain ⟨a7, hsl, hb7⟩ := part_h (((unhide HB).kp0 (unhide HKD)).kp0 hr6.kp) N cb n d2 (by have := unhide HN; omega) N rfl
        rw [unhide HD3] at hb7
        rw [hn6'] at hn6
        subst hn6'
        have hcv1 := fun m => str_of hr6.byt n6 c6 hn6 (w6.drewN m) ((Kp.refl [] w6).drewN m)
        have hcv2 := fun m => str_of hb7 n6 cb hn6 (w6.drewN m) ((Kp.refl [] w6).drewN m)
        have HKE := hide ((unhide HKD).trans0 hr6.kp)
        have l1 : (n6 : Int) ≤ (n : Int) := by have := unhide HN; omega
        have l2 : n6 ≤ cb := by have := unhide HN; omega
        clear hn6 hr6 hb7 d2 HEN
        generalize (⟨(enc Z).toArray⟩ : ByteArray) = S at *
        go_wp2_with fail
        go_quiet (fail)
        go_wp2
        go_ret
        exact ⟨rfl, ((unhide HKE).drewN _).below (Nat.le_refl _) (by simp)⟩
      · obtain ⟨d1, d2⟩ := dec_bad hz
        have hn50 : n5 = 0 := by rw [hn5, d1]; rfl
        subst hn50
        rw [d2]
        clear hn5 ho5 hk5 d1 d2
        generalize (dec bs).2.2 = Z at *
        have hz2 : (Z != 0) = true := by simpa using hz
        go_wp2_with fail
        go_ret
        exact ⟨rfl, (unhide HKD).below (Nat.le_refl _) (by simp)⟩
  · have hbad := encode_bad a c ps w1 ((unhide HP).kp0 (unhide HK1)) (by omega) hp
    generalize pf (-1) ps = z at *
    have hz0 : (z == 0) = false := by simpa using hp
    have HBD := hide hbad
    clear hbad
    go_wp2_with fail
    refine (unhide HBD).mono ?_
    rintro e w2 ⟨rfl, hk2⟩
    have HK2 := hide ((unhide HK1).trans0 hk2)
    clear hk2 HBD
    by_cases hp2 : pf (-1) qs = 0
    · have HPF2 := hide hp2
      clear hp2
      go_wp2_with fail
      refine (encode_ok a2 c2 qs w2 ((unhide HQ).kp0 (unhide HK2)) (unhide HPF2)).mono ?_
      rintro e w3 ⟨gy, cy, ny, rfl, hny, hr⟩
      have HKA := hide ((unhide HK2).trans0 hr.kp)
      clear hny hr
      go_wp2_with fail
      refine (decode12 ab n cb bs _ ((unhide HB).kp0 (unhide HKA)) (unhide HN) hc (by omega)).mono ?_
      rintro e w5 ⟨a5, n5, c5, rfl, hn5, ho5, hk5⟩
      have HKD := hide ((unhide HKA).trans0 hk5)
      by_cases hz : (dec bs).2.2 = 0
      · obtain ⟨d1, d2, d3, d4⟩ := dec_ok hz
        have hen := encode_ok a5 c5 (dec bs).1 w5 (own_prs ho5 hn5 (by have := dec_len (b := bs); omega) dec_str) d1
        rw [← hn5] at hen
        rw [← d3] at d4
        have HEN := hide hen
        have HD3 := hide d3
        have HD4 := hide d4
        rw [hz]
        clear hn5 ho5 hk5 d1 d3 d4 hz hen
        generalize (dec bs).1 = Z at *
        generalize (dec bs).2.1 = N at *
        go_wp2_with fail
        refine (unhide HEN).mono ?_
        rintro e w6 ⟨g6, c6, n6, rfl, hn6, hr6⟩
        have hn6' : n6 = N := by rw [hn6, ← unhide HD3]; exact (unhide HD4).symm
        obtain ⟨a7, hsl, hb7⟩ := part_h (((unhide HB).kp0 (unhide HKD)).kp0 hr6.kp) N cb n d2 (by have := unhide HN; omega) N rfl
        rw [unhide HD3] at hb7
        rw [hn6'] at hn6
        subst hn6'
        have hcv1 := fun m => str_of hr6.byt n6 c6 hn6 (w6.drewN m) ((Kp.refl [] w6).drewN m)
        have hcv2 := fun m => str_of hb7 n6 cb hn6 (w6.drewN m) ((Kp.refl [] w6).drewN m)
        have HKE := hide ((unhide HKD).trans0 hr6.kp)
        have l1 : (n6 : Int) ≤ (n : Int) := by have := unhide HN; omega
        have l2 : n6 ≤ cb := by have := unhide HN; omega
        clear hn6 hr6 hb7 d2 HEN
        generalize (⟨(enc Z).toArray⟩ : ByteArray) = S at *
        go_wp2_with fail
        go_quiet (fail)
        go_wp2
        go_ret
        exact ⟨rfl, ((unhide HKE).drewN _).below (Nat.le_refl _) (by simp)⟩
      · obtain ⟨d1, d2⟩ := dec_bad hz
        have hn50 : n5 = 0 := by rw [hn5, d1]; rfl
        subst hn50
        rw [d2]
        clear hn5 ho5 hk5 d1 d2
        generalize (dec bs).2.2 = Z at *
        have hz2 : (Z != 0) = true := by simpa using hz
        go_wp2_with fail
        go_ret
        exact ⟨rfl, (unhide HKD).below (Nat.le_refl _) (by simp)⟩
    · have hbad := encode_bad a2 c2 qs w2 ((unhide HQ).kp0 (unhide HK2)) (by omega) hp2
      generalize pf (-1) qs = z2 at *
      have HBD := hide hbad
      clear hbad
      go_wp2_with fail
      refine (unhide HBD).mono ?_
      rintro e w3 ⟨rfl, hk3⟩
      have HKA := hide ((unhide HK2).trans0 hk3)
      clear hk3 HBD
      go_wp2_with fail
      refine (decode12 ab n cb bs _ ((unhide HB).kp0 (unhide HKA)) (unhide HN) hc (by omega)).mono ?_
      rintro e w5 ⟨a5, n5, c5, rfl, hn5, ho5, hk5⟩
      have HKD := hide ((unhide HKA).trans0 hk5)
      by_cases hz : (dec bs).2.2 = 0
      · obtain ⟨d1, d2, d3, d4⟩ := dec_ok hz
        have hen := encode_ok a5 c5 (dec bs).1 w5 (own_prs ho5 hn5 (by have := dec_len (b := bs); omega) dec_str) d1
        rw [← hn5] at hen
        rw [← d3] at d4
        have HEN := hide hen
        have HD3 := hide d3
        have HD4 := hide d4
        rw [hz]
        clear hn5 ho5 hk5 d1 d3 d4 hz hen
        generalize (dec bs).1 = Z at *
        generalize (dec bs).2.1 = N at *
        go_wp2_with fail
        refine (unhide HEN).mono ?_
        rintro e w6 ⟨g6, c6, n6, rfl, hn6, hr6⟩
        have hn6' : n6 = N := by rw [hn6, ← unhide HD3]; exact (unhide HD4).symm
        obtain ⟨a7, hsl, hb7⟩ := part_h (((unhide HB).kp0 (unhide HKD)).kp0 hr6.kp) N cb n d2 (by have := unhide HN; omega) N rfl
        rw [unhide HD3] at hb7
        rw [hn6'] at hn6
        subst hn6'
        have hcv1 := fun m => str_of hr6.byt n6 c6 hn6 (w6.drewN m) ((Kp.refl [] w6).drewN m)
        have hcv2 := fun m => str_of hb7 n6 cb hn6 (w6.drewN m) ((Kp.refl [] w6).drewN m)
        have HKE := hide ((unhide HKD).trans0 hr6.kp)
        have l1 : (n6 : Int) ≤ (n : Int) := by have := unhide HN; omega
        have l2 : n6 ≤ cb := by have := unhide HN; omega
        clear hn6 hr6 hb7 d2 HEN
        generalize (⟨(enc Z).toArray⟩ : ByteArray) = S at *
        go_wp2_with fail
        go_quiet (fail)
        go_wp2
        go_ret
        exact ⟨rfl, ((unhide HKE).drewN _).below (Nat.le_refl _) (by simp)⟩
      · obtain ⟨d1, d2⟩ := dec_bad hz
        have hn50 : n5 = 0 := by rw [hn5, d1]; rfl
        subst hn50
        rw [d2]
        clear hn5 ho5 hk5 d1 d2
        generalize (dec bs).2.2 = Z at *
        have hz2 : (Z != 0) = true := by simpa using hz
        go_wp2_with fail
        go_ret
        exact ⟨rfl, (unhide HKD).below (Nat.le_refl _) (by simp)⟩
end Go.Proofs.Ytlodlepnaliilab
