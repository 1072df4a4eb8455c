/- CodecSize, walked. -/
import Derived.Test.YtlodlepnaliilabQ9
import Derived.Test.YtlodlepnaliilabPq
namespace Go.Proofs.Ytlodlepnaliilab
open Go.RowKit
set_option maxRecDepth 20000
attribute [local go_sem ↓] Go.wp_at_zero Go.wp_at_succ

theorem vsum_append (xs ys : List Ver) : vsum (xs ++ ys) = vsum xs + vsum ys := by
  induction xs with
  | nil => simp [vsum]
  | cons p r ih => simp only [List.cons_append, vsum, ih]; omega
theorem vsum_take_succ {ps : List Ver} {k : Nat} (h : k < ps.length) : vsum (ps.take (k + 1)) = vsum (ps.take k) + (2 + (vb ps k).size) := by
  rw [take_succ_ver h, vsum_append]
  simp [vsum]
theorem vsum_take_le (ps : List Ver) (k : Nat) : vsum (ps.take k) ≤ vsum ps := by
  have := congrArg vsum (List.take_append_drop k ps)
  simp only [vsum_append] at this
  omega
theorem enc_ub0 {ps : List Ver} (h : pf (-1) ps = 0) : ub (enc ps) 0 = vsum ps + 2 := by
  have := pbs_len112 h
  have e := pbs_vsum h
  show (b8 ((pbs ps).length + 2 : Nat)).toNat = _
  rw [b8_nat (by omega), e]
theorem enc_ub1 {ps : List Ver} (h : pf (-1) ps = 0) : ub (enc ps) 1 = ps.length := by
  have := pf_len8 h
  show (b8 ps.length).toNat = _
  rw [b8_nat (by omega)]

set_option maxHeartbeats 2000000 in
theorem csize6 (a : Option Addr) (c : Nat) (ps : List Ver) (w : World) (h : Prs w a ps) :
    Calls Try.prog 6 #[.slice a ps.length c] w fun e w' => e = .returned (.bool true) ∧ Below w.heap.size w w' := by
  have HP := hide h
  clear h
  go_enter Try.func6, Try.ntmps6
  go_wp2_with fail
  refine (codecBegun7 w).mono ?_
  rintro e w1 ⟨rfl, hk1⟩
  have HK1 := hide hk1
  clear hk1
  go_wp2_with fail
  refine (gpairs30 a c ps w1 ((unhide HP).kp0 (unhide HK1))).mono ?_
  rintro e w' ⟨q, rfl, hq, hw'⟩
  subst w'
  cases q with
  | true =>
    clear hq
    go_wp2_with fail
    go_ret
    exact ⟨rfl, (unhide HK1).below (Nat.le_refl _) (by simp)⟩
  | false =>
    have h50 := hq rfl
    clear hq
    by_cases hp : pf (-1) ps = 0
    · have h8 := pf_len8 hp
      have HPF := hide hp
      have hv : vsum ps ≤ 112 := by have := pbs_len112 hp; have := pbs_vsum hp; omega
      clear hp
      go_wp2_with fail
      refine (encode_ok a c ps w1 ((unhide HP).kp0 (unhide HK1)) (unhide HPF)).mono ?_
      rintro e w2 ⟨g, cap, n, rfl, hn, hr⟩
      have hnv : n = vsum ps + 2 := by rw [hn, enc_length, pbs_vsum (unhide HPF)]
      have q0 := hr.slu 0 (by rw [enc_length]; omega)
      have q1 := hr.slu 1 (by rw [enc_length]; omega)
      rw [enc_ub0 (unhide HPF)] at q0
      rw [enc_ub1 (unhide HPF)] at q1
      have hlen : 2 ≤ n := by omega
      have HK2 := hide ((unhide HK1).trans0 hr.kp)
      clear hn hr
      subst hnv
      go_wp2_with fail
      go_loop [5, 6] (fun s i => ∃ k : Nat, k ≤ ps.length ∧ s = .int .i64 (vsum (ps.take k) + 2 : Nat) ∧ i = .int .i64 k) (fun _ i => ps.length - (intOf i).toNat)
      case atStart => exact ⟨0, by omega, rfl, rfl⟩
      case round =>
        obtain ⟨k, hk, rfl, rfl⟩ := hrel
        by_cases hlt : k < ps.length
        · obtain ⟨ga, o, rfl, hs⟩ := (unhide HP).mem (by omega)
          have hs2 := hs.kp (unhide HK2) (by simp)
          have q2 : w2.cell? ⟨ga, o + k * 3 + 1 + 1, none⟩ = some (.string (vb ps k)) := hs2.at2 k hlt
          have hb := pf_str (unhide HPF) k hlt
          have hsl := vsum_take_le ps k
          have hsl2 := vsum_take_succ hlt
          have i0 : (0 : Int) ≤ (k : Int) := by omega
          have i1 : (k : Int) < (ps.length : Int) := by omega
          have HV := hide hsl2
          clear hs hs2 hsl2
          go_wp2_with fail
          exact ⟨⟨k + 1, by omega, by rw [unhide HV]; go_num, by go_num⟩, by simp [intOf]; omega⟩
        · have e : k = ps.length := by omega
          subst e
          rw [List.take_length]
          have z0 : (0 : Int) < ((vsum ps + 2 : Nat) : Int) := by omega
          have z1 : (1 : Int) < ((vsum ps + 2 : Nat) : Int) := by omega
          have z2 : ((vsum ps + 2 : Nat) : Int) < 256 := by omega
          generalize vsum ps + 2 = N at *
          go_wp2_with fail
          go_ret
          exact ⟨rfl, (unhide HK2).below (Nat.le_refl _) (by simp)⟩
    · have hb := encode_bad a c ps w1 ((unhide HP).kp0 (unhide HK1)) (by omega) hp
      generalize pf (-1) ps = z at *
      have HB := hide hb
      clear hb
      go_wp2_with fail
      refine (unhide HB).mono ?_
      rintro e w2 ⟨rfl, hk2⟩
      have HK2 := hide ((unhide HK1).trans0 hk2)
      clear hk2
      go_wp2_with fail
      go_ret
      exact ⟨rfl, (unhide HK2).below (Nat.le_refl _) (by simp)⟩
end Go.Proofs.Ytlodlepnaliilab
