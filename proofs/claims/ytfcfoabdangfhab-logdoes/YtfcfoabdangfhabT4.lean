/- PairsFault, by its contract. -/
import Derived.Test.YtfcfoabdangfhabT3
namespace Go.Proofs.Ytfcfoabdangfhab
open Go.RowKit
set_option maxRecDepth 20000
attribute [local go_sem ↓] Go.wp_at_zero Go.wp_at_succ

set_option maxHeartbeats 1000000 in
theorem pfault37 (a : Option Addr) (c : Nat) (ps : List Ver) (w : World) (h : Prs w a ps) (hm : ps.length ≤ 1000) :
    Calls Try.prog 14 #[.slice a ps.length c] w fun e w' => e = .returned (.int .i64 (pf (-1) ps)) ∧ Kp [] w w' := by
  have HP := hide h
  clear h
  go_enter Try.func14, Try.ntmps14
  go_wp2_with fail
  go_loopw [3] (fun i wr => ∃ k : Nat, k ≤ ps.length ∧ i = .int .i64 k ∧ Hid (pf (prev ps k) (ps.drop k) = pf (-1) ps) ∧ Hid (Kp [] w wr)) (fun i _ => ps.length - (intOf i).toNat)
  case atStart => exact ⟨0, by omega, rfl, rfl, Kp.refl _ _⟩
  case round =>
    obtain ⟨k, hk, rfl, HE, HK⟩ := hrel
    by_cases hlt : k < ps.length
    · obtain ⟨g, o, rfl, hs⟩ := (unhide HP).mem (by omega)
      have hs2 := hs.kp (unhide HK) (by simp)
      have q0 := hs2.at0 k hlt
      have q1 := hs2.at1 k hlt
      have q2 : wr.cell? ⟨g, o + k * 3 + 1 + 1, none⟩ = some (.string (vb ps k)) := hs2.at2 k hlt
      have hsz := (unhide HP).str k hlt
      have i0 : (0 : Int) ≤ (k : Int) := by omega
      have i1 : (k : Int) < (ps.length : Int) := by omega
      have hpe := unhide HE
      rw [pf_at _ hlt] at hpe
      by_cases hK : keyB (va ps k) = true
      · by_cases h0 : k = 0
        · subst h0
          have ha : ¬ va ps 0 ≤ prev ps 0 := by simp [keyB] at hK; simp [prev]; omega
          simp only [Nat.zero_mul, Nat.add_zero] at q0 q1 q2
          by_cases hc : chk (vt ps 0) (vb ps 0) = 0
          · rw [if_neg (by simp [hK]), if_neg ha, if_pos hc] at hpe
            have HPE := hide hpe
            have HCC := hide hc
            clear hpe HE ha hc hs hs2
            go_wp2_with fail
            refine (key12 _ _).mono ?_
            rintro e w' ⟨rfl, rfl⟩
            rw [hK]
            clear hK
            go_wp2_with fail
            go_quiet (fail)
            go_wp2_with fail
            refine (fault14 _ _ _ hsz).mono ?_
            rintro e w2 ⟨rfl, hk2⟩
            have HK2 := hide (((unhide HK).drewN nq).trans0 hk2)
            rw [unhide HCC]
            clear hk2
            go_wp2_with fail
            exact ⟨⟨1, by omega, by go_num, by rw [prev_succ]; exact unhide HPE, HK2⟩, by simp [intOf]; omega⟩
          · rw [if_neg (by simp [hK]), if_neg ha, if_neg hc] at hpe
            have HPE := hide hpe
            clear hpe HE ha hs hs2
            go_wp2_with fail
            refine (key12 _ _).mono ?_
            rintro e w' ⟨rfl, rfl⟩
            rw [hK]
            clear hK
            go_wp2_with fail
            go_quiet (fail)
            go_wp2_with fail
            refine (fault14 _ _ _ hsz).mono ?_
            rintro e w2 ⟨rfl, hk2⟩
            have HK2 := hide (((unhide HK).drewN nq).trans0 hk2)
            clear hk2
            generalize chk (vt ps 0) (vb ps 0) = q at *
            go_wp2_with fail
            go_ret
            exact ⟨ret_int (unhide HPE), unhide HK2⟩
        · obtain ⟨d, rfl⟩ : ∃ d, k = d + 1 := ⟨k - 1, by omega⟩
          have r0 := hs2.at0 d (by omega)
          have hp1 : prev ps (d + 1) = va ps d := prev_succ ps d
          have j1 : (0 : Int) < (d : Int) + 1 := by omega
          have j2 : (d : Int) < (ps.length : Int) := by omega
          have j3 : (d : Int) + 1 < (ps.length : Int) := by omega
          have j4 : (0 : Int) ≤ (d : Int) + 1 := by omega
          have j5 : (0 : Int) ≤ (d : Int) := by omega
          rw [hp1] at hpe
          by_cases ha : va ps (d + 1) ≤ va ps d
          · rw [if_neg (by simp [hK]), if_pos ha] at hpe
            have HPE := hide hpe
            have HHA := hide ha
            clear hpe HE hs hs2 ha
            go_wp2_with fail
            refine (key12 _ _).mono ?_
            rintro e w' ⟨rfl, rfl⟩
            rw [hK]
            clear hK
            have ha := unhide HHA
            go_wp2_with fail
            go_quiet (fail)
            go_wp2_with fail
            go_ret
            exact ⟨ret_int (unhide HPE), (unhide HK).drewN nq⟩
          · by_cases hc : chk (vt ps (d + 1)) (vb ps (d + 1)) = 0
            · rw [if_neg (by simp [hK]), if_neg ha, if_pos hc] at hpe
              have HPE := hide hpe
              have HCC := hide hc
              have HHA := hide ha
              clear hpe HE ha hc hs hs2
              go_wp2_with fail
              refine (key12 _ _).mono ?_
              rintro e w' ⟨rfl, rfl⟩
              rw [hK]
              clear hK
              have ha := unhide HHA
              go_wp2_with fail
              go_quiet (fail)
              go_wp2_with fail
              refine (fault14 _ _ _ hsz).mono ?_
              rintro e w2 ⟨rfl, hk2⟩
              have HK2 := hide (((unhide HK).drewN nq).trans0 hk2)
              rw [unhide HCC]
              clear hk2
              go_wp2_with fail
              exact ⟨⟨d + 1 + 1, by omega, by go_num, by rw [prev_succ]; exact unhide HPE, HK2⟩, by simp [intOf]; omega⟩
            · rw [if_neg (by simp [hK]), if_neg ha, if_neg hc] at hpe
              have HPE := hide hpe
              have HHA := hide ha
              clear hpe HE ha hs hs2
              go_wp2_with fail
              refine (key12 _ _).mono ?_
              rintro e w' ⟨rfl, rfl⟩
              rw [hK]
              clear hK
              have ha := unhide HHA
              go_wp2_with fail
              go_quiet (fail)
              go_wp2_with fail
              refine (fault14 _ _ _ hsz).mono ?_
              rintro e w2 ⟨rfl, hk2⟩
              have HK2 := hide (((unhide HK).drewN nq).trans0 hk2)
              clear hk2
              generalize chk (vt ps (d + 1)) (vb ps (d + 1)) = q at *
              go_wp2_with fail
              go_ret
              exact ⟨ret_int (unhide HPE), unhide HK2⟩
      · have hK2 : keyB (va ps k) = false := by simpa using hK
        rw [if_pos hK2] at hpe
        have HPE := hide hpe
        clear hpe HE hK hs hs2
        go_wp2_with fail
        refine (key12 _ _).mono ?_
        rintro e w' ⟨rfl, rfl⟩
        rw [hK2]
        clear hK2
        go_wp2_with fail
        go_ret
        exact ⟨ret_int (unhide HPE), unhide HK⟩
    · have hpe := unhide HE
      rw [pf_end _ hlt] at hpe
      have HPE := hide hpe
      clear hpe HE
      go_wp2_with fail
      go_ret
      exact ⟨ret_int (unhide HPE), unhide HK⟩
end Go.Proofs.Ytfcfoabdangfhab
