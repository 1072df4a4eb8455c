/- The law DeedSees, walked: it answers true, and nothing that was there is changed. -/
import Derived.Test.YtainekjcdmabbaaX8
import Derived.Test.YtainekjcdmabbaaX7
import Derived.Test.YtainekjcdmabbaaStv
import Derived.Test.YtainekjcdmabbaaY2
namespace Go.Proofs.Ytainekjcdmabbaa
open Go.RowKit
set_option maxRecDepth 20000
attribute [local go_sem ↓] Go.wp_at_zero Go.wp_at_succ

set_option maxHeartbeats 8000000 in
set_option maxRecDepth 100000 in
theorem dsees12 (a : Option Addr) (n1 c : Nat) (st : Nat → TStep) (md : Int) (a2 : Option Addr) (n2 c2 : Nat) (st2 : Nat → DStep) (w : World) (h : TSts w a n1 st) (h2 : DSts w a2 n2 st2) :
    Calls Try.prog 12 #[.slice a n1 c, .int .i64 md, .slice a2 n2 c2] w fun e w' => e = .returned (.bool true) ∧ Below w.heap.size w w' := by
  have HS := hide h
  have HS2 := hide h2
  clear h h2
  go_enter Try.func12, Try.ntmps12
  go_wp2_with fail
  refine (dbegun52 w).mono ?_
  rintro e w1 ⟨rfl, hk⟩
  have HK1 := hide hk
  clear hk
  go_wp2_with fail
  refine (gtable29 a n1 c st w1 ((unhide HS).kp0 (unhide HK1))).mono ?_
  rintro e w1' ⟨q, rfl, hq, hw'⟩
  subst w1'
  cases q with
  | true =>
    clear hq
    go_wp2_with fail
    go_ret
    exact ⟨rfl, (unhide HK1).below (Nat.le_refl _) (by simp)⟩
  | false =>
    obtain ⟨hn, hps⟩ := hq rfl
    have HPS := hide hps
    clear hq hps
    go_wp2_with fail
    refine (gdeeds53 a2 n2 c2 st2 w1 ((unhide HS2).kp0 (unhide HK1))).mono ?_
    rintro e w1' ⟨q, rfl, hq, hw'⟩
    subst w1'
    cases q with
    | true =>
      clear hq
      go_wp2_with fail
      go_ret
      exact ⟨rfl, (unhide HK1).below (Nat.le_refl _) (by simp)⟩
    | false =>
      obtain ⟨hn2, hps2⟩ := hq rfl
      have HPS2 := hide hps2
      clear hq hps2
      go_wp2_with fail
      refine (tables_tbx a n1 c st w w1 (unhide HS) (unhide HK1) hn (unhide HPS)).mono ?_
      rintro e w2 ⟨tb, sb, f, n, rfl, HT⟩
      by_cases hmd : 1 ≤ md ∧ md ≤ 3
      · go_wp2_with fail
        refine (tdx_new md 0 (unhide HT) hmd).mono ?_
        rintro e w3 ⟨db0, rfl, H3⟩
        have HT3 := hide ((unhide H3).t.sub (Y := []) (by simp))
        clear HT H3
        go_wp2_with fail
        refine (tbx_last (unhide HT3)).mono ?_
        rintro e w2' ⟨rfl, hw2⟩
        subst w2'
        go_wp2_with fail
        refine (tdx_new md n (unhide HT3) hmd).mono ?_
        rintro e w4 ⟨db, rfl, H4⟩
        clear HT3
        go_wp2_with fail
        refine (tbx_sheet_last (unhide H4).t).mono ?_
        rintro e w5 ⟨rfl, HT5, HX5⟩
        have H5 := hide ((tdx_same (unhide H4) (unhide HT5) (unhide HX5)).1)
        have HI := hide (unhide HT5).inv
        clear H4 HT5 HX5
        have HQ0 : Hid (Sees w (w5.alloc (.cells (wagg (shw f n n 8)) 66)) tb db w5.heap.size f n md n [] [] (shw f n n 8)) := ⟨(unhide H5).alloc _, heap_alloc_new _ _, seen_start (unhide HI)⟩
        generalize shw f n n 8 = v at *
        clear H5 HI
        go_wp2_with (refine wpList_store_row rfl 66 _ _ rfl w5.heap.size (wagg v) rfl rfl 66 _ (heap_alloc_new w5 _) Try.size66 rfl (wagg_one _) ?_; rw [World.setRow_alloc_new]; generalize w5.alloc (.cells (wagg v) 66) = W5 at *; generalize w5.heap.size = vb at *)
        go_loopw [14] (fun i wr => ∃ (k : Nat) (f : Nat → List Ver) (m : Nat) (rs : List Int) (ws : List Ver) (v : Nat → Ver), k ≤ n2 ∧ i = .int .i64 k ∧ Hid (Sees w wr tb db vb f m md n rs ws v)) (fun i _ => n2 - (intOf i).toNat)
        case atStart => exact ⟨0, _, _, _, _, _, Nat.zero_le _, rfl, HQ0⟩
        case round =>
          obtain ⟨k, f, m, rs, ws, v, hk, rfl, HQ⟩ := hrel
          by_cases hlt : k < n2
          · obtain ⟨lb, lo, rfl, hst⟩ := (unhide HS2).2 (by omega)
            have s1 := (hst k hlt).kp0 (unhide HQ).t.kp
            have q0 := s1.c0
            have q1 := s1.c1
            have q2 := s1.c2
            have q3 := s1.c3
            have q4 : wr.cell? ⟨lb, lo + k * 6 + 4, none⟩ = some (.string (st2 k).s) := s1.c4
            have q5 := s1.c5
            have hsz := s1.str
            have HPR := hide (hst k hlt).prs
            have hp50 := (unhide HPS2) k hlt
            have i0 : (0 : Int) ≤ (k : Int) := by omega
            have i1 : (k : Int) < (n2 : Int) := by omega
            clear s1 hst
            generalize (st2 k).d = d at *
            generalize (st2 k).k = kk at *
            generalize (st2 k).to_ = to_ at *
            generalize (st2 k).t = t at *
            generalize (st2 k).s = s at *
            have HV := hide (stv_new wr d kk to_ t s (.slice (st2 k).a (st2 k).ps.length (st2 k).c))
            have HQ1 := hide ((unhide HQ).kp0 ((Kp.refl [] wr).alloc (.cells #[.int .i64 d, .int .i64 kk, .int .i64 to_, .bool t, .string s, .slice (st2 k).a (st2 k).ps.length (st2 k).c] 89)))
            have hdx : db < wr.heap.size := (unhide HQ).t.d.lt
            have hvx : vb < wr.heap.size := (unhide HQ).lt
            clear HQ
            by_cases hd1 : d = 1
            · subst hd1
              go_wp2_with fail
              generalize wr.alloc (.cells #[.int .i64 1, .int .i64 kk, .int .i64 to_, .bool t, .string s, .slice (st2 k).a (st2 k).ps.length (st2 k).c] 89) = W at *
              generalize wr.heap.size = xb at *
              have hndb : db ≠ xb := by omega
              clear q0 q1 q2 q3 q4 q5
              refine (sees_put kk t s (unhide HQ1) hsz).mono ?_
              rintro e w6 ⟨rfl, H6, A6, K6⟩
              by_cases hc : dpc md kk t s = 0
              · obtain ⟨hkk, hm⟩ := dpc_zero hc
                rw [hc]
                rw [dpw_yes hc] at H6
                obtain ⟨j, hj, rfl⟩ := keyB_nat hkk
                have j0 : (0 : Int) ≤ (j : Int) := by omega
                have j1 : (j : Int) < 8 := by omega
                have V6 := (unhide HV).kp (unhide K6) (by simp; omega)
                have y1 := V6.c1
                have y3 := V6.c3
                have y4 := V6.c4
                have hxl := V6.lt
                have z0 := cell_of_block (unhide A6) (wagg_at0 v hj)
                have z1 := cell_of_block (unhide A6) (wagg_at1 v hj)
                have z2 := frozen_of_block (j * 2) (unhide A6)
                have z3 := frozen_of_block (j * 2 + 1) (unhide A6)
                have HQ2 := hide (sees_store hj (unhide H6) (unhide A6) (unhide HQ1).i)
                clear V6 HQ1 HV hc H6 A6 K6
                go_wp2_with fail
                refine (key12 _ _).mono ?_
                rintro e w' ⟨rfl, hw'⟩
                subst w'
                rw [hkk]
                go_wp2_with fail
                go_loopw [16] (fun i wr => ∃ (k3 : Nat) (rs : List Int), k3 ≤ 8 ∧ i = .int .i64 k3 ∧ Hid (Sees w wr tb db vb f m md n rs (ws ++ [⟨(j : Int), t, s⟩]) (upd v j ⟨0, t, s⟩))) (fun i _ => 8 - (intOf i).toNat)
                case atStart => exact ⟨0, _, by omega, rfl, HQ2⟩
                case round =>
                  obtain ⟨k3, rs3, hk3, rfl, HL⟩ := hrel
                  by_cases hlt8 : k3 < 8
                  · have j0 : (0 : Int) ≤ (k3 : Int) := by omega
                    have j1 : (k3 : Int) < 8 := by omega
                    go_wp2_with fail
                    refine (sees_get hlt8 (unhide HL)).mono ?_
                    rintro e w7 ⟨rfl, rs4, HL7⟩
                    have z0 := (unhide HL7).c0 hlt8
                    have z1 := (unhide HL7).c1 hlt8
                    have hvl := (unhide HL7).lt
                    have HL8 := hide ((unhide HL7).kp0 ((Kp.refl [] w7).alloc (.cells #[.bool ((upd v j ⟨0, t, s⟩) k3).t, .string ((upd v j ⟨0, t, s⟩) k3).s] 24)))
                    clear HL HL7
                    generalize ((upd v j ⟨0, t, s⟩) k3).t = vt3 at *
                    generalize ((upd v j ⟨0, t, s⟩) k3).s = vs3 at *
                    go_wp2_with fail
                    go_quiet (fail)
                    go_wp2_with fail
                    exact ⟨⟨k3 + 1, rs4, by omega, by go_num, (unhide HL8).kp0 ((Kp.refl [] _).drewN _)⟩, by simp [intOf]; omega⟩
                  · go_wp2_with fail
                    exact ⟨⟨k + 1, _, _, _, _, _, by omega, by go_num, HL⟩, by simp [intOf]; omega⟩
              · have HQ2 : Hid (Sees w w6 tb db vb f m md n rs ws v) := ⟨by rw [← dpw_not (ws := ws) hc]; exact unhide H6, unhide A6, (unhide HQ1).i⟩
                have ec : (dpc md kk t s == 0) = false := beq_eq_false_iff_ne.2 hc
                clear HQ1 HV hc H6 A6 K6
                generalize dpc md kk t s = cc at *
                go_wp2_with fail
                go_loopw [16] (fun i wr => ∃ (k3 : Nat) (rs : List Int), k3 ≤ 8 ∧ i = .int .i64 k3 ∧ Hid (Sees w wr tb db vb f m md n rs ws v)) (fun i _ => 8 - (intOf i).toNat)
                case atStart => exact ⟨0, _, by omega, rfl, HQ2⟩
                case round =>
                  obtain ⟨k3, rs3, hk3, rfl, HL⟩ := hrel
                  by_cases hlt8 : k3 < 8
                  · have j0 : (0 : Int) ≤ (k3 : Int) := by omega
                    have j1 : (k3 : Int) < 8 := by omega
                    go_wp2_with fail
                    refine (sees_get hlt8 (unhide HL)).mono ?_
                    rintro e w7 ⟨rfl, rs4, HL7⟩
                    have z0 := (unhide HL7).c0 hlt8
                    have z1 := (unhide HL7).c1 hlt8
                    have hvl := (unhide HL7).lt
                    have HL8 := hide ((unhide HL7).kp0 ((Kp.refl [] w7).alloc (.cells #[.bool (v k3).t, .string (v k3).s] 24)))
                    clear HL HL7
                    generalize (v k3).t = vt3 at *
                    generalize (v k3).s = vs3 at *
                    go_wp2_with fail
                    go_quiet (fail)
                    go_wp2_with fail
                    exact ⟨⟨k3 + 1, rs4, by omega, by go_num, (unhide HL8).kp0 ((Kp.refl [] _).drewN _)⟩, by simp [intOf]; omega⟩
                  · go_wp2_with fail
                    exact ⟨⟨k + 1, _, _, _, _, _, by omega, by go_num, HL⟩, by simp [intOf]; omega⟩
            · have ed1 : (d == 1) = false := beq_eq_false_iff_ne.2 hd1
              clear hd1
              by_cases hd3 : d = 3
              · subst hd3
                go_wp2_with fail
                generalize wr.alloc (.cells #[.int .i64 3, .int .i64 kk, .int .i64 to_, .bool t, .string s, .slice (st2 k).a (st2 k).ps.length (st2 k).c] 89) = W at *
                clear q0 q1 q2 q3 q4 q5 HV
                refine (sees_write (st2 k).a (st2 k).c (st2 k).ps (unhide HQ1) (unhide HPR) (by omega)).mono ?_
                rintro e w6 ⟨x, yy, rfl, f2, m2, HQ2⟩
                clear HQ1
                go_wp2_with fail
                go_loopw [16] (fun i wr => ∃ (k3 : Nat) (rs : List Int), k3 ≤ 8 ∧ i = .int .i64 k3 ∧ Hid (Sees w wr tb db vb f2 m2 md n rs ws v)) (fun i _ => 8 - (intOf i).toNat)
                case atStart => exact ⟨0, _, by omega, rfl, HQ2⟩
                case round =>
                  obtain ⟨k3, rs3, hk3, rfl, HL⟩ := hrel
                  by_cases hlt8 : k3 < 8
                  · have j0 : (0 : Int) ≤ (k3 : Int) := by omega
                    have j1 : (k3 : Int) < 8 := by omega
                    go_wp2_with fail
                    refine (sees_get hlt8 (unhide HL)).mono ?_
                    rintro e w7 ⟨rfl, rs4, HL7⟩
                    have z0 := (unhide HL7).c0 hlt8
                    have z1 := (unhide HL7).c1 hlt8
                    have hvl := (unhide HL7).lt
                    have HL8 := hide ((unhide HL7).kp0 ((Kp.refl [] w7).alloc (.cells #[.bool (v k3).t, .string (v k3).s] 24)))
                    clear HL HL7
                    generalize (v k3).t = vt3 at *
                    generalize (v k3).s = vs3 at *
                    go_wp2_with fail
                    go_quiet (fail)
                    go_wp2_with fail
                    exact ⟨⟨k3 + 1, rs4, by omega, by go_num, (unhide HL8).kp0 ((Kp.refl [] _).drewN _)⟩, by simp [intOf]; omega⟩
                  · go_wp2_with fail
                    exact ⟨⟨k + 1, _, _, _, _, _, by omega, by go_num, HL⟩, by simp [intOf]; omega⟩
              · have ed3 : (d == 3) = false := beq_eq_false_iff_ne.2 hd3
                clear hd3
                by_cases hd4 : d = 4
                · subst hd4
                  go_wp2_with fail
                  generalize wr.alloc (.cells #[.int .i64 4, .int .i64 kk, .int .i64 to_, .bool t, .string s, .slice (st2 k).a (st2 k).ps.length (st2 k).c] 89) = W at *
                  clear q0 q1 q2 q3 q4 q5 HV
                  refine (sees_clear (unhide HQ1)).mono ?_
                  rintro e w6 ⟨x, rfl, f2, HQ2⟩
                  clear HQ1
                  go_wp2_with fail
                  go_loopw [16] (fun i wr => ∃ (k3 : Nat) (rs : List Int), k3 ≤ 8 ∧ i = .int .i64 k3 ∧ Hid (Sees w wr tb db vb f2 m md n rs ws v)) (fun i _ => 8 - (intOf i).toNat)
                  case atStart => exact ⟨0, _, by omega, rfl, HQ2⟩
                  case round =>
                    obtain ⟨k3, rs3, hk3, rfl, HL⟩ := hrel
                    by_cases hlt8 : k3 < 8
                    · have j0 : (0 : Int) ≤ (k3 : Int) := by omega
                      have j1 : (k3 : Int) < 8 := by omega
                      go_wp2_with fail
                      refine (sees_get hlt8 (unhide HL)).mono ?_
                      rintro e w7 ⟨rfl, rs4, HL7⟩
                      have z0 := (unhide HL7).c0 hlt8
                      have z1 := (unhide HL7).c1 hlt8
                      have hvl := (unhide HL7).lt
                      have HL8 := hide ((unhide HL7).kp0 ((Kp.refl [] w7).alloc (.cells #[.bool (v k3).t, .string (v k3).s] 24)))
                      clear HL HL7
                      generalize (v k3).t = vt3 at *
                      generalize (v k3).s = vs3 at *
                      go_wp2_with fail
                      go_quiet (fail)
                      go_wp2_with fail
                      exact ⟨⟨k3 + 1, rs4, by omega, by go_num, (unhide HL8).kp0 ((Kp.refl [] _).drewN _)⟩, by simp [intOf]; omega⟩
                    · go_wp2_with fail
                      exact ⟨⟨k + 1, _, _, _, _, _, by omega, by go_num, HL⟩, by simp [intOf]; omega⟩
                · have ed4 : (d == 4) = false := beq_eq_false_iff_ne.2 hd4
                  clear hd4
                  go_wp2_with fail
                  generalize wr.alloc (.cells #[.int .i64 d, .int .i64 kk, .int .i64 to_, .bool t, .string s, .slice (st2 k).a (st2 k).ps.length (st2 k).c] 89) = W at *
                  clear q0 q1 q2 q3 q4 q5 HV
                  go_loopw [16] (fun i wr => ∃ (k3 : Nat) (rs : List Int), k3 ≤ 8 ∧ i = .int .i64 k3 ∧ Hid (Sees w wr tb db vb f m md n rs ws v)) (fun i _ => 8 - (intOf i).toNat)
                  case atStart => exact ⟨0, _, by omega, rfl, HQ1⟩
                  case round =>
                    obtain ⟨k3, rs3, hk3, rfl, HL⟩ := hrel
                    by_cases hlt8 : k3 < 8
                    · have j0 : (0 : Int) ≤ (k3 : Int) := by omega
                      have j1 : (k3 : Int) < 8 := by omega
                      go_wp2_with fail
                      refine (sees_get hlt8 (unhide HL)).mono ?_
                      rintro e w7 ⟨rfl, rs4, HL7⟩
                      have z0 := (unhide HL7).c0 hlt8
                      have z1 := (unhide HL7).c1 hlt8
                      have hvl := (unhide HL7).lt
                      have HL8 := hide ((unhide HL7).kp0 ((Kp.refl [] w7).alloc (.cells #[.bool (v k3).t, .string (v k3).s] 24)))
                      clear HL HL7
                      generalize (v k3).t = vt3 at *
                      generalize (v k3).s = vs3 at *
                      go_wp2_with fail
                      go_quiet (fail)
                      go_wp2_with fail
                      exact ⟨⟨k3 + 1, rs4, by omega, by go_num, (unhide HL8).kp0 ((Kp.refl [] _).drewN _)⟩, by simp [intOf]; omega⟩
                    · go_wp2_with fail
                      exact ⟨⟨k + 1, _, _, _, _, _, by omega, by go_num, HL⟩, by simp [intOf]; omega⟩
          · go_wp2_with fail
            go_ret
            exact ⟨rfl, (unhide HQ).t.kp.below (Nat.le_refl _) (by simp)⟩
      · go_wp2_with fail
        refine (dnew54 md 0 w2).mono ?_
        rintro e w3 (⟨h1, h2, _⟩ | ⟨_, rfl, hw3⟩)
        · exact absurd ⟨h1, h2⟩ hmd
        subst w3
        go_wp2_with fail
        go_ret
        exact ⟨rfl, (unhide HT).kp.below (Nat.le_refl _) (by simp)⟩
end Go.Proofs.Ytainekjcdmabbaa
