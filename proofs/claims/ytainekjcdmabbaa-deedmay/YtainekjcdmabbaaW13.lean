/- The law DeedMay, walked: it answers true, and nothing that was there is changed. -/
import Derived.Test.YtainekjcdmabbaaX9
import Derived.Test.YtainekjcdmabbaaX4
import Derived.Test.YtainekjcdmabbaaY2
namespace Go.Proofs.Ytainekjcdmabbaa
open Go.RowKit
set_option maxRecDepth 20000
attribute [local go_sem ↓] Go.wp_at_zero Go.wp_at_succ

/-- Put, as DeedMay asks it. -/
theorem may_put {w0 w W : World} {tb db : Nat} {f : Nat → List Ver} {n : Nat} {md y : Int} {rs : List Int} {ws : List Ver} (k : Int) (t : Bool) (s : ByteArray) (h : Tdx w0 w tb db f n md y rs ws []) (hs : s.size ≤ maxLen) (hW : Kp [] w W) :
    Calls Try.prog 57 #[.pointer (some ⟨db, 0, none⟩), .int .i64 k, .agg #[.bool t, .string s]] W fun e w' => ∃ x, e = .returned (.int .i64 x) ∧ Hid (Tdx w0 w' tb db f n md y rs (dpw md ws k t s) []) := by
  refine (tdx_put k t s (h.kp0 hW) hs).mono ?_
  rintro e w' ⟨rfl, h1, _⟩
  exact ⟨_, rfl, h1⟩

theorem cin_step {L : List Ver} {x : Int} {c : Bool} {d : Nat} (h : ¬ va L d = x) : (c || cin L x (d + 1)) = (c || cin L x d) := by simp [cin, h]
theorem cin_yes {L : List Ver} {x : Int} {c : Bool} {d : Nat} (h : va L d = x) : (c || cin L x (d + 1)) = true := by simp [cin, h]
theorem cin_true {L : List Ver} {x : Int} {c : Bool} {d : Nat} (h : (c || cin L x d) = true) : (c || cin L x (d + 1)) = true := by
  rcases Bool.or_eq_true_iff.1 h with q | q
  · simp [q]
  · simp [cin, q]

set_option maxHeartbeats 8000000 in
set_option maxRecDepth 100000 in
theorem dmay13 (a : Option Addr) (n1 c : Nat) (st : Nat → TStep) (md : Int) (a2 : Option Addr) (n2 c2 : Nat) (st2 : Nat → DStep) (pa : Option Addr) (pc : Nat) (ps : List Ver) (w : World) (h : TSts w a n1 st) (h2 : DSts w a2 n2 st2) (hp : Prs w pa ps) :
    Calls Try.prog 13 #[.slice a n1 c, .int .i64 md, .slice a2 n2 c2, .slice pa ps.length pc] w fun e w' => e = .returned (.bool true) ∧ Below w.heap.size w w' := by
  have HS := hide h
  have HS2 := hide h2
  have HP := hide hp
  clear h h2 hp
  go_enter Try.func13, Try.ntmps13
  go_wp2_with fail
  refine (dbegun52 w).mono ?_
  rintro e w1 ⟨rfl, hk⟩
  have HK1 := hide hk
  clear hk
  go_wp2_with fail
  refine (gtable29 a n1 c st w1 ((unhide HS).kp0 (unhide HK1))).mono ?_
  rintro e w1' ⟨q, rfl, hq, hw'⟩
  subst w1'
  cases q with
  | true =>
    clear hq
    go_wp2_with fail
    go_ret
    exact ⟨rfl, (unhide HK1).below (Nat.le_refl _) (by simp)⟩
  | false =>
    obtain ⟨hn, hps⟩ := hq rfl
    have HPS := hide hps
    clear hq hps
    go_wp2_with fail
    refine (gdeeds53 a2 n2 c2 st2 w1 ((unhide HS2).kp0 (unhide HK1))).mono ?_
    rintro e w1' ⟨q, rfl, hq, hw'⟩
    subst w1'
    cases q with
    | true =>
      clear hq
      go_wp2_with fail
      go_ret
      exact ⟨rfl, (unhide HK1).below (Nat.le_refl _) (by simp)⟩
    | false =>
      obtain ⟨hn2, hps2⟩ := hq rfl
      clear hq hps2
      go_wp2_with fail
      refine (gpairs30 pa pc ps w1 ((unhide HP).kp0 (unhide HK1))).mono ?_
      rintro e w1' ⟨q, rfl, hq, hw'⟩
      subst w1'
      cases q with
      | true =>
        clear hq
        go_wp2_with fail
        go_ret
        exact ⟨rfl, (unhide HK1).below (Nat.le_refl _) (by simp)⟩
      | false =>
        have h50 := hq rfl
        clear hq
        go_wp2_with fail
        refine (tables_tbx a n1 c st w w1 (unhide HS) (unhide HK1) hn (unhide HPS)).mono ?_
        rintro e w2 ⟨tb, sb, f, n, rfl, HT⟩
        by_cases hm1 : md < 1
        · go_wp2_with fail
          go_ret
          exact ⟨rfl, (unhide HT).kp.below (Nat.le_refl _) (by simp)⟩
        by_cases hm3 : 3 < md
        · go_wp2_with fail
          go_ret
          exact ⟨rfl, (unhide HT).kp.below (Nat.le_refl _) (by simp)⟩
        go_wp2_with fail
        refine (tbx_last (unhide HT)).mono ?_
        rintro e w2' ⟨rfl, hw2⟩
        subst w2'
        go_wp2_with fail
        refine (tdx_new md n (unhide HT) (by omega)).mono ?_
        rintro e w3 ⟨db, rfl, H3⟩
        have HI := hide (unhide HT).inv
        clear HT
        go_wp2_with fail
        go_loopw [13] (fun i wr => ∃ (k : Nat) (rs : List Int) (ws : List Ver), k ≤ n2 ∧ i = .int .i64 k ∧ Hid (Tdx w wr tb db f n md n rs ws [])) (fun i _ => n2 - (intOf i).toNat)
        case atStart => exact ⟨0, [], [], Nat.zero_le _, rfl, H3⟩
        case round =>
          obtain ⟨k, rs, ws, hk, rfl, HQ⟩ := hrel
          by_cases hlt : k < n2
          · obtain ⟨lb, lo, rfl, hst⟩ := (unhide HS2).2 (by omega)
            have s1 := (hst k hlt).kp0 (unhide HQ).kp
            have q0 := s1.c0
            have q1 := s1.c1
            have q3 := s1.c3
            have q4 := s1.c4
            have hsz := s1.str
            have i0 : (0 : Int) ≤ (k : Int) := by omega
            have i1 : (k : Int) < (n2 : Int) := by omega
            clear s1 hst
            generalize (st2 k).d = d at *
            generalize (st2 k).k = kk at *
            generalize (st2 k).t = t at *
            generalize (st2 k).s = s at *
            by_cases hd0 : d = 0
            · subst hd0
              go_wp2_with fail
              refine (tdx_get kk (unhide HQ)).mono ?_
              rintro e w4 ⟨rfl, H4, _⟩
              clear q0 q1 q3 q4
              go_wp2_with fail
              exact ⟨⟨k + 1, _, _, by omega, by go_num, H4⟩, by simp [intOf]; omega⟩
            · have ed0 : (d == 0) = false := beq_eq_false_iff_ne.2 hd0
              clear hd0
              by_cases hd1 : d = 1
              · subst hd1
                go_wp2_with fail
                go_region_with (go_at_call 57; refine (may_put kk t s (unhide HQ) hsz (Kp.refl [] _).drew).mono ?_; rintro e w4 ⟨x, rfl, H4⟩)
                all_goals
                  go_wp2_with fail
                  exact ⟨⟨k + 1, _, _, by omega, by go_num, H4⟩, by simp [intOf]; omega⟩
              · have ed1 : (d == 1) = false := beq_eq_false_iff_ne.2 hd1
                clear hd1
                go_wp2_with fail
                exact ⟨⟨k + 1, _, _, by omega, by go_num, HQ⟩, by simp [intOf]; omega⟩
          · go_wp2_with fail
            refine (tdx_may (unhide HQ) 0 (dm_zero (unhide HI))).mono ?_
            rintro e w4 ⟨rfl, H4, _⟩
            clear HQ
            go_wp2_with fail
            refine (tdx_write pa pc ps (unhide H4) ((unhide HP).kp0 (unhide H4).kp) (by omega) (inside_of (unhide HP) _)).mono ?_
            rintro e w5 ⟨rfl, H5, _⟩
            clear H4
            by_cases hc : wcode n ps = 0
            · obtain ⟨e1, e2⟩ := wst_yes hc
              have HDM := hide (dm_commit (md := md) (rs := rs) (ws := ws) (unhide HI) hc)
              have hkeys := pf_keys (wcode_zero hc).1
              rw [hc]
              clear hc e1 e2
              generalize wnum n ps = nn at *
              generalize wst f n ps = f' at *
              generalize wn n ps = n' at *
              go_wp2_with fail
              refine (tdx_writes (unhide H5)).mono ?_
              rintro e w6 ⟨wa, wc, rfl, HW6, H6, _⟩
              clear H5
              go_wp2_with fail
              refine (tdx_reads (unhide H6)).mono ?_
              rintro e w7 ⟨ra, rc, rfl, HR7, H7, HK7⟩
              have HW7 := hide ((unhide HW6).kp0 (unhide HK7))
              clear H6 HW6 HK7
              have hwl := wk_len ws 8
              have hrl := rk_len rs 8
              generalize wk ws 8 = L at *
              generalize rk rs 8 = R at *
              go_wp2_with fail
              go_loopw [16, 17, 20] (fun cc ss i wr => ∃ k : Nat, k ≤ ps.length ∧ cc = .bool (ccl L ps k) ∧ ss = .bool (csl R ps k) ∧ i = .int .i64 k ∧ Hid (Kp [] w7 wr)) (fun _ _ i _ => ps.length - (intOf i).toNat)
              case atStart => exact ⟨0, Nat.zero_le _, rfl, rfl, rfl, Kp.refl _ _⟩
              case round =>
                obtain ⟨k2, hk2, rfl, rfl, rfl, HK⟩ := hrel
                by_cases hlt2 : k2 < ps.length
                · obtain ⟨pg, po, rfl, hps⟩ := (unhide HP).mem (by omega)
                  have HPL := hide hps
                  have i0 : (0 : Int) ≤ (k2 : Int) := by omega
                  have i1 : (k2 : Int) < (ps.length : Int) := by omega
                  clear hps
                  go_wp2_with fail
                  go_loopw [16, 21] (fun cc i wr => ∃ d : Nat, d ≤ L.length ∧ cc = .bool (ccl L ps k2 || cin L (va ps k2) d) ∧ i = .int .i64 d ∧ Hid (Kp [] w7 wr)) (fun _ i _ => L.length - (intOf i).toNat)
                  case atStart => exact ⟨0, Nat.zero_le _, by simp [cin], rfl, HK⟩
                  case round =>
                    obtain ⟨d, hd, rfl, rfl, HK8⟩ := hrel
                    have q0 := ((unhide HPL).kp ((unhide H7).kp.trans0 (unhide HK8)) (by simp)).at0 k2 hlt2
                    by_cases hltd : d < L.length
                    · obtain ⟨g, o, rfl, hs⟩ := (unhide HW7).kp0 (unhide HK8) (by omega)
                      have p0 := hs.at0 d hltd
                      have d0 : (0 : Int) ≤ (d : Int) := by omega
                      have d1 : (d : Int) < (L.length : Int) := by omega
                      clear hs
                      cases hcc : (ccl L ps k2 || cin L (va ps k2) d) with
                      | true =>
                        have HN := hide (cin_true hcc)
                        clear hcc
                        go_wp2_with fail
                        go_quiet (fail)
                        go_wp2_with fail
                        exact ⟨⟨d + 1, by omega, by rw [unhide HN], by go_num, (unhide HK8).drewN _⟩, by simp [intOf]; omega⟩
                      | false =>
                        by_cases hx : va L d = va ps k2
                        · have HN := hide (cin_yes (c := ccl L ps k2) hx)
                          rw [hx] at p0
                          clear hcc hx
                          generalize va ps k2 = x at *
                          go_wp2_with fail
                          go_quiet (fail)
                          go_wp2_with fail
                          exact ⟨⟨d + 1, by omega, by rw [unhide HN], by go_num, (unhide HK8).drewN _⟩, by simp [intOf]; omega⟩
                        · have HN := hide ((cin_step (c := ccl L ps k2) hx).trans hcc)
                          have ex : (va L d == va ps k2) = false := beq_eq_false_iff_ne.2 hx
                          clear hcc hx
                          generalize va L d = y at *
                          generalize va ps k2 = x at *
                          go_wp2_with fail
                          go_quiet (fail)
                          go_wp2_with fail
                          exact ⟨⟨d + 1, by omega, by rw [unhide HN], by go_num, (unhide HK8).drewN _⟩, by simp [intOf]; omega⟩
                    · have ed : d = L.length := by omega
                      subst ed
                      have HR8 := hide ((unhide HR7).kp0 (unhide HK8))
                      have HN : Hid ((ccl L ps k2 || cin L (va ps k2) L.length) = ccl L ps (k2 + 1)) := rfl
                      generalize (ccl L ps k2 || cin L (va ps k2) L.length) = cb at *
                      cases hss : csl R ps k2 with
                      | true =>
                        have HN2 : Hid (csl R ps (k2 + 1) = true) := by simp [csl, hss]; exact trivial
                        clear hss
                        go_wp2_with fail
                        exact ⟨⟨k2 + 1, by omega, by rw [unhide HN], by rw [unhide HN2], by go_num, HK8⟩, by simp [intOf]; omega⟩
                      | false =>
                        have HN2 : Hid (csl R ps (k2 + 1) = decide (va ps k2 ∈ R)) := by simp [csl, hss]; exact trivial
                        clear hss
                        go_wp2_with fail
                        refine (in72 ra rc (va ps k2) _ (unhide HR8) (by omega)).mono ?_
                        rintro e w' ⟨rfl, hw'⟩
                        subst w'
                        go_wp2_with fail
                        exact ⟨⟨k2 + 1, by omega, by rw [unhide HN], by rw [unhide HN2], by go_num, HK8⟩, by simp [intOf]; omega⟩
                · have ek : k2 = ps.length := by omega
                  subst ek
                  have H9 := hide ((unhide H7).kp0 (unhide HK))
                  have hdm := unhide HDM
                  clear HDM H7 HW7 HR7 HK
                  cases hcc : ccl L ps ps.length with
                  | true =>
                    rw [hcc] at hdm
                    have HDM2 : Hid (dm f' md n rs ws = 10) := hdm
                    clear hdm hcc
                    cases hss : csl R ps ps.length with
                    | true =>
                      clear hss
                      by_cases hm2 : md = 2
                      · subst hm2
                        go_wp2_with fail
                        refine (tdx_may (unhide H9) 10 (unhide HDM2)).mono ?_
                        rintro e w10 ⟨rfl, H10, _⟩
                        go_wp2_with fail
                        go_ret
                        exact ⟨rfl, (unhide H10).kp.below (Nat.le_refl _) (by simp)⟩
                      · have em2 : (md == 2) = false := beq_eq_false_iff_ne.2 hm2
                        go_wp2_with fail
                        refine (tdx_may (unhide H9) 10 (unhide HDM2)).mono ?_
                        rintro e w10 ⟨rfl, H10, _⟩
                        go_wp2_with fail
                        go_ret
                        exact ⟨rfl, (unhide H10).kp.below (Nat.le_refl _) (by simp)⟩
                    | false =>
                      clear hss
                      go_wp2_with fail
                      refine (tdx_may (unhide H9) 10 (unhide HDM2)).mono ?_
                      rintro e w10 ⟨rfl, H10, _⟩
                      go_wp2_with fail
                      go_ret
                      exact ⟨rfl, (unhide H10).kp.below (Nat.le_refl _) (by simp)⟩
                  | false =>
                    rw [hcc] at hdm
                    clear hcc
                    cases hss : csl R ps ps.length with
                    | true =>
                      rw [hss] at hdm
                      clear hss
                      by_cases hm2 : md = 2
                      · subst hm2
                        have HDM2 : Hid (dm f' 2 n rs ws = 11) := hdm
                        clear hdm
                        go_wp2_with fail
                        refine (tdx_may (unhide H9) 11 (unhide HDM2)).mono ?_
                        rintro e w10 ⟨rfl, H10, _⟩
                        go_wp2_with fail
                        go_ret
                        exact ⟨rfl, (unhide H10).kp.below (Nat.le_refl _) (by simp)⟩
                      · have em2 : (md == 2) = false := beq_eq_false_iff_ne.2 hm2
                        have HDM2 : Hid (dm f' md n rs ws = 0) := by rw [hdm]; unfold mwant; simp [hm2]; exact trivial
                        clear hdm
                        go_wp2_with fail
                        refine (tdx_may (unhide H9) 0 (unhide HDM2)).mono ?_
                        rintro e w10 ⟨rfl, H10, _⟩
                        go_wp2_with fail
                        go_ret
                        exact ⟨rfl, (unhide H10).kp.below (Nat.le_refl _) (by simp)⟩
                    | false =>
                      rw [hss] at hdm
                      have HDM2 : Hid (dm f' md n rs ws = 0) := by rw [hdm]; unfold mwant; simp; exact trivial
                      clear hdm hss
                      go_wp2_with fail
                      refine (tdx_may (unhide H9) 0 (unhide HDM2)).mono ?_
                      rintro e w10 ⟨rfl, H10, _⟩
                      go_wp2_with fail
                      go_ret
                      exact ⟨rfl, (unhide H10).kp.below (Nat.le_refl _) (by simp)⟩
            · obtain ⟨e1, e2, e3⟩ := wst_not (f := f) hc
              rw [e1, e2] at H5
              rw [e3]
              have ec : (wcode n ps == 0) = false := beq_eq_false_iff_ne.2 hc
              clear e1 e2 e3
              generalize wcode n ps = cc at *
              go_wp2_with fail
              refine (tdx_may (unhide H5) 0 (dm_zero (unhide HI))).mono ?_
              rintro e w6 ⟨rfl, H6, _⟩
              go_wp2_with fail
              go_ret
              exact ⟨rfl, (unhide H6).kp.below (Nat.le_refl _) (by simp)⟩
end Go.Proofs.Ytainekjcdmabbaa
