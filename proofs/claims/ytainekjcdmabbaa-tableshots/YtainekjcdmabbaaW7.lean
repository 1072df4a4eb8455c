/- The law TableShots, walked: it answers true, and nothing that was there is changed. -/
import Derived.Test.YtainekjcdmabbaaX4
import Derived.Test.YtainekjcdmabbaaE7
namespace Go.Proofs.Ytainekjcdmabbaa
open Go.RowKit
set_option maxRecDepth 20000
attribute [local go_sem ↓] Go.wp_at_zero Go.wp_at_succ

set_option maxHeartbeats 4000000 in
set_option maxRecDepth 100000 in
theorem tshots7 (a : Option Addr) (n1 c : Nat) (st : Nat → TStep) (pa : Option Addr) (pc : Nat) (ps : List Ver) (a2 : Option Addr) (n2 c2 : Nat) (st2 : Nat → TStep) (w : World) (h : TSts w a n1 st) (hp : Prs w pa ps) (h2 : TSts w a2 n2 st2) :
    Calls Try.prog 7 #[.slice a n1 c, .slice pa ps.length pc, .slice a2 n2 c2] w fun e w' => e = .returned (.bool true) ∧ Below w.heap.size w w' := by
  have HS := hide h
  have HP := hide hp
  have HS2 := hide h2
  clear h hp h2
  go_enter Try.func7, Try.ntmps7
  go_wp2_with fail
  refine (tbegun28 w).mono ?_
  rintro e w1 ⟨rfl, hk⟩
  have HK1 := hide hk
  clear hk
  go_wp2_with fail
  refine (gtable29 a n1 c st w1 ((unhide HS).kp0 (unhide HK1))).mono ?_
  rintro e w1' ⟨q, rfl, hq, hw'⟩
  subst w1'
  cases q with
  | true =>
    clear hq
    go_wp2_with fail
    go_ret
    exact ⟨rfl, (unhide HK1).below (Nat.le_refl _) (by simp)⟩
  | false =>
    obtain ⟨hn, hps⟩ := hq rfl
    have HPS := hide hps
    clear hq hps
    go_wp2_with fail
    refine (gtable29 a2 n2 c2 st2 w1 ((unhide HS2).kp0 (unhide HK1))).mono ?_
    rintro e w1' ⟨q, rfl, hq, hw'⟩
    subst w1'
    cases q with
    | true =>
      clear hq
      go_wp2_with fail
      go_ret
      exact ⟨rfl, (unhide HK1).below (Nat.le_refl _) (by simp)⟩
    | false =>
      obtain ⟨hn2, hps2⟩ := hq rfl
      have HPS2 := hide hps2
      clear hq hps2
      go_wp2_with fail
      refine (gpairs30 pa pc ps w1 ((unhide HP).kp0 (unhide HK1))).mono ?_
      rintro e w1' ⟨q, rfl, hq, hw'⟩
      subst w1'
      cases q with
      | true =>
        clear hq
        go_wp2_with fail
        go_ret
        exact ⟨rfl, (unhide HK1).below (Nat.le_refl _) (by simp)⟩
      | false =>
        have h50 := hq rfl
        clear hq
        go_wp2_with fail
        refine (tables_tbx a n1 c st w w1 (unhide HS) (unhide HK1) hn (unhide HPS)).mono ?_
        rintro e w2 ⟨tb, sb, f, n, rfl, HT⟩
        go_wp2_with fail
        refine (tbx_last (unhide HT)).mono ?_
        rintro e w2' ⟨rfl, hw2⟩
        subst w2'
        go_wp2_with fail
        refine (tbx_sheet_last (unhide HT)).mono ?_
        rintro e w3 ⟨rfl, HT3, _⟩
        have HI := hide (unhide HT3).inv
        clear HT
        generalize hv : shw f n n 8 = v at *
        have HV := hide hv
        clear hv
        go_wp2_with (refine wpList_store_row rfl 66 _ _ rfl w3.heap.size (wagg v) rfl rfl 66 _ (heap_alloc_new w3 _) Try.size66 rfl (wagg_one _) ?_; rw [World.setRow_alloc_new])
        obtain ⟨HT4, HV4⟩ := tbx_var (unhide HT3) v
        generalize w3.alloc (.cells (wagg v) 66) = W4 at *
        generalize w3.heap.size = p at *
        clear HT3
        refine (tbx_write pa pc ps (unhide HT4) ((unhide HP).kp0 (unhide HT4).kp) (by omega) (inside_of (unhide HP) _)).mono ?_
        rintro e w5 ⟨rfl, HT5, HX5⟩
        have HV5 := hide (((unhide HX5) p (by simp)).trans (unhide HV4))
        clear HT4 HV4 HX5
        by_cases hc : wcode n ps = 0
        · obtain ⟨e1, e2⟩ := wst_yes hc
          have e2' : wnum n ps = ((n + 1 : Nat) : Int) := by rw [e2]; push_cast; rfl
          have hnow := shots_now' (unhide HI) hc
          rw [unhide HV] at hnow
          have hkeys := pf_keys (wcode_zero hc).1
          rw [hc, e2']
          rw [e1] at HT5
          clear e1 e2 e2' hc
          generalize wst f n ps = f' at *
          generalize n + 1 = m at *
          have HI' := hide (unhide HT5).inv
          have hm40 := (unhide HI').n40
          go_wp2_with fail
          refine (tbx_sheet_last (unhide HT5)).mono ?_
          rintro e w6 ⟨rfl, HT6, HX6⟩
          have HV6 := hide (((unhide HX6) p (by simp)).trans (unhide HV5))
          clear HT5 HV5 HX6
          generalize hu : shw f' m m 8 = u at *
          have HU := hide hu
          have HNOW := hide hnow
          have HKEY := hide hkeys
          clear hu hnow hkeys
          obtain ⟨HT7, HV7⟩ := tbx_var (unhide HT6) u
          have hV7 := (((Kp.refl [] w6).alloc (.cells (wagg u) 66)).block p (lt_of_block (unhide HV6)) (by simp)).trans (unhide HV6)
          have HL0 : Hid (Lp1 w (w6.alloc (.cells (wagg u) 66)) tb f' m p w6.heap.size v u ps 0) := ⟨unhide HT7, unhide HV7, Nat.ne_of_lt (lt_of_block (unhide HV6)), v, hV7, by simp⟩
          clear HT6 HV6 HT7 HV7 hV7
          go_wp2_with (refine wpList_store_row rfl 66 _ _ rfl w6.heap.size (wagg u) rfl rfl 66 _ (heap_alloc_new w6 _) Try.size66 rfl (wagg_one _) ?_; rw [World.setRow_alloc_new]; generalize w6.alloc (.cells (wagg u) 66) = W7 at *; generalize w6.heap.size = r at *)
          go_loopw [18] (fun i wr => ∃ k : Nat, k ≤ ps.length ∧ i = .int .i64 k ∧ Hid (Lp1 w wr tb f' m p r v u ps k)) (fun i _ => ps.length - (intOf i).toNat)
          case atStart => exact ⟨0, Nat.zero_le _, rfl, HL0⟩
          case round =>
            obtain ⟨k, hk, rfl, HL⟩ := hrel
            by_cases hlt : k < ps.length
            · obtain ⟨pg, po, rfl, hs⟩ := (unhide HP).mem (by omega)
              have hs2 := hs.kp (unhide HL).tbx.kp (by simp)
              have p0 := hs2.at0 k hlt
              have p1 := hs2.at1 k hlt
              have p2 : wr.cell? ⟨pg, po + k * 3 + 1 + 1, none⟩ = some (.string (vb ps k)) := hs2.at2 k hlt
              have hkk := (unhide HKEY) k hlt
              obtain ⟨j, hj, hv⟩ : ∃ j : Nat, j < 8 ∧ va ps k = (j : Int) := ⟨(va ps k).toNat, by omega, by omega⟩
              have hkb : keyB (j : Int) = true := by simp [keyB]; omega
              rw [hv] at p0
              have i0 : (0 : Int) ≤ (k : Int) := by omega
              have i1 : (k : Int) < (ps.length : Int) := by omega
              have j0 : (0 : Int) ≤ (j : Int) := by omega
              have j1 : (j : Int) < 8 := by omega
              obtain ⟨⟨x0, g0⟩, ⟨x1, g1⟩, g2, g3, HN⟩ := (unhide HL).next (Kp.refl [] wr).drew hlt hj hv
              simp only [World.cell?_drew, World.frozen?_drew] at g0 g1 g2 g3
              clear hs hs2 hv hkk
              go_wp2_with fail
              refine (key12 _ _).mono ?_
              rintro e w' ⟨rfl, hw'⟩
              subst w'
              rw [hkb]
              go_wp2_with fail
              go_region
              all_goals
                go_wp2_with fail
                exact ⟨⟨k + 1, by omega, by go_num, HN⟩, by simp [intOf]; omega⟩
            · have HVP := (unhide HL).done (by omega) (unhide HNOW)
              have HTL := hide (unhide HL).tbx
              have HRN := hide (unhide HL).now
              have HVPP := hide HVP
              have heq := eq66 u
              clear HVP HL
              go_wp2_with (first | (refine wpList_load66 (by rfl) _ rfl p rfl u (unhide HVPP) ?_) | (refine wpList_load66 (by rfl) _ rfl r rfl u (unhide HRN) ?_))
              refine (tbx_last (unhide HTL)).mono ?_
              rintro e w8 ⟨rfl, hw8⟩
              subst w8
              have HL2 : Hid (Lp2 w wr tb r u f' m) := ⟨f', m, (unhide HTL).sub (by simp), unhide HRN, Nat.le_refl _, fun _ _ => rfl⟩
              clear HTL HRN HVPP
              go_wp2_with fail
              go_loopw [19] (fun i wr => ∃ k : Nat, k ≤ n2 ∧ i = .int .i64 k ∧ Hid (Lp2 w wr tb r u f' m)) (fun i _ => n2 - (intOf i).toNat)
              case atStart => exact ⟨0, Nat.zero_le _, rfl, HL2⟩
              case round =>
                obtain ⟨k2, hk2, rfl, HL3⟩ := hrel
                by_cases hlt2 : k2 < n2
                · obtain ⟨lb, lo, rfl, hst⟩ := (unhide HS2).2 (by omega)
                  have hi0 : (0 : Int) ≤ (k2 : Int) := by omega
                  have hi1 : (k2 : Int) < (n2 : Int) := by omega
                  have hkp : Kp [] w _ := (show Kp [] w _ from by obtain ⟨_, _, t, _⟩ := unhide HL3; exact t.kp)
                  obtain ⟨q0, q1, q2, _⟩ := (hst.kp0 hkp) k2 hlt2
                  have q2' := q2
                  rw [show lo + k2 * 3 + 2 = lo + k2 * 3 + 1 + 1 from rfl] at q2'
                  have HST := hide hst
                  have hp50 := (unhide HPS2) k2 hlt2
                  clear hst hkp q2
                  by_cases hd : (st2 k2).d = 0
                  · rw [hd] at q0
                    clear hd
                    go_wp2_with fail
                    refine (lp2_write (unhide HL3) (unhide HST) hlt2 hp50).mono ?_
                    rintro e w9 ⟨x, yy, rfl, HL4⟩
                    go_wp2_with fail
                    exact ⟨⟨k2 + 1, by omega, by go_num, HL4⟩, by simp [intOf]; omega⟩
                  · generalize (st2 k2).d = d at *
                    have e0 : (d == 0) = false := beq_eq_false_iff_ne.2 hd
                    clear hd
                    go_wp2_with fail
                    exact ⟨⟨k2 + 1, by omega, by go_num, HL3⟩, by simp [intOf]; omega⟩
                · have HU2 := unhide HU
                  go_wp2_with fail
                  refine (lp2_sheet (by rw [unhide HU]; exact unhide HL3) (unhide HI')).mono ?_
                  rintro e w9 ⟨rfl, hr9, HK9⟩
                  rw [unhide HU] at hr9 ⊢
                  have HRP := hide ((((Kp.refl [] w9).alloc (.cells (wagg u) 66)).block r (lt_of_block hr9) (by simp)).trans hr9)
                  have HRQ := hide (heap_alloc_new w9 (.cells (wagg u) 66))
                  have HK10 := hide ((unhide HK9).alloc (.cells (wagg u) 66))
                  clear hr9 HU2
                  go_wp2_with (first | (refine wpList_store_row rfl 66 _ _ rfl w9.heap.size (wagg u) rfl rfl 66 _ (heap_alloc_new w9 _) Try.size66 rfl (wagg_one _) ?_; rw [World.setRow_alloc_new]; generalize w9.alloc (.cells (wagg u) 66) = W10 at *; generalize w9.heap.size = q at *) | (refine wpList_load66 (by rfl) _ rfl r rfl u (unhide HRP) ?_) | (refine wpList_load66 (by rfl) _ rfl q rfl u (unhide HRQ) ?_))
                  go_ret
                  exact ⟨rfl, (unhide HK10).below (Nat.le_refl _) (by simp)⟩
        · obtain ⟨e1, e2, e3⟩ := wst_not (f := f) hc
          rw [e1, e2] at HT5
          rw [e3]
          generalize wcode n ps = cc at *
          clear e1 e2 e3
          go_wp2_with fail
          refine (tbx_last (unhide HT5)).mono ?_
          rintro e w2' ⟨rfl, hw2⟩
          subst w2'
          go_wp2_with fail
          refine (tbx_sheet_last (unhide HT5)).mono ?_
          rintro e w6 ⟨rfl, HT6, HX6⟩
          have HV6 := hide (((unhide HX6) p (by simp)).trans (unhide HV5))
          rw [unhide HV]
          clear HT5 HV5 HX6
          obtain ⟨HT7, HV7⟩ := tbx_var (unhide HT6) v
          have HVP := hide ((((Kp.refl [] w6).alloc (.cells (wagg v) 66)).block p (lt_of_block (unhide HV6)) (by simp)).trans (unhide HV6))
          have heq := eq66 v
          clear HT6 HV6
          go_wp2_with (first | (refine wpList_store_row rfl 66 _ _ rfl w6.heap.size (wagg v) rfl rfl 66 _ (heap_alloc_new w6 _) Try.size66 rfl (wagg_one _) ?_; rw [World.setRow_alloc_new]; generalize w6.alloc (.cells (wagg v) 66) = W7 at *; generalize w6.heap.size = q at *) | (refine wpList_load66 (by rfl) _ rfl p rfl v (unhide HVP) ?_) | (refine wpList_load66 (by rfl) _ rfl q rfl v (unhide HV7) ?_))
          go_ret
          exact ⟨rfl, (unhide HT7).kp.below (Nat.le_refl _) (by simp)⟩
end Go.Proofs.Ytainekjcdmabbaa
