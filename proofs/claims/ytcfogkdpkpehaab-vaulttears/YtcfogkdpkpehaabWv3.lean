/- VaultTears, walked. -/
import Derived.Test.YtcfogkdpkpehaabV3
import Derived.Test.YtcfogkdpkpehaabM6
namespace Go.Proofs.Ytcfogkdpkpehaab
open Go.RowKit
set_option maxRecDepth 20000
attribute [local go_sem ↓] Go.wp_at_zero Go.wp_at_succ

set_option maxHeartbeats 4000000 in
theorem vtears13 (a : Option Addr) (n1 c : Nat) (st : Nat → VStep) (pa : Option Addr) (pc : Nat) (ps : List Ver) (keep : Int) (w : World) (h : VSts w a n1 st) (hp : Prs w pa ps) :
    Calls Try.prog 13 #[.slice a n1 c, .slice pa ps.length pc, .int .i64 keep] w fun e w' => e = .returned (.bool true) ∧ Below w.heap.size w w' := by
  have HS := hide h
  have HP := hide hp
  clear h hp
  go_enter Try.func13, Try.ntmps13
  go_wp2_with fail
  refine (vbegun w).mono ?_
  rintro e w1 ⟨rfl, hk1⟩
  have HK1 := hide hk1
  clear hk1
  go_wp2_with fail
  refine (gvault a n1 c st w1 ((unhide HS).kp0 (unhide HK1))).mono ?_
  rintro e w' ⟨q, rfl, hq, hw'⟩
  subst w'
  cases q with
  | true =>
    clear hq
    go_wp2_with fail
    go_ret
    exact ⟨rfl, (unhide HK1).below (Nat.le_refl _) (by simp)⟩
  | false =>
  have h150 := hq rfl
  clear hq
  go_wp2_with fail
  refine (gpairs30 pa pc ps w1 ((unhide HP).kp (unhide HK1) (by simp))).mono ?_
  rintro e w' ⟨q, rfl, hq, hw'⟩
  subst w'
  cases q with
  | true =>
    clear hq
    go_wp2_with fail
    go_ret
    exact ⟨rfl, (unhide HK1).below (Nat.le_refl _) (by simp)⟩
  | false =>
  have h50 := hq rfl
  clear hq
  go_wp2_with fail
  refine (newHouse w1).mono ?_
  rintro e w2 ⟨hb, vb, cb, rfl, c0, HH⟩
  go_wp2_with fail
  clear c0
  go_loopw [8] (fun i wr => ∃ k : Nat, k ≤ n1 ∧ i = .int .i64 k ∧ Hid (Hou w1 wr hb vb cb k)) (fun i _ => n1 - (intOf i).toNat)
  case atStart => exact ⟨0, by omega, rfl, HH⟩
  case round =>
    obtain ⟨k, hk, rfl, HI⟩ := hrel
    by_cases hlt : k < n1
    · obtain ⟨lb', lo, rfl, hst⟩ := (unhide HS).2 (by omega)
      obtain ⟨q0, q1, q2, q3, q4, q5, q6, q7, hsz⟩ := (hst k hlt).kp0 ((unhide HK1).trans0 (unhide HI).kp)
      have q7' : wr.cell? ⟨lb', lo + k * 8 + 7, none⟩ = some (.string (st k).s) := q7
      have i0 : (0 : Int) ≤ (k : Int) := by omega
      have i1 : (k : Int) < (n1 : Int) := by omega
      have HST := hstep (st k) wr (unhide HI) (by omega) hsz
      have HSTP := hide HST
      clear hst HST hsz
      generalize (st k) = x at *
      obtain ⟨xd, xk, xm, xa, xy, xp, xt, xs⟩ := x
      dsimp only at q0 q1 q2 q3 q4 q5 q6 q7 q7' HSTP
      go_wp2_with fail
      refine (unhide HSTP).mono ?_
      rintro e w4 ⟨rfl, HI4⟩
      clear q0 q1 q2 q3 q4 q5 q6 q7 q7' HSTP
      go_wp2_with fail
      exact ⟨⟨k + 1, by omega, by go_num, HI4⟩, by simp [intOf]; omega⟩
    · have i1 : ¬ (k : Int) < (n1 : Int) := by omega
      obtain ⟨tb, gb, sb, f, n, cs, sts, ds, hh⟩ := unhide HI
      have HVI := hide hh.vi
      have HZ := hide (zoo_swap hh.zoo)
      have HINV := hide (l_inv (unhide HZ))
      have hn40 := (unhide HINV).1.n40
      clear hh
      obtain ⟨v, hv⟩ : ∃ v, shw f n n 8 = v := ⟨_, rfl⟩
      have HV := hide hv
      clear hv
      obtain ⟨h0, v0, hl, vl⟩ := lk_facts (unhide HZ) (List.Mem.tail _ (List.Mem.head _)) (List.Mem.head _)
      go_wp2_with fail
      refine (l_last (unhide HZ)).mono ?_
      rintro e w5 ⟨rfl, hw5⟩
      subst w5
      go_wp2_with fail
      refine (l_sheet (shk_last (unhide HINV).1) v (by rw [unhide HV]) (unhide HZ)).mono ?_
      rintro e w5 ⟨rfl, HZ5⟩
      clear h0 v0 hl vl
      have HZ6 := hide (zoo_new1 (unhide HZ5) (wagg v))
      obtain ⟨h0, v0, hl, vl⟩ := lk_facts (unhide HZ6) (List.Mem.tail _ (List.Mem.tail _ (List.Mem.head _))) (List.Mem.head _)
      go_wp2_with (refine wpList_store_row rfl 89 _ _ rfl w5.heap.size (wagg v) rfl rfl 89 _ (heap_alloc_new w5 _) Try.size89 rfl (wagg_one _) ?_; rw [World.setRow_alloc_new])
      clear HZ5
      generalize w5.alloc (.cells (wagg v) 89) = W6 at HZ6 h0 v0 hl vl ⊢
      generalize w5.heap.size = p1 at HZ6 ⊢
      have hb0 : bcode f n 2 0 = 0 := by unfold bcode; simp
      have hbat : bat n 2 0 = n := by unfold bat; rw [if_neg (by omega)]
      refine (b_begin hb0 (unhide HZ6)).mono ?_
      rintro e w7 ⟨D, rfl, HZ7⟩
      rw [hbat] at HZ7
      clear h0 v0 hl vl hb0 hbat
      have HZ8 := hide (zoo_new2 (unhide HZ7) (wagg v))
      have HW1 := hide (zoo_varm (unhide HZ7) (List.Mem.tail _ (List.Mem.tail _ (List.Mem.head _))))
      go_wp2_with (first | (refine wpList_load66 (by rfl) _ rfl p1 rfl v (unhide HW1) ?_) | (refine wpList_store_row rfl 89 _ _ rfl w7.heap.size (wagg v) rfl rfl 89 _ (heap_alloc_new w7 _) Try.size89 rfl (wagg_one _) ?_; rw [World.setRow_alloc_new]))
      clear HZ7 HW1
      generalize w7.alloc (.cells (wagg v) 89) = W8 at HZ8 ⊢
      generalize w7.heap.size = p2 at HZ8 ⊢
      generalize hR : (CrtT cb sb f n cs [] sts :: List.map prt ds) = R at HZ8
      clear hR
      go_loopw [15] (fun i wr => ∃ j : Nat, j ≤ ps.length ∧ i = .int .i64 j ∧ ∃ ws, Hid (WOk ws) ∧ Hid (Zoo w1 wr (VltT vb tb gb f n cs [] :: BoxT D (dcells 2 n (ncell [] ws)) 145 :: BoxT p2 (wagg (lay v ws)) 89 :: BoxT p1 (wagg v) 89 :: HbT hb vb cb ds.length ds.length (ds.map Dd.db) (ds.map Dd.wb) :: R))) (fun i _ => ps.length - (intOf i).toNat)
      case atStart => exact ⟨0, Nat.zero_le _, rfl, [], wok_nil, by rw [lay_nil]; exact HZ8⟩
      case round =>
        obtain ⟨j, hj, rfl, ws, HWO, HL⟩ := hrel
        by_cases hjl : j < ps.length
        · obtain ⟨pg, po, rfl, hs⟩ := (unhide HP).mem (by omega)
          have hs2 := hs.kp ((unhide HK1).trans0 (unhide HL).kp) (by simp)
          have hsz := (unhide HP).str j hjl
          have g0 := hs2.at0 j hjl
          have g1 := hs2.at1 j hjl
          have g2 : wr.cell? ⟨pg, po + j * 3 + 1 + 1, none⟩ = some (.string (Ytcfogkdpkpehaab.vb ps j)) := hs2.at2 j hjl
          have j0 : (0 : Int) ≤ (j : Int) := by omega
          have j1 : (j : Int) < (ps.length : Int) := by omega
          have HG : Hid (∀ w', Kp [] w1 w' → w'.cell? ⟨pg, po + j * 3, none⟩ = some (.int .i64 (va ps j)) ∧ w'.cell? ⟨pg, po + j * 3 + 1, none⟩ = some (.bool (vt ps j)) ∧ w'.cell? ⟨pg, po + j * 3 + 1 + 1, none⟩ = some (.string (Ytcfogkdpkpehaab.vb ps j))) := fun w' hk => by
            have hs3 := hs.kp ((unhide HK1).trans0 hk) (by simp)
            exact ⟨hs3.at0 j hjl, hs3.at1 j hjl, hs3.at2 j hjl⟩
          clear hs hs2
          generalize va ps j = key at *
          generalize vt ps j = t at *
          generalize Ytcfogkdpkpehaab.vb ps j = s at *
          have HLD := hide ((unhide HL).kp0 (Kp.refl [] wr).drew)
          clear HL
          by_cases hz : dpc 2 key t s = 0
          · obtain ⟨hkb, jj, hjj, rfl⟩ := dpc_key hz
            have HWO2 := hide ((unhide HWO).put 2 jj t s)
            rw [dpw_yes hz] at HWO2
            have HPUT := hide (l_put jj t s hsz 0 hz (unhide HLD))
            rw [dpw_yes hz] at HPUT
            clear hz
            have jj0 : (0 : Int) ≤ (jj : Int) := by omega
            have jj1 : (jj : Int) < 8 := by omega
            go_wp2_with fail
            go_region_held3 (fun w' => w'.cell? ⟨pg, po + j * 3, none⟩ = some (.int .i64 jj) ∧ w'.cell? ⟨pg, po + j * 3 + 1, none⟩ = some (.bool t) ∧ w'.cell? ⟨pg, po + j * 3 + 1 + 1, none⟩ = some (.string s)) (first | with_reducible exact SG | go_keep)
              ((first | (go_at_call 49; with_reducible refine (unhide HPUT).mono ?_; rintro e w9 ⟨rfl, HZ9⟩; have SG := unhide HG w9 (unhide HZ9).kp) | (go_at_call 50; refine (key12 _ _).mono ?_; rintro e w' ⟨rfl, hw'⟩; subst w'; rw [hkb])))
            obtain ⟨⟨x0, b0⟩, ⟨x1, b1⟩, b2, b3, HN⟩ := zoo_setw ((unhide HZ9).kp0 (Kp.refl [] w9).drew) hjj t s
            simp only [World.cell?_drew, World.frozen?_drew] at b0 b1 b2 b3
            rw [← lay_put v ws jj t s] at HN
            obtain ⟨s0, s1, s2⟩ := SG
            clear g0 g1 g2 HPUT HLD
            go_wp2_with fail
            go_region
            all_goals
              go_wp2_with fail
              exact ⟨⟨j + 1, by omega, by go_num, _, HWO2, HN⟩, by simp [intOf]; omega⟩
          · have HZD := dpc_vals hz
            rw [show ws = dpw 2 ws key t s from (dpw_not hz).symm] at HWO
            have HNOT := hide (dpw_not (md := 2) (ws := ws) hz)
            obtain ⟨z, hz2⟩ : ∃ z, dpc 2 key t s = z := ⟨_, rfl⟩
            rw [hz2] at HZD
            have HPUT := hide (l_put key t s hsz z hz2 (unhide HLD))
            rw [unhide HNOT] at HPUT HWO
            clear hz2 hz HNOT
            rcases HZD with rfl | rfl | rfl
            all_goals
              go_wp2_with fail
              refine wp_region_held_drew (S := fun w' => w'.cell? ⟨pg, po + j * 3, none⟩ = some (.int .i64 key) ∧ w'.cell? ⟨pg, po + j * 3 + 1, none⟩ = some (.bool t) ∧ w'.cell? ⟨pg, po + j * 3 + 1 + 1, none⟩ = some (.string s)) (by kernel_rfl) (unhide HG _ (unhide HLD).kp) (fun hHeld => ?_)
              refine wpAnyH_tk (i := 0) (v := ?_) rfl (by kernel_rfl) (by kernel_rfl) (by kernel_rfl) (fun _ _ _ h => h) (Or.inl ⟨by rfl, ?_⟩) hHeld ?_
              rotate_left
              · intro w hSw
                try dsimp only at hSw
                go_simp
                try with_reducible rfl
              try simp only [Act.put, List.setIfInBounds_toArray, List.set_cons_zero, List.set_cons_succ]
              refine wpAnyH_tk (i := 1) (v := ?_) rfl (by kernel_rfl) (by kernel_rfl) (by kernel_rfl) (fun _ _ _ h => h) (Or.inl ⟨by rfl, ?_⟩) hHeld ?_
              rotate_left
              · intro w hSw
                try dsimp only at hSw
                go_simp
                try with_reducible rfl
              try simp only [Act.put, List.setIfInBounds_toArray, List.set_cons_zero, List.set_cons_succ]
              refine wpAnyH_tk (i := 2) (v := ?_) rfl (by kernel_rfl) (by kernel_rfl) (by kernel_rfl) (fun _ _ _ h => h) (Or.inl ⟨by rfl, ?_⟩) hHeld ?_
              rotate_left
              · intro w hSw
                try dsimp only at hSw
                go_simp
                try with_reducible rfl
              try simp only [Act.put, List.setIfInBounds_toArray, List.set_cons_zero, List.set_cons_succ]
              refine wpAnyH_tk (i := 3) (v := ?_) rfl (by kernel_rfl) (by kernel_rfl) (by kernel_rfl) (fun _ _ _ h => h) (Or.inl ⟨by rfl, ?_⟩) hHeld ?_
              rotate_left
              · intro w hSw
                try dsimp only at hSw
                go_simp
                try with_reducible rfl
              try simp only [Act.put, List.setIfInBounds_toArray, List.set_cons_zero, List.set_cons_succ]
              refine wpAnyH_tk (i := 4) (v := ?_) rfl (by kernel_rfl) (by kernel_rfl) (by kernel_rfl) (fun _ _ _ h => h) (Or.inl ⟨by rfl, ?_⟩) hHeld ?_
              rotate_left
              · intro w hSw
                try dsimp only at hSw
                go_simp
                try with_reducible rfl
              try simp only [Act.put, List.setIfInBounds_toArray, List.set_cons_zero, List.set_cons_succ]
              refine wpAnyH_tk (i := 5) (v := ?_) rfl (by kernel_rfl) (by kernel_rfl) (by kernel_rfl) (fun _ _ _ h => h) (Or.inl ⟨by rfl, ?_⟩) hHeld ?_
              rotate_left
              · intro w hSw
                try dsimp only at hSw
                go_simp
                try with_reducible rfl
              try simp only [Act.put, List.setIfInBounds_toArray, List.set_cons_zero, List.set_cons_succ]
              refine wpAnyH_tk (i := 6) (v := ?_) rfl (by kernel_rfl) (by kernel_rfl) (by kernel_rfl) (fun _ _ _ h => h) (Or.inl ⟨by rfl, ?_⟩) hHeld ?_
              rotate_left
              · intro w hSw
                try dsimp only at hSw
                go_simp
                try with_reducible rfl
              try simp only [Act.put, List.setIfInBounds_toArray, List.set_cons_zero, List.set_cons_succ]
              refine wpAnyH_tk (i := 7) (v := ?_) rfl (by kernel_rfl) (by kernel_rfl) (by kernel_rfl) (fun _ _ _ h => h) (Or.inl ⟨by rfl, ?_⟩) hHeld ?_
              rotate_left
              · intro w hSw
                try dsimp only at hSw
                go_simp
                try with_reducible rfl
              try simp only [Act.put, List.setIfInBounds_toArray, List.set_cons_zero, List.set_cons_succ]
              refine wpAnyH_tk (i := 8) (v := ?_) rfl (by kernel_rfl) (by kernel_rfl) (by kernel_rfl) (fun _ _ _ h => h) (Or.inl ⟨by rfl, ?_⟩) hHeld ?_
              rotate_left
              · intro w hSw
                try dsimp only at hSw
                go_simp
                try with_reducible rfl
              try simp only [Act.put, List.setIfInBounds_toArray, List.set_cons_zero, List.set_cons_succ]
              refine wpAnyH_tk (i := 9) (v := ?_) rfl (by kernel_rfl) (by kernel_rfl) (by kernel_rfl) (fun _ _ _ h => h) (Or.inl ⟨by rfl, ?_⟩) hHeld ?_
              rotate_left
              · intro w hSw
                try dsimp only at hSw
                go_simp
                try with_reducible rfl
              try simp only [Act.put, List.setIfInBounds_toArray, List.set_cons_zero, List.set_cons_succ]
              refine wpAnyH_tk (i := 10) (v := ?_) rfl (by kernel_rfl) (by kernel_rfl) (by kernel_rfl) (fun _ _ _ h => h) (Or.inl ⟨by rfl, ?_⟩) hHeld ?_
              rotate_left
              · intro w hSw
                try dsimp only at hSw
                go_simp
                try with_reducible rfl
              try simp only [Act.put, List.setIfInBounds_toArray, List.set_cons_zero, List.set_cons_succ]
              refine wpAnyH_only (i := 11) rfl (by kernel_rfl) (fun K hK => ?_)
              go_simp
              refine (unhide HPUT).mono ?_
              rintro e w9 ⟨rfl, HZ9⟩
              go_wp2_with fail
              refine hK.out _ _ (unhide HG w9 (unhide HZ9).kp) (fun hHeld2 => ?_)
              clear hK K hHeld
              have hHeld := hHeld2
              clear hHeld2
              try simp only [Act.put, List.setIfInBounds_toArray, List.set_cons_zero, List.set_cons_succ]
              refine wpAnyH_tk (i := 12) (v := ?_) rfl (by kernel_rfl) (by kernel_rfl) (by kernel_rfl) (fun _ _ _ h => h) (Or.inl ⟨by rfl, ?_⟩) hHeld ?_
              rotate_left
              · intro w hSw
                try dsimp only at hSw
                go_simp
                try with_reducible rfl
              try simp only [Act.put, List.setIfInBounds_toArray, List.set_cons_zero, List.set_cons_succ]
              refine wpAnyH_tk (i := 13) (v := ?_) rfl (by kernel_rfl) (by kernel_rfl) (by kernel_rfl) (fun _ _ _ h => h) (Or.inl ⟨by rfl, ?_⟩) hHeld ?_
              rotate_left
              · intro w hSw
                try dsimp only at hSw
                go_simp
                try with_reducible rfl
              try simp only [Act.put, List.setIfInBounds_toArray, List.set_cons_zero, List.set_cons_succ]
              refine wpAnyH_tk (i := 14) rfl (by kernel_rfl) (by kernel_rfl) (by kernel_rfl) (fun _ _ _ h => h) (Or.inr ⟨by rfl, rfl⟩) hHeld ?_
              try simp only [Act.put, List.setIfInBounds_toArray, List.set_cons_zero, List.set_cons_succ]
              refine wpAnyH_tk (i := 15) rfl (by kernel_rfl) (by kernel_rfl) (by kernel_rfl) (fun _ _ _ h => h) (Or.inr ⟨by rfl, rfl⟩) hHeld ?_
              try simp only [Act.put, List.setIfInBounds_toArray, List.set_cons_zero, List.set_cons_succ]
              refine wpAnyH_tk (i := 16) rfl (by kernel_rfl) (by kernel_rfl) (by kernel_rfl) (fun _ _ _ h => h) (Or.inr ⟨by rfl, rfl⟩) hHeld ?_
              try simp only [Act.put, List.setIfInBounds_toArray, List.set_cons_zero, List.set_cons_succ]
              refine wpAnyH_tk (i := 17) rfl (by kernel_rfl) (by kernel_rfl) (by kernel_rfl) (fun _ _ _ h => h) (Or.inr ⟨by rfl, rfl⟩) hHeld ?_
              try simp only [Act.put, List.setIfInBounds_toArray, List.set_cons_zero, List.set_cons_succ]
              refine wpAnyH_tk (i := 18) rfl (by kernel_rfl) (by kernel_rfl) (by kernel_rfl) (fun _ _ _ h => h) (Or.inr ⟨by rfl, rfl⟩) hHeld ?_
              try simp only [Act.put, List.setIfInBounds_toArray, List.set_cons_zero, List.set_cons_succ]
              refine wpAnyH_only (i := 19) rfl (by kernel_rfl) (fun K hK => ?_)
              go_simp
              refine hK.out _ _ (hHeld) (fun hHeld2 => ?_)
              clear hK K hHeld
              have hHeld := hHeld2
              clear hHeld2
              try simp only [Act.put, List.setIfInBounds_toArray, List.set_cons_zero, List.set_cons_succ]
              refine wpAnyH_tk (i := 20) (v := ?_) rfl (by kernel_rfl) (by kernel_rfl) (by kernel_rfl) (fun _ _ _ h => h) (Or.inl ⟨by rfl, ?_⟩) hHeld ?_
              rotate_left
              · intro w hSw
                try dsimp only at hSw
                go_simp
                try with_reducible rfl
              try simp only [Act.put, List.setIfInBounds_toArray, List.set_cons_zero, List.set_cons_succ]
              refine wpAnyH_done (by kernel_rfl) ?_ _
              go_wp2_with fail
              exact ⟨⟨j + 1, by omega, by go_num, _, HWO, HZ9⟩, by simp [intOf]; omega⟩
        · have j1 : ¬ (j : Int) < (ps.length : Int) := by omega
          obtain ⟨f', n', cs', u, num, code, L, t1, t2, t3, t4, t5, t6, t7, t8, HEND⟩ := tears_all (md := 2) (y := n) (rs := []) (keep := keep) (unhide HVI) (unhide HINV).1 (unhide HINV).2 (unhide HWO) (unhide HV)
          have H7 := hide t7
          have H8 := hide t8
          have HEN := hide HEND
          have n40 := t8.n40
          clear t7 t8 HEND
          have HTEAR := hide (fun (w' : World) (hz : Zoo w1 w' (VltT vb tb gb f n cs [] :: BoxT D (dcells 2 n (ncell [] ws)) 145 :: BoxT p2 (wagg (lay v ws)) 89 :: BoxT p1 (wagg v) 89 :: HbT hb vb cb ds.length ds.length (ds.map Dd.db) (ds.map Dd.wb) :: R)) => b_tear keep (unhide HVI) (l_ded hz) (unhide HWO) hz)
          rw [t4, t5, t1, t2, t3] at HTEAR
          have HWR := hide (l_writes (unhide HL))
          rw [t6] at HWR
          clear t1 t2 t3 t4 t5 t6
          go_wp2_with fail
          refine (unhide HWR).mono ?_
          rintro e w9 ⟨wa, wcap, rfl, HZ9⟩
          obtain ⟨h0, v0, hl, vl⟩ := lk_facts (unhide HZ9) (List.Mem.tail _ (List.Mem.tail _ (List.Mem.tail _ (List.Mem.tail _ (List.Mem.head _))))) (List.Mem.head _)
          clear HL HWR
          go_wp2_with fail
          refine (unhide HTEAR w9 (unhide HZ9)).mono ?_
          rintro e w10 ⟨rfl, tb', HZ10⟩
          clear h0 v0 hl vl HTEAR HZ9
          go_wp2_with fail
          have HZD := hide ((unhide HZ10).kp0 (Kp.refl [] w10).drew)
          obtain ⟨h0, v0, hl, vl⟩ := lk_facts (unhide HZD) (List.Mem.tail _ (List.Mem.tail _ (List.Mem.tail _ (List.Mem.tail _ (List.Mem.head _))))) (List.Mem.head _)
          refine wp_region_held_drew (S := fun w' => w'.cell? ⟨hb, 0, none⟩ = some (.pointer (some ⟨vb, 0, none⟩)) ∧ w'.cell? ⟨vb, 0, none⟩ = some (.pointer (some ⟨tb', 0, none⟩))) (by kernel_rfl) ⟨h0, v0⟩ (fun hHeld => ?_)
          clear h0 v0 hl vl HZ10
          generalize w10.drew = WD at HZD hHeld ⊢
          refine wpAnyH_tk (i := 0) (v := ?_) rfl (by kernel_rfl) (by kernel_rfl) (by kernel_rfl) (fun _ _ _ h => h) (Or.inl ⟨by rfl, ?_⟩) hHeld ?_
          rotate_left
          · intro w hSw
            try dsimp only at hSw
            go_simp
            try with_reducible rfl
          try simp only [Act.put, List.setIfInBounds_toArray, List.set_cons_zero, List.set_cons_succ]
          refine wpAnyH_tk (i := 1) (v := ?_) rfl (by kernel_rfl) (by kernel_rfl) (by kernel_rfl) (fun _ _ _ h => h) (Or.inl ⟨by rfl, ?_⟩) hHeld ?_
          rotate_left
          · intro w hSw
            try dsimp only at hSw
            go_simp
            try with_reducible rfl
          try simp only [Act.put, List.setIfInBounds_toArray, List.set_cons_zero, List.set_cons_succ]
          refine wpAnyH_tk (i := 2) (v := ?_) rfl (by kernel_rfl) (by kernel_rfl) (by kernel_rfl) (fun _ _ _ h => h) (Or.inl ⟨by rfl, ?_⟩) hHeld ?_
          rotate_left
          · intro w hSw
            try dsimp only at hSw
            go_simp
            try with_reducible rfl
          try simp only [Act.put, List.setIfInBounds_toArray, List.set_cons_zero, List.set_cons_succ]
          refine wpAnyH_tk (i := 3) (v := ?_) rfl (by kernel_rfl) (by kernel_rfl) (by kernel_rfl) (fun _ _ _ h => h) (Or.inl ⟨by rfl, ?_⟩) hHeld ?_
          rotate_left
          · intro w hSw
            try dsimp only at hSw
            go_simp
            try with_reducible rfl
          try simp only [Act.put, List.setIfInBounds_toArray, List.set_cons_zero, List.set_cons_succ]
          refine wpAnyH_tk (i := 4) (v := ?_) rfl (by kernel_rfl) (by kernel_rfl) (by kernel_rfl) (fun _ _ _ h => h) (Or.inl ⟨by rfl, ?_⟩) hHeld ?_
          rotate_left
          · intro w hSw
            try dsimp only at hSw
            go_simp
            try with_reducible rfl
          try simp only [Act.put, List.setIfInBounds_toArray, List.set_cons_zero, List.set_cons_succ]
          refine wpAnyH_tk (i := 5) (v := ?_) rfl (by kernel_rfl) (by kernel_rfl) (by kernel_rfl) (fun _ _ _ h => h) (Or.inl ⟨by rfl, ?_⟩) hHeld ?_
          rotate_left
          · intro w hSw
            try dsimp only at hSw
            go_simp
            try with_reducible rfl
          try simp only [Act.put, List.setIfInBounds_toArray, List.set_cons_zero, List.set_cons_succ]
          refine wpAnyH_tk (i := 6) (v := ?_) rfl (by kernel_rfl) (by kernel_rfl) (by kernel_rfl) (fun _ _ _ h => h) (Or.inl ⟨by rfl, ?_⟩) hHeld ?_
          rotate_left
          · intro w hSw
            try dsimp only at hSw
            go_simp
            try with_reducible rfl
          try simp only [Act.put, List.setIfInBounds_toArray, List.set_cons_zero, List.set_cons_succ]
          refine wpAnyH_tk (i := 7) (v := ?_) rfl (by kernel_rfl) (by kernel_rfl) (by kernel_rfl) (fun _ _ _ h => h) (Or.inl ⟨by rfl, ?_⟩) hHeld ?_
          rotate_left
          · intro w hSw
            try dsimp only at hSw
            go_simp
            try with_reducible rfl
          try simp only [Act.put, List.setIfInBounds_toArray, List.set_cons_zero, List.set_cons_succ]
          refine wpAnyH_tk (i := 8) (v := ?_) rfl (by kernel_rfl) (by kernel_rfl) (by kernel_rfl) (fun _ _ _ h => h) (Or.inl ⟨by rfl, ?_⟩) hHeld ?_
          rotate_left
          · intro w hSw
            try dsimp only at hSw
            go_simp
            try with_reducible rfl
          try simp only [Act.put, List.setIfInBounds_toArray, List.set_cons_zero, List.set_cons_succ]
          refine wpAnyH_tk (i := 9) (v := ?_) rfl (by kernel_rfl) (by kernel_rfl) (by kernel_rfl) (fun _ _ _ h => h) (Or.inl ⟨by rfl, ?_⟩) hHeld ?_
          rotate_left
          · intro w hSw
            try dsimp only at hSw
            go_simp
            try with_reducible rfl
          try simp only [Act.put, List.setIfInBounds_toArray, List.set_cons_zero, List.set_cons_succ]
          refine wpAnyH_tk (i := 10) (v := ?_) rfl (by kernel_rfl) (by kernel_rfl) (by kernel_rfl) (fun _ _ _ h => h) (Or.inl ⟨by rfl, ?_⟩) hHeld ?_
          rotate_left
          · intro w hSw
            try dsimp only at hSw
            go_simp
            try with_reducible rfl
          try simp only [Act.put, List.setIfInBounds_toArray, List.set_cons_zero, List.set_cons_succ]
          refine wpAnyH_tk (i := 11) (v := ?_) rfl (by kernel_rfl) (by kernel_rfl) (by kernel_rfl) (fun _ _ _ h => h) (Or.inl ⟨by rfl, ?_⟩) hHeld ?_
          rotate_left
          · intro w hSw
            try dsimp only at hSw
            go_simp
            try with_reducible rfl
          try simp only [Act.put, List.setIfInBounds_toArray, List.set_cons_zero, List.set_cons_succ]
          refine wpAnyH_tk (i := 12) (v := ?_) rfl (by kernel_rfl) (by kernel_rfl) (by kernel_rfl) (fun _ _ _ h => h) (Or.inl ⟨by rfl, ?_⟩) hHeld ?_
          rotate_left
          · intro w hSw
            try dsimp only at hSw
            go_simp
            try with_reducible rfl
          try simp only [Act.put, List.setIfInBounds_toArray, List.set_cons_zero, List.set_cons_succ]
          refine wpAnyH_tk (i := 13) (v := ?_) rfl (by kernel_rfl) (by kernel_rfl) (by kernel_rfl) (fun _ _ _ h => h) (Or.inl ⟨by rfl, ?_⟩) hHeld ?_
          rotate_left
          · intro w hSw
            try dsimp only at hSw
            go_simp
            try with_reducible rfl
          try simp only [Act.put, List.setIfInBounds_toArray, List.set_cons_zero, List.set_cons_succ]
          refine wpAnyH_two (i := 14) (j := 19) rfl rfl (by kernel_rfl) (fun K hK => ?_) (fun K hK => ?_)
          · go_simp
            refine (l_last (unhide HZD)).mono ?_
            rintro e w' ⟨rfl, hw'⟩
            subst w'
            go_wp2_with fail
            refine hK.out _ _ (hHeld) (fun hHeld2 => ?_)
            clear hK K hHeld
            have hHeld := hHeld2
            clear hHeld2
            try simp only [Act.put, List.setIfInBounds_toArray, List.set_cons_zero, List.set_cons_succ]
            refine wpAnyH_two (i := 15) (j := 19) rfl rfl (by kernel_rfl) (fun K hK => ?_) (fun K hK => ?_)
            · go_simp
              refine (l_sheet (shk_last (unhide H8)) u (unhide H7) (unhide HZD)).mono ?_
              rintro e w11 ⟨rfl, HZ11⟩
              go_wp2_with fail
              have SS := lk_facts (unhide HZ11) (List.Mem.tail _ (List.Mem.tail _ (List.Mem.tail _ (List.Mem.tail _ (List.Mem.head _))))) (List.Mem.head _)
              refine hK.out _ _ (⟨SS.1, SS.2.1⟩) (fun hHeld2 => ?_)
              clear hK K hHeld
              have hHeld := hHeld2
              clear hHeld2
              try simp only [Act.put, List.setIfInBounds_toArray, List.set_cons_zero, List.set_cons_succ]
              clear SS
              refine wpAnyH_tk (i := 16) (v := ?_) rfl (by kernel_rfl) (by kernel_rfl) (by kernel_rfl) (fun _ _ _ h => h) (Or.inl ⟨by rfl, ?_⟩) hHeld ?_
              rotate_left
              · intro w hSw
                try dsimp only at hSw
                go_simp
                try with_reducible rfl
              try simp only [Act.put, List.setIfInBounds_toArray, List.set_cons_zero, List.set_cons_succ]
              refine wpAnyH_tk (i := 17) (v := ?_) rfl (by kernel_rfl) (by kernel_rfl) (by kernel_rfl) (fun _ _ _ h => h) (Or.inl ⟨by rfl, ?_⟩) hHeld ?_
              rotate_left
              · intro w hSw
                try dsimp only at hSw
                go_simp
                try with_reducible rfl
              try simp only [Act.put, List.setIfInBounds_toArray, List.set_cons_zero, List.set_cons_succ]
              refine wpAnyH_tk (i := 18) (v := ?_) rfl (by kernel_rfl) (by kernel_rfl) (by kernel_rfl) (fun _ _ _ h => h) (Or.inl ⟨by rfl, ?_⟩) hHeld ?_
              rotate_left
              · intro w hSw
                try dsimp only at hSw
                go_simp
                try with_reducible rfl
              try simp only [Act.put, List.setIfInBounds_toArray, List.set_cons_zero, List.set_cons_succ]
              refine wpAnyH_only (i := 19) rfl (by kernel_rfl) (fun K hK => ?_)
              go_simp
              have HZA := hide (zoo_new1 (unhide HZ11) (wagg (fun _ => dv)))
              have SS := lk_facts (unhide HZA) (List.Mem.tail _ (List.Mem.tail _ (List.Mem.tail _ (List.Mem.tail _ (List.Mem.tail _ (List.Mem.head _)))))) (List.Mem.head _)
              rw [zeros_eq] at HZA SS
              refine hK.out _ _ (⟨SS.1, SS.2.1⟩) (fun hHeld2 => ?_)
              clear hK K hHeld
              have hHeld := hHeld2
              clear hHeld2
              try simp only [Act.put, List.setIfInBounds_toArray, List.set_cons_zero, List.set_cons_succ]
              clear SS
              generalize hp3 : w11.heap.size = p3 at HZA ⊢
              clear hp3
              refine wpAnyH_only (i := 20) rfl (by kernel_rfl) (fun K hK => ?_)
              rw [if_pos (by rfl)]
              refine wp_store_row 89 _ _ rfl p3 (wagg u) rfl rfl 89 _ (zoo_var1 (unhide HZA)) Try.size89 rfl (wagg_one _) ?_
              have HZE := hide (zoo_setr (c' := wagg u) (unhide HZA))
              have SS := lk_facts (unhide HZE) (List.Mem.tail _ (List.Mem.tail _ (List.Mem.tail _ (List.Mem.tail _ (List.Mem.tail _ (List.Mem.head _)))))) (List.Mem.head _)
              refine hK.out _ _ (⟨SS.1, SS.2.1⟩) (fun hHeld2 => ?_)
              clear hK K hHeld
              have hHeld := hHeld2
              clear hHeld2
              simp only [Act.put]
              clear SS
              refine wpAnyH_tk (i := 21) (v := ?_) rfl (by kernel_rfl) (by kernel_rfl) (by kernel_rfl) (fun _ _ _ h => h) (Or.inl ⟨by rfl, ?_⟩) hHeld ?_
              rotate_left
              · intro w hSw
                try dsimp only at hSw
                go_simp
                try with_reducible rfl
              try simp only [Act.put, List.setIfInBounds_toArray, List.set_cons_zero, List.set_cons_succ]
              refine wpAnyH_done (by kernel_rfl) ?_ _
              clear hHeld
              generalize World.setRow _ p3 (wagg u) = WE at HZE ⊢
              obtain ⟨h0, v0, -, -⟩ := lk_facts (unhide HZE) (List.Mem.tail _ (List.Mem.tail _ (List.Mem.tail _ (List.Mem.tail _ (List.Mem.tail _ (List.Mem.head _)))))) (List.Mem.head _)
              have W3 := hide (zoo_var1 (unhide HZE))
              have W2 := hide (zoo_varm (unhide HZE) (List.Mem.tail _ (List.Mem.tail _ (List.Mem.tail _ (List.Mem.head _)))))
              have W1 := hide (zoo_varm (unhide HZE) (List.Mem.tail _ (List.Mem.tail _ (List.Mem.tail _ (List.Mem.tail _ (List.Mem.head _))))))
              have heq := eq66 u
              rcases unhide HEN with ⟨rfl, rfl, rfl, hc | ⟨rfl, rfl⟩ | ⟨rfl, hL, hk⟩⟩ | ⟨rfl, hn', rfl, rfl, hL⟩
              · have hcB : (code != 0) = true := by simpa using hc
                go_wp2_with fail
                refine (l_last (unhide HZE)).mono ?_
                rintro e wx ⟨rfl, hwx⟩
                subst wx
                go_wp2_with (first | (refine wpList_load66 (by rfl) _ rfl p3 rfl u (unhide W3) ?_) | (refine wpList_load66 (by rfl) _ rfl p1 rfl u (unhide W1) ?_))
                go_ret
                exact ⟨by trivial, ((unhide HK1).trans0 (unhide HZE).kp).below (Nat.le_refl _) (by simp)⟩
              · go_wp2_with fail
                refine (l_last (unhide HZE)).mono ?_
                rintro e wx ⟨rfl, hwx⟩
                subst wx
                go_wp2_with (first | (refine wpList_load66 (by rfl) _ rfl p3 rfl u (unhide W3) ?_) | (refine wpList_load66 (by rfl) _ rfl p1 rfl u (unhide W1) ?_))
                go_ret
                exact ⟨by trivial, ((unhide HK1).trans0 (unhide HZE).kp).below (Nat.le_refl _) (by simp)⟩
              · have hL1 : (0 : Int) < (L : Int) := by omega
                go_wp2_with fail
                refine (l_last (unhide HZE)).mono ?_
                rintro e wx ⟨rfl, hwx⟩
                subst wx
                go_wp2_with (first | (refine wpList_load66 (by rfl) _ rfl p3 rfl u (unhide W3) ?_) | (refine wpList_load66 (by rfl) _ rfl p1 rfl u (unhide W1) ?_))
                go_ret
                exact ⟨by trivial, ((unhide HK1).trans0 (unhide HZE).kp).below (Nat.le_refl _) (by simp)⟩
              · have hk1 : (n' : Int) = (n : Int) + 1 := by omega
                have hk0 : ¬ (n' : Int) = 0 := by omega
                have hL1 : (0 : Int) < (L : Int) := by omega
                clear hn'
                go_wp2_with fail
                refine (l_last (unhide HZE)).mono ?_
                rintro e wx ⟨rfl, hwx⟩
                subst wx
                go_wp2_with (first | (refine wpList_load66 (by rfl) _ rfl p3 rfl (lay v ws) (unhide W3) ?_) | (refine wpList_load66 (by rfl) _ rfl p2 rfl (lay v ws) (unhide W2) ?_))
                go_ret
                exact ⟨by trivial, ((unhide HK1).trans0 (unhide HZE).kp).below (Nat.le_refl _) (by simp)⟩
            · go_simp
              have HZA := hide (zoo_new1 (unhide HZD) (wagg (fun _ => dv)))
              have SS := lk_facts (unhide HZA) (List.Mem.tail _ (List.Mem.tail _ (List.Mem.tail _ (List.Mem.tail _ (List.Mem.tail _ (List.Mem.head _)))))) (List.Mem.head _)
              rw [zeros_eq] at HZA SS
              refine hK.out _ _ (⟨SS.1, SS.2.1⟩) (fun hHeld2 => ?_)
              clear hK K hHeld
              have hHeld := hHeld2
              clear hHeld2
              try simp only [Act.put, List.setIfInBounds_toArray, List.set_cons_zero, List.set_cons_succ]
              clear SS
              generalize hp3 : WD.heap.size = p3 at HZA ⊢
              clear hp3
              refine wpAnyH_only (i := 15) rfl (by kernel_rfl) (fun K hK => ?_)
              go_simp
              refine (l_sheet (shk_last (unhide H8)) u (unhide H7) (unhide HZA)).mono ?_
              rintro e w11 ⟨rfl, HZ11⟩
              go_wp2_with fail
              have SS := lk_facts (unhide HZ11) (List.Mem.tail _ (List.Mem.tail _ (List.Mem.tail _ (List.Mem.tail _ (List.Mem.tail _ (List.Mem.head _)))))) (List.Mem.head _)
              refine hK.out _ _ (⟨SS.1, SS.2.1⟩) (fun hHeld2 => ?_)
              clear hK K hHeld
              have hHeld := hHeld2
              clear hHeld2
              try simp only [Act.put, List.setIfInBounds_toArray, List.set_cons_zero, List.set_cons_succ]
              clear SS
              refine wpAnyH_tk (i := 16) (v := ?_) rfl (by kernel_rfl) (by kernel_rfl) (by kernel_rfl) (fun _ _ _ h => h) (Or.inl ⟨by rfl, ?_⟩) hHeld ?_
              rotate_left
              · intro w hSw
                try dsimp only at hSw
                go_simp
                try with_reducible rfl
              try simp only [Act.put, List.setIfInBounds_toArray, List.set_cons_zero, List.set_cons_succ]
              refine wpAnyH_tk (i := 17) (v := ?_) rfl (by kernel_rfl) (by kernel_rfl) (by kernel_rfl) (fun _ _ _ h => h) (Or.inl ⟨by rfl, ?_⟩) hHeld ?_
              rotate_left
              · intro w hSw
                try dsimp only at hSw
                go_simp
                try with_reducible rfl
              try simp only [Act.put, List.setIfInBounds_toArray, List.set_cons_zero, List.set_cons_succ]
              refine wpAnyH_tk (i := 18) (v := ?_) rfl (by kernel_rfl) (by kernel_rfl) (by kernel_rfl) (fun _ _ _ h => h) (Or.inl ⟨by rfl, ?_⟩) hHeld ?_
              rotate_left
              · intro w hSw
                try dsimp only at hSw
                go_simp
                try with_reducible rfl
              try simp only [Act.put, List.setIfInBounds_toArray, List.set_cons_zero, List.set_cons_succ]
              refine wpAnyH_only (i := 20) rfl (by kernel_rfl) (fun K hK => ?_)
              rw [if_pos (by rfl)]
              refine wp_store_row 89 _ _ rfl p3 (wagg u) rfl rfl 89 _ (zoo_var1 (unhide HZ11)) Try.size89 rfl (wagg_one _) ?_
              have HZE := hide (zoo_setr (c' := wagg u) (unhide HZ11))
              have SS := lk_facts (unhide HZE) (List.Mem.tail _ (List.Mem.tail _ (List.Mem.tail _ (List.Mem.tail _ (List.Mem.tail _ (List.Mem.head _)))))) (List.Mem.head _)
              refine hK.out _ _ (⟨SS.1, SS.2.1⟩) (fun hHeld2 => ?_)
              clear hK K hHeld
              have hHeld := hHeld2
              clear hHeld2
              simp only [Act.put]
              clear SS
              refine wpAnyH_tk (i := 21) (v := ?_) rfl (by kernel_rfl) (by kernel_rfl) (by kernel_rfl) (fun _ _ _ h => h) (Or.inl ⟨by rfl, ?_⟩) hHeld ?_
              rotate_left
              · intro w hSw
                try dsimp only at hSw
                go_simp
                try with_reducible rfl
              try simp only [Act.put, List.setIfInBounds_toArray, List.set_cons_zero, List.set_cons_succ]
              refine wpAnyH_done (by kernel_rfl) ?_ _
              clear hHeld
              generalize World.setRow _ p3 (wagg u) = WE at HZE ⊢
              obtain ⟨h0, v0, -, -⟩ := lk_facts (unhide HZE) (List.Mem.tail _ (List.Mem.tail _ (List.Mem.tail _ (List.Mem.tail _ (List.Mem.tail _ (List.Mem.head _)))))) (List.Mem.head _)
              have W3 := hide (zoo_var1 (unhide HZE))
              have W2 := hide (zoo_varm (unhide HZE) (List.Mem.tail _ (List.Mem.tail _ (List.Mem.tail _ (List.Mem.head _)))))
              have W1 := hide (zoo_varm (unhide HZE) (List.Mem.tail _ (List.Mem.tail _ (List.Mem.tail _ (List.Mem.tail _ (List.Mem.head _))))))
              have heq := eq66 u
              rcases unhide HEN with ⟨rfl, rfl, rfl, hc | ⟨rfl, rfl⟩ | ⟨rfl, hL, hk⟩⟩ | ⟨rfl, hn', rfl, rfl, hL⟩
              · have hcB : (code != 0) = true := by simpa using hc
                go_wp2_with fail
                refine (l_last (unhide HZE)).mono ?_
                rintro e wx ⟨rfl, hwx⟩
                subst wx
                go_wp2_with (first | (refine wpList_load66 (by rfl) _ rfl p3 rfl u (unhide W3) ?_) | (refine wpList_load66 (by rfl) _ rfl p1 rfl u (unhide W1) ?_))
                go_ret
                exact ⟨by trivial, ((unhide HK1).trans0 (unhide HZE).kp).below (Nat.le_refl _) (by simp)⟩
              · go_wp2_with fail
                refine (l_last (unhide HZE)).mono ?_
                rintro e wx ⟨rfl, hwx⟩
                subst wx
                go_wp2_with (first | (refine wpList_load66 (by rfl) _ rfl p3 rfl u (unhide W3) ?_) | (refine wpList_load66 (by rfl) _ rfl p1 rfl u (unhide W1) ?_))
                go_ret
                exact ⟨by trivial, ((unhide HK1).trans0 (unhide HZE).kp).below (Nat.le_refl _) (by simp)⟩
              · have hL1 : (0 : Int) < (L : Int) := by omega
                go_wp2_with fail
                refine (l_last (unhide HZE)).mono ?_
                rintro e wx ⟨rfl, hwx⟩
                subst wx
                go_wp2_with (first | (refine wpList_load66 (by rfl) _ rfl p3 rfl u (unhide W3) ?_) | (refine wpList_load66 (by rfl) _ rfl p1 rfl u (unhide W1) ?_))
                go_ret
                exact ⟨by trivial, ((unhide HK1).trans0 (unhide HZE).kp).below (Nat.le_refl _) (by simp)⟩
              · have hk1 : (n' : Int) = (n : Int) + 1 := by omega
                have hk0 : ¬ (n' : Int) = 0 := by omega
                have hL1 : (0 : Int) < (L : Int) := by omega
                clear hn'
                go_wp2_with fail
                refine (l_last (unhide HZE)).mono ?_
                rintro e wx ⟨rfl, hwx⟩
                subst wx
                go_wp2_with (first | (refine wpList_load66 (by rfl) _ rfl p3 rfl (lay v ws) (unhide W3) ?_) | (refine wpList_load66 (by rfl) _ rfl p2 rfl (lay v ws) (unhide W2) ?_))
                go_ret
                exact ⟨by trivial, ((unhide HK1).trans0 (unhide HZE).kp).below (Nat.le_refl _) (by simp)⟩
          · go_simp
            have HZA := hide (zoo_new1 (unhide HZD) (wagg (fun _ => dv)))
            have SS := lk_facts (unhide HZA) (List.Mem.tail _ (List.Mem.tail _ (List.Mem.tail _ (List.Mem.tail _ (List.Mem.tail _ (List.Mem.head _)))))) (List.Mem.head _)
            rw [zeros_eq] at HZA SS
            refine hK.out _ _ (⟨SS.1, SS.2.1⟩) (fun hHeld2 => ?_)
            clear hK K hHeld
            have hHeld := hHeld2
            clear hHeld2
            try simp only [Act.put, List.setIfInBounds_toArray, List.set_cons_zero, List.set_cons_succ]
            clear SS
            generalize hp3 : WD.heap.size = p3 at HZA ⊢
            clear hp3
            refine wpAnyH_only (i := 14) rfl (by kernel_rfl) (fun K hK => ?_)
            go_simp
            refine (l_last (unhide HZA)).mono ?_
            rintro e w' ⟨rfl, hw'⟩
            subst w'
            go_wp2_with fail
            refine hK.out _ _ (hHeld) (fun hHeld2 => ?_)
            clear hK K hHeld
            have hHeld := hHeld2
            clear hHeld2
            try simp only [Act.put, List.setIfInBounds_toArray, List.set_cons_zero, List.set_cons_succ]
            refine wpAnyH_only (i := 15) rfl (by kernel_rfl) (fun K hK => ?_)
            go_simp
            refine (l_sheet (shk_last (unhide H8)) u (unhide H7) (unhide HZA)).mono ?_
            rintro e w11 ⟨rfl, HZ11⟩
            go_wp2_with fail
            have SS := lk_facts (unhide HZ11) (List.Mem.tail _ (List.Mem.tail _ (List.Mem.tail _ (List.Mem.tail _ (List.Mem.tail _ (List.Mem.head _)))))) (List.Mem.head _)
            refine hK.out _ _ (⟨SS.1, SS.2.1⟩) (fun hHeld2 => ?_)
            clear hK K hHeld
            have hHeld := hHeld2
            clear hHeld2
            try simp only [Act.put, List.setIfInBounds_toArray, List.set_cons_zero, List.set_cons_succ]
            clear SS
            refine wpAnyH_tk (i := 16) (v := ?_) rfl (by kernel_rfl) (by kernel_rfl) (by kernel_rfl) (fun _ _ _ h => h) (Or.inl ⟨by rfl, ?_⟩) hHeld ?_
            rotate_left
            · intro w hSw
              try dsimp only at hSw
              go_simp
              try with_reducible rfl
            try simp only [Act.put, List.setIfInBounds_toArray, List.set_cons_zero, List.set_cons_succ]
            refine wpAnyH_tk (i := 17) (v := ?_) rfl (by kernel_rfl) (by kernel_rfl) (by kernel_rfl) (fun _ _ _ h => h) (Or.inl ⟨by rfl, ?_⟩) hHeld ?_
            rotate_left
            · intro w hSw
              try dsimp only at hSw
              go_simp
              try with_reducible rfl
            try simp only [Act.put, List.setIfInBounds_toArray, List.set_cons_zero, List.set_cons_succ]
            refine wpAnyH_tk (i := 18) (v := ?_) rfl (by kernel_rfl) (by kernel_rfl) (by kernel_rfl) (fun _ _ _ h => h) (Or.inl ⟨by rfl, ?_⟩) hHeld ?_
            rotate_left
            · intro w hSw
              try dsimp only at hSw
              go_simp
              try with_reducible rfl
            try simp only [Act.put, List.setIfInBounds_toArray, List.set_cons_zero, List.set_cons_succ]
            refine wpAnyH_only (i := 20) rfl (by kernel_rfl) (fun K hK => ?_)
            rw [if_pos (by rfl)]
            refine wp_store_row 89 _ _ rfl p3 (wagg u) rfl rfl 89 _ (zoo_var1 (unhide HZ11)) Try.size89 rfl (wagg_one _) ?_
            have HZE := hide (zoo_setr (c' := wagg u) (unhide HZ11))
            have SS := lk_facts (unhide HZE) (List.Mem.tail _ (List.Mem.tail _ (List.Mem.tail _ (List.Mem.tail _ (List.Mem.tail _ (List.Mem.head _)))))) (List.Mem.head _)
            refine hK.out _ _ (⟨SS.1, SS.2.1⟩) (fun hHeld2 => ?_)
            clear hK K hHeld
            have hHeld := hHeld2
            clear hHeld2
            simp only [Act.put]
            clear SS
            refine wpAnyH_tk (i := 21) (v := ?_) rfl (by kernel_rfl) (by kernel_rfl) (by kernel_rfl) (fun _ _ _ h => h) (Or.inl ⟨by rfl, ?_⟩) hHeld ?_
            rotate_left
            · intro w hSw
              try dsimp only at hSw
              go_simp
              try with_reducible rfl
            try simp only [Act.put, List.setIfInBounds_toArray, List.set_cons_zero, List.set_cons_succ]
            refine wpAnyH_done (by kernel_rfl) ?_ _
            clear hHeld
            generalize World.setRow _ p3 (wagg u) = WE at HZE ⊢
            obtain ⟨h0, v0, -, -⟩ := lk_facts (unhide HZE) (List.Mem.tail _ (List.Mem.tail _ (List.Mem.tail _ (List.Mem.tail _ (List.Mem.tail _ (List.Mem.head _)))))) (List.Mem.head _)
            have W3 := hide (zoo_var1 (unhide HZE))
            have W2 := hide (zoo_varm (unhide HZE) (List.Mem.tail _ (List.Mem.tail _ (List.Mem.tail _ (List.Mem.head _)))))
            have W1 := hide (zoo_varm (unhide HZE) (List.Mem.tail _ (List.Mem.tail _ (List.Mem.tail _ (List.Mem.tail _ (List.Mem.head _))))))
            have heq := eq66 u
            rcases unhide HEN with ⟨rfl, rfl, rfl, hc | ⟨rfl, rfl⟩ | ⟨rfl, hL, hk⟩⟩ | ⟨rfl, hn', rfl, rfl, hL⟩
            · have hcB : (code != 0) = true := by simpa using hc
              go_wp2_with fail
              refine (l_last (unhide HZE)).mono ?_
              rintro e wx ⟨rfl, hwx⟩
              subst wx
              go_wp2_with (first | (refine wpList_load66 (by rfl) _ rfl p3 rfl u (unhide W3) ?_) | (refine wpList_load66 (by rfl) _ rfl p1 rfl u (unhide W1) ?_))
              go_ret
              exact ⟨by trivial, ((unhide HK1).trans0 (unhide HZE).kp).below (Nat.le_refl _) (by simp)⟩
            · go_wp2_with fail
              refine (l_last (unhide HZE)).mono ?_
              rintro e wx ⟨rfl, hwx⟩
              subst wx
              go_wp2_with (first | (refine wpList_load66 (by rfl) _ rfl p3 rfl u (unhide W3) ?_) | (refine wpList_load66 (by rfl) _ rfl p1 rfl u (unhide W1) ?_))
              go_ret
              exact ⟨by trivial, ((unhide HK1).trans0 (unhide HZE).kp).below (Nat.le_refl _) (by simp)⟩
            · have hL1 : (0 : Int) < (L : Int) := by omega
              go_wp2_with fail
              refine (l_last (unhide HZE)).mono ?_
              rintro e wx ⟨rfl, hwx⟩
              subst wx
              go_wp2_with (first | (refine wpList_load66 (by rfl) _ rfl p3 rfl u (unhide W3) ?_) | (refine wpList_load66 (by rfl) _ rfl p1 rfl u (unhide W1) ?_))
              go_ret
              exact ⟨by trivial, ((unhide HK1).trans0 (unhide HZE).kp).below (Nat.le_refl _) (by simp)⟩
            · have hk1 : (n' : Int) = (n : Int) + 1 := by omega
              have hk0 : ¬ (n' : Int) = 0 := by omega
              have hL1 : (0 : Int) < (L : Int) := by omega
              clear hn'
              go_wp2_with fail
              refine (l_last (unhide HZE)).mono ?_
              rintro e wx ⟨rfl, hwx⟩
              subst wx
              go_wp2_with (first | (refine wpList_load66 (by rfl) _ rfl p3 rfl (lay v ws) (unhide W3) ?_) | (refine wpList_load66 (by rfl) _ rfl p2 rfl (lay v ws) (unhide W2) ?_))
              go_ret
              exact ⟨by trivial, ((unhide HK1).trans0 (unhide HZE).kp).below (Nat.le_refl _) (by simp)⟩
end Go.Proofs.Ytcfogkdpkpehaab
