/- HallRefuses, walked. -/
import Derived.Test.YtehhpmfeaeabgacHl
namespace Go.Proofs.Ytehhpmfeaeabgac
open Go.RowKit
set_option maxRecDepth 20000
attribute [local go_sem ↓] Go.wp_at_zero Go.wp_at_succ

theorem rf_facts {h : HSt} (hi : HInv h) (x : HStep) (hc : ¬ (hev h x).c = 0) : ∃ h' : HSt, hdo h x = h' ∧ HInv h' ∧ h'.cs = h.cs ∧ h'.n = h.n ∧ shw h'.f h'.n h.n 8 = shw h.f h.n h.n 8 ∧
    ∀ s, (h'.seat s).isSome = ((h.seat s).isSome && !(decide (x.d = 6 ∧ x.s = s) || decide (x.d = 10 ∧ (0 ≤ x.s ∧ x.s < 5) ∧ (h.seat x.s.toNat).isSome = true))) := by
  obtain ⟨h1, h2, h3, h4⟩ := hdo_refused hi x hc
  exact ⟨_, rfl, hi.step x, h1, h2, by rw [h2]; exact h3, h4⟩
set_option maxHeartbeats 4000000 in
theorem hrefuses8 (a : Option Addr) (n1 c : Nat) (st : Nat → HStep) (w : World) (h : HSts w a n1 st) :
    Calls Try.prog 8 #[.slice a n1 c] w fun e w' => e = .returned (.bool true) ∧ Below w.heap.size w w' := by
  have HS := hide h
  clear h
  go_enter Try.func8, Try.ntmps8
  go_wp2_with fail
  refine (hbegun w).mono ?_
  rintro e w1 ⟨rfl, hk1⟩
  have HK1 := hide hk1
  clear hk1
  go_wp2_with fail
  refine (gsteps a n1 c st w1 ((unhide HS).kp0 (unhide HK1))).mono ?_
  rintro e w' ⟨q, rfl, hq, hw'⟩
  subst w'
  cases q with
  | true =>
    clear hq
    go_wp2_with fail
    go_ret
    exact ⟨rfl, (unhide HK1).below (Nat.le_refl _) (by simp)⟩
  | false =>
  have h200 := hq rfl
  clear hq
  go_wp2_with fail
  refine (h_new w1).mono ?_
  rintro e w2 ⟨hb, rfl, F, hh, hk⟩
  have HZ0 : Hid (Zoo w1 w2 [HalT hb hs0]) := (zoo_nil (Kp.refl [] w1)).cons hh hk
  clear hh hk
  go_wp2_with fail
  go_loopw [4] (fun i wr => ∃ k : Nat, k ≤ n1 ∧ i = .int .i64 k ∧ ∃ h, Hid (Zoo w1 wr [HalT hb h])) (fun i _ => n1 - (intOf i).toNat)
  case atStart => exact ⟨0, by omega, rfl, _, HZ0⟩
  case round =>
    obtain ⟨k, hk, rfl, h, HI⟩ := hrel
    by_cases hlt : k < n1
    · have i1 : (k : Int) < (n1 : Int) := by omega
      have i0 : (0 : Int) ≤ (k : Int) := by omega
      obtain ⟨vb, tb, gb, sd, hsd, hi, hl⟩ := hal_open (unhide HI)
      have HLD := hide (hl.kp0 (Kp.refl [] _).drew)
      have HSD := hide hsd
      have HI2 := hide hi
      clear hl hsd hi HI
      obtain ⟨v, hv⟩ : ∃ v, shw h.f h.n h.n 8 = v := ⟨_, rfl⟩
      have HV := hide hv
      obtain ⟨bs, hbs⟩ : ∃ bs, lb h.cs ++ [] = bs := ⟨_, rfl⟩
      have HBS := hide hbs
      clear hv hbs
      have c0 := (unhide HLD).c0
      have v0 := (unhide HLD).v0
      go_wp2_with fail
      refine wp_region_held_drew (S := fun w' => w'.cell? ⟨hb, 0, none⟩ = some (.pointer (some ⟨vb, 0, none⟩)) ∧ w'.cell? ⟨vb, 0, none⟩ = some (.pointer (some ⟨tb, 0, none⟩))) (by kernel_rfl) (⟨c0, v0⟩) (fun hHeld => ?_)
      refine wpAnyH_tk (i := 0) (v := ?_) rfl (by kernel_rfl) (by kernel_rfl) (by kernel_rfl) (fun _ _ _ h => h) (Or.inl ⟨by rfl, ?_⟩) hHeld ?_
      rotate_left
      · intro w hSw
        try dsimp only at hSw
        go_simp
        try with_reducible rfl
      try simp only [Act.put, List.setIfInBounds_toArray, List.set_cons_zero, List.set_cons_succ]
      refine wpAnyH_tk (i := 1) (v := ?_) rfl (by kernel_rfl) (by kernel_rfl) (by kernel_rfl) (fun _ _ _ h => h) (Or.inl ⟨by rfl, ?_⟩) hHeld ?_
      rotate_left
      · intro w hSw
        try dsimp only at hSw
        go_simp
        try with_reducible rfl
      try simp only [Act.put, List.setIfInBounds_toArray, List.set_cons_zero, List.set_cons_succ]
      refine wpAnyH_tk (i := 2) (v := ?_) rfl (by kernel_rfl) (by kernel_rfl) (by kernel_rfl) (fun _ _ _ h => h) (Or.inl ⟨by rfl, ?_⟩) hHeld ?_
      rotate_left
      · intro w hSw
        try dsimp only at hSw
        go_simp
        try with_reducible rfl
      try simp only [Act.put, List.setIfInBounds_toArray, List.set_cons_zero, List.set_cons_succ]
      refine wpAnyH_tk (i := 3) (v := ?_) rfl (by kernel_rfl) (by kernel_rfl) (by kernel_rfl) (fun _ _ _ h => h) (Or.inl ⟨by rfl, ?_⟩) hHeld ?_
      rotate_left
      · intro w hSw
        try dsimp only at hSw
        go_simp
        try with_reducible rfl
      try simp only [Act.put, List.setIfInBounds_toArray, List.set_cons_zero, List.set_cons_succ]
      refine wpAnyH_tk (i := 6) (v := ?_) rfl (by kernel_rfl) (by kernel_rfl) (by kernel_rfl) (fun _ _ _ h => h) (Or.inl ⟨by rfl, ?_⟩) hHeld ?_
      rotate_left
      · intro w hSw
        try dsimp only at hSw
        go_simp
        try with_reducible rfl
      try simp only [Act.put, List.setIfInBounds_toArray, List.set_cons_zero, List.set_cons_succ]
      refine wpAnyH_tk (i := 7) (v := ?_) rfl (by kernel_rfl) (by kernel_rfl) (by kernel_rfl) (fun _ _ _ h => h) (Or.inl ⟨by rfl, ?_⟩) hHeld ?_
      rotate_left
      · intro w hSw
        try dsimp only at hSw
        go_simp
        try with_reducible rfl
      try simp only [Act.put, List.setIfInBounds_toArray, List.set_cons_zero, List.set_cons_succ]
      refine wpAnyH_tk (i := 8) (v := ?_) rfl (by kernel_rfl) (by kernel_rfl) (by kernel_rfl) (fun _ _ _ h => h) (Or.inl ⟨by rfl, ?_⟩) hHeld ?_
      rotate_left
      · intro w hSw
        try dsimp only at hSw
        go_simp
        try with_reducible rfl
      try simp only [Act.put, List.setIfInBounds_toArray, List.set_cons_zero, List.set_cons_succ]
      refine wpAnyH_tk (i := 9) (v := ?_) rfl (by kernel_rfl) (by kernel_rfl) (by kernel_rfl) (fun _ _ _ h => h) (Or.inl ⟨by rfl, ?_⟩) hHeld ?_
      rotate_left
      · intro w hSw
        try dsimp only at hSw
        go_simp
        try with_reducible rfl
      try simp only [Act.put, List.setIfInBounds_toArray, List.set_cons_zero, List.set_cons_succ]
      refine wpAnyH_tk (i := 10) (v := ?_) rfl (by kernel_rfl) (by kernel_rfl) (by kernel_rfl) (fun _ _ _ h => h) (Or.inl ⟨by rfl, ?_⟩) hHeld ?_
      rotate_left
      · intro w hSw
        try dsimp only at hSw
        go_simp
        try with_reducible rfl
      try simp only [Act.put, List.setIfInBounds_toArray, List.set_cons_zero, List.set_cons_succ]
      refine wpAnyH_tk (i := 11) (v := ?_) rfl (by kernel_rfl) (by kernel_rfl) (by kernel_rfl) (fun _ _ _ h => h) (Or.inl ⟨by rfl, ?_⟩) hHeld ?_
      rotate_left
      · intro w hSw
        try dsimp only at hSw
        go_simp
        try with_reducible rfl
      try simp only [Act.put, List.setIfInBounds_toArray, List.set_cons_zero, List.set_cons_succ]
      refine wpAnyH_tk (i := 12) (v := ?_) rfl (by kernel_rfl) (by kernel_rfl) (by kernel_rfl) (fun _ _ _ h => h) (Or.inl ⟨by rfl, ?_⟩) hHeld ?_
      rotate_left
      · intro w hSw
        try dsimp only at hSw
        go_simp
        try with_reducible rfl
      try simp only [Act.put, List.setIfInBounds_toArray, List.set_cons_zero, List.set_cons_succ]
      refine wpAnyH_only (i := 4) rfl (by kernel_rfl) (fun K hK => ?_)
      go_simp
      refine (h_log (unhide HBS) (unhide HLD)).mono ?_
      rintro e w3 ⟨a3, n3, k3, rfl, hn3, hc3, hb3, hk3⟩
      have HL3 := hide ((unhide HLD).kp0 hk3)
      clear c0 v0
      have c0 := (unhide HL3).c0
      have v0 := (unhide HL3).v0
      have v3 := str_of hb3 n3 k3 hn3 w3 (Kp.refl _ _)
      clear hn3 hc3 hb3 hk3
      go_wp2_with fail
      refine hK.out _ _ (And.intro c0 v0) (fun hHeld2 => ?_)
      clear hK K hHeld
      have hHeld := hHeld2
      clear hHeld2
      try simp only [Act.put, List.setIfInBounds_toArray, List.set_cons_zero, List.set_cons_succ]
      refine wpAnyH_switch (S' := fun w' => (convert 55 9 (.slice a3 n3 k3)).run Try.prog w' = .ok (.string ⟨bs.toArray⟩) w' ∧ w'.cell? ⟨hb, 0, none⟩ = some (.pointer (some ⟨vb, 0, none⟩)) ∧ w'.cell? ⟨vb, 0, none⟩ = some (.pointer (some ⟨tb, 0, none⟩))) (fun _ h => h.2) ?_
      clear hHeld
      have hHeld := And.intro v3 (And.intro c0 v0)
      refine wpAnyH_tk (i := 5) (v := ?_) rfl (by kernel_rfl) (by kernel_rfl) (by kernel_rfl) (fun _ _ _ h => h) (Or.inl ⟨by rfl, ?_⟩) hHeld ?_
      rotate_left
      · intro w hSw
        try dsimp only at hSw
        go_simp
        try with_reducible rfl
      try simp only [Act.put, List.setIfInBounds_toArray, List.set_cons_zero, List.set_cons_succ]
      refine wpAnyH_only (i := 13) rfl (by kernel_rfl) (fun K hK => ?_)
      go_simp
      refine (h_last (unhide HL3)).mono ?_
      rintro e w' ⟨rfl, hw'⟩
      subst w'
      go_wp2_with fail
      refine hK.out _ _ (And.intro v3 (And.intro c0 v0)) (fun hHeld2 => ?_)
      clear hK K hHeld
      have hHeld := hHeld2
      clear hHeld2
      try simp only [Act.put, List.setIfInBounds_toArray, List.set_cons_zero, List.set_cons_succ]
      refine wpAnyH_tk (i := 14) (v := ?_) rfl (by kernel_rfl) (by kernel_rfl) (by kernel_rfl) (fun _ _ _ h => h) (Or.inl ⟨by rfl, ?_⟩) hHeld ?_
      rotate_left
      · intro w hSw
        try dsimp only at hSw
        go_simp
        try with_reducible rfl
      try simp only [Act.put, List.setIfInBounds_toArray, List.set_cons_zero, List.set_cons_succ]
      refine wpAnyH_tk (i := 15) (v := ?_) rfl (by kernel_rfl) (by kernel_rfl) (by kernel_rfl) (fun _ _ _ h => h) (Or.inl ⟨by rfl, ?_⟩) hHeld ?_
      rotate_left
      · intro w hSw
        try dsimp only at hSw
        go_simp
        try with_reducible rfl
      try simp only [Act.put, List.setIfInBounds_toArray, List.set_cons_zero, List.set_cons_succ]
      refine wpAnyH_done (by kernel_rfl) ?_ _
      clear hHeld v3 HLD
      have hl := (unhide HL3).lt
      have vl := (unhide HL3).vlt_
      go_wp2_with fail
      refine (h_sheet (shk_last' (unhide HI2)) v (by rw [unhide HV]) (unhide HL3)).mono ?_
      rintro e w5 ⟨rfl, HL5⟩
      clear c0 v0 hl vl HL3
      have HL6 := hide ((unhide HL5).two (wagg v) 72 (bl (fb sd 0)) 84)
      rw [fb_zero] at HL6
      go_wp2_with (refine wpList_store_row rfl 72 _ _ rfl w5.heap.size (wagg v) rfl rfl 72 _ (heap_alloc_new w5 _) Try.size72 rfl (wagg_one _) ?_; rw [World.setRow_alloc_new])
      generalize (w5.alloc (.cells (wagg v) 72)).alloc (.cells #[.bool false, .bool false, .bool false, .bool false, .bool false] 84) = W6 at HL6 ⊢
      generalize w5.heap.size + 1 = pb at HL6 ⊢
      generalize w5.heap.size = pw at HL6 ⊢
      rw [← fb_zero sd] at HL6
      clear HL5
      go_loopw [10] (fun i wr => ∃ s : Nat, s ≤ 5 ∧ i = .int .i64 s ∧ Hid (Hall w1 wr hb vb tb gb h sd [BoxT pb (bl (fb sd s)) 84, BoxT pw (wagg v) 72])) (fun i _ => 5 - (intOf i).toNat)
      case atStart => exact ⟨0, by omega, rfl, HL6⟩
      case round =>
        obtain ⟨s, hs5, rfl, HB⟩ := hrel
        by_cases hlt5 : s < 5
        · have j1 : (s : Int) < 5 := by omega
          have j0 : (0 : Int) ≤ (s : Int) := by omega
          have hq := (unhide HB).var (List.Mem.head _)
          have b0 := cell_of_block hq (bl_at (fb sd s) hlt5)
          have b1 := frozen_of_block s hq
          clear hq
          go_wp2_with fail
          refine (h_busy (s : Int) (unhide HB)).mono ?_
          rintro e w' ⟨rfl, hw'⟩
          subst w'
          rw [dat_in hlt5]
          have HB2 := hide ((unhide HB).set0 s (.bool (sd s).isSome))
          rw [bl_set _ hlt5, fb_succ] at HB2
          go_wp2_with fail
          exact ⟨⟨s + 1, by omega, by go_num, by simpa using HB2⟩, by simp [intOf]; omega⟩
        · have j1 : ¬ (s : Int) < 5 := by omega
          have es : s = 5 := by omega
          subst es
          have HZ7 := hide (hal_close (unhide HSD) (unhide HI2) (unhide HB))
          obtain ⟨lb', lo, rfl, hst⟩ := (unhide HS).2 (by omega)
          have HSK := hide (fun W (hk : Kp [] w W) => (hst k hlt).kp0 hk)
          obtain ⟨q0, q1, q2, q3, q4, q5, q6, q7, hsz⟩ := (hst k hlt).kp0 ((unhide HK1).trans0 (unhide HZ7).kp)
          clear hst
          generalize (st k) = x at *
          have HD := hide (hal_do x hsz (unhide HZ7))
          have hfd := ev_code
          by_cases hc : (hev h x).c = 0
          · rw [hc] at HD
            clear HSK
            obtain ⟨xd, xs, xm, xa, xk, xt, xp, xb⟩ := x
            dsimp only at q0 q1 q2 q3 q4 q5 q6 q7
            go_wp2_with fail
            refine (unhide HD).mono ?_
            rintro e w8 ⟨a8, cap8, rfl, HY⟩
            clear q0 q1 q2 q3 q4 q5 q6 q7 HD
            go_wp2_with fail
            exact ⟨⟨k + 1, by omega, by go_num, _, hal_drop (hal_drop (hal_drop (unhide HY)))⟩, by simp [intOf]; omega⟩
          · obtain ⟨h', e0, hi', e1, e2, e3, e4⟩ := rf_facts (unhide HI2) x hc
            rw [e0] at HD
            have HI3 := hide hi'
            have E4 := hide e4
            have HBS' := hide (show lb h'.cs ++ [] = bs by rw [e1]; exact unhide HBS)
            have HV' := hide (e3.trans (unhide HV))
            have HSK3 := hide (show ShK h'.f h'.n h.n 8 by rw [← e2]; exact shk_last' hi')
            have E2 := hide e2
            clear e0 e1 e2 e3 e4 hi'
            generalize hzz : (hev h x).c = z at *
            clear hzz
            have hcb : (z == 0) = false := beq_eq_false_iff_ne.2 hc
            obtain ⟨xd, xs, xm, xa, xk, xt, xp, xb⟩ := x
            dsimp only at q0 q1 q2 q3 q4 q5 q6 q7
            go_wp2_with fail
            refine (unhide HD).mono ?_
            rintro e w8 ⟨a8, cap8, rfl, HY⟩
            clear q0 q1 q2 q3 q4 q5 q6 q7 HD
            obtain ⟨vb2, tb2, gb2, sd2, hsd2, -, hl2⟩ := hal_open (hal_drop (unhide HY))
            have HL := hide hl2
            have HSD2 := hide hsd2
            clear hl2 hsd2 HY HB HZ7
            have c0 := (unhide HL).c0
            have v0 := (unhide HL).v0
            have hl := (unhide HL).lt
            have vl := (unhide HL).vlt_
            go_wp2_with fail
            refine (h_sheet (unhide HSK3) v (by rw [unhide HV']) (unhide HL)).mono ?_
            rintro e w9 ⟨rfl, HL9⟩
            clear c0 v0 hl vl HL
            have HL10 := hide ((unhide HL9).new (wagg v) 72)
            have A0 := hide ((unhide HL9).var (List.Mem.tail _ (List.Mem.head _)))
            have c0 := (unhide HL9).c0
            have v0 := (unhide HL9).v0
            have hl := (unhide HL9).lt
            have vl := (unhide HL9).vlt_
            have heq := eq66 v
            have A1 := hide ((unhide HL10).var (List.Mem.tail _ (List.Mem.tail _ (List.Mem.head _))))
            have A2 := hide ((unhide HL10).var (List.Mem.head _))
            go_wp2_with (first | (refine wpList_store_row rfl 72 _ _ rfl w9.heap.size (wagg v) rfl rfl 72 _ (heap_alloc_new w9 _) Try.size72 rfl (wagg_one _) ?_; rw [World.setRow_alloc_new]) | (refine wpList_load66 (by rfl) _ rfl pw rfl v (unhide A1) ?_) | (refine wpList_load66 (by rfl) _ rfl w9.heap.size rfl v (unhide A2) ?_))
            clear c0 v0 hl vl HL9 A0 A1 A2
            generalize w9.alloc (.cells (wagg v) 72) = W10 at HL10 ⊢
            generalize w9.heap.size = pn at HL10 ⊢
            refine (h_log (unhide HBS') (unhide HL10)).mono ?_
            rintro e w11 ⟨a3, n3, k3, rfl, hn3, hc3, hb3, hk3⟩
            have HL11 := hide ((unhide HL10).kp0 hk3)
            have c0 := (unhide HL11).c0
            have v0 := (unhide HL11).v0
            have v3 := str_of hb3 n3 k3 hn3 w11 (Kp.refl _ _)
            clear hn3 hc3 hb3 hk3 HL10
            go_wp2_with fail
            refine (h_last (unhide HL11)).mono ?_
            rintro e w' ⟨rfl, hw'⟩
            subst w'
            rw [unhide E2]
            clear v3 c0 v0
            go_wp2_with fail
            clear HSK3 HV' HBS'
            go_loopw [13] (fun i wr => ∃ s : Nat, s ≤ 5 ∧ i = .int .i64 s ∧ Hid (Hall w1 wr hb vb2 tb2 gb2 h' sd2 [BoxT pn (wagg v) 72, BoxT pb (bl (fb sd 5)) 84, BoxT pw (wagg v) 72])) (fun i _ => 5 - (intOf i).toNat)
            case atStart => exact ⟨0, by omega, rfl, HL11⟩
            case round =>
              obtain ⟨s, hs5, rfl, HB⟩ := hrel
              by_cases hlt5 : s < 5
              · have j1 : (s : Int) < 5 := by omega
                have j0 : (0 : Int) ≤ (s : Int) := by omega
                have hq := (unhide HB).var (List.Mem.tail _ (List.Mem.head _))
                have b0 := cell_of_block hq (bl_at (fb sd 5) hlt5)
                rw [fb_at sd hlt5] at b0
                have HQ := hide hq
                clear hq
                obtain ⟨q0, q1, q2, q3, q4, q5, q6, q7, -⟩ := (unhide HSK) _ ((unhide HK1).trans0 (Zoo.kp (unhide HB)))
                dsimp only at q0 q1 q2 q3 q4 q5 q6 q7
                clear q2 q3 q4 q5 q6 q7
                have HBU := hide (fun W (hk : Kp [] _ W) => h_busy (s : Int) ((unhide HB).kp0 hk))
                rw [dat_in hlt5] at HBU
                have E5 := hide (unhide E4 s)
                rw [← (unhide HSD2).some, ← (unhide HSD).some] at E5
                by_cases k6 : xd = 6
                · subst k6
                  by_cases ks : xs = (s : Int)
                  · subst ks
                    have eb : (sd2 s).isSome = ((sd s).isSome && !true) := by rw [unhide E5]; simp
                    rw [eb] at HBU
                    clear eb E5
                    generalize (sd s).isSome = b1 at *
                    go_wp2_with fail
                    cases b1 with
                    | true =>
                      go_quiet ((go_at_call 25; exact Calls.quiet_of_same (unhide HBU _ ((Kp.refl [] _).drewN _))))
                      go_wp2_with fail
                      exact ⟨⟨s + 1, by omega, by go_num, (unhide HB).kp0 ((Kp.refl [] _).drewN _)⟩, by simp [intOf]; omega⟩
                    | false =>
                      go_quiet ((go_at_call 25; exact Calls.quiet_of_same (unhide HBU _ ((Kp.refl [] _).drewN _))))
                      go_wp2_with fail
                      exact ⟨⟨s + 1, by omega, by go_num, (unhide HB).kp0 ((Kp.refl [] _).drewN _)⟩, by simp [intOf]; omega⟩
                  · have ks1 : ((s : Int) == xs) = false := beq_eq_false_iff_ne.2 (fun e => ks e.symm)
                    have eb : (sd2 s).isSome = ((sd s).isSome && !false) := by rw [unhide E5]; simp [ks]
                    rw [eb] at HBU
                    clear eb E5
                    generalize (sd s).isSome = b1 at *
                    go_wp2_with fail
                    cases b1 with
                    | true =>
                      go_quiet ((go_at_call 25; exact Calls.quiet_of_same (unhide HBU _ ((Kp.refl [] _).drewN _))))
                      go_wp2_with fail
                      exact ⟨⟨s + 1, by omega, by go_num, (unhide HB).kp0 ((Kp.refl [] _).drewN _)⟩, by simp [intOf]; omega⟩
                    | false =>
                      go_quiet ((go_at_call 25; exact Calls.quiet_of_same (unhide HBU _ ((Kp.refl [] _).drewN _))))
                      go_wp2_with fail
                      exact ⟨⟨s + 1, by omega, by go_num, (unhide HB).kp0 ((Kp.refl [] _).drewN _)⟩, by simp [intOf]; omega⟩
                · have k6b : (xd == 6) = false := beq_eq_false_iff_ne.2 k6
                  by_cases k10 : xd = 10
                  · subst k10
                    by_cases hx5 : 0 ≤ xs ∧ xs < 5
                    · obtain ⟨j, rfl, hj5⟩ := seat_in hx5
                      have hsb : seatB (j : Int) = true := decide_eq_true hx5
                      have d0 := cell_of_block (unhide HQ) (bl_at (fb sd 5) hj5)
                      rw [fb_at sd hj5] at d0
                      have l0 : (0 : Int) ≤ (j : Int) := by omega
                      have l5 : (j : Int) < 5 := by omega
                      rw [Int.toNat_natCast, ← (unhide HSD).some j] at E5
                      cases ho : (sd j).isSome with
                      | true =>
                        rw [ho] at d0 E5
                        have eb : (sd2 s).isSome = ((sd s).isSome && !true) := by rw [unhide E5]; simp [l0, l5]
                        rw [eb] at HBU
                        clear eb E5 ho
                        generalize (sd s).isSome = b1 at *
                        go_wp2_with fail
                        refine (isseat (j : Int) _).mono ?_
                        rintro e w' ⟨rfl, hw'⟩
                        subst w'
                        rw [hsb]
                        go_wp2_with fail
                        cases b1 with
                        | true =>
                          go_quiet ((go_at_call 25; exact Calls.quiet_of_same (unhide HBU _ ((Kp.refl [] _).drewN _))))
                          go_wp2_with fail
                          exact ⟨⟨s + 1, by omega, by go_num, (unhide HB).kp0 ((Kp.refl [] _).drewN _)⟩, by simp [intOf]; omega⟩
                        | false =>
                          go_quiet ((go_at_call 25; exact Calls.quiet_of_same (unhide HBU _ ((Kp.refl [] _).drewN _))))
                          go_wp2_with fail
                          exact ⟨⟨s + 1, by omega, by go_num, (unhide HB).kp0 ((Kp.refl [] _).drewN _)⟩, by simp [intOf]; omega⟩
                      | false =>
                        rw [ho] at d0 E5
                        have eb : (sd2 s).isSome = ((sd s).isSome && !false) := by rw [unhide E5]; simp [l0, l5]
                        rw [eb] at HBU
                        clear eb E5 ho
                        generalize (sd s).isSome = b1 at *
                        go_wp2_with fail
                        refine (isseat (j : Int) _).mono ?_
                        rintro e w' ⟨rfl, hw'⟩
                        subst w'
                        rw [hsb]
                        go_wp2_with fail
                        cases b1 with
                        | true =>
                          go_quiet ((go_at_call 25; exact Calls.quiet_of_same (unhide HBU _ ((Kp.refl [] _).drewN _))))
                          go_wp2_with fail
                          exact ⟨⟨s + 1, by omega, by go_num, (unhide HB).kp0 ((Kp.refl [] _).drewN _)⟩, by simp [intOf]; omega⟩
                        | false =>
                          go_quiet ((go_at_call 25; exact Calls.quiet_of_same (unhide HBU _ ((Kp.refl [] _).drewN _))))
                          go_wp2_with fail
                          exact ⟨⟨s + 1, by omega, by go_num, (unhide HB).kp0 ((Kp.refl [] _).drewN _)⟩, by simp [intOf]; omega⟩
                    · have hsb : seatB xs = false := decide_eq_false hx5
                      have eb : (sd2 s).isSome = ((sd s).isSome && !false) := by rw [unhide E5]; simp [hx5]
                      rw [eb] at HBU
                      clear eb E5
                      generalize (sd s).isSome = b1 at *
                      go_wp2_with fail
                      refine (isseat xs _).mono ?_
                      rintro e w' ⟨rfl, hw'⟩
                      subst w'
                      rw [hsb]
                      go_wp2_with fail
                      cases b1 with
                      | true =>
                        go_quiet ((go_at_call 25; exact Calls.quiet_of_same (unhide HBU _ ((Kp.refl [] _).drewN _))))
                        go_wp2_with fail
                        exact ⟨⟨s + 1, by omega, by go_num, (unhide HB).kp0 ((Kp.refl [] _).drewN _)⟩, by simp [intOf]; omega⟩
                      | false =>
                        go_quiet ((go_at_call 25; exact Calls.quiet_of_same (unhide HBU _ ((Kp.refl [] _).drewN _))))
                        go_wp2_with fail
                        exact ⟨⟨s + 1, by omega, by go_num, (unhide HB).kp0 ((Kp.refl [] _).drewN _)⟩, by simp [intOf]; omega⟩
                  · have k10b : (xd == 10) = false := beq_eq_false_iff_ne.2 k10
                    have eb : (sd2 s).isSome = ((sd s).isSome && !false) := by rw [unhide E5]; simp [k6, k10]
                    rw [eb] at HBU
                    clear eb E5
                    generalize (sd s).isSome = b1 at *
                    go_wp2_with fail
                    cases b1 with
                    | true =>
                      go_quiet ((go_at_call 25; exact Calls.quiet_of_same (unhide HBU _ ((Kp.refl [] _).drewN _))))
                      go_wp2_with fail
                      exact ⟨⟨s + 1, by omega, by go_num, (unhide HB).kp0 ((Kp.refl [] _).drewN _)⟩, by simp [intOf]; omega⟩
                    | false =>
                      go_quiet ((go_at_call 25; exact Calls.quiet_of_same (unhide HBU _ ((Kp.refl [] _).drewN _))))
                      go_wp2_with fail
                      exact ⟨⟨s + 1, by omega, by go_num, (unhide HB).kp0 ((Kp.refl [] _).drewN _)⟩, by simp [intOf]; omega⟩
              · have j1 : ¬ (s : Int) < 5 := by omega
                go_wp2_with fail
                exact ⟨⟨k + 1, by omega, by go_num, _, hal_drop (hal_drop (hal_drop (hal_close (unhide HSD2) (unhide HI3) (unhide HB))))⟩, by simp [intOf]; omega⟩
    · have i1 : ¬ (k : Int) < (n1 : Int) := by omega
      go_wp2_with fail
      go_ret
      exact ⟨by trivial, ((unhide HK1).trans0 (unhide HI).kp).below (Nat.le_refl _) (by simp)⟩
end Go.Proofs.Ytehhpmfeaeabgac
