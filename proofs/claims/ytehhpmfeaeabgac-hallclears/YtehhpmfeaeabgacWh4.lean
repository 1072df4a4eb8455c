/- HallClears, walked. -/
import Derived.Test.YtehhpmfeaeabgacHv
namespace Go.Proofs.Ytehhpmfeaeabgac
open Go.RowKit
set_option maxRecDepth 20000
attribute [local go_sem ↓] Go.wp_at_zero Go.wp_at_succ

set_option maxHeartbeats 4000000 in
theorem hclears6 (a : Option Addr) (n1 c : Nat) (st : Nat → HStep) (w : World) (h : HSts w a n1 st) :
    Calls Try.prog 6 #[.slice a n1 c] w fun e w' => e = .returned (.bool true) ∧ Below w.heap.size w w' := by
  have HS := hide h
  clear h
  go_enter Try.func6, Try.ntmps6
  go_wp2_with fail
  refine (hbegun w).mono ?_
  rintro e w1 ⟨rfl, hk1⟩
  have HK1 := hide hk1
  clear hk1
  go_wp2_with fail
  refine (gsteps a n1 c st w1 ((unhide HS).kp0 (unhide HK1))).mono ?_
  rintro e w' ⟨q, rfl, hq, hw'⟩
  subst w'
  cases q with
  | true =>
    clear hq
    go_wp2_with fail
    go_ret
    exact ⟨rfl, (unhide HK1).below (Nat.le_refl _) (by simp)⟩
  | false =>
  have h200 := hq rfl
  clear hq
  go_wp2_with fail
  refine (h_new w1).mono ?_
  rintro e w2 ⟨hb, rfl, F, hh, hk⟩
  have HZ0 : Hid (Zoo w1 w2 [HalT hb hs0]) := (zoo_nil (Kp.refl [] w1)).cons hh hk
  clear hh hk
  go_wp2_with fail
  refine (h_new w2).mono ?_
  rintro e w3 ⟨gb, rfl, F2, hh, hk⟩
  have HZ1 : Hid (Zoo w1 w3 [HalT gb hs0, HalT hb hs0]) := (unhide HZ0).cons hh hk
  clear hh hk HZ0
  go_wp2_with fail
  go_loopw [5] (fun i wr => ∃ k : Nat, k ≤ n1 ∧ i = .int .i64 k ∧ ∃ h g, HRel h g ∧ Hid (Zoo w1 wr [HalT hb h, HalT gb g])) (fun i _ => n1 - (intOf i).toNat)
  case atStart => exact ⟨0, by omega, rfl, _, _, hrel_new, zoo_swap (unhide HZ1)⟩
  case round =>
    obtain ⟨k, hk, rfl, h, g, hrl, HI⟩ := hrel
    have HR := hide hrl
    clear hrl
    by_cases hlt : k < n1
    · obtain ⟨lb', lo, rfl, hst⟩ := (unhide HS).2 (by omega)
      have HSK := hide (fun W (hk : Kp [] w W) => (hst k hlt).kp0 hk)
      obtain ⟨q0, q1, q2, q3, q4, q5, q6, q7, hsz⟩ := (hst k hlt).kp0 ((unhide HK1).trans0 (unhide HI).kp)
      have i0 : (0 : Int) ≤ (k : Int) := by omega
      have i1 : (k : Int) < (n1 : Int) := by omega
      clear hst
      generalize (st k) = x at *
      have HD := hide (hal_do x hsz (unhide HI))
      have HLN := hide (hev_len h x)
      have HOLD := hide (fun hc => hdo_old (unhide HR).hi x hc)
      have HCL := hide (fun hc => (unhide HR).clear (x := x) hc)
      have HST := hide (fun h1 h2 => (unhide HR).step x h1 h2)
      have HDG := hide (fun W (z : Zoo w1 W [HalT gb g]) => z)
      have HXX := hide (fun (W : World) (r : List Thing) (hz : Zoo w1 W (HalT gb g :: r)) => hal_do x hsz hz)
      generalize hev h x = v at *
      generalize hdo h x = h' at *
      obtain ⟨xd, xs, xm, xa, xk, xt, xp, xb⟩ := x
      dsimp only at q0 q1 q2 q3 q4 q5 q6 q7
      go_wp2_with fail
      refine (unhide HD).mono ?_
      rintro e w4 ⟨a4, cap4, rfl, HY⟩
      clear q0 q1 q2 q3 q4 q5 q6 q7 HD
      have HY2 := hide ((unhide HY).box #[.int .i64 v.c, .int .i64 v.n, .bool v.t, .string v.s, .slice a4 v.l.length cap4] 34)
      obtain ⟨q0, -, -, -, -, -, -, -, -⟩ := (unhide HSK) _ ((unhide HK1).trans0 (unhide HY).kp)
      dsimp only at q0
      have ql := lt_of_cell q0
      by_cases k8 : xd = 8
      · have hr8 := unhide HCL k8
        subst k8
        have HR8 := hide hr8
        clear hr8
        go_wp2_with fail
        exact ⟨⟨k + 1, by omega, by go_num, _, _, unhide HR8, hal_drop (unhide HY2).tail⟩, by simp [intOf]; omega⟩
      · have k8b : (xd == 8) = false := beq_eq_false_iff_ne.2 k8
        by_cases k12 : v.c = 12
        · have ho := unhide HOLD k12
          have HO := hide ho
          clear ho
          rw [k12] at HY2 ⊢
          go_wp2_with fail
          exact ⟨⟨k + 1, by omega, by go_num, h, g, unhide HR, by rw [← unhide HO]; exact hal_drop (unhide HY2).tail⟩, by simp [intOf]; omega⟩
        · have k12b : (v.c == 12) = false := beq_eq_false_iff_ne.2 k12
          have hst2 := unhide HST k8 k12
          obtain ⟨hv2, hr2⟩ := hst2
          have HR2 := hide hr2
          have HV2 := hide hv2
          clear hr2 hv2
          go_wp2_with fail
          clear q0 ql HY
          generalize w4.alloc (.cells #[.int .i64 v.c, .int .i64 v.n, .bool v.t, .string v.s, .slice a4 v.l.length cap4] 34) = W5 at HY2 ⊢
          generalize w4.heap.size = pe at HY2 ⊢
          have HZD := hide ((unhide HY2).kp0 (Kp.refl [] _).drew)
          clear HY2
          obtain ⟨q0, q1, q2, q3, q4, q5, q6, q7, -⟩ := (unhide HSK) _ ((unhide HK1).trans0 (unhide HZD).kp)
          dsimp only at q0 q1 q2 q3 q4 q5 q6 q7
          obtain ⟨e0, e1, e2, e3, e4, -, -, -, -, -⟩ := evF ((unhide HZD).var)
          refine wp_region_held_drew (S := fun w' => w'.cell? ⟨lb', lo + k * 8, none⟩ = some (.int .i64 xd) ∧ w'.cell? ⟨lb', lo + k * 8 + 1, none⟩ = some (.int .i64 xs) ∧ w'.cell? ⟨lb', lo + k * 8 + 2, none⟩ = some (.int .i64 xm) ∧ w'.cell? ⟨lb', lo + k * 8 + 3, none⟩ = some (.int .i64 xa) ∧ w'.cell? ⟨lb', lo + k * 8 + 4, none⟩ = some (.int .i64 xk) ∧ w'.cell? ⟨lb', lo + k * 8 + 5, none⟩ = some (.int .i64 xt) ∧ w'.cell? ⟨lb', lo + k * 8 + 6, none⟩ = some (.int .i64 xp) ∧ w'.cell? ⟨lb', lo + k * 8 + 7, none⟩ = some (.string xb) ∧ w'.cell? ⟨pe, 0, none⟩ = some (.int .i64 v.c) ∧ w'.cell? ⟨pe, 1, none⟩ = some (.int .i64 v.n) ∧ w'.cell? ⟨pe, 2, none⟩ = some (.bool v.t) ∧ w'.cell? ⟨pe, 3, none⟩ = some (.string v.s) ∧ w'.cell? ⟨pe, 4, none⟩ = some (.slice a4 v.l.length cap4)) (by kernel_rfl) (⟨q0, q1, q2, q3, q4, q5, q6, q7, e0, e1, e2, e3, e4⟩) (fun hHeld => ?_)
          refine wpAnyH_tk (i := 0) (v := ?_) rfl (by kernel_rfl) (by kernel_rfl) (by kernel_rfl) (fun _ _ _ h => h) (Or.inl ⟨by rfl, ?_⟩) hHeld ?_
          rotate_left
          · intro w hSw
            try dsimp only at hSw
            go_simp
            try with_reducible rfl
          try simp only [Act.put, List.setIfInBounds_toArray, List.set_cons_zero, List.set_cons_succ]
          refine wpAnyH_tk (i := 1) (v := ?_) rfl (by kernel_rfl) (by kernel_rfl) (by kernel_rfl) (fun _ _ _ h => h) (Or.inl ⟨by rfl, ?_⟩) hHeld ?_
          rotate_left
          · intro w hSw
            try dsimp only at hSw
            go_simp
            try with_reducible rfl
          try simp only [Act.put, List.setIfInBounds_toArray, List.set_cons_zero, List.set_cons_succ]
          refine wpAnyH_tk (i := 2) (v := ?_) rfl (by kernel_rfl) (by kernel_rfl) (by kernel_rfl) (fun _ _ _ h => h) (Or.inl ⟨by rfl, ?_⟩) hHeld ?_
          rotate_left
          · intro w hSw
            try dsimp only at hSw
            go_simp
            try with_reducible rfl
          try simp only [Act.put, List.setIfInBounds_toArray, List.set_cons_zero, List.set_cons_succ]
          refine wpAnyH_tk (i := 3) (v := ?_) rfl (by kernel_rfl) (by kernel_rfl) (by kernel_rfl) (fun _ _ _ h => h) (Or.inl ⟨by rfl, ?_⟩) hHeld ?_
          rotate_left
          · intro w hSw
            try dsimp only at hSw
            go_simp
            try with_reducible rfl
          try simp only [Act.put, List.setIfInBounds_toArray, List.set_cons_zero, List.set_cons_succ]
          refine wpAnyH_tk (i := 4) (v := ?_) rfl (by kernel_rfl) (by kernel_rfl) (by kernel_rfl) (fun _ _ _ h => h) (Or.inl ⟨by rfl, ?_⟩) hHeld ?_
          rotate_left
          · intro w hSw
            try dsimp only at hSw
            go_simp
            try with_reducible rfl
          try simp only [Act.put, List.setIfInBounds_toArray, List.set_cons_zero, List.set_cons_succ]
          refine wpAnyH_tk (i := 5) (v := ?_) rfl (by kernel_rfl) (by kernel_rfl) (by kernel_rfl) (fun _ _ _ h => h) (Or.inl ⟨by rfl, ?_⟩) hHeld ?_
          rotate_left
          · intro w hSw
            try dsimp only at hSw
            go_simp
            try with_reducible rfl
          try simp only [Act.put, List.setIfInBounds_toArray, List.set_cons_zero, List.set_cons_succ]
          refine wpAnyH_only (i := 6) rfl (by kernel_rfl) (fun K hK => ?_)
          go_simp
          refine (unhide HXX _ _ ((unhide HZD).perm (List.perm_middle (l₁ := [_, _, _])))).mono ?_
          rintro e w6 ⟨a6, cap6, rfl, HG⟩
          rw [← unhide HV2]
          rw [← unhide HV2] at HG
          clear q0 q1 q2 q3 q4 q5 q6 q7 e0 e1 e2 e3 e4
          obtain ⟨q0, q1, q2, q3, q4, q5, q6, q7, -⟩ := (unhide HSK) _ ((unhide HK1).trans0 (unhide HG).kp)
          dsimp only at q0 q1 q2 q3 q4 q5 q6 q7
          obtain ⟨e0, e1, e2, e3, e4, -, -, -, -, -⟩ := evF (zoo_varm (p := pe) (unhide HG) (List.Mem.tail _ (List.Mem.tail _ (List.Mem.head _))))
          go_wp2_with fail
          refine hK.out _ _ (⟨q0, q1, q2, q3, q4, q5, q6, q7, e0, e1, e2, e3, e4⟩) (fun hHeld2 => ?_)
          clear hK K hHeld
          have hHeld := hHeld2
          clear hHeld2
          try simp only [Act.put, List.setIfInBounds_toArray, List.set_cons_zero, List.set_cons_succ]
          refine wpAnyH_only (i := 7) rfl (by kernel_rfl) (fun K hK => ?_)
          go_simp
          refine (sameev v a4 a6 cap4 cap6 _ (ps_slo (unhide HG) (List.Mem.tail _ (List.Mem.tail _ (List.Mem.tail _ (List.Mem.tail _ (List.Mem.head _)))))) (ps_slo (unhide HG) (List.Mem.tail _ (List.Mem.head _))) (by have := unhide HLN; omega)).mono ?_
          rintro e w7 ⟨rfl, hk7⟩
          have HG7 := hide ((unhide HG).kp0 hk7)
          clear q0 q1 q2 q3 q4 q5 q6 q7 e0 e1 e2 e3 e4 HG hk7
          obtain ⟨q0, q1, q2, q3, q4, q5, q6, q7, -⟩ := (unhide HSK) _ ((unhide HK1).trans0 (unhide HG7).kp)
          dsimp only at q0 q1 q2 q3 q4 q5 q6 q7
          obtain ⟨e0, e1, e2, e3, e4, -, -, -, -, -⟩ := evF (zoo_varm (p := pe) (unhide HG7) (List.Mem.tail _ (List.Mem.tail _ (List.Mem.head _))))
          obtain ⟨vb, tb, c0, v0, HL1, -⟩ := hal_view (unhide HG7) (List.Mem.tail _ (List.Mem.tail _ (List.Mem.tail _ (List.Mem.head _))))
          obtain ⟨vb2, tb2, d0, u0, HL2, -⟩ := hal_view (unhide HG7) (List.Mem.head _)
          go_wp2_with fail
          refine hK.out _ _ (⟨q0, q1, q2, q3, q4, q5, q6, q7, e0, e1, e2, e3, e4⟩) (fun hHeld2 => ?_)
          clear hK K hHeld
          have hHeld := hHeld2
          clear hHeld2
          try simp only [Act.put, List.setIfInBounds_toArray, List.set_cons_zero, List.set_cons_succ]
          refine wpAnyH_switch (S' := fun w' => (w'.cell? ⟨lb', lo + k * 8, none⟩ = some (.int .i64 xd) ∧ w'.cell? ⟨lb', lo + k * 8 + 1, none⟩ = some (.int .i64 xs) ∧ w'.cell? ⟨lb', lo + k * 8 + 2, none⟩ = some (.int .i64 xm) ∧ w'.cell? ⟨lb', lo + k * 8 + 3, none⟩ = some (.int .i64 xa) ∧ w'.cell? ⟨lb', lo + k * 8 + 4, none⟩ = some (.int .i64 xk) ∧ w'.cell? ⟨lb', lo + k * 8 + 5, none⟩ = some (.int .i64 xt) ∧ w'.cell? ⟨lb', lo + k * 8 + 6, none⟩ = some (.int .i64 xp) ∧ w'.cell? ⟨lb', lo + k * 8 + 7, none⟩ = some (.string xb) ∧ w'.cell? ⟨pe, 0, none⟩ = some (.int .i64 v.c) ∧ w'.cell? ⟨pe, 1, none⟩ = some (.int .i64 v.n) ∧ w'.cell? ⟨pe, 2, none⟩ = some (.bool v.t) ∧ w'.cell? ⟨pe, 3, none⟩ = some (.string v.s) ∧ w'.cell? ⟨pe, 4, none⟩ = some (.slice a4 v.l.length cap4)) ∧ (w'.cell? ⟨hb, 0, none⟩ = some (.pointer (some ⟨vb, 0, none⟩)) ∧ w'.cell? ⟨vb, 0, none⟩ = some (.pointer (some ⟨tb, 0, none⟩)) ∧ w'.cell? ⟨gb, 0, none⟩ = some (.pointer (some ⟨vb2, 0, none⟩)) ∧ w'.cell? ⟨vb2, 0, none⟩ = some (.pointer (some ⟨tb2, 0, none⟩)))) (fun _ h => h.1) ?_
          clear hHeld
          have hHeld := And.intro (And.intro q0 (And.intro q1 (And.intro q2 (And.intro q3 (And.intro q4 (And.intro q5 (And.intro q6 (And.intro q7 (And.intro e0 (And.intro e1 (And.intro e2 (And.intro e3 (e4))))))))))))) (And.intro c0 (And.intro v0 (And.intro d0 (u0))))
          refine wpAnyH_tk (i := 8) (v := ?_) rfl (by kernel_rfl) (by kernel_rfl) (by kernel_rfl) (fun _ _ _ h => h) (Or.inl ⟨by rfl, ?_⟩) hHeld ?_
          rotate_left
          · intro w hSw
            try dsimp only at hSw
            go_simp
            try with_reducible rfl
          try simp only [Act.put, List.setIfInBounds_toArray, List.set_cons_zero, List.set_cons_succ]
          refine wpAnyH_tk (i := 9) (v := ?_) rfl (by kernel_rfl) (by kernel_rfl) (by kernel_rfl) (fun _ _ _ h => h) (Or.inl ⟨by rfl, ?_⟩) hHeld ?_
          rotate_left
          · intro w hSw
            try dsimp only at hSw
            go_simp
            try with_reducible rfl
          try simp only [Act.put, List.setIfInBounds_toArray, List.set_cons_zero, List.set_cons_succ]
          refine wpAnyH_tk (i := 10) (v := ?_) rfl (by kernel_rfl) (by kernel_rfl) (by kernel_rfl) (fun _ _ _ h => h) (Or.inl ⟨by rfl, ?_⟩) hHeld ?_
          rotate_left
          · intro w hSw
            try dsimp only at hSw
            go_simp
            try with_reducible rfl
          try simp only [Act.put, List.setIfInBounds_toArray, List.set_cons_zero, List.set_cons_succ]
          refine wpAnyH_tk (i := 11) (v := ?_) rfl (by kernel_rfl) (by kernel_rfl) (by kernel_rfl) (fun _ _ _ h => h) (Or.inl ⟨by rfl, ?_⟩) hHeld ?_
          rotate_left
          · intro w hSw
            try dsimp only at hSw
            go_simp
            try with_reducible rfl
          try simp only [Act.put, List.setIfInBounds_toArray, List.set_cons_zero, List.set_cons_succ]
          refine wpAnyH_tk (i := 12) (v := ?_) rfl (by kernel_rfl) (by kernel_rfl) (by kernel_rfl) (fun _ _ _ h => h) (Or.inl ⟨by rfl, ?_⟩) hHeld ?_
          rotate_left
          · intro w hSw
            try dsimp only at hSw
            go_simp
            try with_reducible rfl
          try simp only [Act.put, List.setIfInBounds_toArray, List.set_cons_zero, List.set_cons_succ]
          refine wpAnyH_tk (i := 13) (v := ?_) rfl (by kernel_rfl) (by kernel_rfl) (by kernel_rfl) (fun _ _ _ h => h) (Or.inl ⟨by rfl, ?_⟩) hHeld ?_
          rotate_left
          · intro w hSw
            try dsimp only at hSw
            go_simp
            try with_reducible rfl
          try simp only [Act.put, List.setIfInBounds_toArray, List.set_cons_zero, List.set_cons_succ]
          refine wpAnyH_tk (i := 14) (v := ?_) rfl (by kernel_rfl) (by kernel_rfl) (by kernel_rfl) (fun _ _ _ h => h) (Or.inl ⟨by rfl, ?_⟩) hHeld ?_
          rotate_left
          · intro w hSw
            try dsimp only at hSw
            go_simp
            try with_reducible rfl
          try simp only [Act.put, List.setIfInBounds_toArray, List.set_cons_zero, List.set_cons_succ]
          refine wpAnyH_tk (i := 15) (v := ?_) rfl (by kernel_rfl) (by kernel_rfl) (by kernel_rfl) (fun _ _ _ h => h) (Or.inl ⟨by rfl, ?_⟩) hHeld ?_
          rotate_left
          · intro w hSw
            try dsimp only at hSw
            go_simp
            try with_reducible rfl
          try simp only [Act.put, List.setIfInBounds_toArray, List.set_cons_zero, List.set_cons_succ]
          refine wpAnyH_tk (i := 16) (v := ?_) rfl (by kernel_rfl) (by kernel_rfl) (by kernel_rfl) (fun _ _ _ h => h) (Or.inl ⟨by rfl, ?_⟩) hHeld ?_
          rotate_left
          · intro w hSw
            try dsimp only at hSw
            go_simp
            try with_reducible rfl
          try simp only [Act.put, List.setIfInBounds_toArray, List.set_cons_zero, List.set_cons_succ]
          refine wpAnyH_tk (i := 18) (v := ?_) rfl (by kernel_rfl) (by kernel_rfl) (by kernel_rfl) (fun _ _ _ h => h) (Or.inl ⟨by rfl, ?_⟩) hHeld ?_
          rotate_left
          · intro w hSw
            try dsimp only at hSw
            go_simp
            try with_reducible rfl
          try simp only [Act.put, List.setIfInBounds_toArray, List.set_cons_zero, List.set_cons_succ]
          refine wpAnyH_tk (i := 19) (v := ?_) rfl (by kernel_rfl) (by kernel_rfl) (by kernel_rfl) (fun _ _ _ h => h) (Or.inl ⟨by rfl, ?_⟩) hHeld ?_
          rotate_left
          · intro w hSw
            try dsimp only at hSw
            go_simp
            try with_reducible rfl
          try simp only [Act.put, List.setIfInBounds_toArray, List.set_cons_zero, List.set_cons_succ]
          refine wpAnyH_tk (i := 20) (v := ?_) rfl (by kernel_rfl) (by kernel_rfl) (by kernel_rfl) (fun _ _ _ h => h) (Or.inl ⟨by rfl, ?_⟩) hHeld ?_
          rotate_left
          · intro w hSw
            try dsimp only at hSw
            go_simp
            try with_reducible rfl
          try simp only [Act.put, List.setIfInBounds_toArray, List.set_cons_zero, List.set_cons_succ]
          refine wpAnyH_tk (i := 21) (v := ?_) rfl (by kernel_rfl) (by kernel_rfl) (by kernel_rfl) (fun _ _ _ h => h) (Or.inl ⟨by rfl, ?_⟩) hHeld ?_
          rotate_left
          · intro w hSw
            try dsimp only at hSw
            go_simp
            try with_reducible rfl
          try simp only [Act.put, List.setIfInBounds_toArray, List.set_cons_zero, List.set_cons_succ]
          refine wpAnyH_tk (i := 22) (v := ?_) rfl (by kernel_rfl) (by kernel_rfl) (by kernel_rfl) (fun _ _ _ h => h) (Or.inl ⟨by rfl, ?_⟩) hHeld ?_
          rotate_left
          · intro w hSw
            try dsimp only at hSw
            go_simp
            try with_reducible rfl
          try simp only [Act.put, List.setIfInBounds_toArray, List.set_cons_zero, List.set_cons_succ]
          refine wpAnyH_tk (i := 23) (v := ?_) rfl (by kernel_rfl) (by kernel_rfl) (by kernel_rfl) (fun _ _ _ h => h) (Or.inl ⟨by rfl, ?_⟩) hHeld ?_
          rotate_left
          · intro w hSw
            try dsimp only at hSw
            go_simp
            try with_reducible rfl
          try simp only [Act.put, List.setIfInBounds_toArray, List.set_cons_zero, List.set_cons_succ]
          refine wpAnyH_tk (i := 24) (v := ?_) rfl (by kernel_rfl) (by kernel_rfl) (by kernel_rfl) (fun _ _ _ h => h) (Or.inl ⟨by rfl, ?_⟩) hHeld ?_
          rotate_left
          · intro w hSw
            try dsimp only at hSw
            go_simp
            try with_reducible rfl
          try simp only [Act.put, List.setIfInBounds_toArray, List.set_cons_zero, List.set_cons_succ]
          refine wpAnyH_only (i := 17) rfl (by kernel_rfl) (fun K hK => ?_)
          go_simp
          refine (unhide HL1 _ (Kp.refl _ _)).mono ?_
          rintro e w' ⟨rfl, hw'⟩
          subst w'
          go_wp2_with fail
          refine hK.out _ _ (hHeld) (fun hHeld2 => ?_)
          clear hK K hHeld
          have hHeld := hHeld2
          clear hHeld2
          try simp only [Act.put, List.setIfInBounds_toArray, List.set_cons_zero, List.set_cons_succ]
          refine wpAnyH_only (i := 25) rfl (by kernel_rfl) (fun K hK => ?_)
          go_simp
          refine (unhide HL2 _ (Kp.refl _ _)).mono ?_
          rintro e w' ⟨rfl, hw'⟩
          subst w'
          rw [← (unhide HR2).n]
          go_wp2_with fail
          refine hK.out _ _ (hHeld) (fun hHeld2 => ?_)
          clear hK K hHeld
          have hHeld := hHeld2
          clear hHeld2
          try simp only [Act.put, List.setIfInBounds_toArray, List.set_cons_zero, List.set_cons_succ]
          refine wpAnyH_tk (i := 26) (v := ?_) rfl (by kernel_rfl) (by kernel_rfl) (by kernel_rfl) (fun _ _ _ h => h) (Or.inl ⟨by rfl, ?_⟩) hHeld ?_
          rotate_left
          · intro w hSw
            try dsimp only at hSw
            go_simp
            try with_reducible rfl
          try simp only [Act.put, List.setIfInBounds_toArray, List.set_cons_zero, List.set_cons_succ]
          refine wpAnyH_tk (i := 27) (v := ?_) rfl (by kernel_rfl) (by kernel_rfl) (by kernel_rfl) (fun _ _ _ h => h) (Or.inl ⟨by rfl, ?_⟩) hHeld ?_
          rotate_left
          · intro w hSw
            try dsimp only at hSw
            go_simp
            try with_reducible rfl
          try simp only [Act.put, List.setIfInBounds_toArray, List.set_cons_zero, List.set_cons_succ]
          refine wpAnyH_done (by kernel_rfl) ?_ _
          clear hHeld
          go_wp2_with fail
          exact ⟨⟨k + 1, by omega, by go_num, _, _, unhide HR2, Zoo.drop_ (l1 := [_, _]) (zoo_swap (hal_drop (hal_drop (unhide HG7))))⟩, by simp [intOf]; omega⟩
    · have i1 : ¬ (k : Int) < (n1 : Int) := by omega
      obtain ⟨bs, hbs⟩ : ∃ bs, lb h.cs ++ [] = bs := ⟨_, rfl⟩
      have HBS := hide hbs
      have HBG := hide (show lb g.cs ++ [] = bs by rw [← (unhide HR).cs]; exact hbs)
      clear hbs
      have HZD := hide ((unhide HI).kp0 (Kp.refl [] _).drew)
      obtain ⟨vb, tb, c0, v0, -, HL1⟩ := hal_view (unhide HZD) (List.Mem.head _)
      obtain ⟨vb2, tb2, d0, u0, -, HL2⟩ := hal_view (unhide HZD) (List.Mem.tail _ (List.Mem.head _))
      clear v0 u0
      go_wp2_with fail
      refine wp_region_held_drew (S := fun w' => w'.cell? ⟨hb, 0, none⟩ = some (.pointer (some ⟨vb, 0, none⟩)) ∧ w'.cell? ⟨gb, 0, none⟩ = some (.pointer (some ⟨vb2, 0, none⟩))) (by kernel_rfl) (⟨c0, d0⟩) (fun hHeld => ?_)
      refine wpAnyH_tk (i := 0) (v := ?_) rfl (by kernel_rfl) (by kernel_rfl) (by kernel_rfl) (fun _ _ _ h => h) (Or.inl ⟨by rfl, ?_⟩) hHeld ?_
      rotate_left
      · intro w hSw
        try dsimp only at hSw
        go_simp
        try with_reducible rfl
      try simp only [Act.put, List.setIfInBounds_toArray, List.set_cons_zero, List.set_cons_succ]
      refine wpAnyH_tk (i := 1) (v := ?_) rfl (by kernel_rfl) (by kernel_rfl) (by kernel_rfl) (fun _ _ _ h => h) (Or.inl ⟨by rfl, ?_⟩) hHeld ?_
      rotate_left
      · intro w hSw
        try dsimp only at hSw
        go_simp
        try with_reducible rfl
      try simp only [Act.put, List.setIfInBounds_toArray, List.set_cons_zero, List.set_cons_succ]
      refine wpAnyH_tk (i := 2) (v := ?_) rfl (by kernel_rfl) (by kernel_rfl) (by kernel_rfl) (fun _ _ _ h => h) (Or.inl ⟨by rfl, ?_⟩) hHeld ?_
      rotate_left
      · intro w hSw
        try dsimp only at hSw
        go_simp
        try with_reducible rfl
      try simp only [Act.put, List.setIfInBounds_toArray, List.set_cons_zero, List.set_cons_succ]
      refine wpAnyH_tk (i := 3) (v := ?_) rfl (by kernel_rfl) (by kernel_rfl) (by kernel_rfl) (fun _ _ _ h => h) (Or.inl ⟨by rfl, ?_⟩) hHeld ?_
      rotate_left
      · intro w hSw
        try dsimp only at hSw
        go_simp
        try with_reducible rfl
      try simp only [Act.put, List.setIfInBounds_toArray, List.set_cons_zero, List.set_cons_succ]
      refine wpAnyH_tk (i := 6) (v := ?_) rfl (by kernel_rfl) (by kernel_rfl) (by kernel_rfl) (fun _ _ _ h => h) (Or.inl ⟨by rfl, ?_⟩) hHeld ?_
      rotate_left
      · intro w hSw
        try dsimp only at hSw
        go_simp
        try with_reducible rfl
      try simp only [Act.put, List.setIfInBounds_toArray, List.set_cons_zero, List.set_cons_succ]
      refine wpAnyH_tk (i := 7) (v := ?_) rfl (by kernel_rfl) (by kernel_rfl) (by kernel_rfl) (fun _ _ _ h => h) (Or.inl ⟨by rfl, ?_⟩) hHeld ?_
      rotate_left
      · intro w hSw
        try dsimp only at hSw
        go_simp
        try with_reducible rfl
      try simp only [Act.put, List.setIfInBounds_toArray, List.set_cons_zero, List.set_cons_succ]
      refine wpAnyH_tk (i := 8) (v := ?_) rfl (by kernel_rfl) (by kernel_rfl) (by kernel_rfl) (fun _ _ _ h => h) (Or.inl ⟨by rfl, ?_⟩) hHeld ?_
      rotate_left
      · intro w hSw
        try dsimp only at hSw
        go_simp
        try with_reducible rfl
      try simp only [Act.put, List.setIfInBounds_toArray, List.set_cons_zero, List.set_cons_succ]
      refine wpAnyH_tk (i := 9) (v := ?_) rfl (by kernel_rfl) (by kernel_rfl) (by kernel_rfl) (fun _ _ _ h => h) (Or.inl ⟨by rfl, ?_⟩) hHeld ?_
      rotate_left
      · intro w hSw
        try dsimp only at hSw
        go_simp
        try with_reducible rfl
      try simp only [Act.put, List.setIfInBounds_toArray, List.set_cons_zero, List.set_cons_succ]
      refine wpAnyH_only (i := 4) rfl (by kernel_rfl) (fun K hK => ?_)
      go_simp
      refine (unhide HL1 _ _ (Kp.refl _ _) (unhide HBS)).mono ?_
      rintro e w3x ⟨a3, n3, k3, rfl, hn3, hc3, hb3, hk3⟩
      have v3 := str_of hb3 n3 k3 hn3 w3x (Kp.refl _ _)
      have VV3 := hide (fun W (hk : Kp [] w3x W) => str_of hb3 n3 k3 hn3 W hk)
      clear hc3 hb3 hn3
      have c1 := hk3.cell (by simp) c0
      have d1 := hk3.cell (by simp) d0
      go_wp2_with fail
      refine hK.out _ _ (And.intro c1 d1) (fun hHeld2 => ?_)
      clear hK K hHeld
      have hHeld := hHeld2
      clear hHeld2
      try simp only [Act.put, List.setIfInBounds_toArray, List.set_cons_zero, List.set_cons_succ]
      refine wpAnyH_switch (S' := fun w' => (convert 55 9 (.slice a3 n3 k3)).run Try.prog w' = .ok (.string ⟨bs.toArray⟩) w' ∧ w'.cell? ⟨hb, 0, none⟩ = some (.pointer (some ⟨vb, 0, none⟩)) ∧ w'.cell? ⟨gb, 0, none⟩ = some (.pointer (some ⟨vb2, 0, none⟩))) (fun _ h => h.2) ?_
      clear hHeld
      have hHeld := And.intro v3 (And.intro c1 d1)
      refine wpAnyH_tk (i := 5) (v := ?_) rfl (by kernel_rfl) (by kernel_rfl) (by kernel_rfl) (fun _ _ _ h => h) (Or.inl ⟨by rfl, ?_⟩) hHeld ?_
      rotate_left
      · intro w hSw
        try dsimp only at hSw
        go_simp
        try with_reducible rfl
      try simp only [Act.put, List.setIfInBounds_toArray, List.set_cons_zero, List.set_cons_succ]
      refine wpAnyH_only (i := 10) rfl (by kernel_rfl) (fun K hK => ?_)
      go_simp
      refine (unhide HL2 _ _ (hk3) (unhide HBG)).mono ?_
      rintro e w4x ⟨a4, n4, k4, rfl, hn4, hc4, hb4, hk4⟩
      have v4 := str_of hb4 n4 k4 hn4 w4x (Kp.refl _ _)
      have VV4 := hide (fun W (hk : Kp [] w4x W) => str_of hb4 n4 k4 hn4 W hk)
      clear hc4 hb4 hn4
      have c2 := hk4.cell (by simp) c1
      have d2 := hk4.cell (by simp) d1
      have v5 := unhide VV3 w4x hk4
      go_wp2_with fail
      refine hK.out _ _ (And.intro v5 (And.intro c2 d2)) (fun hHeld2 => ?_)
      clear hK K hHeld
      have hHeld := hHeld2
      clear hHeld2
      try simp only [Act.put, List.setIfInBounds_toArray, List.set_cons_zero, List.set_cons_succ]
      refine wpAnyH_switch (S' := fun w' => (convert 55 9 (.slice a4 n4 k4)).run Try.prog w' = .ok (.string ⟨bs.toArray⟩) w' ∧ (convert 55 9 (.slice a3 n3 k3)).run Try.prog w' = .ok (.string ⟨bs.toArray⟩) w' ∧ w'.cell? ⟨hb, 0, none⟩ = some (.pointer (some ⟨vb, 0, none⟩)) ∧ w'.cell? ⟨gb, 0, none⟩ = some (.pointer (some ⟨vb2, 0, none⟩))) (fun _ h => h.2) ?_
      clear hHeld
      have hHeld := And.intro v4 (And.intro v5 (And.intro c2 d2))
      refine wpAnyH_tk (i := 11) (v := ?_) rfl (by kernel_rfl) (by kernel_rfl) (by kernel_rfl) (fun _ _ _ h => h) (Or.inl ⟨by rfl, ?_⟩) hHeld ?_
      rotate_left
      · intro w hSw
        try dsimp only at hSw
        go_simp
        try with_reducible rfl
      try simp only [Act.put, List.setIfInBounds_toArray, List.set_cons_zero, List.set_cons_succ]
      refine wpAnyH_tk (i := 12) (v := ?_) rfl (by kernel_rfl) (by kernel_rfl) (by kernel_rfl) (fun _ _ _ h => h) (Or.inl ⟨by rfl, ?_⟩) hHeld ?_
      rotate_left
      · intro w hSw
        try dsimp only at hSw
        go_simp
        try with_reducible rfl
      try simp only [Act.put, List.setIfInBounds_toArray, List.set_cons_zero, List.set_cons_succ]
      refine wpAnyH_tk (i := 13) (v := ?_) rfl (by kernel_rfl) (by kernel_rfl) (by kernel_rfl) (fun _ _ _ h => h) (Or.inl ⟨by rfl, ?_⟩) hHeld ?_
      rotate_left
      · intro w hSw
        try dsimp only at hSw
        go_simp
        try with_reducible rfl
      try simp only [Act.put, List.setIfInBounds_toArray, List.set_cons_zero, List.set_cons_succ]
      refine wpAnyH_done (by kernel_rfl) ?_ _
      go_wp2_with fail
      go_ret
      exact ⟨by trivial, ((unhide HK1).trans0 (((unhide HZD).kp.trans0 hk3).trans0 hk4)).below (Nat.le_refl _) (by simp)⟩
end Go.Proofs.Ytehhpmfeaeabgac
