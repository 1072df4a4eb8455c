/- LogTable, walked. -/
import Derived.Test.YtfcfoabdangfhabJ12
import Derived.Test.YtfcfoabdangfhabWl4
namespace Go.Proofs.Ytfcfoabdangfhab
open Go.RowKit
set_option maxRecDepth 20000
attribute [local go_sem ↓] Go.wp_at_zero Go.wp_at_succ

set_option maxHeartbeats 8000000 in
theorem ltab9 (a : Option Addr) (n1 c : Nat) (st : Nat → TStep) (cut : Int) (w : World) (h : TSts w a n1 st) :
    Calls Try.prog 9 #[.slice a n1 c, .int .i64 cut] w fun e w' => e = .returned (.bool true) ∧ Below w.heap.size w w' := by
  have HS := hide h
  clear h
  go_enter Try.func9, Try.ntmps9
  go_wp2_with fail
  refine (lbegun19 w).mono ?_
  rintro e w1 ⟨rfl, hk1⟩
  have HK1 := hide hk1
  clear hk1
  go_wp2_with fail
  refine (glog20 a n1 c st w1 ((unhide HS).kp0 (unhide HK1))).mono ?_
  rintro e w' ⟨q, rfl, hq, hw'⟩
  subst w'
  cases q with
  | true =>
    clear hq
    go_wp2_with fail
    go_ret
    exact ⟨rfl, (unhide HK1).below (Nat.le_refl _) (by simp)⟩
  | false =>
  obtain ⟨h80, hps⟩ := hq rfl
  have HPS := hide hps
  clear hq hps
  go_wp2_with fail
  refine (logs21 a n1 c st w1 ((unhide HS).kp0 (unhide HK1)) h80 (unhide HPS)).mono ?_
  rintro e w2 ⟨gb, rb, cs, rfl, _, HB⟩
  have hinv := (unhide HB).inv
  have hn40 := hinv.n40
  have hb3000 := hinv.b3000
  go_wp2_with fail
  refine (duo_bytes (unhide HB)).mono ?_
  rintro e w3 ⟨a3, n3, c3, rfl, hn3, hc3, hb3, hk3⟩
  rw [List.append_nil] at hn3 hb3
  have HB3 := hide ((unhide HB).kp0 hk3)
  have hn3' : n3 ≤ 3000 := by omega
  obtain ⟨k, hcut, hkn⟩ := cut_of cut (n := n3) (by omega)
  have htab := ltable25 a3 k c3 ((lb cs).take k) w3 (byt_take hb3 k) (by simp; omega) (by omega) (by simp; omega)
  obtain ⟨d1, d2, d3, d4⟩ := dcs_take hinv.pf 40 k hn40
  generalize dcs 40 ((lb cs).take k) = D at *
  have k0 : (0 : Int) ≤ (k : Int) := by omega
  have k1 : (k : Int) ≤ (c3 : Int) := by omega
  have HTB := hide htab
  have HD := hide (And.intro d1 (And.intro d2 (And.intro d3 d4)))
  clear hn3 hb3 hk3 htab d1 d2 d3 d4 hinv HB
  go_wp2_with fail
  refine (unhide HTB).mono ?_
  rintro e w4 ⟨tb, F, p, rfl, hp, ht, hk4⟩
  obtain ⟨N, hN⟩ : ∃ N, D.length = N := ⟨_, rfl⟩
  obtain ⟨d1, d2, d3, d4⟩ := unhide HD
  rw [hN] at d1 d2 d4
  rw [← hp] at d3 d4
  obtain ⟨aL, capL, xs, hcs, hr0, hstart⟩ := lt_start (tb := tb) (D := D) (unhide HB3)
  have hC : cs.length = xs.length := by rw [hcs, cps_length]
  have r0 : w4.cell? ⟨rb, 0, none⟩ = some (.slice aL xs.length capL) := hk4.cell (by simp) hr0
  obtain ⟨C, hCC⟩ : ∃ C, xs.length = C := ⟨_, rfl⟩
  rw [hCC] at r0
  have HST := hide hstart
  have hdc : D.length = N → True := fun _ => trivial
  have HDD : Hid (D = (cps xs).take N) := by rw [← hcs]; exact d1
  have HDN : Hid ((cps xs).take N = D) := (unhide HDD).symm
  have HD4 : Hid (N < C → k < p + (enc (eat xs N).ps).length) := fun hlt => by
    have := d4 (by omega)
    rw [hcs, cps_at (by omega)] at this
    exact this
  have HPP := hide hp
  have HBX : Hid ((lb (cps xs)).length ≤ 3000) := by rw [← hcs]; exact hb3000
  have HN := hide hN
  have HCC := hide hCC
  have hNC : N ≤ C := by omega
  have hC40 : C ≤ 40 := by omega
  have hpk : p ≤ k := d3
  have hk3000 : k ≤ 3000 := by omega
  have HT := hide ht
  have HK4 := hide hk4
  clear hstart hdc d1 d2 d3 d4 hp hN hCC hC hcs hr0 ht hk4 HTB HD
  have i0 : ¬ (k : Int) < (p : Int) := by omega
  have i1 : ¬ (C : Int) < (N : Int) := by omega
  have g1 : decide ((k : Int) < (p : Int)) = false := decide_eq_false i0
  have g2 : decide (k < p) = false := decide_eq_false (by omega)
  have g3 : decide ((C : Int) < (N : Int)) = false := decide_eq_false i1
  have g4 : decide (C < N) = false := decide_eq_false (by omega)
  go_wp2_with fail
  refine wp_region_held_drew (S := fun w' => w'.cell? ⟨rb, 0, none⟩ = some (.slice aL C capL)) (by kernel_rfl) (r0) (fun hHeld => ?_)
  refine wpAnyH_tk (i := 0) (v := ?_) rfl (by kernel_rfl) (by kernel_rfl) (by kernel_rfl) (fun _ _ _ h => h) (Or.inl ⟨by rfl, ?_⟩) hHeld ?_
  rotate_left
  · intro w hSw
    try dsimp only at hSw
    go_simp
    try with_reducible rfl
  try simp only [Act.put, List.setIfInBounds_toArray, List.set_cons_zero, List.set_cons_succ]
  refine wpAnyH_tk (i := 1) (v := ?_) rfl (by kernel_rfl) (by kernel_rfl) (by kernel_rfl) (fun _ _ _ h => h) (Or.inl ⟨by rfl, ?_⟩) hHeld ?_
  rotate_left
  · intro w hSw
    try dsimp only at hSw
    go_simp
    try with_reducible rfl
  try simp only [Act.put, List.setIfInBounds_toArray, List.set_cons_zero, List.set_cons_succ]
  refine wpAnyH_tk (i := 2) (v := ?_) rfl (by kernel_rfl) (by kernel_rfl) (by kernel_rfl) (fun _ _ _ h => h) (Or.inl ⟨by rfl, ?_⟩) hHeld ?_
  rotate_left
  · intro w hSw
    try dsimp only at hSw
    go_simp
    try with_reducible rfl
  try simp only [Act.put, List.setIfInBounds_toArray, List.set_cons_zero, List.set_cons_succ]
  refine wpAnyH_tk (i := 3) (v := ?_) rfl (by kernel_rfl) (by kernel_rfl) (by kernel_rfl) (fun _ _ _ h => h) (Or.inl ⟨by rfl, ?_⟩) hHeld ?_
  rotate_left
  · intro w hSw
    try dsimp only at hSw
    go_simp
    try with_reducible rfl
  try simp only [Act.put, List.setIfInBounds_toArray, List.set_cons_zero, List.set_cons_succ]
  refine wpAnyH_tk (i := 4) (v := ?_) rfl (by kernel_rfl) (by kernel_rfl) (by kernel_rfl) (fun _ _ _ h => h) (Or.inl ⟨by rfl, ?_⟩) hHeld ?_
  rotate_left
  · intro w hSw
    try dsimp only at hSw
    go_simp
    try with_reducible rfl
  try simp only [Act.put, List.setIfInBounds_toArray, List.set_cons_zero, List.set_cons_succ]
  refine wpAnyH_tk (i := 5) (v := ?_) rfl (by kernel_rfl) (by kernel_rfl) (by kernel_rfl) (fun _ _ _ h => h) (Or.inl ⟨by rfl, ?_⟩) hHeld ?_
  rotate_left
  · intro w hSw
    try dsimp only at hSw
    go_simp
    try with_reducible rfl
  try simp only [Act.put, List.setIfInBounds_toArray, List.set_cons_zero, List.set_cons_succ]
  refine wpAnyH_tk (i := 6) (v := ?_) rfl (by kernel_rfl) (by kernel_rfl) (by kernel_rfl) (fun _ _ _ h => h) (Or.inl ⟨by rfl, ?_⟩) hHeld ?_
  rotate_left
  · intro w hSw
    try dsimp only at hSw
    go_simp
    try with_reducible rfl
  try simp only [Act.put, List.setIfInBounds_toArray, List.set_cons_zero, List.set_cons_succ]
  refine wpAnyH_tk (i := 7) (v := ?_) rfl (by kernel_rfl) (by kernel_rfl) (by kernel_rfl) (fun _ _ _ h => h) (Or.inl ⟨by rfl, ?_⟩) hHeld ?_
  rotate_left
  · intro w hSw
    try dsimp only at hSw
    go_simp
    try with_reducible rfl
  try simp only [Act.put, List.setIfInBounds_toArray, List.set_cons_zero, List.set_cons_succ]
  refine wpAnyH_tk (i := 8) (v := ?_) rfl (by kernel_rfl) (by kernel_rfl) (by kernel_rfl) (fun _ _ _ h => h) (Or.inl ⟨by rfl, ?_⟩) hHeld ?_
  rotate_left
  · intro w hSw
    try dsimp only at hSw
    go_simp
    try with_reducible rfl
  try simp only [Act.put, List.setIfInBounds_toArray, List.set_cons_zero, List.set_cons_succ]
  refine wpAnyH_tk (i := 10) (v := ?_) rfl (by kernel_rfl) (by kernel_rfl) (by kernel_rfl) (fun _ _ _ h => h) (Or.inl ⟨by rfl, ?_⟩) hHeld ?_
  rotate_left
  · intro w hSw
    try dsimp only at hSw
    go_simp
    try with_reducible rfl
  try simp only [Act.put, List.setIfInBounds_toArray, List.set_cons_zero, List.set_cons_succ]
  refine wpAnyH_tk (i := 11) (v := ?_) rfl (by kernel_rfl) (by kernel_rfl) (by kernel_rfl) (fun _ _ _ h => h) (Or.inl ⟨by rfl, ?_⟩) hHeld ?_
  rotate_left
  · intro w hSw
    try dsimp only at hSw
    go_simp
    try with_reducible rfl
  try simp only [Act.put, List.setIfInBounds_toArray, List.set_cons_zero, List.set_cons_succ]
  refine wpAnyH_tk (i := 12) (v := ?_) rfl (by kernel_rfl) (by kernel_rfl) (by kernel_rfl) (fun _ _ _ h => h) (Or.inl ⟨by rfl, ?_⟩) hHeld ?_
  rotate_left
  · intro w hSw
    try dsimp only at hSw
    go_simp
    try with_reducible rfl
  try simp only [Act.put, List.setIfInBounds_toArray, List.set_cons_zero, List.set_cons_succ]
  refine wpAnyH_tk (i := 13) (v := ?_) rfl (by kernel_rfl) (by kernel_rfl) (by kernel_rfl) (fun _ _ _ h => h) (Or.inl ⟨by rfl, ?_⟩) hHeld ?_
  rotate_left
  · intro w hSw
    try dsimp only at hSw
    go_simp
    try with_reducible rfl
  try simp only [Act.put, List.setIfInBounds_toArray, List.set_cons_zero, List.set_cons_succ]
  refine wpAnyH_tk (i := 14) (v := ?_) rfl (by kernel_rfl) (by kernel_rfl) (by kernel_rfl) (fun _ _ _ h => h) (Or.inl ⟨by rfl, ?_⟩) hHeld ?_
  rotate_left
  · intro w hSw
    try dsimp only at hSw
    go_simp
    try with_reducible rfl
  try simp only [Act.put, List.setIfInBounds_toArray, List.set_cons_zero, List.set_cons_succ]
  refine wpAnyH_only (i := 9) rfl (by kernel_rfl) (fun K hK => ?_)
  go_simp
  refine (tlast38 _ ((unhide HT).kp0 (Kp.refl [] _).drew)).mono ?_
  rintro e w5 ⟨rfl, hw5⟩
  subst w5
  rw [unhide HN]
  go_wp2_with fail
  refine hK.out _ _ (r0) (fun hHeld2 => ?_)
  clear hK K hHeld
  have hHeld := hHeld2
  clear hHeld2
  try simp only [Act.put, List.setIfInBounds_toArray, List.set_cons_zero, List.set_cons_succ]
  refine wpAnyH_tk (i := 15) (v := ?_) rfl (by kernel_rfl) (by kernel_rfl) (by kernel_rfl) (fun _ _ _ h => h) (Or.inl ⟨by rfl, ?_⟩) hHeld ?_
  rotate_left
  · intro w hSw
    try dsimp only at hSw
    go_simp
    try with_reducible rfl
  try simp only [Act.put, List.setIfInBounds_toArray, List.set_cons_zero, List.set_cons_succ]
  refine wpAnyH_tk (i := 16) (v := ?_) rfl (by kernel_rfl) (by kernel_rfl) (by kernel_rfl) (fun _ _ _ h => h) (Or.inl ⟨by rfl, ?_⟩) hHeld ?_
  rotate_left
  · intro w hSw
    try dsimp only at hSw
    go_simp
    try with_reducible rfl
  try simp only [Act.put, List.setIfInBounds_toArray, List.set_cons_zero, List.set_cons_succ]
  refine wpAnyH_done (by kernel_rfl) ?_ _
  go_wp2_with fail
  refine (snew55 _).mono ?_
  rintro e w6 ⟨rfl, ⟨H, hs⟩, hk6⟩
  have HL0 := hide (unhide HST _ F ((unhide HK4).drew) ((unhide HT).kp0 (Kp.refl [] _).drew) _ _ H hk6 hs)
  clear hs hk6 HST r0
  generalize w4.drew.heap.size = sb at *
  have l0 : Hid ((lb ((cps xs).take 0)).length = 0) := rfl
  go_wp2_with fail
  go_loopw [13, 14] (fun z i wr => ∃ j s : Nat, j ≤ N ∧ s ≤ 3000 ∧ z = .int .i64 s ∧ i = .int .i64 j ∧ Hid (s = (lb ((cps xs).take j)).length) ∧ Hid (Lt w1 wr rb tb sb aL capL xs D j)) (fun _ i _ => N - (intOf i).toNat)
  case atStart => exact ⟨0, 0, by omega, by omega, rfl, rfl, (unhide l0).symm, HL0⟩
  case round =>
    clear HL0 l0
    obtain ⟨j, s, hj, hs3, rfl, rfl, HSZ, HL⟩ := hrel
    by_cases hlt : j < N
    · have hlt' : (j : Int) < (N : Int) := by omega
      have hjx : j < xs.length := by have := unhide HCC; omega
      go_wp2_with fail
      refine (lt_last (unhide HL)).mono ?_
      rintro e w7 ⟨rfl, hw7⟩
      subst w7
      rw [unhide HN]
      have r0 := (unhide HL).c0
      obtain ⟨gL, rfl, r1⟩ := (unhide HL).at_ hjx
      have r1' : wr.cell? ⟨gL, 0 + j, none⟩ = some (.slice (eat xs j).a (eat xs j).ps.length (eat xs j).c) := by rw [Nat.zero_add]; exact r1
      rw [unhide HCC] at r0
      have j0 : (0 : Int) ≤ (j : Int) := by omega
      have j1 : (j : Int) < (C : Int) := by omega
      go_wp2_with fail
      refine (lt_write (unhide HL) hjx).mono ?_
      rintro e w8 ⟨rfl, HL8⟩
      have t0 := (unhide HL8).c0
      obtain ⟨gL', hgL, t1⟩ := (unhide HL8).at_ hjx
      have hgg : gL = gL' := by simpa using hgL
      subst hgg
      have t1' : w8.cell? ⟨gL, 0 + j, none⟩ = some (.slice (eat xs j).a (eat xs j).ps.length (eat xs j).c) := by rw [Nat.zero_add]; exact t1
      rw [unhide HCC] at t0
      clear r0 r1 r1' hgL
      go_wp2_with fail
      refine (lt_bytes (unhide HL8) hjx).mono ?_
      rintro e w9 ⟨g9, c9, n9, rfl, hn9, hr9⟩
      have hsum : s + n9 = (lb ((cps xs).take (j + 1))).length := by
        rw [lb_take_succ (by rw [cps_length]; exact hjx), cps_at hjx, List.length_append, ← unhide HSZ, hn9]
      have hsn : s + n9 ≤ 3000 := by
        rw [hsum]
        have := lb_take_le (cps xs) (j + 1)
        have := unhide HBX
        omega
      have HSUM := hide hsum
      have HL9 := hide ((unhide HL8).kp0 hr9.kp)
      clear hsum hn9 hr9 t0 t1 t1' HL8
      go_wp2_with fail
      exact ⟨⟨j + 1, s + n9, by omega, by omega, by go_num, by go_num, unhide HSUM, HL9⟩, by simp [intOf]; omega⟩
    · have e : N = j := by omega
      subst e
      have hsp : p = s := by rw [unhide HSZ, unhide HDN, ← unhide HPP]
      subst hsp
      go_wp2_with fail
      refine (lt_last (unhide HL)).mono ?_
      rintro e w7 ⟨rfl, hw7⟩
      subst w7
      rw [unhide HN]
      have y0 := (unhide HL).c0
      rw [unhide HCC] at y0
      by_cases hNlt : N < C
      · have hNx : N < xs.length := by have := unhide HCC; omega
        obtain ⟨gL, rfl, y1⟩ := (unhide HL).at_ hNx
        have HE8 := hide (enc_le ((unhide HL).pf hNx)).2
        have g5 : decide ((N : Int) < (C : Int)) = true := decide_eq_true (by omega)
        have g6 : decide (N < C) = true := decide_eq_true hNlt
        have m0 : (0 : Int) ≤ (N : Int) := by omega
        have m1 : (N : Int) < (C : Int) := by omega
        go_wp2_with fail
        refine wp_region_held_drew (S := fun w' => w'.cell? ⟨rb, 0, none⟩ = some (.slice (some ⟨gL, 0, none⟩) C capL) ∧ w'.cell? ⟨gL, N, none⟩ = some (.slice (eat xs N).a (eat xs N).ps.length (eat xs N).c)) (by kernel_rfl) (And.intro y0 y1) (fun hHeld => ?_)
        refine wpAnyH_tk (i := 0) (v := ?_) rfl (by kernel_rfl) (by kernel_rfl) (by kernel_rfl) (fun _ _ _ h => h) (Or.inl ⟨by rfl, ?_⟩) hHeld ?_
        rotate_left
        · intro w hSw
          try dsimp only at hSw
          go_simp
          try with_reducible rfl
        try simp only [Act.put, List.setIfInBounds_toArray, List.set_cons_zero, List.set_cons_succ]
        refine wpAnyH_tk (i := 1) (v := ?_) rfl (by kernel_rfl) (by kernel_rfl) (by kernel_rfl) (fun _ _ _ h => h) (Or.inl ⟨by rfl, ?_⟩) hHeld ?_
        rotate_left
        · intro w hSw
          try dsimp only at hSw
          go_simp
          try with_reducible rfl
        try simp only [Act.put, List.setIfInBounds_toArray, List.set_cons_zero, List.set_cons_succ]
        refine wpAnyH_tk (i := 2) (v := ?_) rfl (by kernel_rfl) (by kernel_rfl) (by kernel_rfl) (fun _ _ _ h => h) (Or.inl ⟨by rfl, ?_⟩) hHeld ?_
        rotate_left
        · intro w hSw
          try dsimp only at hSw
          go_simp
          try with_reducible rfl
        try simp only [Act.put, List.setIfInBounds_toArray, List.set_cons_zero, List.set_cons_succ]
        refine wpAnyH_tk (i := 3) (v := ?_) rfl (by kernel_rfl) (by kernel_rfl) (by kernel_rfl) (fun _ _ _ h => h) (Or.inl ⟨by rfl, ?_⟩) hHeld ?_
        rotate_left
        · intro w hSw
          try dsimp only at hSw
          go_simp
          try with_reducible rfl
        try simp only [Act.put, List.setIfInBounds_toArray, List.set_cons_zero, List.set_cons_succ]
        refine wpAnyH_tk (i := 4) (v := ?_) rfl (by kernel_rfl) (by kernel_rfl) (by kernel_rfl) (fun _ _ _ h => h) (Or.inl ⟨by rfl, ?_⟩) hHeld ?_
        rotate_left
        · intro w hSw
          try dsimp only at hSw
          go_simp
          try with_reducible rfl
        try simp only [Act.put, List.setIfInBounds_toArray, List.set_cons_zero, List.set_cons_succ]
        refine wpAnyH_tk (i := 6) (v := ?_) rfl (by kernel_rfl) (by kernel_rfl) (by kernel_rfl) (fun _ _ _ h => h) (Or.inl ⟨by rfl, ?_⟩) hHeld ?_
        rotate_left
        · intro w hSw
          try dsimp only at hSw
          go_simp
          try with_reducible rfl
        try simp only [Act.put, List.setIfInBounds_toArray, List.set_cons_zero, List.set_cons_succ]
        refine wpAnyH_tk (i := 7) (v := ?_) rfl (by kernel_rfl) (by kernel_rfl) (by kernel_rfl) (fun _ _ _ h => h) (Or.inl ⟨by rfl, ?_⟩) hHeld ?_
        rotate_left
        · intro w hSw
          try dsimp only at hSw
          go_simp
          try with_reducible rfl
        try simp only [Act.put, List.setIfInBounds_toArray, List.set_cons_zero, List.set_cons_succ]
        refine wpAnyH_tk (i := 8) (v := ?_) rfl (by kernel_rfl) (by kernel_rfl) (by kernel_rfl) (fun _ _ _ h => h) (Or.inl ⟨by rfl, ?_⟩) hHeld ?_
        rotate_left
        · intro w hSw
          try dsimp only at hSw
          go_simp
          try with_reducible rfl
        try simp only [Act.put, List.setIfInBounds_toArray, List.set_cons_zero, List.set_cons_succ]
        refine wpAnyH_tk (i := 9) (v := ?_) rfl (by kernel_rfl) (by kernel_rfl) (by kernel_rfl) (fun _ _ _ h => h) (Or.inl ⟨by rfl, ?_⟩) hHeld ?_
        rotate_left
        · intro w hSw
          try dsimp only at hSw
          go_simp
          try with_reducible rfl
        try simp only [Act.put, List.setIfInBounds_toArray, List.set_cons_zero, List.set_cons_succ]
        refine wpAnyH_tk (i := 10) (v := ?_) rfl (by kernel_rfl) (by kernel_rfl) (by kernel_rfl) (fun _ _ _ h => h) (Or.inl ⟨by rfl, ?_⟩) hHeld ?_
        rotate_left
        · intro w hSw
          try dsimp only at hSw
          go_simp
          try with_reducible rfl
        try simp only [Act.put, List.setIfInBounds_toArray, List.set_cons_zero, List.set_cons_succ]
        refine wpAnyH_only (i := 5) rfl (by kernel_rfl) (fun K hK => ?_)
        go_simp
        refine (lt_last ((unhide HL).kp0 (Kp.refl [] _).drew)).mono ?_
        rintro e w7 ⟨rfl, hw7⟩
        subst w7
        rw [unhide HN]
        go_wp2_with fail
        refine hK.out _ _ (And.intro y0 y1) (fun hHeld2 => ?_)
        clear hK K hHeld
        have hHeld := hHeld2
        clear hHeld2
        try simp only [Act.put, List.setIfInBounds_toArray, List.set_cons_zero, List.set_cons_succ]
        refine wpAnyH_tk (i := 11) (v := ?_) rfl (by kernel_rfl) (by kernel_rfl) (by kernel_rfl) (fun _ _ _ h => h) (Or.inl ⟨by rfl, ?_⟩) hHeld ?_
        rotate_left
        · intro w hSw
          try dsimp only at hSw
          go_simp
          try with_reducible rfl
        try simp only [Act.put, List.setIfInBounds_toArray, List.set_cons_zero, List.set_cons_succ]
        refine wpAnyH_tk (i := 12) (v := ?_) rfl (by kernel_rfl) (by kernel_rfl) (by kernel_rfl) (fun _ _ _ h => h) (Or.inl ⟨by rfl, ?_⟩) hHeld ?_
        rotate_left
        · intro w hSw
          try dsimp only at hSw
          go_simp
          try with_reducible rfl
        try simp only [Act.put, List.setIfInBounds_toArray, List.set_cons_zero, List.set_cons_succ]
        refine wpAnyH_tk (i := 13) (v := ?_) rfl (by kernel_rfl) (by kernel_rfl) (by kernel_rfl) (fun _ _ _ h => h) (Or.inl ⟨by rfl, ?_⟩) hHeld ?_
        rotate_left
        · intro w hSw
          try dsimp only at hSw
          go_simp
          try with_reducible rfl
        try simp only [Act.put, List.setIfInBounds_toArray, List.set_cons_zero, List.set_cons_succ]
        refine wpAnyH_tk (i := 14) (v := ?_) rfl (by kernel_rfl) (by kernel_rfl) (by kernel_rfl) (fun _ _ _ h => h) (Or.inl ⟨by rfl, ?_⟩) hHeld ?_
        rotate_left
        · intro w hSw
          try dsimp only at hSw
          go_simp
          try with_reducible rfl
        try simp only [Act.put, List.setIfInBounds_toArray, List.set_cons_zero, List.set_cons_succ]
        refine wpAnyH_tk (i := 15) (v := ?_) rfl (by kernel_rfl) (by kernel_rfl) (by kernel_rfl) (fun _ _ _ h => h) (Or.inl ⟨by rfl, ?_⟩) hHeld ?_
        rotate_left
        · intro w hSw
          try dsimp only at hSw
          go_simp
          try with_reducible rfl
        try simp only [Act.put, List.setIfInBounds_toArray, List.set_cons_zero, List.set_cons_succ]
        refine wpAnyH_tk (i := 16) (v := ?_) rfl (by kernel_rfl) (by kernel_rfl) (by kernel_rfl) (fun _ _ _ h => h) (Or.inl ⟨by rfl, ?_⟩) hHeld ?_
        rotate_left
        · intro w hSw
          try dsimp only at hSw
          go_simp
          try with_reducible rfl
        try simp only [Act.put, List.setIfInBounds_toArray, List.set_cons_zero, List.set_cons_succ]
        refine wpAnyH_tk (i := 17) (v := ?_) rfl (by kernel_rfl) (by kernel_rfl) (by kernel_rfl) (fun _ _ _ h => h) (Or.inl ⟨by rfl, ?_⟩) hHeld ?_
        rotate_left
        · intro w hSw
          try dsimp only at hSw
          go_simp
          try with_reducible rfl
        try simp only [Act.put, List.setIfInBounds_toArray, List.set_cons_zero, List.set_cons_succ]
        refine wpAnyH_tk (i := 18) (v := ?_) rfl (by kernel_rfl) (by kernel_rfl) (by kernel_rfl) (fun _ _ _ h => h) (Or.inl ⟨by rfl, ?_⟩) hHeld ?_
        rotate_left
        · intro w hSw
          try dsimp only at hSw
          go_simp
          try with_reducible rfl
        try simp only [Act.put, List.setIfInBounds_toArray, List.set_cons_zero, List.set_cons_succ]
        refine wpAnyH_tk (i := 25) (v := ?_) rfl (by kernel_rfl) (by kernel_rfl) (by kernel_rfl) (fun _ _ _ h => h) (Or.inl ⟨by rfl, ?_⟩) hHeld ?_
        rotate_left
        · intro w hSw
          try dsimp only at hSw
          go_simp
          try with_reducible rfl
        try simp only [Act.put, List.setIfInBounds_toArray, List.set_cons_zero, List.set_cons_succ]
        refine wpAnyH_only (i := 19) rfl (by kernel_rfl) (fun K hK => ?_)
        go_simp
        refine (lt_last ((unhide HL).kp0 (Kp.refl [] _).drew)).mono ?_
        rintro e w7 ⟨rfl, hw7⟩
        subst w7
        rw [unhide HN]
        go_wp2_with fail
        refine hK.out _ _ (And.intro y0 y1) (fun hHeld2 => ?_)
        clear hK K hHeld
        have hHeld := hHeld2
        clear hHeld2
        try simp only [Act.put, List.setIfInBounds_toArray, List.set_cons_zero, List.set_cons_succ]
        refine wpAnyH_tk (i := 20) (v := ?_) rfl (by kernel_rfl) (by kernel_rfl) (by kernel_rfl) (fun _ _ _ h => h) (Or.inl ⟨by rfl, ?_⟩) hHeld ?_
        rotate_left
        · intro w hSw
          try dsimp only at hSw
          go_simp
          try with_reducible rfl
        try simp only [Act.put, List.setIfInBounds_toArray, List.set_cons_zero, List.set_cons_succ]
        refine wpAnyH_tk (i := 21) (v := ?_) rfl (by kernel_rfl) (by kernel_rfl) (by kernel_rfl) (fun _ _ _ h => h) (Or.inl ⟨by rfl, ?_⟩) hHeld ?_
        rotate_left
        · intro w hSw
          try dsimp only at hSw
          go_simp
          try with_reducible rfl
        try simp only [Act.put, List.setIfInBounds_toArray, List.set_cons_zero, List.set_cons_succ]
        refine wpAnyH_only (i := 22) rfl (by kernel_rfl) (fun K hK => ?_)
        go_simp
        refine (lt_bytes ((unhide HL).kp0 (Kp.refl [] _).drew) hNx).mono ?_
        rintro e w8 ⟨g8, c8, n8, rfl, hn8, hr8⟩
        have hgt : ¬ (p : Int) + (n8 : Int) ≤ (k : Int) := by have := unhide HD4 hNlt; omega
        have hgt2 : ¬ p + n8 ≤ k := by omega
        have hn8' : n8 ≤ 114 := by have := unhide HE8; omega
        have hwr : IntKind.i64.wrap ((p : Int) + (n8 : Int)) = (p : Int) + (n8 : Int) := wrap_i64_id _ (by omega) (by omega)
        have z0 : w8.cell? ⟨rb, 0, none⟩ = some (.slice (some ⟨gL, 0, none⟩) C capL) := hr8.kp.cell (by simp) y0
        have z1 : w8.cell? ⟨gL, N, none⟩ = some (.slice (eat xs N).a (eat xs N).ps.length (eat xs N).c) := hr8.kp.cell (by simp) y1
        have HL8 := hide (((unhide HL).kp0 (Kp.refl [] _).drew).kp0 hr8.kp)
        clear hn8 hr8
        go_wp2_with fail
        refine hK.out _ _ (And.intro z0 z1) (fun hHeld2 => ?_)
        clear hK K hHeld
        have hHeld := hHeld2
        clear hHeld2
        try simp only [Act.put, List.setIfInBounds_toArray, List.set_cons_zero, List.set_cons_succ]
        refine wpAnyH_tk (i := 23) (v := ?_) rfl (by kernel_rfl) (by kernel_rfl) (by kernel_rfl) (fun _ _ _ h => h) (Or.inl ⟨by rfl, ?_⟩) hHeld ?_
        rotate_left
        · intro w hSw
          try dsimp only at hSw
          go_simp
          try with_reducible rfl
        try simp only [Act.put, List.setIfInBounds_toArray, List.set_cons_zero, List.set_cons_succ]
        refine wpAnyH_tk (i := 24) (v := ?_) rfl (by kernel_rfl) (by kernel_rfl) (by kernel_rfl) (fun _ _ _ h => h) (Or.inl ⟨by rfl, ?_⟩) hHeld ?_
        rotate_left
        · intro w hSw
          try dsimp only at hSw
          go_simp
          try with_reducible rfl
        try simp only [Act.put, List.setIfInBounds_toArray, List.set_cons_zero, List.set_cons_succ]
        refine wpAnyH_tk (i := 26) (v := ?_) rfl (by kernel_rfl) (by kernel_rfl) (by kernel_rfl) (fun _ _ _ h => h) (Or.inl ⟨by rfl, ?_⟩) hHeld ?_
        rotate_left
        · intro w hSw
          try dsimp only at hSw
          go_simp
          try with_reducible rfl
        try simp only [Act.put, List.setIfInBounds_toArray, List.set_cons_zero, List.set_cons_succ]
        refine wpAnyH_tk (i := 27) (v := ?_) rfl (by kernel_rfl) (by kernel_rfl) (by kernel_rfl) (fun _ _ _ h => h) (Or.inl ⟨by rfl, ?_⟩) hHeld ?_
        rotate_left
        · intro w hSw
          try dsimp only at hSw
          go_simp
          try with_reducible rfl
        try simp only [Act.put, List.setIfInBounds_toArray, List.set_cons_zero, List.set_cons_succ]
        refine wpAnyH_tk (i := 28) (v := ?_) rfl (by kernel_rfl) (by kernel_rfl) (by kernel_rfl) (fun _ _ _ h => h) (Or.inl ⟨by rfl, ?_⟩) hHeld ?_
        rotate_left
        · intro w hSw
          try dsimp only at hSw
          go_simp
          try with_reducible rfl
        try simp only [Act.put, List.setIfInBounds_toArray, List.set_cons_zero, List.set_cons_succ]
        refine wpAnyH_done (by kernel_rfl) ?_ _
        go_wp2_with fail
        go_loopw [15] (fun i wr => ∃ m : Nat, m ≤ N + 1 ∧ i = .int .i64 m ∧ Hid (Lt w1 wr rb tb sb (some ⟨gL, 0, none⟩) capL xs D N)) (fun i _ => N + 1 - (intOf i).toNat)
        case atStart => exact ⟨0, by omega, rfl, HL8⟩
        case round =>
          obtain ⟨m, hm, rfl, HL9⟩ := hrel
          by_cases hlm : m ≤ N
          · have hlm' : (m : Int) ≤ (N : Int) := by omega
            go_wp2_with fail
            refine (lt_last (unhide HL9)).mono ?_
            rintro e w9 ⟨rfl, hw9⟩
            subst w9
            rw [unhide HN]
            go_wp2_with fail
            go_loopw [16] (fun i wr => ∃ q : Nat, q ≤ 8 ∧ i = .int .i64 q ∧ Hid (Lt w1 wr rb tb sb (some ⟨gL, 0, none⟩) capL xs D N)) (fun i _ => 8 - (intOf i).toNat)
            case atStart => exact ⟨0, by omega, rfl, HL9⟩
            case round =>
              obtain ⟨q, hq, rfl, HLA⟩ := hrel
              by_cases hlq : q < 8
              · have hlq' : (q : Int) < 8 := by omega
                have hrd := fun W (hk : Kp [] wr W) => lt_read ((unhide HLA).kp0 hk) (q : Int) (m : Int)
                have hsr := fun W (hk : Kp [] wr W) => lt_sread ((unhide HLA).kp0 hk) (unhide HDN) (unhide HN) (q : Int) (m : Int)
                generalize tr (wal0 D) D.length (q : Int) (m : Int) = v at *
                have HRD := hide hrd
                have HSR := hide hsr
                clear hrd hsr
                go_wp2_with fail
                refine (unhide HRD _ (Kp.refl [] _)).mono ?_
                rintro e wa ⟨rfl, hka⟩
                have HKA := hide hka
                clear hka HRD
                go_wp2_with fail
                refine (unhide HSR _ ((unhide HKA).alloc _)).mono ?_
                rintro e wb ⟨rfl, hkb⟩
                have c0 : wb.cell? ⟨wa.heap.size, 0, none⟩ = some (.bool v.t) := hkb.cell (by simp) (by simp)
                have c1 : wb.cell? ⟨wa.heap.size, 1, none⟩ = some (.string v.s) := hkb.cell (by simp) (by simp)
                have c2 : wa.heap.size < wb.heap.size := by have := hkb.size; simp at this; omega
                have HLB := hide ((unhide HLA).kp0 ((((unhide HKA).alloc (.cells #[.bool v.t, .string v.s] 38)).trans0 hkb).alloc (.cells #[.bool v.t, .string v.s] 38)))
                clear hkb HSR
                generalize wa.heap.size = pq at *
                go_wp2_with fail
                exact ⟨⟨q + 1, by omega, by go_num, HLB⟩, by simp [intOf]; omega⟩
              · go_wp2_with fail
                exact ⟨⟨m + 1, by omega, by go_num, HLA⟩, by simp [intOf]; omega⟩
          · have hlm' : ¬ (m : Int) ≤ (N : Int) := by omega
            go_wp2_with fail
            refine (lt_last (unhide HL9)).mono ?_
            rintro e w9 ⟨rfl, hw9⟩
            subst w9
            rw [unhide HN]
            go_wp2_with fail
            go_ret
            exact ⟨rfl, ((unhide HK1).trans0 (unhide HL9).kp).below (Nat.le_refl _) (by simp)⟩
      · have g5 : decide ((N : Int) < (C : Int)) = false := decide_eq_false (by omega)
        have g6 : decide (N < C) = false := decide_eq_false hNlt
        go_wp2_with fail
        refine wp_region_held_drew (S := fun w' => w'.cell? ⟨rb, 0, none⟩ = some (.slice aL C capL)) (by kernel_rfl) (y0) (fun hHeld => ?_)
        refine wpAnyH_tk (i := 0) (v := ?_) rfl (by kernel_rfl) (by kernel_rfl) (by kernel_rfl) (fun _ _ _ h => h) (Or.inl ⟨by rfl, ?_⟩) hHeld ?_
        rotate_left
        · intro w hSw
          try dsimp only at hSw
          go_simp
          try with_reducible rfl
        try simp only [Act.put, List.setIfInBounds_toArray, List.set_cons_zero, List.set_cons_succ]
        refine wpAnyH_tk (i := 1) (v := ?_) rfl (by kernel_rfl) (by kernel_rfl) (by kernel_rfl) (fun _ _ _ h => h) (Or.inl ⟨by rfl, ?_⟩) hHeld ?_
        rotate_left
        · intro w hSw
          try dsimp only at hSw
          go_simp
          try with_reducible rfl
        try simp only [Act.put, List.setIfInBounds_toArray, List.set_cons_zero, List.set_cons_succ]
        refine wpAnyH_tk (i := 2) (v := ?_) rfl (by kernel_rfl) (by kernel_rfl) (by kernel_rfl) (fun _ _ _ h => h) (Or.inl ⟨by rfl, ?_⟩) hHeld ?_
        rotate_left
        · intro w hSw
          try dsimp only at hSw
          go_simp
          try with_reducible rfl
        try simp only [Act.put, List.setIfInBounds_toArray, List.set_cons_zero, List.set_cons_succ]
        refine wpAnyH_tk (i := 3) (v := ?_) rfl (by kernel_rfl) (by kernel_rfl) (by kernel_rfl) (fun _ _ _ h => h) (Or.inl ⟨by rfl, ?_⟩) hHeld ?_
        rotate_left
        · intro w hSw
          try dsimp only at hSw
          go_simp
          try with_reducible rfl
        try simp only [Act.put, List.setIfInBounds_toArray, List.set_cons_zero, List.set_cons_succ]
        refine wpAnyH_tk (i := 4) (v := ?_) rfl (by kernel_rfl) (by kernel_rfl) (by kernel_rfl) (fun _ _ _ h => h) (Or.inl ⟨by rfl, ?_⟩) hHeld ?_
        rotate_left
        · intro w hSw
          try dsimp only at hSw
          go_simp
          try with_reducible rfl
        try simp only [Act.put, List.setIfInBounds_toArray, List.set_cons_zero, List.set_cons_succ]
        refine wpAnyH_tk (i := 6) (v := ?_) rfl (by kernel_rfl) (by kernel_rfl) (by kernel_rfl) (fun _ _ _ h => h) (Or.inl ⟨by rfl, ?_⟩) hHeld ?_
        rotate_left
        · intro w hSw
          try dsimp only at hSw
          go_simp
          try with_reducible rfl
        try simp only [Act.put, List.setIfInBounds_toArray, List.set_cons_zero, List.set_cons_succ]
        refine wpAnyH_tk (i := 7) (v := ?_) rfl (by kernel_rfl) (by kernel_rfl) (by kernel_rfl) (fun _ _ _ h => h) (Or.inl ⟨by rfl, ?_⟩) hHeld ?_
        rotate_left
        · intro w hSw
          try dsimp only at hSw
          go_simp
          try with_reducible rfl
        try simp only [Act.put, List.setIfInBounds_toArray, List.set_cons_zero, List.set_cons_succ]
        refine wpAnyH_tk (i := 8) (v := ?_) rfl (by kernel_rfl) (by kernel_rfl) (by kernel_rfl) (fun _ _ _ h => h) (Or.inl ⟨by rfl, ?_⟩) hHeld ?_
        rotate_left
        · intro w hSw
          try dsimp only at hSw
          go_simp
          try with_reducible rfl
        try simp only [Act.put, List.setIfInBounds_toArray, List.set_cons_zero, List.set_cons_succ]
        refine wpAnyH_tk (i := 9) (v := ?_) rfl (by kernel_rfl) (by kernel_rfl) (by kernel_rfl) (fun _ _ _ h => h) (Or.inl ⟨by rfl, ?_⟩) hHeld ?_
        rotate_left
        · intro w hSw
          try dsimp only at hSw
          go_simp
          try with_reducible rfl
        try simp only [Act.put, List.setIfInBounds_toArray, List.set_cons_zero, List.set_cons_succ]
        refine wpAnyH_tk (i := 10) (v := ?_) rfl (by kernel_rfl) (by kernel_rfl) (by kernel_rfl) (fun _ _ _ h => h) (Or.inl ⟨by rfl, ?_⟩) hHeld ?_
        rotate_left
        · intro w hSw
          try dsimp only at hSw
          go_simp
          try with_reducible rfl
        try simp only [Act.put, List.setIfInBounds_toArray, List.set_cons_zero, List.set_cons_succ]
        refine wpAnyH_only (i := 5) rfl (by kernel_rfl) (fun K hK => ?_)
        go_simp
        refine (lt_last ((unhide HL).kp0 (Kp.refl [] _).drew)).mono ?_
        rintro e w7 ⟨rfl, hw7⟩
        subst w7
        rw [unhide HN]
        go_wp2_with fail
        refine hK.out _ _ (y0) (fun hHeld2 => ?_)
        clear hK K hHeld
        have hHeld := hHeld2
        clear hHeld2
        try simp only [Act.put, List.setIfInBounds_toArray, List.set_cons_zero, List.set_cons_succ]
        refine wpAnyH_tk (i := 11) (v := ?_) rfl (by kernel_rfl) (by kernel_rfl) (by kernel_rfl) (fun _ _ _ h => h) (Or.inl ⟨by rfl, ?_⟩) hHeld ?_
        rotate_left
        · intro w hSw
          try dsimp only at hSw
          go_simp
          try with_reducible rfl
        try simp only [Act.put, List.setIfInBounds_toArray, List.set_cons_zero, List.set_cons_succ]
        refine wpAnyH_tk (i := 12) (v := ?_) rfl (by kernel_rfl) (by kernel_rfl) (by kernel_rfl) (fun _ _ _ h => h) (Or.inl ⟨by rfl, ?_⟩) hHeld ?_
        rotate_left
        · intro w hSw
          try dsimp only at hSw
          go_simp
          try with_reducible rfl
        try simp only [Act.put, List.setIfInBounds_toArray, List.set_cons_zero, List.set_cons_succ]
        refine wpAnyH_tk (i := 13) rfl (by kernel_rfl) (by kernel_rfl) (by kernel_rfl) (fun _ _ _ h => h) (Or.inr ⟨by rfl, rfl⟩) hHeld ?_
        try simp only [Act.put, List.setIfInBounds_toArray, List.set_cons_zero, List.set_cons_succ]
        refine wpAnyH_tk (i := 14) rfl (by kernel_rfl) (by kernel_rfl) (by kernel_rfl) (fun _ _ _ h => h) (Or.inr ⟨by rfl, rfl⟩) hHeld ?_
        try simp only [Act.put, List.setIfInBounds_toArray, List.set_cons_zero, List.set_cons_succ]
        refine wpAnyH_tk (i := 15) rfl (by kernel_rfl) (by kernel_rfl) (by kernel_rfl) (fun _ _ _ h => h) (Or.inr ⟨by rfl, rfl⟩) hHeld ?_
        try simp only [Act.put, List.setIfInBounds_toArray, List.set_cons_zero, List.set_cons_succ]
        refine wpAnyH_tk (i := 16) rfl (by kernel_rfl) (by kernel_rfl) (by kernel_rfl) (fun _ _ _ h => h) (Or.inr ⟨by rfl, rfl⟩) hHeld ?_
        try simp only [Act.put, List.setIfInBounds_toArray, List.set_cons_zero, List.set_cons_succ]
        refine wpAnyH_tk (i := 17) rfl (by kernel_rfl) (by kernel_rfl) (by kernel_rfl) (fun _ _ _ h => h) (Or.inr ⟨by rfl, rfl⟩) hHeld ?_
        try simp only [Act.put, List.setIfInBounds_toArray, List.set_cons_zero, List.set_cons_succ]
        refine wpAnyH_tk (i := 18) rfl (by kernel_rfl) (by kernel_rfl) (by kernel_rfl) (fun _ _ _ h => h) (Or.inr ⟨by rfl, rfl⟩) hHeld ?_
        try simp only [Act.put, List.setIfInBounds_toArray, List.set_cons_zero, List.set_cons_succ]
        refine wpAnyH_tk (i := 25) rfl (by kernel_rfl) (by kernel_rfl) (by kernel_rfl) (fun _ _ _ h => h) (Or.inr ⟨by rfl, rfl⟩) hHeld ?_
        try simp only [Act.put, List.setIfInBounds_toArray, List.set_cons_zero, List.set_cons_succ]
        refine wpAnyH_tk (i := 19) rfl (by kernel_rfl) (by kernel_rfl) (by kernel_rfl) (fun _ _ _ h => h) (Or.inr ⟨by rfl, rfl⟩) hHeld ?_
        try simp only [Act.put, List.setIfInBounds_toArray, List.set_cons_zero, List.set_cons_succ]
        refine wpAnyH_tk (i := 20) rfl (by kernel_rfl) (by kernel_rfl) (by kernel_rfl) (fun _ _ _ h => h) (Or.inr ⟨by rfl, rfl⟩) hHeld ?_
        try simp only [Act.put, List.setIfInBounds_toArray, List.set_cons_zero, List.set_cons_succ]
        refine wpAnyH_tk (i := 21) rfl (by kernel_rfl) (by kernel_rfl) (by kernel_rfl) (fun _ _ _ h => h) (Or.inr ⟨by rfl, rfl⟩) hHeld ?_
        try simp only [Act.put, List.setIfInBounds_toArray, List.set_cons_zero, List.set_cons_succ]
        refine wpAnyH_tk (i := 22) rfl (by kernel_rfl) (by kernel_rfl) (by kernel_rfl) (fun _ _ _ h => h) (Or.inr ⟨by rfl, rfl⟩) hHeld ?_
        try simp only [Act.put, List.setIfInBounds_toArray, List.set_cons_zero, List.set_cons_succ]
        refine wpAnyH_tk (i := 23) rfl (by kernel_rfl) (by kernel_rfl) (by kernel_rfl) (fun _ _ _ h => h) (Or.inr ⟨by rfl, rfl⟩) hHeld ?_
        try simp only [Act.put, List.setIfInBounds_toArray, List.set_cons_zero, List.set_cons_succ]
        refine wpAnyH_tk (i := 24) rfl (by kernel_rfl) (by kernel_rfl) (by kernel_rfl) (fun _ _ _ h => h) (Or.inr ⟨by rfl, rfl⟩) hHeld ?_
        try simp only [Act.put, List.setIfInBounds_toArray, List.set_cons_zero, List.set_cons_succ]
        refine wpAnyH_tk (i := 26) rfl (by kernel_rfl) (by kernel_rfl) (by kernel_rfl) (fun _ _ _ h => h) (Or.inr ⟨by rfl, rfl⟩) hHeld ?_
        try simp only [Act.put, List.setIfInBounds_toArray, List.set_cons_zero, List.set_cons_succ]
        refine wpAnyH_tk (i := 27) (v := ?_) rfl (by kernel_rfl) (by kernel_rfl) (by kernel_rfl) (fun _ _ _ h => h) (Or.inl ⟨by rfl, ?_⟩) hHeld ?_
        rotate_left
        · intro w hSw
          try dsimp only at hSw
          go_simp
          try with_reducible rfl
        try simp only [Act.put, List.setIfInBounds_toArray, List.set_cons_zero, List.set_cons_succ]
        refine wpAnyH_tk (i := 28) (v := ?_) rfl (by kernel_rfl) (by kernel_rfl) (by kernel_rfl) (fun _ _ _ h => h) (Or.inl ⟨by rfl, ?_⟩) hHeld ?_
        rotate_left
        · intro w hSw
          try dsimp only at hSw
          go_simp
          try with_reducible rfl
        try simp only [Act.put, List.setIfInBounds_toArray, List.set_cons_zero, List.set_cons_succ]
        refine wpAnyH_done (by kernel_rfl) ?_ _
        go_wp2_with fail
        go_loopw [15] (fun i wr => ∃ m : Nat, m ≤ N + 1 ∧ i = .int .i64 m ∧ Hid (Lt w1 wr rb tb sb aL capL xs D N)) (fun i _ => N + 1 - (intOf i).toNat)
        case atStart => exact ⟨0, by omega, rfl, (unhide HL).kp0 (Kp.refl [] _).drew⟩
        case round =>
          obtain ⟨m, hm, rfl, HL9⟩ := hrel
          by_cases hlm : m ≤ N
          · have hlm' : (m : Int) ≤ (N : Int) := by omega
            go_wp2_with fail
            refine (lt_last (unhide HL9)).mono ?_
            rintro e w9 ⟨rfl, hw9⟩
            subst w9
            rw [unhide HN]
            go_wp2_with fail
            go_loopw [16] (fun i wr => ∃ q : Nat, q ≤ 8 ∧ i = .int .i64 q ∧ Hid (Lt w1 wr rb tb sb aL capL xs D N)) (fun i _ => 8 - (intOf i).toNat)
            case atStart => exact ⟨0, by omega, rfl, HL9⟩
            case round =>
              obtain ⟨q, hq, rfl, HLA⟩ := hrel
              by_cases hlq : q < 8
              · have hlq' : (q : Int) < 8 := by omega
                have hrd := fun W (hk : Kp [] wr W) => lt_read ((unhide HLA).kp0 hk) (q : Int) (m : Int)
                have hsr := fun W (hk : Kp [] wr W) => lt_sread ((unhide HLA).kp0 hk) (unhide HDN) (unhide HN) (q : Int) (m : Int)
                generalize tr (wal0 D) D.length (q : Int) (m : Int) = v at *
                have HRD := hide hrd
                have HSR := hide hsr
                clear hrd hsr
                go_wp2_with fail
                refine (unhide HRD _ (Kp.refl [] _)).mono ?_
                rintro e wa ⟨rfl, hka⟩
                have HKA := hide hka
                clear hka HRD
                go_wp2_with fail
                refine (unhide HSR _ ((unhide HKA).alloc _)).mono ?_
                rintro e wb ⟨rfl, hkb⟩
                have c0 : wb.cell? ⟨wa.heap.size, 0, none⟩ = some (.bool v.t) := hkb.cell (by simp) (by simp)
                have c1 : wb.cell? ⟨wa.heap.size, 1, none⟩ = some (.string v.s) := hkb.cell (by simp) (by simp)
                have c2 : wa.heap.size < wb.heap.size := by have := hkb.size; simp at this; omega
                have HLB := hide ((unhide HLA).kp0 ((((unhide HKA).alloc (.cells #[.bool v.t, .string v.s] 38)).trans0 hkb).alloc (.cells #[.bool v.t, .string v.s] 38)))
                clear hkb HSR
                generalize wa.heap.size = pq at *
                go_wp2_with fail
                exact ⟨⟨q + 1, by omega, by go_num, HLB⟩, by simp [intOf]; omega⟩
              · go_wp2_with fail
                exact ⟨⟨m + 1, by omega, by go_num, HLA⟩, by simp [intOf]; omega⟩
          · have hlm' : ¬ (m : Int) ≤ (N : Int) := by omega
            go_wp2_with fail
            refine (lt_last (unhide HL9)).mono ?_
            rintro e w9 ⟨rfl, hw9⟩
            subst w9
            rw [unhide HN]
            go_wp2_with fail
            go_ret
            exact ⟨rfl, ((unhide HK1).trans0 (unhide HL9).kp).below (Nat.le_refl _) (by simp)⟩
end Go.Proofs.Ytfcfoabdangfhab
