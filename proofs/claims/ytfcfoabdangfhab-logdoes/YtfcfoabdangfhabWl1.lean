/- LogDoes, walked. -/
import Derived.Test.YtfcfoabdangfhabWl4
import Derived.Test.YtfcfoabdangfhabJ7
namespace Go.Proofs.Ytfcfoabdangfhab
open Go.RowKit
set_option maxRecDepth 20000
attribute [local go_sem ↓] Go.wp_at_zero Go.wp_at_succ

set_option maxHeartbeats 8000000 in
theorem ldoes7 (a : Option Addr) (n1 c : Nat) (st : Nat → TStep) (ab : Option Addr) (nb cb : Nat) (bs : List UInt8) (k y : Int) (w : World) (h : TSts w a n1 st) (h2 : Byt w ab bs) (hnb : nb = bs.length) (hcb : nb ≤ cb) :
    Calls Try.prog 7 #[.slice a n1 c, .slice ab nb cb, .int .i64 k, .int .i64 y] w fun e w' => e = .returned (.bool true) ∧ Below w.heap.size w w' := by
  have HS := hide h
  have HP := hide h2
  have HNB := hide hnb
  clear h h2 hnb
  go_enter Try.func7, Try.ntmps7
  go_wp2_with fail
  refine (lbegun19 w).mono ?_
  rintro e w1 ⟨rfl, hk1⟩
  have HK1 := hide hk1
  clear hk1
  go_wp2_with fail
  refine (glog20 a n1 c st w1 ((unhide HS).kp0 (unhide HK1))).mono ?_
  rintro e w' ⟨q, rfl, hq, hw'⟩
  subst w'
  cases q with
  | true =>
    clear hq
    go_wp2_with fail
    go_ret
    exact ⟨rfl, (unhide HK1).below (Nat.le_refl _) (by simp)⟩
  | false =>
  obtain ⟨h80, hps⟩ := hq rfl
  have HPS := hide hps
  clear hq hps
  by_cases h5 : 5000 < nb
  · go_wp2_with fail
    go_ret
    exact ⟨rfl, (unhide HK1).below (Nat.le_refl _) (by simp)⟩
  have h5i : ¬ (5000 : Int) < (nb : Int) := by omega
  go_wp2_with fail
  refine (logs21 a n1 c st w1 ((unhide HS).kp0 (unhide HK1)) h80 (unhide HPS)).mono ?_
  rintro e w2 ⟨gb, rb, cs, rfl, _, HB⟩
  have hn40 := (unhide HB).inv.n40
  have hb3000 := (unhide HB).inv.b3000
  obtain ⟨aL, capL, r0, _, _⟩ := (unhide HB).cell
  obtain ⟨sw, hsw⟩ : ∃ sw : ByteArray, (⟨(lb cs).toArray⟩ : ByteArray) = sw := ⟨_, rfl⟩
  have HSW := hide hsw
  clear hsw
  go_wp2_with fail
  refine wp_region_held_drew (S := fun w' => w'.cell? ⟨rb, 0, none⟩ = some (.slice aL cs.length capL)) (by kernel_rfl) (r0) (fun hHeld => ?_)
  refine wpAnyH_tk (i := 0) (v := ?_) rfl (by kernel_rfl) (by kernel_rfl) (by kernel_rfl) (fun _ _ _ h => h) (Or.inl ⟨by rfl, ?_⟩) hHeld ?_
  rotate_left
  · intro w hSw
    try dsimp only at hSw
    go_simp
    try with_reducible rfl
  try simp only [Act.put, List.setIfInBounds_toArray, List.set_cons_zero, List.set_cons_succ]
  refine wpAnyH_tk (i := 1) (v := ?_) rfl (by kernel_rfl) (by kernel_rfl) (by kernel_rfl) (fun _ _ _ h => h) (Or.inl ⟨by rfl, ?_⟩) hHeld ?_
  rotate_left
  · intro w hSw
    try dsimp only at hSw
    go_simp
    try with_reducible rfl
  try simp only [Act.put, List.setIfInBounds_toArray, List.set_cons_zero, List.set_cons_succ]
  refine wpAnyH_tk (i := 2) (v := ?_) rfl (by kernel_rfl) (by kernel_rfl) (by kernel_rfl) (fun _ _ _ h => h) (Or.inl ⟨by rfl, ?_⟩) hHeld ?_
  rotate_left
  · intro w hSw
    try dsimp only at hSw
    go_simp
    try with_reducible rfl
  try simp only [Act.put, List.setIfInBounds_toArray, List.set_cons_zero, List.set_cons_succ]
  refine wpAnyH_tk (i := 3) (v := ?_) rfl (by kernel_rfl) (by kernel_rfl) (by kernel_rfl) (fun _ _ _ h => h) (Or.inl ⟨by rfl, ?_⟩) hHeld ?_
  rotate_left
  · intro w hSw
    try dsimp only at hSw
    go_simp
    try with_reducible rfl
  try simp only [Act.put, List.setIfInBounds_toArray, List.set_cons_zero, List.set_cons_succ]
  refine wpAnyH_tk (i := 5) (v := ?_) rfl (by kernel_rfl) (by kernel_rfl) (by kernel_rfl) (fun _ _ _ h => h) (Or.inl ⟨by rfl, ?_⟩) hHeld ?_
  rotate_left
  · intro w hSw
    try dsimp only at hSw
    go_simp
    try with_reducible rfl
  try simp only [Act.put, List.setIfInBounds_toArray, List.set_cons_zero, List.set_cons_succ]
  refine wpAnyH_tk (i := 6) (v := ?_) rfl (by kernel_rfl) (by kernel_rfl) (by kernel_rfl) (fun _ _ _ h => h) (Or.inl ⟨by rfl, ?_⟩) hHeld ?_
  rotate_left
  · intro w hSw
    try dsimp only at hSw
    go_simp
    try with_reducible rfl
  try simp only [Act.put, List.setIfInBounds_toArray, List.set_cons_zero, List.set_cons_succ]
  refine wpAnyH_tk (i := 7) (v := ?_) rfl (by kernel_rfl) (by kernel_rfl) (by kernel_rfl) (fun _ _ _ h => h) (Or.inl ⟨by rfl, ?_⟩) hHeld ?_
  rotate_left
  · intro w hSw
    try dsimp only at hSw
    go_simp
    try with_reducible rfl
  try simp only [Act.put, List.setIfInBounds_toArray, List.set_cons_zero, List.set_cons_succ]
  refine wpAnyH_tk (i := 8) (v := ?_) rfl (by kernel_rfl) (by kernel_rfl) (by kernel_rfl) (fun _ _ _ h => h) (Or.inl ⟨by rfl, ?_⟩) hHeld ?_
  rotate_left
  · intro w hSw
    try dsimp only at hSw
    go_simp
    try with_reducible rfl
  try simp only [Act.put, List.setIfInBounds_toArray, List.set_cons_zero, List.set_cons_succ]
  refine wpAnyH_tk (i := 9) (v := ?_) rfl (by kernel_rfl) (by kernel_rfl) (by kernel_rfl) (fun _ _ _ h => h) (Or.inl ⟨by rfl, ?_⟩) hHeld ?_
  rotate_left
  · intro w hSw
    try dsimp only at hSw
    go_simp
    try with_reducible rfl
  try simp only [Act.put, List.setIfInBounds_toArray, List.set_cons_zero, List.set_cons_succ]
  refine wpAnyH_only (i := 4) rfl (by kernel_rfl) (fun K hK => ?_)
  go_simp
  refine (duo_len ((unhide HB).kp0 (Kp.refl [] _).drew)).mono ?_
  rintro e w3 ⟨rfl, hw3⟩
  subst w3
  go_wp2_with fail
  refine hK.out _ _ (r0) (fun hHeld2 => ?_)
  clear hK K hHeld
  have hHeld := hHeld2
  clear hHeld2
  try simp only [Act.put, List.setIfInBounds_toArray, List.set_cons_zero, List.set_cons_succ]
  refine wpAnyH_tk (i := 10) (v := ?_) rfl (by kernel_rfl) (by kernel_rfl) (by kernel_rfl) (fun _ _ _ h => h) (Or.inl ⟨by rfl, ?_⟩) hHeld ?_
  rotate_left
  · intro w hSw
    try dsimp only at hSw
    go_simp
    try with_reducible rfl
  try simp only [Act.put, List.setIfInBounds_toArray, List.set_cons_zero, List.set_cons_succ]
  refine wpAnyH_tk (i := 11) (v := ?_) rfl (by kernel_rfl) (by kernel_rfl) (by kernel_rfl) (fun _ _ _ h => h) (Or.inl ⟨by rfl, ?_⟩) hHeld ?_
  rotate_left
  · intro w hSw
    try dsimp only at hSw
    go_simp
    try with_reducible rfl
  try simp only [Act.put, List.setIfInBounds_toArray, List.set_cons_zero, List.set_cons_succ]
  refine wpAnyH_tk (i := 12) (v := ?_) rfl (by kernel_rfl) (by kernel_rfl) (by kernel_rfl) (fun _ _ _ h => h) (Or.inl ⟨by rfl, ?_⟩) hHeld ?_
  rotate_left
  · intro w hSw
    try dsimp only at hSw
    go_simp
    try with_reducible rfl
  try simp only [Act.put, List.setIfInBounds_toArray, List.set_cons_zero, List.set_cons_succ]
  refine wpAnyH_tk (i := 13) (v := ?_) rfl (by kernel_rfl) (by kernel_rfl) (by kernel_rfl) (fun _ _ _ h => h) (Or.inl ⟨by rfl, ?_⟩) hHeld ?_
  rotate_left
  · intro w hSw
    try dsimp only at hSw
    go_simp
    try with_reducible rfl
  try simp only [Act.put, List.setIfInBounds_toArray, List.set_cons_zero, List.set_cons_succ]
  refine wpAnyH_tk (i := 16) (v := ?_) rfl (by kernel_rfl) (by kernel_rfl) (by kernel_rfl) (fun _ _ _ h => h) (Or.inl ⟨by rfl, ?_⟩) hHeld ?_
  rotate_left
  · intro w hSw
    try dsimp only at hSw
    go_simp
    try with_reducible rfl
  try simp only [Act.put, List.setIfInBounds_toArray, List.set_cons_zero, List.set_cons_succ]
  refine wpAnyH_only (i := 14) rfl (by kernel_rfl) (fun K hK => ?_)
  go_simp
  refine (duo_bytes ((unhide HB).kp0 (Kp.refl [] _).drew)).mono ?_
  rintro e w3 ⟨a3, n3, c3, rfl, hn3, hc3, hb3, hk3⟩
  rw [List.append_nil] at hb3 hn3
  have hcv := str_of hb3 n3 c3 hn3 w3 (Kp.refl _ _)
  rw [unhide HSW] at hcv
  have s0 : w3.cell? ⟨rb, 0, none⟩ = some (.slice aL cs.length capL) := hk3.cell (by simp) r0
  have HY3 := hide (And.intro hb3 hn3)
  have HB3 := hide (((unhide HB).kp0 (Kp.refl [] _).drew).kp0 hk3)
  clear hn3 hc3 hb3 hk3
  go_wp2_with fail
  refine hK.out _ _ (s0) (fun hHeld2 => ?_)
  clear hK K hHeld
  have hHeld := hHeld2
  clear hHeld2
  try simp only [Act.put, List.setIfInBounds_toArray, List.set_cons_zero, List.set_cons_succ]
  refine wpAnyH_switch (S' := fun w' => (convert 23 9 (.slice a3 n3 c3)).run Try.prog w' = .ok (.string sw) w' ∧ w'.cell? ⟨rb, 0, none⟩ = some (.slice aL cs.length capL)) (fun _ h => h.2) ?_
  clear hHeld
  have hHeld := And.intro hcv s0
  refine wpAnyH_tk (i := 15) (v := ?_) rfl (by kernel_rfl) (by kernel_rfl) (by kernel_rfl) (fun _ _ _ h => h) (Or.inl ⟨by rfl, ?_⟩) hHeld ?_
  rotate_left
  · intro w hSw
    try dsimp only at hSw
    go_simp
    try with_reducible rfl
  try simp only [Act.put, List.setIfInBounds_toArray, List.set_cons_zero, List.set_cons_succ]
  refine wpAnyH_only (i := 17) rfl (by kernel_rfl) (fun K hK => ?_)
  go_simp
  refine (duo_rbytes (unhide HB3)).mono ?_
  rintro e w4 ⟨a4, n4, c4, rfl, hn4, hc4, hb4, hk4⟩
  rw [List.append_nil] at hb4 hn4
  have hcv4 := str_of hb4 n4 c4 hn4 w4 (Kp.refl _ _)
  have hcx4 := str_of ((unhide HY3).1.kp0 hk4) n3 c3 (unhide HY3).2 w4 (Kp.refl _ _)
  rw [unhide HSW] at hcv4 hcx4
  have t0 : w4.cell? ⟨rb, 0, none⟩ = some (.slice aL cs.length capL) := hk4.cell (by simp) s0
  have HB4 := hide ((unhide HB3).kp0 hk4)
  clear hn4 hc4 hb4 hk4
  go_wp2_with fail
  refine hK.out _ _ (And.intro hcx4 t0) (fun hHeld2 => ?_)
  clear hK K hHeld
  have hHeld := hHeld2
  clear hHeld2
  try simp only [Act.put, List.setIfInBounds_toArray, List.set_cons_zero, List.set_cons_succ]
  refine wpAnyH_switch (S' := fun w' => (convert 23 9 (.slice a4 n4 c4)).run Try.prog w' = .ok (.string sw) w' ∧ (convert 23 9 (.slice a3 n3 c3)).run Try.prog w' = .ok (.string sw) w' ∧ w'.cell? ⟨rb, 0, none⟩ = some (.slice aL cs.length capL)) (fun _ h => h.2) ?_
  clear hHeld
  have hHeld := And.intro hcv4 (And.intro hcx4 t0)
  refine wpAnyH_tk (i := 18) (v := ?_) rfl (by kernel_rfl) (by kernel_rfl) (by kernel_rfl) (fun _ _ _ h => h) (Or.inl ⟨by rfl, ?_⟩) hHeld ?_
  rotate_left
  · intro w hSw
    try dsimp only at hSw
    go_simp
    try with_reducible rfl
  try simp only [Act.put, List.setIfInBounds_toArray, List.set_cons_zero, List.set_cons_succ]
  refine wpAnyH_tk (i := 19) (v := ?_) rfl (by kernel_rfl) (by kernel_rfl) (by kernel_rfl) (fun _ _ _ h => h) (Or.inl ⟨by rfl, ?_⟩) hHeld ?_
  rotate_left
  · intro w hSw
    try dsimp only at hSw
    go_simp
    try with_reducible rfl
  try simp only [Act.put, List.setIfInBounds_toArray, List.set_cons_zero, List.set_cons_succ]
  refine wpAnyH_tk (i := 20) (v := ?_) rfl (by kernel_rfl) (by kernel_rfl) (by kernel_rfl) (fun _ _ _ h => h) (Or.inl ⟨by rfl, ?_⟩) hHeld ?_
  rotate_left
  · intro w hSw
    try dsimp only at hSw
    go_simp
    try with_reducible rfl
  try simp only [Act.put, List.setIfInBounds_toArray, List.set_cons_zero, List.set_cons_succ]
  refine wpAnyH_done (by kernel_rfl) ?_ _
  have HK4 := hide ((unhide HK1).trans0 (unhide HB4).kp)
  have htab := ltable25 ab nb cb bs w4 ((unhide HP).kp0 (unhide HK4)) (unhide HNB) hcb (by have := unhide HNB; omega)
  have hshe := fun W (hk : Kp [] w W) => sheetOf26 ab nb cb bs W ((unhide HP).kp0 hk) (unhide HNB) hcb (by have := unhide HNB; omega)
  have hD := dcs_pf 40 bs
  generalize dcs 40 bs = D at *
  have HTA := hide htab
  have HSO := hide hshe
  have hN40 := hD.2.1
  clear htab hshe hD HB HB3 HB4 r0 s0 t0 hcv hcv4 hcx4 HY3
  go_wp2_with fail
  refine (unhide HTA).mono ?_
  rintro e w5 ⟨tb, F, p, rfl, hp, ht, hk5⟩
  have HK5 := hide ((unhide HK4).trans0 hk5)
  have HT0 := hide ht
  have HPP := hide hp
  clear ht hk5 hp HTA
  go_wp2_with fail
  refine (unhide HSO _ (unhide HK5)).mono ?_
  rintro e w6 ⟨sb, G, p', rfl, hp', hs, hk6⟩
  have hpp : p = p' := (unhide HPP).trans hp'.symm
  subst hpp
  obtain ⟨N, hN⟩ : ∃ N, D.length = N := ⟨_, rfl⟩
  rw [hN] at hs hN40
  have HT : Hid (Tbl w4.heap.size w6 tb F (wal0 D) N) := by
    have := (unhide HT0).kp0 hk6
    rw [hN] at this
    exact this
  have u0 : w6.cell? ⟨sb, 8, none⟩ = some (.int .i64 (N : Nat)) := by
    obtain ⟨g, o, cp, hs⟩ := hs
    exact hs.ncell
  have HSH := hide hs
  have HK6 := hide ((unhide HK5).trans0 hk6)
  have hp3 : p = p := rfl
  clear hs hk6 hp' HSO HT0 HPP hN hp3
  go_wp2_with fail
  refine wp_region_held_drew (S := fun w' => w'.cell? ⟨sb, 8, none⟩ = some (.int .i64 (N : Nat))) (by kernel_rfl) (u0) (fun hHeld => ?_)
  refine wpAnyH_tk (i := 0) (v := ?_) rfl (by kernel_rfl) (by kernel_rfl) (by kernel_rfl) (fun _ _ _ h => h) (Or.inl ⟨by rfl, ?_⟩) hHeld ?_
  rotate_left
  · intro w hSw
    try dsimp only at hSw
    go_simp
    try with_reducible rfl
  try simp only [Act.put, List.setIfInBounds_toArray, List.set_cons_zero, List.set_cons_succ]
  refine wpAnyH_tk (i := 1) (v := ?_) rfl (by kernel_rfl) (by kernel_rfl) (by kernel_rfl) (fun _ _ _ h => h) (Or.inl ⟨by rfl, ?_⟩) hHeld ?_
  rotate_left
  · intro w hSw
    try dsimp only at hSw
    go_simp
    try with_reducible rfl
  try simp only [Act.put, List.setIfInBounds_toArray, List.set_cons_zero, List.set_cons_succ]
  refine wpAnyH_tk (i := 2) (v := ?_) rfl (by kernel_rfl) (by kernel_rfl) (by kernel_rfl) (fun _ _ _ h => h) (Or.inl ⟨by rfl, ?_⟩) hHeld ?_
  rotate_left
  · intro w hSw
    try dsimp only at hSw
    go_simp
    try with_reducible rfl
  try simp only [Act.put, List.setIfInBounds_toArray, List.set_cons_zero, List.set_cons_succ]
  refine wpAnyH_tk (i := 3) (v := ?_) rfl (by kernel_rfl) (by kernel_rfl) (by kernel_rfl) (fun _ _ _ h => h) (Or.inl ⟨by rfl, ?_⟩) hHeld ?_
  rotate_left
  · intro w hSw
    try dsimp only at hSw
    go_simp
    try with_reducible rfl
  try simp only [Act.put, List.setIfInBounds_toArray, List.set_cons_zero, List.set_cons_succ]
  refine wpAnyH_tk (i := 4) (v := ?_) rfl (by kernel_rfl) (by kernel_rfl) (by kernel_rfl) (fun _ _ _ h => h) (Or.inl ⟨by rfl, ?_⟩) hHeld ?_
  rotate_left
  · intro w hSw
    try dsimp only at hSw
    go_simp
    try with_reducible rfl
  try simp only [Act.put, List.setIfInBounds_toArray, List.set_cons_zero, List.set_cons_succ]
  refine wpAnyH_tk (i := 5) (v := ?_) rfl (by kernel_rfl) (by kernel_rfl) (by kernel_rfl) (fun _ _ _ h => h) (Or.inl ⟨by rfl, ?_⟩) hHeld ?_
  rotate_left
  · intro w hSw
    try dsimp only at hSw
    go_simp
    try with_reducible rfl
  try simp only [Act.put, List.setIfInBounds_toArray, List.set_cons_zero, List.set_cons_succ]
  refine wpAnyH_tk (i := 6) (v := ?_) rfl (by kernel_rfl) (by kernel_rfl) (by kernel_rfl) (fun _ _ _ h => h) (Or.inl ⟨by rfl, ?_⟩) hHeld ?_
  rotate_left
  · intro w hSw
    try dsimp only at hSw
    go_simp
    try with_reducible rfl
  try simp only [Act.put, List.setIfInBounds_toArray, List.set_cons_zero, List.set_cons_succ]
  refine wpAnyH_tk (i := 7) (v := ?_) rfl (by kernel_rfl) (by kernel_rfl) (by kernel_rfl) (fun _ _ _ h => h) (Or.inl ⟨by rfl, ?_⟩) hHeld ?_
  rotate_left
  · intro w hSw
    try dsimp only at hSw
    go_simp
    try with_reducible rfl
  try simp only [Act.put, List.setIfInBounds_toArray, List.set_cons_zero, List.set_cons_succ]
  refine wpAnyH_tk (i := 8) (v := ?_) rfl (by kernel_rfl) (by kernel_rfl) (by kernel_rfl) (fun _ _ _ h => h) (Or.inl ⟨by rfl, ?_⟩) hHeld ?_
  rotate_left
  · intro w hSw
    try dsimp only at hSw
    go_simp
    try with_reducible rfl
  try simp only [Act.put, List.setIfInBounds_toArray, List.set_cons_zero, List.set_cons_succ]
  refine wpAnyH_tk (i := 10) (v := ?_) rfl (by kernel_rfl) (by kernel_rfl) (by kernel_rfl) (fun _ _ _ h => h) (Or.inl ⟨by rfl, ?_⟩) hHeld ?_
  rotate_left
  · intro w hSw
    try dsimp only at hSw
    go_simp
    try with_reducible rfl
  try simp only [Act.put, List.setIfInBounds_toArray, List.set_cons_zero, List.set_cons_succ]
  refine wpAnyH_tk (i := 11) (v := ?_) rfl (by kernel_rfl) (by kernel_rfl) (by kernel_rfl) (fun _ _ _ h => h) (Or.inl ⟨by rfl, ?_⟩) hHeld ?_
  rotate_left
  · intro w hSw
    try dsimp only at hSw
    go_simp
    try with_reducible rfl
  try simp only [Act.put, List.setIfInBounds_toArray, List.set_cons_zero, List.set_cons_succ]
  refine wpAnyH_tk (i := 12) (v := ?_) rfl (by kernel_rfl) (by kernel_rfl) (by kernel_rfl) (fun _ _ _ h => h) (Or.inl ⟨by rfl, ?_⟩) hHeld ?_
  rotate_left
  · intro w hSw
    try dsimp only at hSw
    go_simp
    try with_reducible rfl
  try simp only [Act.put, List.setIfInBounds_toArray, List.set_cons_zero, List.set_cons_succ]
  refine wpAnyH_tk (i := 13) (v := ?_) rfl (by kernel_rfl) (by kernel_rfl) (by kernel_rfl) (fun _ _ _ h => h) (Or.inl ⟨by rfl, ?_⟩) hHeld ?_
  rotate_left
  · intro w hSw
    try dsimp only at hSw
    go_simp
    try with_reducible rfl
  try simp only [Act.put, List.setIfInBounds_toArray, List.set_cons_zero, List.set_cons_succ]
  refine wpAnyH_only (i := 9) rfl (by kernel_rfl) (fun K hK => ?_)
  go_simp
  refine (tlast38 _ ((unhide HT).kp0 (Kp.refl [] _).drew)).mono ?_
  rintro e w7 ⟨rfl, hw7⟩
  subst w7
  go_wp2_with fail
  refine hK.out _ _ (u0) (fun hHeld2 => ?_)
  clear hK K hHeld
  have hHeld := hHeld2
  clear hHeld2
  try simp only [Act.put, List.setIfInBounds_toArray, List.set_cons_zero, List.set_cons_succ]
  refine wpAnyH_tk (i := 14) (v := ?_) rfl (by kernel_rfl) (by kernel_rfl) (by kernel_rfl) (fun _ _ _ h => h) (Or.inl ⟨by rfl, ?_⟩) hHeld ?_
  rotate_left
  · intro w hSw
    try dsimp only at hSw
    go_simp
    try with_reducible rfl
  try simp only [Act.put, List.setIfInBounds_toArray, List.set_cons_zero, List.set_cons_succ]
  refine wpAnyH_tk (i := 15) (v := ?_) rfl (by kernel_rfl) (by kernel_rfl) (by kernel_rfl) (fun _ _ _ h => h) (Or.inl ⟨by rfl, ?_⟩) hHeld ?_
  rotate_left
  · intro w hSw
    try dsimp only at hSw
    go_simp
    try with_reducible rfl
  try simp only [Act.put, List.setIfInBounds_toArray, List.set_cons_zero, List.set_cons_succ]
  refine wpAnyH_done (by kernel_rfl) ?_ _
  generalize wal0 D = f at *
  have hread := fun W (hk : Kp [] w6 W) => tread32 k y W ((unhide HT).kp0 hk)
  have hsr := fun W (hk : Kp [] w6 W) => sread33 k y W ((unhide HSH).kp0 hk)
  generalize tr f N k y = v at *
  have HRD := hide hread
  have HSR := hide hsr
  clear hread hsr HT HSH u0
  go_wp2_with fail
  refine (unhide HRD _ (Kp.refl [] _).drew).mono ?_
  rintro e w8 ⟨rfl, hk8⟩
  have HK8 := hide ((Kp.refl [] w6).drew.trans0 hk8)
  clear hk8 HRD
  go_wp2_with fail
  refine (unhide HSR _ ((unhide HK8).alloc _)).mono ?_
  rintro e w9 ⟨rfl, hk9⟩
  have c0 : w9.cell? ⟨w8.heap.size, 0, none⟩ = some (.bool v.t) := hk9.cell (by simp) (by simp)
  have c1 : w9.cell? ⟨w8.heap.size, 1, none⟩ = some (.string v.s) := hk9.cell (by simp) (by simp)
  have c2 : w8.heap.size < w9.heap.size := by have := hk9.size; simp at this; omega
  have HK9 := hide (((unhide HK8).alloc (.cells #[.bool v.t, .string v.s] 38)).trans0 hk9)
  clear hk9 HSR
  generalize w8.heap.size = q at *
  go_wp2_with fail
  go_ret
  exact ⟨rfl, ((unhide HK6).trans0 ((unhide HK9).alloc _)).below (Nat.le_refl _) (by simp)⟩
end Go.Proofs.Ytfcfoabdangfhab
