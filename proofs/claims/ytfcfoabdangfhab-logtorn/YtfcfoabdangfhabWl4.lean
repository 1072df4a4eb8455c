/- LogRefuses, walked. -/
import Derived.Test.YtfcfoabdangfhabJ10
import Derived.Test.YtfcfoabdangfhabJ11
namespace Go.Proofs.Ytfcfoabdangfhab
open Go.RowKit
set_option maxRecDepth 20000
attribute [local go_sem ↓] Go.wp_at_zero Go.wp_at_succ

theorem lput_bad {cs : List (List Ver)} {ps : List Ver} (h : lcode cs ps ≠ 0) : lput cs ps = cs := by unfold lput; rw [if_neg h]
theorem lput_ok {cs : List (List Ver)} {ps : List Ver} (h : lcode cs ps = 0) : lput cs ps = cs ++ [ps] := by unfold lput; rw [if_pos h]
theorem size_toArr (bs : List UInt8) : (⟨bs.toArray⟩ : ByteArray).size = bs.length := by simp [ByteArray.size]

theorem byt_take {w : World} {a : Option Addr} {bs : List UInt8} (h : Byt w a bs) (k : Nat) : Byt w a (bs.take k) := fun hp => by
  obtain ⟨g, o, e, hs⟩ := h (by simp at hp; omega)
  exact ⟨g, o, e, hs.take k⟩

set_option maxHeartbeats 4000000 in
theorem lref10 (a : Option Addr) (n1 c : Nat) (st : Nat → TStep) (a2 : Option Addr) (c2 : Nat) (ps : List Ver) (keep : Int) (w : World) (h : TSts w a n1 st) (h2 : Prs w a2 ps) :
    Calls Try.prog 10 #[.slice a n1 c, .slice a2 ps.length c2, .int .i64 keep] w fun e w' => e = .returned (.bool true) ∧ Below w.heap.size w w' := by
  have HS := hide h
  have HP := hide h2
  clear h h2
  go_enter Try.func10, Try.ntmps10
  go_wp2_with fail
  refine (lbegun19 w).mono ?_
  rintro e w1 ⟨rfl, hk1⟩
  have HK1 := hide hk1
  clear hk1
  go_wp2_with fail
  refine (glog20 a n1 c st w1 ((unhide HS).kp0 (unhide HK1))).mono ?_
  rintro e w' ⟨q, rfl, hq, hw'⟩
  subst w'
  cases q with
  | true =>
    clear hq
    go_wp2_with fail
    go_ret
    exact ⟨rfl, (unhide HK1).below (Nat.le_refl _) (by simp)⟩
  | false =>
  obtain ⟨h80, hps⟩ := hq rfl
  have HPS := hide hps
  clear hq hps
  go_wp2_with fail
  refine (gpairs30 a2 c2 ps w1 ((unhide HP).kp0 (unhide HK1))).mono ?_
  rintro e w' ⟨q, rfl, hq, hw'⟩
  subst w'
  cases q with
  | true =>
    clear hq
    go_wp2_with fail
    go_ret
    exact ⟨rfl, (unhide HK1).below (Nat.le_refl _) (by simp)⟩
  | false =>
  have h50 := hq rfl
  clear hq
  go_wp2_with fail
  refine (logs21 a n1 c st w1 ((unhide HS).kp0 (unhide HK1)) h80 (unhide HPS)).mono ?_
  rintro e w2 ⟨gb, rb, cs, rfl, _, HB⟩
  have hn40 := (unhide HB).inv.n40
  have hb3000 := (unhide HB).inv.b3000
  obtain ⟨sw, hsw⟩ : ∃ sw : ByteArray, (⟨(lb cs).toArray⟩ : ByteArray) = sw := ⟨_, rfl⟩
  have hsz : sw.size = (lb cs).length := by rw [← hsw, size_toArr]
  have HSW := hide hsw
  clear hsw
  go_wp2_with fail
  refine wp_region_held_drew (S := fun _ => True) (by kernel_rfl) (trivial) (fun hHeld => ?_)
  refine wpAnyH_tk (i := 0) (v := ?_) rfl (by kernel_rfl) (by kernel_rfl) (by kernel_rfl) (fun _ _ _ h => h) (Or.inl ⟨by rfl, ?_⟩) hHeld ?_
  rotate_left
  · intro w hSw
    try dsimp only at hSw
    go_simp
    try with_reducible rfl
  try simp only [Act.put, List.setIfInBounds_toArray, List.set_cons_zero, List.set_cons_succ]
  refine wpAnyH_tk (i := 3) (v := ?_) rfl (by kernel_rfl) (by kernel_rfl) (by kernel_rfl) (fun _ _ _ h => h) (Or.inl ⟨by rfl, ?_⟩) hHeld ?_
  rotate_left
  · intro w hSw
    try dsimp only at hSw
    go_simp
    try with_reducible rfl
  try simp only [Act.put, List.setIfInBounds_toArray, List.set_cons_zero, List.set_cons_succ]
  refine wpAnyH_only (i := 1) rfl (by kernel_rfl) (fun K hK => ?_)
  go_simp
  refine (duo_bytes ((unhide HB).kp0 (Kp.refl [] _).drew)).mono ?_
  rintro e w3 ⟨a3, n3, c3, rfl, hn3, hc3, hb3, hk3⟩
  rw [List.append_nil] at hb3 hn3
  have hcv := str_of hb3 n3 c3 hn3 w3 (Kp.refl _ _)
  rw [unhide HSW] at hcv
  have HB3 := hide (((unhide HB).kp0 (Kp.refl [] _).drew).kp0 hk3)
  clear hn3 hc3 hb3 hk3
  go_wp2_with fail
  refine hK.out _ _ (trivial) (fun hHeld2 => ?_)
  clear hK K hHeld
  have hHeld := hHeld2
  clear hHeld2
  try simp only [Act.put, List.setIfInBounds_toArray, List.set_cons_zero, List.set_cons_succ]
  refine wpAnyH_switch (S' := fun w' => (convert 23 9 (.slice a3 n3 c3)).run Try.prog w' = .ok (.string sw) w') (fun _ _ => trivial) ?_
  clear hHeld
  have hHeld := hcv
  refine wpAnyH_tk (i := 2) (v := ?_) rfl (by kernel_rfl) (by kernel_rfl) (by kernel_rfl) (fun _ _ _ h => h) (Or.inl ⟨by rfl, ?_⟩) hHeld ?_
  rotate_left
  · intro w hSw
    try dsimp only at hSw
    go_simp
    try with_reducible rfl
  try simp only [Act.put, List.setIfInBounds_toArray, List.set_cons_zero, List.set_cons_succ]
  refine wpAnyH_only (i := 4) rfl (by kernel_rfl) (fun K hK => ?_)
  go_simp
  refine (duo_len (unhide HB3)).mono ?_
  rintro e w4 ⟨rfl, rfl⟩
  go_wp2_with fail
  refine hK.out _ _ (hcv) (fun hHeld2 => ?_)
  clear hK K hHeld
  have hHeld := hHeld2
  clear hHeld2
  try simp only [Act.put, List.setIfInBounds_toArray, List.set_cons_zero, List.set_cons_succ]
  refine wpAnyH_tk (i := 5) (v := ?_) rfl (by kernel_rfl) (by kernel_rfl) (by kernel_rfl) (fun _ _ _ h => h) (Or.inl ⟨by rfl, ?_⟩) hHeld ?_
  rotate_left
  · intro w hSw
    try dsimp only at hSw
    go_simp
    try with_reducible rfl
  try simp only [Act.put, List.setIfInBounds_toArray, List.set_cons_zero, List.set_cons_succ]
  refine wpAnyH_tk (i := 6) (v := ?_) rfl (by kernel_rfl) (by kernel_rfl) (by kernel_rfl) (fun _ _ _ h => h) (Or.inl ⟨by rfl, ?_⟩) hHeld ?_
  rotate_left
  · intro w hSw
    try dsimp only at hSw
    go_simp
    try with_reducible rfl
  try simp only [Act.put, List.setIfInBounds_toArray, List.set_cons_zero, List.set_cons_succ]
  refine wpAnyH_done (by kernel_rfl) ?_ _
  obtain ⟨z, hz⟩ : ∃ z, lcode cs ps = z := ⟨_, rfl⟩
  have hput := duo_put a2 c2 ps (unhide HB3) ((unhide HP).kp0 (unhide HK1)) (by omega)
  rw [hz] at hput
  have HPU := hide hput
  clear hput
  by_cases h0 : z = 0
  · subst h0
    rw [lput_ok hz] at HPU
    have hel := enc_le (lcode_zero hz).1
    have hroom := (lcode_zero hz).2.2
    clear hz hcv
    go_wp2_with fail
    refine (unhide HPU).mono ?_
    rintro e w5 ⟨rfl, HB5⟩
    clear HPU
    go_wp2_with fail
    refine (duo_len (unhide HB5)).mono ?_
    rintro e w' ⟨rfl, hw'⟩
    subst w'
    rw [List.length_append, List.length_singleton]
    go_wp2_with fail
    refine (duo_bytes (unhide HB5)).mono ?_
    rintro e w6 ⟨a6, n6, c6, rfl, hn6, hc6, hb6, hk6⟩
    rw [List.append_nil, lb_snoc, List.length_append] at hn6
    have HB6 := hide ((unhide HB5).kp0 hk6)
    have hgt : (sw.size : Int) < (n6 : Int) := by omega
    have hn6' : n6 ≤ 3000 := by omega
    clear hn6 hc6 hb6 hk6 HB5
    go_wp2_with fail
    refine (duo_bytes (unhide HB6)).mono ?_
    rintro e w7 ⟨a7, n7, c7, rfl, hn7, hc7, hb7, hk7⟩
    rw [List.append_nil, lb_snoc] at hn7 hb7
    have hb8 := byt_take hb7 (lb cs).length
    rw [List.take_left] at hb8
    have hcv := str_of hb8 (lb cs).length c7 rfl w7 (Kp.refl _ _)
    rw [unhide HSW] at hcv
    have HK7 := hide (((unhide HB6).kp0 hk7).kp)
    have hle : (sw.size : Int) ≤ (c7 : Int) := by rw [List.length_append] at hn7; omega
    clear hn7 hc7 hb7 hb8 hk7 HB6
    go_wp2_with fail
    go_ret
    exact ⟨rfl, ((unhide HK1).trans0 (unhide HK7)).below (Nat.le_refl _) (by simp)⟩
  · have hz' : lcode cs ps ≠ 0 := by rw [hz]; exact h0
    rw [lput_bad hz'] at HPU
    have ht := fun W (hd : Duo w1 W gb rb cs [] cs []) => duo_tear a2 c2 ps keep hd ((unhide HP).kp0 (unhide HK1)) (by omega)
    rw [hz, (ltear_code keep hz').1, (ltear_code keep hz').2] at ht
    have HT := hide ht
    clear hz hz' ht hcv
    go_wp2_with fail
    refine (unhide HPU).mono ?_
    rintro e w5 ⟨rfl, HB5⟩
    clear HPU
    go_wp2_with fail
    refine (unhide HT _ (unhide HB5)).mono ?_
    rintro e w6 ⟨rfl, HB6⟩
    clear HT HB5
    go_wp2_with fail
    refine (duo_len (unhide HB6)).mono ?_
    rintro e w' ⟨rfl, hw'⟩
    subst w'
    go_wp2_with fail
    refine (duo_bytes (unhide HB6)).mono ?_
    rintro e w7 ⟨a7, n7, c7, rfl, hn7, hc7, hb7, hk7⟩
    rw [List.append_nil] at hn7 hb7
    have hcv := str_of hb7 n7 c7 hn7 w7 (Kp.refl _ _)
    rw [unhide HSW] at hcv
    have HB7 := hide ((unhide HB6).kp0 hk7)
    clear hn7 hc7 hb7 hk7 HB6
    go_wp2_with fail
    refine (duo_mend (unhide HB7)).mono ?_
    rintro e w8 ⟨rfl, HB8⟩
    have HK8 := hide (unhide HB8).kp
    clear HB7 HB8
    go_wp2_with fail
    go_ret
    exact ⟨rfl, ((unhide HK1).trans0 (unhide HK8)).below (Nat.le_refl _) (by simp)⟩
end Go.Proofs.Ytfcfoabdangfhab
