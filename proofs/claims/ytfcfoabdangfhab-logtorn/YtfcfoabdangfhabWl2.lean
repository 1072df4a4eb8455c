/- LogTorn, walked. -/
import Derived.Test.YtfcfoabdangfhabWl4
namespace Go.Proofs.Ytfcfoabdangfhab
open Go.RowKit
set_option maxRecDepth 20000
attribute [local go_sem ↓] Go.wp_at_zero Go.wp_at_succ

/-- Two logs that share no memory, both made since w0, all that was there as it was. -/
def Dul (w0 wr : World) (gb hb : Nat) (cs : List (List Ver)) (tg : List UInt8) (ds : List (List Ver)) (td : List UInt8) : Prop :=
  ∃ F H, Lg w0.heap.size wr gb F cs tg ∧ Lg w0.heap.size wr hb H ds td ∧ (∀ x, x ∈ F → x ∉ H) ∧ Kp [] w0 wr
section
variable {w0 wr w' : World} {gb hb : Nat} {cs ds : List (List Ver)} {tg td : List UInt8}
theorem Dul.kp (h : Dul w0 wr gb hb cs tg ds td) : Kp [] w0 wr := by
  obtain ⟨_, _, _, _, _, h⟩ := h
  exact h
theorem Dul.kp0 (h : Dul w0 wr gb hb cs tg ds td) (hk : Kp [] wr w') : Dul w0 w' gb hb cs tg ds td := by
  obtain ⟨F, G, h1, h2, h3, h4⟩ := h
  exact ⟨F, G, h1.kp0 hk, h2.kp0 hk, h3, h4.trans0 hk⟩
theorem dul_start {w1 w2 : World} {rb rb' : Nat} (h1 : Duo w0 w1 gb rb cs [] cs []) (h2 : Duo w1 w2 hb rb' ds [] ds []) : Dul w0 w2 gb hb cs [] ds [] := by
  obtain ⟨F, G, a1, a2, a3, a4⟩ := h1
  obtain ⟨H, K, b1, b2, b3, b4⟩ := h2
  refine ⟨F, H, a1.kp0 b4, b1.base a4.size, fun x hx hh => ?_, a4.trans0 b4⟩
  have := (a1.lo x hx).2
  have := (b1.lo x hh).1
  omega
theorem dul_g {F H : List Nat} {cs' : List (List Ver)} {tg' : List UInt8} (h1 : Lg w0.heap.size wr gb F cs tg) (h2 : Lg w0.heap.size wr hb H ds td) (h3 : ∀ x, x ∈ F → x ∉ H) (h4 : Kp [] w0 wr) (k : LgTo w0.heap.size wr gb F cs' tg' w') : Dul w0 w' gb hb cs' tg' ds td := by
  obtain ⟨F', k1, k2, k3⟩ := k
  refine ⟨F', H, k1, h2.kp k2 (fun x hx hf => h3 x hf hx), fun x hx hg => ?_, h4.trans k2 (fun x hx => .inr (h1.lo x hx).1)⟩
  rcases k3 x hx with e | e
  · exact h3 x e hg
  · have := (h2.lo x hg).2; omega
theorem dul_h {F H : List Nat} {ds' : List (List Ver)} {td' : List UInt8} (h1 : Lg w0.heap.size wr gb F cs tg) (h2 : Lg w0.heap.size wr hb H ds td) (h3 : ∀ x, x ∈ F → x ∉ H) (h4 : Kp [] w0 wr) (k : LgTo w0.heap.size wr hb H ds' td' w') : Dul w0 w' gb hb cs tg ds' td' := by
  obtain ⟨H', k1, k2, k3⟩ := k
  refine ⟨F, H', h1.kp k2 h3, k1, fun x hx hg => ?_, h4.trans k2 (fun x hx => .inr (h2.lo x hx).1)⟩
  rcases k3 x hg with e | e
  · exact h3 x hx e
  · have := (h1.lo x hx).2; omega
theorem dul_tear (a : Option Addr) (c : Nat) (ps : List Ver) (keep : Int) (h : Dul w0 wr gb hb cs [] ds td) (hp : Prs w0 a ps) (hm : ps.length ≤ 1000) :
    Calls Try.prog 30 #[.pointer (some ⟨gb, 0, none⟩), .slice a ps.length c, .int .i64 keep] wr fun e w' => e = .returned (.int .i64 (lcode cs ps)) ∧ Hid (Dul w0 w' gb hb (ltear cs ps keep) (ltorn cs ps keep) ds td) := by
  obtain ⟨F, H, h1, h2, h3, h4⟩ := h
  refine (ltear30 a c ps keep wr h1 (hp.kp0 h4) hm).mono ?_
  rintro e w' ⟨rfl, k⟩
  exact ⟨rfl, dul_g h1 h2 h3 h4 k⟩
theorem dul_put (a : Option Addr) (c : Nat) (ps : List Ver) (h : Dul w0 wr gb hb cs tg ds []) (hp : Prs w0 a ps) (hm : ps.length ≤ 1000) :
    Calls Try.prog 31 #[.pointer (some ⟨hb, 0, none⟩), .slice a ps.length c] wr fun e w' => e = .returned (.int .i64 (lcode ds ps)) ∧ Hid (Dul w0 w' gb hb cs tg (lput ds ps) []) := by
  obtain ⟨F, H, h1, h2, h3, h4⟩ := h
  refine (lput31 a c ps wr h2 (hp.kp0 h4) hm).mono ?_
  rintro e w' ⟨rfl, k⟩
  exact ⟨rfl, dul_h h1 h2 h3 h4 k⟩
theorem dul_mend (h : Dul w0 wr gb hb cs tg ds td) : Calls Try.prog 32 #[.pointer (some ⟨gb, 0, none⟩)] wr fun e w' => e = .returned (.int .i64 tg.length) ∧ Hid (Dul w0 w' gb hb cs [] ds td) := by
  obtain ⟨F, H, h1, h2, h3, h4⟩ := h
  refine (lmend wr h1).mono ?_
  rintro e w' ⟨rfl, k1, k2⟩
  exact ⟨rfl, dul_g h1 h2 h3 h4 ⟨F, k1, k2, fun x hx => .inl hx⟩⟩
theorem dul_glen (h : Dul w0 wr gb hb cs tg ds td) : Calls Try.prog 22 #[.pointer (some ⟨gb, 0, none⟩)] wr fun e w' => e = .returned (.int .i64 cs.length) ∧ w' = wr := by
  obtain ⟨F, H, h1, h2, h3, h4⟩ := h
  exact llen wr h1
theorem dul_gbytes (h : Dul w0 wr gb hb cs tg ds td) : Calls Try.prog 23 #[.pointer (some ⟨gb, 0, none⟩)] wr fun e w' => BtEnd (lb cs ++ tg) wr e w' := by
  obtain ⟨F, H, h1, h2, h3, h4⟩ := h
  exact lbytes wr h1
theorem dul_hbytes (h : Dul w0 wr gb hb cs tg ds td) : Calls Try.prog 23 #[.pointer (some ⟨hb, 0, none⟩)] wr fun e w' => BtEnd (lb ds ++ td) wr e w' := by
  obtain ⟨F, H, h1, h2, h3, h4⟩ := h
  exact lbytes wr h2
end

set_option maxHeartbeats 8000000 in
theorem ltorn8 (a : Option Addr) (n1 c : Nat) (st : Nat → TStep) (a2 : Option Addr) (c2 : Nat) (ps : List Ver) (keep : Int) (w : World) (h : TSts w a n1 st) (h2 : Prs w a2 ps) :
    Calls Try.prog 8 #[.slice a n1 c, .slice a2 ps.length c2, .int .i64 keep] w fun e w' => e = .returned (.bool true) ∧ Below w.heap.size w w' := by
  have HS := hide h
  have HP := hide h2
  clear h h2
  go_enter Try.func8, Try.ntmps8
  go_wp2_with fail
  refine (lbegun19 w).mono ?_
  rintro e w1 ⟨rfl, hk1⟩
  have HK1 := hide hk1
  clear hk1
  go_wp2_with fail
  refine (glog20 a n1 c st w1 ((unhide HS).kp0 (unhide HK1))).mono ?_
  rintro e w' ⟨q, rfl, hq, hw'⟩
  subst w'
  cases q with
  | true =>
    clear hq
    go_wp2_with fail
    go_ret
    exact ⟨rfl, (unhide HK1).below (Nat.le_refl _) (by simp)⟩
  | false =>
  obtain ⟨h80, hps⟩ := hq rfl
  have HPS := hide hps
  clear hq hps
  go_wp2_with fail
  refine (gpairs30 a2 c2 ps w1 ((unhide HP).kp0 (unhide HK1))).mono ?_
  rintro e w' ⟨q, rfl, hq, hw'⟩
  subst w'
  cases q with
  | true =>
    clear hq
    go_wp2_with fail
    go_ret
    exact ⟨rfl, (unhide HK1).below (Nat.le_refl _) (by simp)⟩
  | false =>
  have h50 := hq rfl
  clear hq
  go_wp2_with fail
  refine (logs21 a n1 c st w1 ((unhide HS).kp0 (unhide HK1)) h80 (unhide HPS)).mono ?_
  rintro e w2 ⟨gb, rb, cs, rfl, HR1, HD1⟩
  go_wp2_with fail
  refine (logs21 a n1 c st w2 (((unhide HS).kp0 (unhide HK1)).kp0 (unhide HD1).kp) h80 (unhide HPS)).mono ?_
  rintro e w3 ⟨hb, rb', ds, rfl, HR2, HD2⟩
  have hds : cs = ds := (unhide HR1).symm.trans (unhide HR2)
  subst hds
  have hn40 := (unhide HD1).inv.n40
  have hb3000 := (unhide HD1).inv.b3000
  have HB := hide (dul_start (unhide HD1) (unhide HD2))
  clear HD1 HD2 HR1 HR2
  obtain ⟨sw, hsw⟩ : ∃ sw : ByteArray, (⟨(lb cs).toArray⟩ : ByteArray) = sw := ⟨_, rfl⟩
  have hsz : sw.size = (lb cs).length := by rw [← hsw, size_toArr]
  have HSW := hide hsw
  clear hsw
  go_wp2_with fail
  refine wp_region_held_drew (S := fun _ => True) (by kernel_rfl) (trivial) (fun hHeld => ?_)
  refine wpAnyH_tk (i := 0) (v := ?_) rfl (by kernel_rfl) (by kernel_rfl) (by kernel_rfl) (fun _ _ _ h => h) (Or.inl ⟨by rfl, ?_⟩) hHeld ?_
  rotate_left
  · intro w hSw
    try dsimp only at hSw
    go_simp
    try with_reducible rfl
  try simp only [Act.put, List.setIfInBounds_toArray, List.set_cons_zero, List.set_cons_succ]
  refine wpAnyH_tk (i := 3) (v := ?_) rfl (by kernel_rfl) (by kernel_rfl) (by kernel_rfl) (fun _ _ _ h => h) (Or.inl ⟨by rfl, ?_⟩) hHeld ?_
  rotate_left
  · intro w hSw
    try dsimp only at hSw
    go_simp
    try with_reducible rfl
  try simp only [Act.put, List.setIfInBounds_toArray, List.set_cons_zero, List.set_cons_succ]
  refine wpAnyH_only (i := 1) rfl (by kernel_rfl) (fun K hK => ?_)
  go_simp
  refine (dul_gbytes ((unhide HB).kp0 (Kp.refl [] _).drew)).mono ?_
  rintro e w4 ⟨a4, n4, c4, rfl, hn4, hc4, hb4, hk4⟩
  rw [List.append_nil] at hb4 hn4
  have hcv := str_of hb4 n4 c4 hn4 w4 (Kp.refl _ _)
  rw [unhide HSW] at hcv
  have HB4 := hide (((unhide HB).kp0 (Kp.refl [] _).drew).kp0 hk4)
  clear hn4 hc4 hb4 hk4
  go_wp2_with fail
  refine hK.out _ _ (trivial) (fun hHeld2 => ?_)
  clear hK K hHeld
  have hHeld := hHeld2
  clear hHeld2
  try simp only [Act.put, List.setIfInBounds_toArray, List.set_cons_zero, List.set_cons_succ]
  refine wpAnyH_switch (S' := fun w' => (convert 23 9 (.slice a4 n4 c4)).run Try.prog w' = .ok (.string sw) w') (fun _ _ => trivial) ?_
  clear hHeld
  have hHeld := hcv
  refine wpAnyH_tk (i := 2) (v := ?_) rfl (by kernel_rfl) (by kernel_rfl) (by kernel_rfl) (fun _ _ _ h => h) (Or.inl ⟨by rfl, ?_⟩) hHeld ?_
  rotate_left
  · intro w hSw
    try dsimp only at hSw
    go_simp
    try with_reducible rfl
  try simp only [Act.put, List.setIfInBounds_toArray, List.set_cons_zero, List.set_cons_succ]
  refine wpAnyH_only (i := 4) rfl (by kernel_rfl) (fun K hK => ?_)
  go_simp
  refine (dul_glen (unhide HB4)).mono ?_
  rintro e w5 ⟨rfl, rfl⟩
  go_wp2_with fail
  refine hK.out _ _ (hcv) (fun hHeld2 => ?_)
  clear hK K hHeld
  have hHeld := hHeld2
  clear hHeld2
  try simp only [Act.put, List.setIfInBounds_toArray, List.set_cons_zero, List.set_cons_succ]
  refine wpAnyH_tk (i := 5) (v := ?_) rfl (by kernel_rfl) (by kernel_rfl) (by kernel_rfl) (fun _ _ _ h => h) (Or.inl ⟨by rfl, ?_⟩) hHeld ?_
  rotate_left
  · intro w hSw
    try dsimp only at hSw
    go_simp
    try with_reducible rfl
  try simp only [Act.put, List.setIfInBounds_toArray, List.set_cons_zero, List.set_cons_succ]
  refine wpAnyH_tk (i := 6) (v := ?_) rfl (by kernel_rfl) (by kernel_rfl) (by kernel_rfl) (fun _ _ _ h => h) (Or.inl ⟨by rfl, ?_⟩) hHeld ?_
  rotate_left
  · intro w hSw
    try dsimp only at hSw
    go_simp
    try with_reducible rfl
  try simp only [Act.put, List.setIfInBounds_toArray, List.set_cons_zero, List.set_cons_succ]
  refine wpAnyH_done (by kernel_rfl) ?_ _
  obtain ⟨z, hz⟩ : ∃ z, lcode cs ps = z := ⟨_, rfl⟩
  have htear := dul_tear a2 c2 ps keep (unhide HB4) ((unhide HP).kp0 (unhide HK1)) (by omega)
  have hput := fun cs' tg W (hd : Dul w1 W gb hb cs' tg cs []) => dul_put a2 c2 ps hd ((unhide HP).kp0 (unhide HK1)) (by omega)
  rw [hz] at htear hput
  clear hcv
  by_cases h0 : z = 0
  · subst h0
    rw [lput_ok hz] at hput
    have hel := enc_le (lcode_zero hz).1
    have hroom := (lcode_zero hz).2.2
    by_cases hk : ((enc ps).length : Int) ≤ keep
    · rw [(ltear_all hz hk).1, (ltear_all hz hk).2] at htear
      have HT := hide htear
      have HU := hide hput
      clear htear hput hz
      obtain ⟨sv, hsv⟩ : ∃ sv : ByteArray, (⟨(lb (cs ++ [ps])).toArray⟩ : ByteArray) = sv := ⟨_, rfl⟩
      have HSV := hide hsv
      clear hsv
      go_wp2_with fail
      refine (unhide HT).mono ?_
      rintro e w6 ⟨rfl, HB6⟩
      go_wp2_with fail
      refine (unhide HU _ _ _ (unhide HB6)).mono ?_
      rintro e w7 ⟨rfl, HB7⟩
      clear HT HU HB6
      go_wp2_with fail
      refine (dul_mend (unhide HB7)).mono ?_
      rintro e w8 ⟨rfl, HB8⟩
      clear HB7
      go_wp2_with fail
      refine (dul_mend (unhide HB8)).mono ?_
      rintro e w9 ⟨rfl, HB9⟩
      clear HB8
      go_wp2_with fail
      refine (dul_glen (unhide HB9)).mono ?_
      rintro e w' ⟨rfl, hw'⟩
      subst w'
      rw [List.length_append, List.length_singleton]
      go_wp2_with fail
      refine wp_region_held_drew (S := fun _ => True) (by kernel_rfl) (trivial) (fun hHeld => ?_)
      refine wpAnyH_tk (i := 0) (v := ?_) rfl (by kernel_rfl) (by kernel_rfl) (by kernel_rfl) (fun _ _ _ h => h) (Or.inl ⟨by rfl, ?_⟩) hHeld ?_
      rotate_left
      · intro w hSw
        try dsimp only at hSw
        go_simp
        try with_reducible rfl
      try simp only [Act.put, List.setIfInBounds_toArray, List.set_cons_zero, List.set_cons_succ]
      refine wpAnyH_tk (i := 3) (v := ?_) rfl (by kernel_rfl) (by kernel_rfl) (by kernel_rfl) (fun _ _ _ h => h) (Or.inl ⟨by rfl, ?_⟩) hHeld ?_
      rotate_left
      · intro w hSw
        try dsimp only at hSw
        go_simp
        try with_reducible rfl
      try simp only [Act.put, List.setIfInBounds_toArray, List.set_cons_zero, List.set_cons_succ]
      refine wpAnyH_only (i := 1) rfl (by kernel_rfl) (fun K hK => ?_)
      go_simp
      refine (dul_gbytes ((unhide HB9).kp0 (Kp.refl [] _).drew)).mono ?_
      rintro e w10 ⟨a10, n10, c10, rfl, hn10, hc10, hb10, hk10⟩
      rw [List.append_nil] at hb10 hn10
      have hcv10 := str_of hb10 n10 c10 hn10 w10 (Kp.refl _ _)
      rw [unhide HSV] at hcv10
      have HY10 := hide (And.intro hb10 hn10)
      have HB10 := hide (((unhide HB9).kp0 (Kp.refl [] _).drew).kp0 hk10)
      clear hn10 hc10 hb10 hk10
      go_wp2_with fail
      refine hK.out _ _ (trivial) (fun hHeld2 => ?_)
      clear hK K hHeld
      have hHeld := hHeld2
      clear hHeld2
      try simp only [Act.put, List.setIfInBounds_toArray, List.set_cons_zero, List.set_cons_succ]
      refine wpAnyH_switch (S' := fun w' => (convert 23 9 (.slice a10 n10 c10)).run Try.prog w' = .ok (.string sv) w') (fun _ _ => trivial) ?_
      clear hHeld
      have hHeld := hcv10
      refine wpAnyH_tk (i := 2) (v := ?_) rfl (by kernel_rfl) (by kernel_rfl) (by kernel_rfl) (fun _ _ _ h => h) (Or.inl ⟨by rfl, ?_⟩) hHeld ?_
      rotate_left
      · intro w hSw
        try dsimp only at hSw
        go_simp
        try with_reducible rfl
      try simp only [Act.put, List.setIfInBounds_toArray, List.set_cons_zero, List.set_cons_succ]
      refine wpAnyH_only (i := 4) rfl (by kernel_rfl) (fun K hK => ?_)
      go_simp
      refine (dul_hbytes (unhide HB10)).mono ?_
      rintro e w11 ⟨a11, n11, c11, rfl, hn11, hc11, hb11, hk11⟩
      rw [List.append_nil] at hb11 hn11
      have hcv11 := str_of hb11 n11 c11 hn11 w11 (Kp.refl _ _)
      have hcx11 := str_of ((unhide HY10).1.kp0 hk11) n10 c10 (unhide HY10).2 w11 (Kp.refl _ _)
      rw [unhide HSV] at hcv11 hcx11
      have HY11 := hide (And.intro hb11 hn11)
      have HZ11 := hide ((unhide HY10).1.kp0 hk11)
      have HB11 := hide ((unhide HB10).kp0 hk11)
      clear hn11 hc11 hb11 hk11 hcv10
      go_wp2_with fail
      refine hK.out _ _ (hcx11) (fun hHeld2 => ?_)
      clear hK K hHeld
      have hHeld := hHeld2
      clear hHeld2
      try simp only [Act.put, List.setIfInBounds_toArray, List.set_cons_zero, List.set_cons_succ]
      refine wpAnyH_switch (S' := fun w' => (convert 23 9 (.slice a11 n11 c11)).run Try.prog w' = .ok (.string sv) w' ∧ (convert 23 9 (.slice a10 n10 c10)).run Try.prog w' = .ok (.string sv) w') (fun _ h => h.2) ?_
      clear hHeld
      have hHeld := And.intro hcv11 hcx11
      refine wpAnyH_tk (i := 5) (v := ?_) rfl (by kernel_rfl) (by kernel_rfl) (by kernel_rfl) (fun _ _ _ h => h) (Or.inl ⟨by rfl, ?_⟩) hHeld ?_
      rotate_left
      · intro w hSw
        try dsimp only at hSw
        go_simp
        try with_reducible rfl
      try simp only [Act.put, List.setIfInBounds_toArray, List.set_cons_zero, List.set_cons_succ]
      refine wpAnyH_tk (i := 6) (v := ?_) rfl (by kernel_rfl) (by kernel_rfl) (by kernel_rfl) (fun _ _ _ h => h) (Or.inl ⟨by rfl, ?_⟩) hHeld ?_
      rotate_left
      · intro w hSw
        try dsimp only at hSw
        go_simp
        try with_reducible rfl
      try simp only [Act.put, List.setIfInBounds_toArray, List.set_cons_zero, List.set_cons_succ]
      refine wpAnyH_tk (i := 7) (v := ?_) rfl (by kernel_rfl) (by kernel_rfl) (by kernel_rfl) (fun _ _ _ h => h) (Or.inl ⟨by rfl, ?_⟩) hHeld ?_
      rotate_left
      · intro w hSw
        try dsimp only at hSw
        go_simp
        try with_reducible rfl
      try simp only [Act.put, List.setIfInBounds_toArray, List.set_cons_zero, List.set_cons_succ]
      refine wpAnyH_tk (i := 8) (v := ?_) rfl (by kernel_rfl) (by kernel_rfl) (by kernel_rfl) (fun _ _ _ h => h) (Or.inl ⟨by rfl, ?_⟩) hHeld ?_
      rotate_left
      · intro w hSw
        try dsimp only at hSw
        go_simp
        try with_reducible rfl
      try simp only [Act.put, List.setIfInBounds_toArray, List.set_cons_zero, List.set_cons_succ]
      refine wpAnyH_tk (i := 9) (v := ?_) rfl (by kernel_rfl) (by kernel_rfl) (by kernel_rfl) (fun _ _ _ h => h) (Or.inl ⟨by rfl, ?_⟩) hHeld ?_
      rotate_left
      · intro w hSw
        try dsimp only at hSw
        go_simp
        try with_reducible rfl
      try simp only [Act.put, List.setIfInBounds_toArray, List.set_cons_zero, List.set_cons_succ]
      refine wpAnyH_tk (i := 12) (v := ?_) rfl (by kernel_rfl) (by kernel_rfl) (by kernel_rfl) (fun _ _ _ h => h) (Or.inl ⟨by rfl, ?_⟩) hHeld ?_
      rotate_left
      · intro w hSw
        try dsimp only at hSw
        go_simp
        try with_reducible rfl
      try simp only [Act.put, List.setIfInBounds_toArray, List.set_cons_zero, List.set_cons_succ]
      refine wpAnyH_tk (i := 13) (v := ?_) rfl (by kernel_rfl) (by kernel_rfl) (by kernel_rfl) (fun _ _ _ h => h) (Or.inl ⟨by rfl, ?_⟩) hHeld ?_
      rotate_left
      · intro w hSw
        try dsimp only at hSw
        go_simp
        try with_reducible rfl
      try simp only [Act.put, List.setIfInBounds_toArray, List.set_cons_zero, List.set_cons_succ]
      refine wpAnyH_only (i := 10) rfl (by kernel_rfl) (fun K hK => ?_)
      go_simp
      refine (dul_hbytes (unhide HB11)).mono ?_
      rintro e w12 ⟨a12, n12, c12, rfl, hn12, hc12, hb12, hk12⟩
      rw [List.append_nil] at hb12 hn12
      have hcv12 := str_of ((unhide HY11).1.kp0 hk12) n11 c11 (unhide HY11).2 w12 (Kp.refl _ _)
      have hcx12 := str_of ((unhide HZ11).kp0 hk12) n10 c10 (unhide HY10).2 w12 (Kp.refl _ _)
      rw [unhide HSV] at hcv12 hcx12
      have hn12' : n12 = (lb cs).length + (enc ps).length := by rw [hn12, lb_snoc, List.length_append]
      have hge : (n12 : Int) - (sw.size : Int) ≤ keep := by omega
      have hwr : IntKind.i64.wrap ((n12 : Int) - (sw.size : Int)) = (n12 : Int) - (sw.size : Int) := wrap_i64_id _ (by omega) (by omega)
      have hge2 : (n12 : Int) - ((lb cs).length : Int) ≤ keep := by omega
      have hwr2 : IntKind.i64.wrap ((n12 : Int) - ((lb cs).length : Int)) = (n12 : Int) - ((lb cs).length : Int) := wrap_i64_id _ (by omega) (by omega)
      have HB12 := hide ((unhide HB11).kp0 hk12)
      clear hn12 hn12' hc12 hb12 hk12
      go_wp2_with fail
      refine hK.out _ _ (And.intro hcv12 hcx12) (fun hHeld2 => ?_)
      clear hK K hHeld
      have hHeld := hHeld2
      clear hHeld2
      try simp only [Act.put, List.setIfInBounds_toArray, List.set_cons_zero, List.set_cons_succ]
      refine wpAnyH_tk (i := 11) (v := ?_) rfl (by kernel_rfl) (by kernel_rfl) (by kernel_rfl) (fun _ _ _ h => h) (Or.inl ⟨by rfl, ?_⟩) hHeld ?_
      rotate_left
      · intro w hSw
        try dsimp only at hSw
        go_simp
        try with_reducible rfl
      try simp only [Act.put, List.setIfInBounds_toArray, List.set_cons_zero, List.set_cons_succ]
      refine wpAnyH_tk (i := 14) (v := ?_) rfl (by kernel_rfl) (by kernel_rfl) (by kernel_rfl) (fun _ _ _ h => h) (Or.inl ⟨by rfl, ?_⟩) hHeld ?_
      rotate_left
      · intro w hSw
        try dsimp only at hSw
        go_simp
        try with_reducible rfl
      try simp only [Act.put, List.setIfInBounds_toArray, List.set_cons_zero, List.set_cons_succ]
      refine wpAnyH_tk (i := 15) (v := ?_) rfl (by kernel_rfl) (by kernel_rfl) (by kernel_rfl) (fun _ _ _ h => h) (Or.inl ⟨by rfl, ?_⟩) hHeld ?_
      rotate_left
      · intro w hSw
        try dsimp only at hSw
        go_simp
        try with_reducible rfl
      try simp only [Act.put, List.setIfInBounds_toArray, List.set_cons_zero, List.set_cons_succ]
      refine wpAnyH_tk (i := 16) (v := ?_) rfl (by kernel_rfl) (by kernel_rfl) (by kernel_rfl) (fun _ _ _ h => h) (Or.inl ⟨by rfl, ?_⟩) hHeld ?_
      rotate_left
      · intro w hSw
        try dsimp only at hSw
        go_simp
        try with_reducible rfl
      try simp only [Act.put, List.setIfInBounds_toArray, List.set_cons_zero, List.set_cons_succ]
      refine wpAnyH_tk (i := 17) (v := ?_) rfl (by kernel_rfl) (by kernel_rfl) (by kernel_rfl) (fun _ _ _ h => h) (Or.inl ⟨by rfl, ?_⟩) hHeld ?_
      rotate_left
      · intro w hSw
        try dsimp only at hSw
        go_simp
        try with_reducible rfl
      try simp only [Act.put, List.setIfInBounds_toArray, List.set_cons_zero, List.set_cons_succ]
      refine wpAnyH_done (by kernel_rfl) ?_ _
      go_wp2_with fail
      go_ret
      exact ⟨rfl, ((unhide HK1).trans0 (unhide HB12).kp).below (Nat.le_refl _) (by simp)⟩
    · rw [(ltear_cut hz hk).1] at htear
      have HT := hide htear
      have HU := hide hput
      clear htear hput hz
      go_wp2_with fail
      refine (unhide HT).mono ?_
      rintro e w6 ⟨rfl, HB6⟩
      go_wp2_with fail
      refine (unhide HU _ _ _ (unhide HB6)).mono ?_
      rintro e w7 ⟨rfl, HB7⟩
      clear HT HU HB6
      go_wp2_with fail
      refine (dul_mend (unhide HB7)).mono ?_
      rintro e w8 ⟨rfl, HB8⟩
      clear HB7
      go_wp2_with fail
      refine (dul_mend (unhide HB8)).mono ?_
      rintro e w9 ⟨rfl, HB9⟩
      clear HB8
      go_wp2_with fail
      refine (dul_glen (unhide HB9)).mono ?_
      rintro e w' ⟨rfl, hw'⟩
      subst w'
      go_wp2_with fail
      refine (dul_glen (unhide HB9)).mono ?_
      rintro e w' ⟨rfl, hw'⟩
      subst w'
      go_wp2_with fail
      refine (dul_gbytes (unhide HB9)).mono ?_
      rintro e w10 ⟨a10, n10, c10, rfl, hn10, hc10, hb10, hk10⟩
      rw [List.append_nil] at hn10 hb10
      have hcv := str_of hb10 n10 c10 hn10 w10 (Kp.refl _ _)
      rw [unhide HSW] at hcv
      have HB10 := hide ((unhide HB9).kp0 hk10)
      clear hn10 hc10 hb10 hk10 HB9
      go_wp2_with fail
      refine (dul_hbytes (unhide HB10)).mono ?_
      rintro e w11 ⟨a11, n11, c11, rfl, hn11, hc11, hb11, hk11⟩
      rw [List.append_nil, lb_snoc, List.length_append] at hn11
      have hlt : keep < (n11 : Int) - (sw.size : Int) := by omega
      have hlt2 : keep < (n11 : Int) - ((lb cs).length : Int) := by omega
      have hn11' : n11 ≤ 3000 := by omega
      have HB11 := hide ((unhide HB10).kp0 hk11)
      clear hn11 hc11 hb11 hk11 HB10
      go_wp2_with fail
      go_ret
      exact ⟨rfl, ((unhide HK1).trans0 (unhide HB11).kp).below (Nat.le_refl _) (by simp)⟩
  · have hz' : lcode cs ps ≠ 0 := by rw [hz]; exact h0
    rw [(ltear_code keep hz').1, (ltear_code keep hz').2] at htear
    rw [lput_bad hz'] at hput
    have HT := hide htear
    have HU := hide hput
    clear htear hput hz hz'
    go_wp2_with fail
    refine (unhide HT).mono ?_
    rintro e w6 ⟨rfl, HB6⟩
    go_wp2_with fail
    refine (unhide HU _ _ _ (unhide HB6)).mono ?_
    rintro e w7 ⟨rfl, HB7⟩
    clear HT HU HB6
    go_wp2_with fail
    refine (dul_mend (unhide HB7)).mono ?_
    rintro e w8 ⟨rfl, HB8⟩
    clear HB7
    go_wp2_with fail
    refine (dul_mend (unhide HB8)).mono ?_
    rintro e w9 ⟨rfl, HB9⟩
    clear HB8
    go_wp2_with fail
    refine (dul_glen (unhide HB9)).mono ?_
    rintro e w' ⟨rfl, hw'⟩
    subst w'
    go_wp2_with fail
    refine (dul_gbytes (unhide HB9)).mono ?_
    rintro e w10 ⟨a10, n10, c10, rfl, hn10, hc10, hb10, hk10⟩
    rw [List.append_nil] at hn10 hb10
    have hcv := str_of hb10 n10 c10 hn10 w10 (Kp.refl _ _)
    rw [unhide HSW] at hcv
    have HB10 := hide ((unhide HB9).kp0 hk10)
    clear hn10 hc10 hb10 hk10 HB9
    go_wp2_with fail
    go_ret
    exact ⟨rfl, ((unhide HK1).trans0 (unhide HB10).kp).below (Nat.le_refl _) (by simp)⟩
end Go.Proofs.Ytfcfoabdangfhab
