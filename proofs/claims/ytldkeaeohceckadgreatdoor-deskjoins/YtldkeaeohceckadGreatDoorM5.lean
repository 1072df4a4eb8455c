/- Bound together for a claim. -/
import Derived.Test.YtldkeaeohceckadGreatDoorM4
import Derived.Deep.RegionHeld3
namespace Go.Proofs.YtldkeaeohceckadGreatDoor
set_option maxRecDepth 20000
set_option maxHeartbeats 64000000
/- The desk's doLine: what a line leaves and tells, by its contract. -/
section
open Go.RowKit
attribute [local go_sem ↓] Go.wp_at_zero Go.wp_at_succ

theorem put1_sz {x y : HStep} {c : UInt8} {v : List UInt8} (h : put1 x c v = some y) (hx : x.b.size ≤ 10000) (hv : v.length ≤ 10000) : y.b.size ≤ 10000 := by
  unfold put1 at h
  have hm : ∀ (g : Int → HStep) (o : Option Int), o.map g = some y → (∀ z, (g z).b = x.b) → y.b.size ≤ 10000 := by
    intro g o ho hg
    cases o with
    | none => cases ho
    | some z => cases ho; rw [hg z]; exact hx
  by_cases h1 : c = 83
  · rw [if_pos h1] at h; exact hm _ _ h (fun _ => rfl)
  rw [if_neg h1] at h
  by_cases h2 : c = 65
  · rw [if_pos h2] at h; exact hm _ _ h (fun _ => rfl)
  rw [if_neg h2] at h
  by_cases h3 : c = 75
  · rw [if_pos h3] at h; exact hm _ _ h (fun _ => rfl)
  rw [if_neg h3] at h
  by_cases h4 : c = 84
  · rw [if_pos h4] at h; exact hm _ _ h (fun _ => rfl)
  rw [if_neg h4] at h
  by_cases h5 : c = 78
  · rw [if_pos h5] at h; exact hm _ _ h (fun _ => rfl)
  rw [if_neg h5] at h
  by_cases h6 : c = 66
  · rw [if_pos h6] at h
    cases hb : bts v with
    | none => rw [hb] at h; cases h
    | some b =>
      rw [hb] at h
      cases h
      show (ByteArray.mk b.toArray).size ≤ 10000
      rw [size8]
      cases v with
      | nil => cases hb
      | cons c0 r =>
        unfold bts at hb
        dsimp only at hb
        by_cases hc : c0 = 61
        · rw [if_pos hc] at hb
          have := mn_len hb
          simp at hv
          omega
        · rw [if_neg hc] at hb; cases hb
  · rw [if_neg h6] at h; cases h
theorem fgo_sz : ∀ (ls : List UInt8) (ws : List (List UInt8)) (x y : HStep), fgo x ls ws = some y → x.b.size ≤ 10000 → (∀ v ∈ ws, v.length ≤ 10000) → y.b.size ≤ 10000
  | [], ws, x, y, h, hx, _ => by rw [fgo_nil] at h; cases h; exact hx
  | _ :: _, [], x, y, h, hx, _ => by
    unfold fgo at h
    cases h; exact hx
  | c :: cs, v :: ws, x, y, h, hx, hw => by
    unfold fgo at h
    cases hp : put1 x c v with
    | none => rw [hp] at h; cases h
    | some z =>
      rw [hp] at h
      exact fgo_sz cs ws z y h (put1_sz hp hx (hw v (by simp))) (fun v hv => hw v (by simp [hv]))
theorem rdg_sz : ∀ (os : List Od) (nm : List UInt8) (ws : List (List UInt8)) (y : HStep), rdg nm ws os = some y → (∀ v ∈ ws, v.length ≤ 10000) → y.b.size ≤ 10000
  | [], _, _, _, h, _ => by cases h
  | o :: r, nm, ws, y, h, hw => by
    unfold rdg at h
    split at h
    · exact fgo_sz _ _ _ _ h (Nat.zero_le _) hw
    · exact rdg_sz r nm ws y h hw
theorem rdl_sz {nm : List UInt8} {ws : List (List UInt8)} {y : HStep} (h : rdl nm ws = some y) (hw : ∀ v ∈ ws, v.length ≤ 10000) : y.b.size ≤ 10000 := rdg_sz ods nm ws y h hw
theorem wgo_len : ∀ (l cur : List UInt8) (v : List UInt8), v ∈ wgo cur l → v.length ≤ cur.length + l.length
  | [], cur, v, h => by
    unfold wgo at h
    split at h
    · cases h
    · rw [List.mem_singleton.1 h]; omega
  | c :: r, cur, v, h => by
    unfold wgo at h
    split at h
    · split at h
      · have := wgo_len r [] v h; simp at *; omega
      · rcases List.mem_cons.1 h with e | e
        · rw [e]; omega
        · have := wgo_len r [] v e; simp at *; omega
    · have := wgo_len r (cur ++ [c]) v h; simp at *; omega
theorem wrd_tail {w : World} {g o cap : Nat} {nm : List UInt8} {rt : List (List UInt8)} (hc : ∀ k l, (nm :: rt)[k]? = some l → w.cell? ⟨g, o + k, none⟩ = some (.string ⟨l.toArray⟩)) (hcap : rt.length + 1 ≤ cap) : Wrd w (if cap = 1 then some ⟨g, o, none⟩ else some ⟨g, o + 1, none⟩) rt := fun hp => by
  rw [if_neg (by omega)]
  refine ⟨g, o + 1, rfl, fun k l hl => ?_⟩
  have := hc (k + 1) l (by simpa using hl)
  rwa [show o + 1 + k = o + (k + 1) by omega]
theorem zoo_p4 {w0 w : World} {q p H D : Thing} {r : List Thing} (h : Zoo w0 w (q :: p :: H :: D :: r)) : Zoo w0 w (H :: q :: D :: p :: r) :=
  (h.perm (List.perm_middle (l₁ := [q, p]) (a := H) (l₂ := D :: r))).perm (((List.Perm.swap D p r).cons q).cons H)
theorem wds_len {l v : List UInt8} (h : v ∈ wds l) : v.length ≤ l.length := by have := wgo_len l [] v h; simpa using this
section
variable {w0 w : World} {r : List Thing} {d hb : Nat} {bs : List UInt8} {h : HSt}
set_option maxHeartbeats 16000000 in
theorem doline (l : List UInt8) (hl : l.length ≤ 10000) (hg : Gnd w0) (hz : Zoo w0 w (HalT hb h :: DskT d hb bs :: r)) (hlen : bs.length + (dln h l).2.length ≤ 100000) :
    Calls Tryz.prog 15 #[.pointer (some ⟨d, 0, none⟩), .string ⟨l.toArray⟩] w fun e w' => e = .returned (.tuple #[]) ∧ Hid (Zoo w0 w' (HalT hb (dln h l).1 :: DskT d hb (bs ++ (dln h l).2) :: r)) := by
  have HC := hide (dcut l w (gnd_kp hg hz.kp) hl)
  have HZ := hide hz
  have HG := hide hg
  have hwl : ∀ v ∈ wds l, v.length ≤ 10000 := fun v hv => Nat.le_trans (wds_len hv) hl
  obtain ⟨h2, t2, hd2⟩ : ∃ h2 t2, dln h l = (h2, t2) := ⟨_, _, rfl⟩
  rw [hd2] at hlen ⊢
  dsimp only at hlen ⊢
  clear hz hg hl
  cases hws : wds l with
  | nil =>
    have hdl : dln h l = (h, []) := by unfold dln; rw [hws]
    rw [hd2] at hdl
    cases hdl
    go_enter Tryz.func15, Tryz.ntmps15
    go_wp2_with (go_at_call 23; refine (unhide HC).mono ?_; rintro e w1 ⟨ws, a, cap, hw1, rfl, hr1, hk1⟩; rw [hws] at hw1; subst hw1; have HZ1 := hide ((unhide HZ).kp0 hk1); clear hr1 hk1)
    refine bodyPost_ret (v := .tuple #[]) (results_none Tryz.results15 _ _ _) rfl ?_
    exact ⟨rfl, by rw [List.append_nil]; exact HZ1⟩
  | cons nm rs =>
    by_cases hlast : nm = [108, 97, 115, 116] ∧ rs = []
    · obtain ⟨rfl, rfl⟩ := hlast
      have hdl : dln h l = (h, say [[108, 97, 115, 116], Lib.itoa h.n, Lib.itoa (fmx h.f 8), Lib.itoa (least h.n h.seat 5)]) := by unfold dln; rw [hws]; rfl
      rw [hd2] at hdl
      cases hdl
      obtain ⟨b1, b2, b3, b4, b5⟩ := hal_nums (hal_hinv (unhide HZ))
      have hnn : (0 : Int) ≤ (h.n : Int) := by omega
      obtain ⟨zn, hzn⟩ : ∃ z, (h.n : Int) = z := ⟨_, rfl⟩
      obtain ⟨zf, hzf⟩ : ∃ z, fmx h.f 8 = z := ⟨_, rfl⟩
      obtain ⟨zl, hzl⟩ : ∃ z, least h.n h.seat 5 = z := ⟨_, rfl⟩
      rw [hzn, hzf, hzl] at hlen ⊢
      rw [hzn] at b1 hnn
      rw [hzf] at b2 b3
      rw [hzl] at b4 b5
      have HZN := hide hzn
      have HZF := hide hzf
      have HZL := hide hzl
      clear hzn hzf hzl
      go_enter Tryz.func15, Tryz.ntmps15
      go_wp2_with (go_at_call 23; refine (unhide HC).mono ?_; rintro e w1 ⟨ws, a, cap, hw1, rfl, hr1, hk1⟩; rw [hws] at hw1; subst hw1; obtain ⟨g, o, rfl, hc1⟩ := krow_wrd hr1 (by simp); have c1 : w1.cell? ⟨g, o, none⟩ = some (.string ⟨#[108, 97, 115, 116]⟩) := hc1 0 _ rfl; have HZ1 := hide ((unhide HZ).kp0 hk1); obtain ⟨vb, tb, gb, st, hst, hi, hl⟩ := hal_open (unhide HZ1); have d1 := hl.c0; have d2 := hl.v0; have L1 := hide (fun W hk => h_last (hl.kp0 (w' := W) hk)); have L2 := hide (fun W hk => h_first (hl.kp0 (w' := W) hk)); have L3 := hide (fun W hk => h_least hst (hl.kp0 (w' := W) hk)); rw [unhide HZN] at L1; rw [unhide HZF] at L2; rw [unhide HZL] at L3; have HL := hide hl; have HST := hide hst; have HI := hide hi; have d0 := dsk_cell (l1 := [_]) (unhide HZ1); clear hr1 hk1 hc1 hl hst hi)
      clear c1 hws
      refine wp_region_held_drew (S := fun w' => w'.cell? ⟨d, 2, none⟩ = some (.pointer (some ⟨hb, 0, none⟩)) ∧ w'.cell? ⟨hb, 0, none⟩ = some (.pointer (some ⟨vb, 0, none⟩)) ∧ w'.cell? ⟨vb, 0, none⟩ = some (.pointer (some ⟨tb, 0, none⟩))) (by kernel_rfl) (And.intro (((Kp.refl [] w1).drew).cell (by simp) d0) (And.intro (((Kp.refl [] w1).drew).cell (by simp) d1) (((Kp.refl [] w1).drew).cell (by simp) d2))) (fun hHeld => ?_)
      have HK0 := hide ((Kp.refl [] w1).drew)
      generalize World.drew _ = WD at HK0 hHeld ⊢
      refine wpAnyH_tk (i := 0) (v := ?_) rfl (by kernel_rfl) (by kernel_rfl) (by kernel_rfl) (fun _ _ _ h => h) (Or.inl ⟨by rfl, ?_⟩) hHeld ?_
      rotate_left
      · intro w hSw
        try dsimp only at hSw
        go_simp
        try with_reducible rfl
      try simp only [Act.put, List.setIfInBounds_toArray, List.set_cons_zero, List.set_cons_succ]
      refine wpAnyH_tk (i := 1) (v := ?_) rfl (by kernel_rfl) (by kernel_rfl) (by kernel_rfl) (fun _ _ _ h => h) (Or.inl ⟨by rfl, ?_⟩) hHeld ?_
      rotate_left
      · intro w hSw
        try dsimp only at hSw
        go_simp
        try with_reducible rfl
      try simp only [Act.put, List.setIfInBounds_toArray, List.set_cons_zero, List.set_cons_succ]
      refine wpAnyH_tk (i := 2) (v := ?_) rfl (by kernel_rfl) (by kernel_rfl) (by kernel_rfl) (fun _ _ _ h => h) (Or.inl ⟨by rfl, ?_⟩) hHeld ?_
      rotate_left
      · intro w hSw
        try dsimp only at hSw
        go_simp
        try with_reducible rfl
      try simp only [Act.put, List.setIfInBounds_toArray, List.set_cons_zero, List.set_cons_succ]
      refine wpAnyH_tk (i := 3) (v := ?_) rfl (by kernel_rfl) (by kernel_rfl) (by kernel_rfl) (fun _ _ _ h => h) (Or.inl ⟨by rfl, ?_⟩) hHeld ?_
      rotate_left
      · intro w hSw
        try dsimp only at hSw
        go_simp
        try with_reducible rfl
      try simp only [Act.put, List.setIfInBounds_toArray, List.set_cons_zero, List.set_cons_succ]
      refine wpAnyH_tk (i := 4) (v := ?_) rfl (by kernel_rfl) (by kernel_rfl) (by kernel_rfl) (fun _ _ _ h => h) (Or.inl ⟨by rfl, ?_⟩) hHeld ?_
      rotate_left
      · intro w hSw
        try dsimp only at hSw
        go_simp
        try with_reducible rfl
      try simp only [Act.put, List.setIfInBounds_toArray, List.set_cons_zero, List.set_cons_succ]
      refine wpAnyH_tk (i := 5) (v := ?_) rfl (by kernel_rfl) (by kernel_rfl) (by kernel_rfl) (fun _ _ _ h => h) (Or.inl ⟨by rfl, ?_⟩) hHeld ?_
      rotate_left
      · intro w hSw
        try dsimp only at hSw
        go_simp
        try with_reducible rfl
      try simp only [Act.put, List.setIfInBounds_toArray, List.set_cons_zero, List.set_cons_succ]
      refine wpAnyH_tk (i := 6) (v := ?_) rfl (by kernel_rfl) (by kernel_rfl) (by kernel_rfl) (fun _ _ _ h => h) (Or.inl ⟨by rfl, ?_⟩) hHeld ?_
      rotate_left
      · intro w hSw
        try dsimp only at hSw
        go_simp
        try with_reducible rfl
      try simp only [Act.put, List.setIfInBounds_toArray, List.set_cons_zero, List.set_cons_succ]
      refine wpAnyH_tk (i := 7) (v := ?_) rfl (by kernel_rfl) (by kernel_rfl) (by kernel_rfl) (fun _ _ _ h => h) (Or.inl ⟨by rfl, ?_⟩) hHeld ?_
      rotate_left
      · intro w hSw
        try dsimp only at hSw
        go_simp
        try with_reducible rfl
      try simp only [Act.put, List.setIfInBounds_toArray, List.set_cons_zero, List.set_cons_succ]
      refine wpAnyH_tk (i := 8) (v := ?_) rfl (by kernel_rfl) (by kernel_rfl) (by kernel_rfl) (fun _ _ _ h => h) (Or.inl ⟨by rfl, ?_⟩) hHeld ?_
      rotate_left
      · intro w hSw
        try dsimp only at hSw
        go_simp
        try with_reducible rfl
      try simp only [Act.put, List.setIfInBounds_toArray, List.set_cons_zero, List.set_cons_succ]
      refine wpAnyH_tk (i := 9) (v := ?_) rfl (by kernel_rfl) (by kernel_rfl) (by kernel_rfl) (fun _ _ _ h => h) (Or.inl ⟨by rfl, ?_⟩) hHeld ?_
      rotate_left
      · intro w hSw
        try dsimp only at hSw
        go_simp
        try with_reducible rfl
      try simp only [Act.put, List.setIfInBounds_toArray, List.set_cons_zero, List.set_cons_succ]
      refine wpAnyH_tk (i := 10) (v := ?_) rfl (by kernel_rfl) (by kernel_rfl) (by kernel_rfl) (fun _ _ _ h => h) (Or.inl ⟨by rfl, ?_⟩) hHeld ?_
      rotate_left
      · intro w hSw
        try dsimp only at hSw
        go_simp
        try with_reducible rfl
      try simp only [Act.put, List.setIfInBounds_toArray, List.set_cons_zero, List.set_cons_succ]
      refine wpAnyH_tk (i := 13) (v := ?_) rfl (by kernel_rfl) (by kernel_rfl) (by kernel_rfl) (fun _ _ _ h => h) (Or.inl ⟨by rfl, ?_⟩) hHeld ?_
      rotate_left
      · intro w hSw
        try dsimp only at hSw
        go_simp
        try with_reducible rfl
      try simp only [Act.put, List.setIfInBounds_toArray, List.set_cons_zero, List.set_cons_succ]
      refine wpAnyH_tk (i := 14) (v := ?_) rfl (by kernel_rfl) (by kernel_rfl) (by kernel_rfl) (fun _ _ _ h => h) (Or.inl ⟨by rfl, ?_⟩) hHeld ?_
      rotate_left
      · intro w hSw
        try dsimp only at hSw
        go_simp
        try with_reducible rfl
      try simp only [Act.put, List.setIfInBounds_toArray, List.set_cons_zero, List.set_cons_succ]
      refine wpAnyH_tk (i := 15) (v := ?_) rfl (by kernel_rfl) (by kernel_rfl) (by kernel_rfl) (fun _ _ _ h => h) (Or.inl ⟨by rfl, ?_⟩) hHeld ?_
      rotate_left
      · intro w hSw
        try dsimp only at hSw
        go_simp
        try with_reducible rfl
      try simp only [Act.put, List.setIfInBounds_toArray, List.set_cons_zero, List.set_cons_succ]
      refine wpAnyH_tk (i := 16) (v := ?_) rfl (by kernel_rfl) (by kernel_rfl) (by kernel_rfl) (fun _ _ _ h => h) (Or.inl ⟨by rfl, ?_⟩) hHeld ?_
      rotate_left
      · intro w hSw
        try dsimp only at hSw
        go_simp
        try with_reducible rfl
      try simp only [Act.put, List.setIfInBounds_toArray, List.set_cons_zero, List.set_cons_succ]
      refine wpAnyH_tk (i := 17) (v := ?_) rfl (by kernel_rfl) (by kernel_rfl) (by kernel_rfl) (fun _ _ _ h => h) (Or.inl ⟨by rfl, ?_⟩) hHeld ?_
      rotate_left
      · intro w hSw
        try dsimp only at hSw
        go_simp
        try with_reducible rfl
      try simp only [Act.put, List.setIfInBounds_toArray, List.set_cons_zero, List.set_cons_succ]
      refine wpAnyH_tk (i := 18) (v := ?_) rfl (by kernel_rfl) (by kernel_rfl) (by kernel_rfl) (fun _ _ _ h => h) (Or.inl ⟨by rfl, ?_⟩) hHeld ?_
      rotate_left
      · intro w hSw
        try dsimp only at hSw
        go_simp
        try with_reducible rfl
      try simp only [Act.put, List.setIfInBounds_toArray, List.set_cons_zero, List.set_cons_succ]
      refine wpAnyH_tk (i := 19) (v := ?_) rfl (by kernel_rfl) (by kernel_rfl) (by kernel_rfl) (fun _ _ _ h => h) (Or.inl ⟨by rfl, ?_⟩) hHeld ?_
      rotate_left
      · intro w hSw
        try dsimp only at hSw
        go_simp
        try with_reducible rfl
      try simp only [Act.put, List.setIfInBounds_toArray, List.set_cons_zero, List.set_cons_succ]
      refine wpAnyH_tk (i := 20) (v := ?_) rfl (by kernel_rfl) (by kernel_rfl) (by kernel_rfl) (fun _ _ _ h => h) (Or.inl ⟨by rfl, ?_⟩) hHeld ?_
      rotate_left
      · intro w hSw
        try dsimp only at hSw
        go_simp
        try with_reducible rfl
      try simp only [Act.put, List.setIfInBounds_toArray, List.set_cons_zero, List.set_cons_succ]
      refine wpAnyH_tk (i := 21) (v := ?_) rfl (by kernel_rfl) (by kernel_rfl) (by kernel_rfl) (fun _ _ _ h => h) (Or.inl ⟨by rfl, ?_⟩) hHeld ?_
      rotate_left
      · intro w hSw
        try dsimp only at hSw
        go_simp
        try with_reducible rfl
      try simp only [Act.put, List.setIfInBounds_toArray, List.set_cons_zero, List.set_cons_succ]
      refine wpAnyH_tk (i := 22) (v := ?_) rfl (by kernel_rfl) (by kernel_rfl) (by kernel_rfl) (fun _ _ _ h => h) (Or.inl ⟨by rfl, ?_⟩) hHeld ?_
      rotate_left
      · intro w hSw
        try dsimp only at hSw
        go_simp
        try with_reducible rfl
      try simp only [Act.put, List.setIfInBounds_toArray, List.set_cons_zero, List.set_cons_succ]
      refine wpAnyH_tk (i := 25) (v := ?_) rfl (by kernel_rfl) (by kernel_rfl) (by kernel_rfl) (fun _ _ _ h => h) (Or.inl ⟨by rfl, ?_⟩) hHeld ?_
      rotate_left
      · intro w hSw
        try dsimp only at hSw
        go_simp
        try with_reducible rfl
      try simp only [Act.put, List.setIfInBounds_toArray, List.set_cons_zero, List.set_cons_succ]
      refine wpAnyH_tk (i := 26) (v := ?_) rfl (by kernel_rfl) (by kernel_rfl) (by kernel_rfl) (fun _ _ _ h => h) (Or.inl ⟨by rfl, ?_⟩) hHeld ?_
      rotate_left
      · intro w hSw
        try dsimp only at hSw
        go_simp
        try with_reducible rfl
      try simp only [Act.put, List.setIfInBounds_toArray, List.set_cons_zero, List.set_cons_succ]
      refine wpAnyH_tk (i := 27) (v := ?_) rfl (by kernel_rfl) (by kernel_rfl) (by kernel_rfl) (fun _ _ _ h => h) (Or.inl ⟨by rfl, ?_⟩) hHeld ?_
      rotate_left
      · intro w hSw
        try dsimp only at hSw
        go_simp
        try with_reducible rfl
      try simp only [Act.put, List.setIfInBounds_toArray, List.set_cons_zero, List.set_cons_succ]
      refine wpAnyH_tk (i := 28) (v := ?_) rfl (by kernel_rfl) (by kernel_rfl) (by kernel_rfl) (fun _ _ _ h => h) (Or.inl ⟨by rfl, ?_⟩) hHeld ?_
      rotate_left
      · intro w hSw
        try dsimp only at hSw
        go_simp
        try with_reducible rfl
      try simp only [Act.put, List.setIfInBounds_toArray, List.set_cons_zero, List.set_cons_succ]
      refine wpAnyH_only (i := 11) rfl (by kernel_rfl) (fun K hK => ?_)
      go_simp
      refine (unhide L1 _ (unhide HK0)).mono ?_
      rintro e wx ⟨rfl, hwx⟩
      subst hwx
      go_wp2_with fail
      refine hK.out _ _ ((And.intro ((unhide HK0).cell (by simp) d0) (And.intro ((unhide HK0).cell (by simp) d1) ((unhide HK0).cell (by simp) d2)))) (fun hHeld2 => ?_)
      clear hK K hHeld
      have hHeld := hHeld2
      clear hHeld2
      try simp only [Act.put, List.setIfInBounds_toArray, List.set_cons_zero, List.set_cons_succ]
      refine wpAnyH_only (i := 12) rfl (by kernel_rfl) (fun K hK => ?_)
      go_simp
      refine (sitoa zn _ (gnd_kp (unhide HG) ((unhide HZ1).kp.trans0 (unhide HK0))) (by omega) (by omega)).mono ?_
      rintro e wHK1 ⟨rfl, hkx⟩
      have HK1 := hide ((unhide HK0).trans0 hkx)
      clear hkx
      go_wp2_with fail
      refine hK.out _ _ ((And.intro ((unhide HK1).cell (by simp) d0) (And.intro ((unhide HK1).cell (by simp) d1) ((unhide HK1).cell (by simp) d2)))) (fun hHeld2 => ?_)
      clear hK K hHeld
      have hHeld := hHeld2
      clear hHeld2
      try simp only [Act.put, List.setIfInBounds_toArray, List.set_cons_zero, List.set_cons_succ]
      refine wpAnyH_only (i := 23) rfl (by kernel_rfl) (fun K hK => ?_)
      go_simp
      refine (unhide L2 _ (unhide HK1)).mono ?_
      rintro e wx ⟨rfl, hwx⟩
      subst hwx
      go_wp2_with fail
      refine hK.out _ _ ((And.intro ((unhide HK1).cell (by simp) d0) (And.intro ((unhide HK1).cell (by simp) d1) ((unhide HK1).cell (by simp) d2)))) (fun hHeld2 => ?_)
      clear hK K hHeld
      have hHeld := hHeld2
      clear hHeld2
      try simp only [Act.put, List.setIfInBounds_toArray, List.set_cons_zero, List.set_cons_succ]
      refine wpAnyH_only (i := 24) rfl (by kernel_rfl) (fun K hK => ?_)
      go_simp
      refine (sitoa zf _ (gnd_kp (unhide HG) ((unhide HZ1).kp.trans0 (unhide HK1))) (by omega) (by omega)).mono ?_
      rintro e wHK2 ⟨rfl, hkx⟩
      have HK2 := hide ((unhide HK1).trans0 hkx)
      clear hkx
      go_wp2_with fail
      refine hK.out _ _ ((And.intro ((unhide HK2).cell (by simp) d0) (And.intro ((unhide HK2).cell (by simp) d1) ((unhide HK2).cell (by simp) d2)))) (fun hHeld2 => ?_)
      clear hK K hHeld
      have hHeld := hHeld2
      clear hHeld2
      try simp only [Act.put, List.setIfInBounds_toArray, List.set_cons_zero, List.set_cons_succ]
      refine wpAnyH_only (i := 29) rfl (by kernel_rfl) (fun K hK => ?_)
      go_simp
      refine (unhide L3 _ (unhide HK2)).mono ?_
      rintro e wx ⟨rfl, hwx⟩
      subst hwx
      go_wp2_with fail
      refine hK.out _ _ ((And.intro ((unhide HK2).cell (by simp) d0) (And.intro ((unhide HK2).cell (by simp) d1) ((unhide HK2).cell (by simp) d2)))) (fun hHeld2 => ?_)
      clear hK K hHeld
      have hHeld := hHeld2
      clear hHeld2
      try simp only [Act.put, List.setIfInBounds_toArray, List.set_cons_zero, List.set_cons_succ]
      refine wpAnyH_only (i := 30) rfl (by kernel_rfl) (fun K hK => ?_)
      go_simp
      refine (sitoa zl _ (gnd_kp (unhide HG) ((unhide HZ1).kp.trans0 (unhide HK2))) (by omega) (by omega)).mono ?_
      rintro e wHK3 ⟨rfl, hkx⟩
      have HK3 := hide ((unhide HK2).trans0 hkx)
      clear hkx
      go_wp2_with fail
      refine hK.out _ _ ((And.intro ((unhide HK3).cell (by simp) d0) (And.intro ((unhide HK3).cell (by simp) d1) ((unhide HK3).cell (by simp) d2)))) (fun hHeld2 => ?_)
      clear hK K hHeld
      have hHeld := hHeld2
      clear hHeld2
      try simp only [Act.put, List.setIfInBounds_toArray, List.set_cons_zero, List.set_cons_succ]
      refine wpAnyH_only (i := 31) rfl (by kernel_rfl) (fun K hK => ?_)
      go_simp
      have HA4 := hide (Zoo.box (show Zoo w0 wHK3 (BoxT hb (hcells vb st) 59 :: VltT vb tb gb h.f h.n h.cs [] :: (seats st ++ (DskT d hb bs :: r))) from (unhide HL).kp0 (unhide HK3)) #[.string ⟨#[108, 97, 115, 116]⟩, .string ⟨(Lib.itoa zn).toArray⟩, .string ⟨(Lib.itoa zf).toArray⟩, .string ⟨(Lib.itoa zl).toArray⟩] 9)
      have HK4 := hide ((unhide HK3).alloc (.cells #[.string ⟨#[108, 97, 115, 116]⟩, .string ⟨(Lib.itoa zn).toArray⟩, .string ⟨(Lib.itoa zf).toArray⟩, .string ⟨(Lib.itoa zl).toArray⟩] 9))
      refine hK.out _ _ ((And.intro ((unhide HK4).cell (by simp) d0) (And.intro ((unhide HK4).cell (by simp) d1) ((unhide HK4).cell (by simp) d2)))) (fun hHeld2 => ?_)
      clear hK K hHeld
      have hHeld := hHeld2
      clear hHeld2
      try simp only [Act.put, List.setIfInBounds_toArray, List.set_cons_zero, List.set_cons_succ]
      generalize wHK3.alloc (.cells #[.string ⟨#[108, 97, 115, 116]⟩, .string ⟨(Lib.itoa zn).toArray⟩, .string ⟨(Lib.itoa zf).toArray⟩, .string ⟨(Lib.itoa zl).toArray⟩] 9) = W6 at *
      generalize wHK3.heap.size = p6 at *
      refine wpAnyH_only (i := 32) rfl (by kernel_rfl) (fun K hK => ?_)
      go_simp
      refine (dsay (l1 := BoxT p6 #[.string ⟨#[108, 97, 115, 116]⟩, .string ⟨(Lib.itoa zn).toArray⟩, .string ⟨(Lib.itoa zf).toArray⟩, .string ⟨(Lib.itoa zl).toArray⟩] 9 :: BoxT hb (hcells vb st) 59 :: VltT vb tb gb h.f h.n h.cs [] :: seats st) (r := r) [[108, 97, 115, 116], Lib.itoa zn, Lib.itoa zf, Lib.itoa zl] 4 rfl _ 0 4 (unhide HA4) (cells_strs [[108, 97, 115, 116], Lib.itoa zn, Lib.itoa zf, Lib.itoa zl] (zoo_varm (unhide HA4) (List.Mem.head _)) rfl) (join_pos (by simp)) (by simp) (by simp) hlen).mono ?_
      rintro e w7 ⟨rfl, HZ7⟩
      have HH : Hall w0 w7 hb vb tb gb h st (DskT d hb (bs ++ say [[108, 97, 115, 116], Lib.itoa zn, Lib.itoa zf, Lib.itoa zl]) :: r) := Zoo.tail (unhide HZ7)
      go_wp2_with fail
      refine hK.out _ _ (And.intro (dsk_cell (unhide HZ7)) (And.intro HH.c0 HH.v0)) (fun hHeld2 => ?_)
      clear hK K hHeld
      have hHeld := hHeld2
      clear hHeld2
      try simp only [Act.put, List.setIfInBounds_toArray, List.set_cons_zero, List.set_cons_succ]
      refine wpAnyH_done (by kernel_rfl) ?_ _
      clear hHeld
      have HE := hide (hal_close (unhide HST) (unhide HI) HH)
      clear HH
      go_wp2_with fail
      refine bodyPost_ret (v := .tuple #[]) (results_none Tryz.results15 _ _ _) rfl ?_
      exact ⟨rfl, HE⟩
    · have hdl : dln h l = (match rdl nm rs with | none => (h, say [[119, 104, 97, 116]]) | some x => (hdo h x, say (tell x.d (hev h x)))) := by unfold dln; rw [hws]; dsimp only; rw [if_neg hlast]; rfl
      obtain ⟨rt, hrt⟩ : ∃ rt, rs.take 4 = rt := ⟨_, rfl⟩
      have hrd : rdl nm rt = rdl nm rs := by rw [← hrt]; exact rdl_take nm rs
      have hm4 : rt.length ≤ 4 := by rw [← hrt]; simp; omega
      have hrl : ∀ v ∈ rt, v.length ≤ 10000 := fun v hv => hwl v (by rw [hws]; rw [← hrt] at hv; simp [List.mem_of_mem_take hv])
      have hnl : nm.length ≤ 10000 := hwl nm (by rw [hws]; simp)
      have hrs : rs = [] → rt = [] := fun e => by rw [← hrt, e]; rfl
      have hrs2 : rt = [] → rs = [] := fun e => by
        cases rs with
        | nil => rfl
        | cons x y => rw [← hrt] at e; simp at e
      have htk : (wds l).take 5 = nm :: rt := by rw [hws, ← hrt]; rfl
      have HRD := hide hrd
      have HRL := hide hrl
      have HDL := hide hdl
      have HTK := hide htk
      have HLA := hide hlast
      have HR2 := hide hrs2
      have HD2 := hide hd2
      obtain ⟨m, hm⟩ : ∃ m, m = rt.length := ⟨_, rfl⟩
      have HM := hide hm
      rw [← hm] at hm4
      clear hrt hrd hrl hdl hrs htk hwl hlast hws hrs2 hd2 hm
      go_enter Tryz.func15, Tryz.ntmps15
      by_cases hm0 : m = 0
      · have hne : ¬ nm = [108, 97, 115, 116] := fun e => unhide HLA ⟨e, unhide HR2 (List.eq_nil_of_length_eq_zero (by rw [← unhide HM]; exact hm0))⟩
        have hneb : (nm == [108, 97, 115, 116]) = false := by simpa using hne
        clear hne
        subst hm0
        go_wp2_with (go_at_call 23; refine (unhide HC).mono ?_; rintro e w1 ⟨ws, a, cap, hw1, rfl, hr1, hk1⟩; rw [unhide HTK] at hw1; subst hw1; obtain ⟨g, o, rfl, hc1⟩ := krow_wrd hr1 (by simp); have c1 : w1.cell? ⟨g, o, none⟩ = some (.string ⟨nm.toArray⟩) := hc1 0 _ rfl; have hcap := hr1.le; have HZ1 := hide ((unhide HZ).kp0 hk1); have HC1 := hide hc1; rw [List.length_cons, ← unhide HM] at hcap ⊢; clear hr1 hk1 hc1)
        refine wp_region_held_drew (S := fun w' => w'.cell? ⟨g, o, none⟩ = some (.string ⟨nm.toArray⟩)) (by kernel_rfl) ((Kp.refl [] w1).drew.cell (by simp) c1) (fun hHeld => ?_)
        have HK0 := hide ((Kp.refl [] w1).drew)
        generalize World.drew _ = WD at HK0 hHeld ⊢
        refine wpAnyH_tk (i := 0) (v := ?_) rfl (by kernel_rfl) (by kernel_rfl) (by kernel_rfl) (fun _ _ _ h => h) (Or.inl ⟨by rfl, ?_⟩) hHeld ?_
        rotate_left
        · intro w hSw
          try dsimp only at hSw
          go_simp
          try with_reducible rfl
        try simp only [Act.put, List.setIfInBounds_toArray, List.set_cons_zero, List.set_cons_succ]
        refine wpAnyH_tk (i := 1) (v := ?_) rfl (by kernel_rfl) (by kernel_rfl) (by kernel_rfl) (fun _ _ _ h => h) (Or.inl ⟨by rfl, ?_⟩) hHeld ?_
        rotate_left
        · intro w hSw
          try dsimp only at hSw
          go_simp
          try with_reducible rfl
        try simp only [Act.put, List.setIfInBounds_toArray, List.set_cons_zero, List.set_cons_succ]
        refine wpAnyH_tk (i := 2) (v := ?_) rfl (by kernel_rfl) (by kernel_rfl) (by kernel_rfl) (fun _ _ _ h => h) (Or.inl ⟨by rfl, ?_⟩) hHeld ?_
        rotate_left
        · intro w hSw
          try dsimp only at hSw
          go_simp
          try with_reducible rfl
        try simp only [Act.put, List.setIfInBounds_toArray, List.set_cons_zero, List.set_cons_succ]
        refine wpAnyH_tk (i := 3) (v := ?_) rfl (by kernel_rfl) (by kernel_rfl) (by kernel_rfl) (fun _ _ _ h => h) (Or.inl ⟨by rfl, ?_⟩) hHeld ?_
        rotate_left
        · intro w hSw
          try dsimp only at hSw
          go_simp
          try with_reducible rfl
        try simp only [Act.put, List.setIfInBounds_toArray, List.set_cons_zero, List.set_cons_succ]
        refine wpAnyH_tk (i := 4) (v := ?_) rfl (by kernel_rfl) (by kernel_rfl) (by kernel_rfl) (fun _ _ _ h => h) (Or.inl ⟨by rfl, ?_⟩) hHeld ?_
        rotate_left
        · intro w hSw
          try dsimp only at hSw
          go_simp
          try with_reducible rfl
        try simp only [Act.put, List.setIfInBounds_toArray, List.set_cons_zero, List.set_cons_succ]
        have HWT := hide (wrd_tail (w := w1) (unhide HC1) (by rw [← unhide HM]; exact hcap))
        generalize (if cap = 1 then some (⟨g, o, none⟩ : Addr) else some ⟨g, o + 1, none⟩) = ar at *
        refine wpAnyH_two (i := 5) (j := 9) rfl rfl (by kernel_rfl) (fun K hK => ?_) (fun K hK => ?_)
        · go_simp
          refine (dread nm rt 0 (unhide HM) (by omega) _ _ _ (gnd_kp (unhide HG) ((unhide HZ1).kp.trans0 (unhide HK0))) ((unhide HWT).kp0 (unhide HK0)) (unhide HRL)).mono ?_
          rintro e w3 ⟨x, b, rfl, hx, hk3⟩
          have HX := hide hx
          have HK3 := hide ((unhide HK0).trans0 hk3)
          clear hx
          have HZ3 := hide ((unhide HZ1).kp0 (unhide HK3))
          clear hk3
          go_wp2_with fail
          refine hK.out _ _ ((unhide HK3).cell (by simp) c1) (fun hHeld2 => ?_)
          clear hK K hHeld
          have hHeld := hHeld2
          clear hHeld2
          try simp only [Act.put, List.setIfInBounds_toArray, List.set_cons_zero, List.set_cons_succ]
          refine wpAnyH_tk (i := 6) (v := ?_) rfl (by kernel_rfl) (by kernel_rfl) (by kernel_rfl) (fun _ _ _ h => h) (Or.inl ⟨by rfl, ?_⟩) hHeld ?_
          rotate_left
          · intro w hSw
            try dsimp only at hSw
            go_simp
            try with_reducible rfl
          try simp only [Act.put, List.setIfInBounds_toArray, List.set_cons_zero, List.set_cons_succ]
          refine wpAnyH_tk (i := 7) (v := ?_) rfl (by kernel_rfl) (by kernel_rfl) (by kernel_rfl) (fun _ _ _ h => h) (Or.inl ⟨by rfl, ?_⟩) hHeld ?_
          rotate_left
          · intro w hSw
            try dsimp only at hSw
            go_simp
            try with_reducible rfl
          try simp only [Act.put, List.setIfInBounds_toArray, List.set_cons_zero, List.set_cons_succ]
          refine wpAnyH_tk (i := 8) (v := ?_) rfl (by kernel_rfl) (by kernel_rfl) (by kernel_rfl) (fun _ _ _ h => h) (Or.inl ⟨by rfl, ?_⟩) hHeld ?_
          rotate_left
          · intro w hSw
            try dsimp only at hSw
            go_simp
            try with_reducible rfl
          try simp only [Act.put, List.setIfInBounds_toArray, List.set_cons_zero, List.set_cons_succ]
          refine wpAnyH_only (i := 9) rfl (by kernel_rfl) (fun K hK => ?_)
          go_simp
          have HA := hide (((unhide HZ3)).box #[.int .i64 0, .int .i64 0, .int .i64 0, .int .i64 0, .int .i64 0, .int .i64 0, .int .i64 0, .string ⟨#[]⟩] 79)
          have HKA := hide ((unhide HK3).alloc (.cells #[.int .i64 0, .int .i64 0, .int .i64 0, .int .i64 0, .int .i64 0, .int .i64 0, .int .i64 0, .string ⟨#[]⟩] 79))
          refine hK.out _ _ ((unhide HKA).cell (by simp) c1) (fun hHeld2 => ?_)
          clear hK K hHeld
          have hHeld := hHeld2
          clear hHeld2
          try simp only [Act.put, List.setIfInBounds_toArray, List.set_cons_zero, List.set_cons_succ]
          have hp6 := (unhide HK3).size
          generalize w3.alloc (.cells #[.int .i64 0, .int .i64 0, .int .i64 0, .int .i64 0, .int .i64 0, .int .i64 0, .int .i64 0, .string ⟨#[]⟩] 79) = W6 at *
          generalize w3.heap.size = p6 at *
          refine wpAnyH_only (i := 10) rfl (by kernel_rfl) (fun K hK => ?_)
          rw [if_pos (by rfl)]
          refine wp_store_row 79 _ _ rfl p6 (xcs x) rfl rfl 79 _ (zoo_varm (unhide HA) (List.Mem.head _)) Tryz.sizeSt rfl (xcs_one _) ?_
          have HB := hide (zoo_setrow (c' := xcs x) (l1 := []) (unhide HA))
          have HKB := hide ((unhide HKA).trans (setRow_kp (cs := xcs x) (zoo_varm (unhide HA) (List.Mem.head _))).2 (fun y hy => .inr (by rw [List.mem_singleton.1 hy]; exact hp6)))
          refine hK.out _ _ ((unhide HKB).cell (by simp) c1) (fun hHeld2 => ?_)
          clear hK K hHeld
          have hHeld := hHeld2
          clear hHeld2
          try simp only [Act.put]
          refine wpAnyH_tk (i := 11) (v := ?_) rfl (by kernel_rfl) (by kernel_rfl) (by kernel_rfl) (fun _ _ _ h => h) (Or.inl ⟨by rfl, ?_⟩) hHeld ?_
          rotate_left
          · intro w hSw
            try dsimp only at hSw
            go_simp
            try with_reducible rfl
          try simp only [Act.put, List.setIfInBounds_toArray, List.set_cons_zero, List.set_cons_succ]
          refine wpAnyH_done (by kernel_rfl) ?_ _
          clear hHeld HKB
          generalize World.setRow _ _ _ = W9 at HB ⊢
          have HB2 : Hid (Zoo w0 W9 (BoxT p6 (xcs x) 79 :: HalT hb h :: DskT d hb bs :: r)) := HB
          clear HB
          cases b with
          | false =>
            have hnone : rdl nm rs = none := (unhide HRD).symm.trans (by simpa using unhide HX)
            have hdl := unhide HDL
            rw [hnone, unhide HD2] at hdl
            cases hdl
            have HZ8 := hide ((unhide HB2).box #[.string ⟨#[119, 104, 97, 116]⟩] 9)
            clear hnone
            go_wp2_with (go_at_call 24; refine (dsay (l1 := [_, _, _]) [[119, 104, 97, 116]] 1 rfl _ 0 1 (unhide HZ8) (cells_strs [[119, 104, 97, 116]] (zoo_varm (unhide HZ8) (List.Mem.head _)) rfl) (join_pos (by simp)) (by simp) (by simp) hlen).mono ?_; rintro e w7 ⟨rfl, HZ7⟩)
            refine bodyPost_ret (v := .tuple #[]) (results_none Tryz.results15 _ _ _) rfl ?_
            exact ⟨rfl, Zoo.tail (Zoo.tail (unhide HZ7))⟩
          | true =>
            have hsome : rdl nm rs = some x := (unhide HRD).symm.trans (by simpa using unhide HX)
            have hxb : x.b.size ≤ maxLen := by
              have := rdl_sz ((unhide HRD).trans hsome) (unhide HRL)
              unfold maxLen; omega
            have hdl := unhide HDL
            rw [hsome, unhide HD2] at hdl
            cases hdl
            have x0 := (x8_of (zoo_varm (unhide HB2) (List.Mem.head _))).1
            clear hsome
            obtain ⟨xd, xs, xm, xa, xk, xt, xp, xb⟩ := x
            dsimp only at hlen hxb x0 HX ⊢
            go_wp2_with fail
            refine wp_region_held_drew (S := fun w' => w'.cell? ⟨p6, 0, none⟩ = some (.int .i64 xd) ∧ w'.cell? ⟨p6, 1, none⟩ = some (.int .i64 xs) ∧ w'.cell? ⟨p6, 1 + 1, none⟩ = some (.int .i64 xm) ∧ w'.cell? ⟨p6, 1 + 1 + 1, none⟩ = some (.int .i64 xa) ∧ w'.cell? ⟨p6, 1 + 1 + 1 + 1, none⟩ = some (.int .i64 xk) ∧ w'.cell? ⟨p6, 1 + 1 + 1 + 1 + 1, none⟩ = some (.int .i64 xt) ∧ w'.cell? ⟨p6, 1 + 1 + 1 + 1 + 1 + 1, none⟩ = some (.int .i64 xp) ∧ w'.cell? ⟨p6, 1 + 1 + 1 + 1 + 1 + 1 + 1, none⟩ = some (.string xb)) (by kernel_rfl) (x8_of (zoo_varm ((unhide HB2).kp0 (Kp.refl [] W9).drew) (List.Mem.head _))) (fun hHeld => ?_)
            have HE0 := hide ((unhide HB2).kp0 (Kp.refl [] W9).drew)
            generalize World.drew _ = WE at HE0 hHeld ⊢
            refine wpAnyH_tk (i := 0) (v := ?_) rfl (by kernel_rfl) (by kernel_rfl) (by kernel_rfl) (fun _ _ _ h => h) (Or.inl ⟨by rfl, ?_⟩) hHeld ?_
            rotate_left
            · intro w hSw
              try dsimp only at hSw
              go_simp
              try with_reducible rfl
            try simp only [Act.put, List.setIfInBounds_toArray, List.set_cons_zero, List.set_cons_succ]
            refine wpAnyH_tk (i := 1) (v := ?_) rfl (by kernel_rfl) (by kernel_rfl) (by kernel_rfl) (fun _ _ _ h => h) (Or.inl ⟨by rfl, ?_⟩) hHeld ?_
            rotate_left
            · intro w hSw
              try dsimp only at hSw
              go_simp
              try with_reducible rfl
            try simp only [Act.put, List.setIfInBounds_toArray, List.set_cons_zero, List.set_cons_succ]
            refine wpAnyH_tk (i := 2) (v := ?_) rfl (by kernel_rfl) (by kernel_rfl) (by kernel_rfl) (fun _ _ _ h => h) (Or.inl ⟨by rfl, ?_⟩) hHeld ?_
            rotate_left
            · intro w hSw
              try dsimp only at hSw
              go_simp
              try with_reducible rfl
            try simp only [Act.put, List.setIfInBounds_toArray, List.set_cons_zero, List.set_cons_succ]
            refine wpAnyH_tk (i := 3) (v := ?_) rfl (by kernel_rfl) (by kernel_rfl) (by kernel_rfl) (fun _ _ _ h => h) (Or.inl ⟨by rfl, ?_⟩) hHeld ?_
            rotate_left
            · intro w hSw
              try dsimp only at hSw
              go_simp
              try with_reducible rfl
            try simp only [Act.put, List.setIfInBounds_toArray, List.set_cons_zero, List.set_cons_succ]
            refine wpAnyH_tk (i := 4) (v := ?_) rfl (by kernel_rfl) (by kernel_rfl) (by kernel_rfl) (fun _ _ _ h => h) (Or.inl ⟨by rfl, ?_⟩) hHeld ?_
            rotate_left
            · intro w hSw
              try dsimp only at hSw
              go_simp
              try with_reducible rfl
            try simp only [Act.put, List.setIfInBounds_toArray, List.set_cons_zero, List.set_cons_succ]
            refine wpAnyH_only (i := 5) rfl (by kernel_rfl) (fun K hK => ?_)
            go_simp
            refine (dteller d xd WE).mono ?_
            rintro e w5 ⟨rfl, hw5⟩
            have HE1 := hide (zoo_p4 ((unhide HE0).box #[.pointer (some ⟨d, 0, none⟩)] 25))
            rw [← hw5] at HE1
            clear hw5
            go_wp2_with fail
            refine hK.out _ _ (x8_of (zoo_varm (unhide HE1) (List.Mem.tail _ (List.Mem.tail _ (List.Mem.tail _ (List.Mem.head _)))))) (fun hHeld2 => ?_)
            clear hK K hHeld
            have hHeld := hHeld2
            clear hHeld2
            try simp only [Act.put, List.setIfInBounds_toArray, List.set_cons_zero, List.set_cons_succ]
            generalize WE.heap.size = q at *
            refine wpAnyH_only (i := 6) rfl (by kernel_rfl) (fun K hK => ?_)
            go_simp
            refine (dstep ⟨xd, xs, xm, xa, xk, xt, xp, xb⟩ hxb (unhide HG) (unhide HE1) hlen).mono ?_
            rintro e w7 ⟨rfl, HZ7⟩
            go_wp2_with fail
            refine hK.out _ _ (x8_of (zoo_varm (unhide HZ7) (List.Mem.tail _ (List.Mem.tail _ (List.Mem.head _))))) (fun hHeld2 => ?_)
            clear hK K hHeld
            have hHeld := hHeld2
            clear hHeld2
            try simp only [Act.put, List.setIfInBounds_toArray, List.set_cons_zero, List.set_cons_succ]
            refine wpAnyH_done (by kernel_rfl) ?_ _
            clear hHeld
            go_wp2_with fail
            go_end0
            exact ⟨rfl, Zoo.drop_ (l1 := [_, _]) (unhide HZ7)⟩
        · go_simp
          have HA := hide ((((unhide HZ1).kp0 (unhide HK0))).box #[.int .i64 0, .int .i64 0, .int .i64 0, .int .i64 0, .int .i64 0, .int .i64 0, .int .i64 0, .string ⟨#[]⟩] 79)
          have HKA := hide ((unhide HK0).alloc (.cells #[.int .i64 0, .int .i64 0, .int .i64 0, .int .i64 0, .int .i64 0, .int .i64 0, .int .i64 0, .string ⟨#[]⟩] 79))
          refine hK.out _ _ ((unhide HKA).cell (by simp) c1) (fun hHeld2 => ?_)
          clear hK K hHeld
          have hHeld := hHeld2
          clear hHeld2
          try simp only [Act.put, List.setIfInBounds_toArray, List.set_cons_zero, List.set_cons_succ]
          have hp6 := (unhide HK0).size
          generalize WD.alloc (.cells #[.int .i64 0, .int .i64 0, .int .i64 0, .int .i64 0, .int .i64 0, .int .i64 0, .int .i64 0, .string ⟨#[]⟩] 79) = W6 at *
          generalize WD.heap.size = p6 at *
          refine wpAnyH_only (i := 5) rfl (by kernel_rfl) (fun K hK => ?_)
          go_simp
          refine (dread nm rt 0 (unhide HM) (by omega) _ _ _ (gnd_kp (unhide HG) ((unhide HZ1).kp.trans0 (unhide HKA))) ((unhide HWT).kp0 (unhide HKA)) (unhide HRL)).mono ?_
          rintro e w3 ⟨x, b, rfl, hx, hk3⟩
          have HX := hide hx
          have HK3 := hide ((unhide HKA).trans0 hk3)
          clear hx
          have HA3 := hide ((unhide HA).kp0 hk3)
          clear hk3
          go_wp2_with fail
          refine hK.out _ _ ((unhide HK3).cell (by simp) c1) (fun hHeld2 => ?_)
          clear hK K hHeld
          have hHeld := hHeld2
          clear hHeld2
          try simp only [Act.put, List.setIfInBounds_toArray, List.set_cons_zero, List.set_cons_succ]
          refine wpAnyH_tk (i := 6) (v := ?_) rfl (by kernel_rfl) (by kernel_rfl) (by kernel_rfl) (fun _ _ _ h => h) (Or.inl ⟨by rfl, ?_⟩) hHeld ?_
          rotate_left
          · intro w hSw
            try dsimp only at hSw
            go_simp
            try with_reducible rfl
          try simp only [Act.put, List.setIfInBounds_toArray, List.set_cons_zero, List.set_cons_succ]
          refine wpAnyH_tk (i := 7) (v := ?_) rfl (by kernel_rfl) (by kernel_rfl) (by kernel_rfl) (fun _ _ _ h => h) (Or.inl ⟨by rfl, ?_⟩) hHeld ?_
          rotate_left
          · intro w hSw
            try dsimp only at hSw
            go_simp
            try with_reducible rfl
          try simp only [Act.put, List.setIfInBounds_toArray, List.set_cons_zero, List.set_cons_succ]
          refine wpAnyH_tk (i := 8) (v := ?_) rfl (by kernel_rfl) (by kernel_rfl) (by kernel_rfl) (fun _ _ _ h => h) (Or.inl ⟨by rfl, ?_⟩) hHeld ?_
          rotate_left
          · intro w hSw
            try dsimp only at hSw
            go_simp
            try with_reducible rfl
          try simp only [Act.put, List.setIfInBounds_toArray, List.set_cons_zero, List.set_cons_succ]
          refine wpAnyH_only (i := 10) rfl (by kernel_rfl) (fun K hK => ?_)
          rw [if_pos (by rfl)]
          refine wp_store_row 79 _ _ rfl p6 (xcs x) rfl rfl 79 _ (zoo_varm (unhide HA3) (List.Mem.head _)) Tryz.sizeSt rfl (xcs_one _) ?_
          have HB := hide (zoo_setrow (c' := xcs x) (l1 := []) (unhide HA3))
          have HKB := hide ((unhide HK3).trans (setRow_kp (cs := xcs x) (zoo_varm (unhide HA3) (List.Mem.head _))).2 (fun y hy => .inr (by rw [List.mem_singleton.1 hy]; exact hp6)))
          refine hK.out _ _ ((unhide HKB).cell (by simp) c1) (fun hHeld2 => ?_)
          clear hK K hHeld
          have hHeld := hHeld2
          clear hHeld2
          try simp only [Act.put]
          refine wpAnyH_tk (i := 11) (v := ?_) rfl (by kernel_rfl) (by kernel_rfl) (by kernel_rfl) (fun _ _ _ h => h) (Or.inl ⟨by rfl, ?_⟩) hHeld ?_
          rotate_left
          · intro w hSw
            try dsimp only at hSw
            go_simp
            try with_reducible rfl
          try simp only [Act.put, List.setIfInBounds_toArray, List.set_cons_zero, List.set_cons_succ]
          refine wpAnyH_done (by kernel_rfl) ?_ _
          clear hHeld HKB
          generalize World.setRow _ _ _ = W9 at HB ⊢
          have HB2 : Hid (Zoo w0 W9 (BoxT p6 (xcs x) 79 :: HalT hb h :: DskT d hb bs :: r)) := HB
          clear HB
          cases b with
          | false =>
            have hnone : rdl nm rs = none := (unhide HRD).symm.trans (by simpa using unhide HX)
            have hdl := unhide HDL
            rw [hnone, unhide HD2] at hdl
            cases hdl
            have HZ8 := hide ((unhide HB2).box #[.string ⟨#[119, 104, 97, 116]⟩] 9)
            clear hnone
            go_wp2_with (go_at_call 24; refine (dsay (l1 := [_, _, _]) [[119, 104, 97, 116]] 1 rfl _ 0 1 (unhide HZ8) (cells_strs [[119, 104, 97, 116]] (zoo_varm (unhide HZ8) (List.Mem.head _)) rfl) (join_pos (by simp)) (by simp) (by simp) hlen).mono ?_; rintro e w7 ⟨rfl, HZ7⟩)
            refine bodyPost_ret (v := .tuple #[]) (results_none Tryz.results15 _ _ _) rfl ?_
            exact ⟨rfl, Zoo.tail (Zoo.tail (unhide HZ7))⟩
          | true =>
            have hsome : rdl nm rs = some x := (unhide HRD).symm.trans (by simpa using unhide HX)
            have hxb : x.b.size ≤ maxLen := by
              have := rdl_sz ((unhide HRD).trans hsome) (unhide HRL)
              unfold maxLen; omega
            have hdl := unhide HDL
            rw [hsome, unhide HD2] at hdl
            cases hdl
            have x0 := (x8_of (zoo_varm (unhide HB2) (List.Mem.head _))).1
            clear hsome
            obtain ⟨xd, xs, xm, xa, xk, xt, xp, xb⟩ := x
            dsimp only at hlen hxb x0 HX ⊢
            go_wp2_with fail
            refine wp_region_held_drew (S := fun w' => w'.cell? ⟨p6, 0, none⟩ = some (.int .i64 xd) ∧ w'.cell? ⟨p6, 1, none⟩ = some (.int .i64 xs) ∧ w'.cell? ⟨p6, 1 + 1, none⟩ = some (.int .i64 xm) ∧ w'.cell? ⟨p6, 1 + 1 + 1, none⟩ = some (.int .i64 xa) ∧ w'.cell? ⟨p6, 1 + 1 + 1 + 1, none⟩ = some (.int .i64 xk) ∧ w'.cell? ⟨p6, 1 + 1 + 1 + 1 + 1, none⟩ = some (.int .i64 xt) ∧ w'.cell? ⟨p6, 1 + 1 + 1 + 1 + 1 + 1, none⟩ = some (.int .i64 xp) ∧ w'.cell? ⟨p6, 1 + 1 + 1 + 1 + 1 + 1 + 1, none⟩ = some (.string xb)) (by kernel_rfl) (x8_of (zoo_varm ((unhide HB2).kp0 (Kp.refl [] W9).drew) (List.Mem.head _))) (fun hHeld => ?_)
            have HE0 := hide ((unhide HB2).kp0 (Kp.refl [] W9).drew)
            generalize World.drew _ = WE at HE0 hHeld ⊢
            refine wpAnyH_tk (i := 0) (v := ?_) rfl (by kernel_rfl) (by kernel_rfl) (by kernel_rfl) (fun _ _ _ h => h) (Or.inl ⟨by rfl, ?_⟩) hHeld ?_
            rotate_left
            · intro w hSw
              try dsimp only at hSw
              go_simp
              try with_reducible rfl
            try simp only [Act.put, List.setIfInBounds_toArray, List.set_cons_zero, List.set_cons_succ]
            refine wpAnyH_tk (i := 1) (v := ?_) rfl (by kernel_rfl) (by kernel_rfl) (by kernel_rfl) (fun _ _ _ h => h) (Or.inl ⟨by rfl, ?_⟩) hHeld ?_
            rotate_left
            · intro w hSw
              try dsimp only at hSw
              go_simp
              try with_reducible rfl
            try simp only [Act.put, List.setIfInBounds_toArray, List.set_cons_zero, List.set_cons_succ]
            refine wpAnyH_tk (i := 2) (v := ?_) rfl (by kernel_rfl) (by kernel_rfl) (by kernel_rfl) (fun _ _ _ h => h) (Or.inl ⟨by rfl, ?_⟩) hHeld ?_
            rotate_left
            · intro w hSw
              try dsimp only at hSw
              go_simp
              try with_reducible rfl
            try simp only [Act.put, List.setIfInBounds_toArray, List.set_cons_zero, List.set_cons_succ]
            refine wpAnyH_tk (i := 3) (v := ?_) rfl (by kernel_rfl) (by kernel_rfl) (by kernel_rfl) (fun _ _ _ h => h) (Or.inl ⟨by rfl, ?_⟩) hHeld ?_
            rotate_left
            · intro w hSw
              try dsimp only at hSw
              go_simp
              try with_reducible rfl
            try simp only [Act.put, List.setIfInBounds_toArray, List.set_cons_zero, List.set_cons_succ]
            refine wpAnyH_tk (i := 4) (v := ?_) rfl (by kernel_rfl) (by kernel_rfl) (by kernel_rfl) (fun _ _ _ h => h) (Or.inl ⟨by rfl, ?_⟩) hHeld ?_
            rotate_left
            · intro w hSw
              try dsimp only at hSw
              go_simp
              try with_reducible rfl
            try simp only [Act.put, List.setIfInBounds_toArray, List.set_cons_zero, List.set_cons_succ]
            refine wpAnyH_only (i := 5) rfl (by kernel_rfl) (fun K hK => ?_)
            go_simp
            refine (dteller d xd WE).mono ?_
            rintro e w5 ⟨rfl, hw5⟩
            have HE1 := hide (zoo_p4 ((unhide HE0).box #[.pointer (some ⟨d, 0, none⟩)] 25))
            rw [← hw5] at HE1
            clear hw5
            go_wp2_with fail
            refine hK.out _ _ (x8_of (zoo_varm (unhide HE1) (List.Mem.tail _ (List.Mem.tail _ (List.Mem.tail _ (List.Mem.head _)))))) (fun hHeld2 => ?_)
            clear hK K hHeld
            have hHeld := hHeld2
            clear hHeld2
            try simp only [Act.put, List.setIfInBounds_toArray, List.set_cons_zero, List.set_cons_succ]
            generalize WE.heap.size = q at *
            refine wpAnyH_only (i := 6) rfl (by kernel_rfl) (fun K hK => ?_)
            go_simp
            refine (dstep ⟨xd, xs, xm, xa, xk, xt, xp, xb⟩ hxb (unhide HG) (unhide HE1) hlen).mono ?_
            rintro e w7 ⟨rfl, HZ7⟩
            go_wp2_with fail
            refine hK.out _ _ (x8_of (zoo_varm (unhide HZ7) (List.Mem.tail _ (List.Mem.tail _ (List.Mem.head _))))) (fun hHeld2 => ?_)
            clear hK K hHeld
            have hHeld := hHeld2
            clear hHeld2
            try simp only [Act.put, List.setIfInBounds_toArray, List.set_cons_zero, List.set_cons_succ]
            refine wpAnyH_done (by kernel_rfl) ?_ _
            clear hHeld
            go_wp2_with fail
            go_end0
            exact ⟨rfl, Zoo.drop_ (l1 := [_, _]) (unhide HZ7)⟩
      · have hmi : ¬ ((m : Int) + 1 = 1) := by omega
        have hmj : ¬ ((m : Int) + 1 = 0) := by omega
        have hmk : (0 : Int) < (m : Int) + 1 := by omega
        have hml : (1 : Int) ≤ (m : Int) + 1 := by omega
        go_wp2_with (go_at_call 23; refine (unhide HC).mono ?_; rintro e w1 ⟨ws, a, cap, hw1, rfl, hr1, hk1⟩; rw [unhide HTK] at hw1; subst hw1; obtain ⟨g, o, rfl, hc1⟩ := krow_wrd hr1 (by simp); have c1 : w1.cell? ⟨g, o, none⟩ = some (.string ⟨nm.toArray⟩) := hc1 0 _ rfl; have hcap := hr1.le; have HZ1 := hide ((unhide HZ).kp0 hk1); have HC1 := hide hc1; rw [List.length_cons, ← unhide HM] at hcap ⊢; clear hr1 hk1 hc1)
        refine wp_region_held_drew (S := fun w' => w'.cell? ⟨g, o, none⟩ = some (.string ⟨nm.toArray⟩)) (by kernel_rfl) ((Kp.refl [] w1).drew.cell (by simp) c1) (fun hHeld => ?_)
        have HK0 := hide ((Kp.refl [] w1).drew)
        generalize World.drew _ = WD at HK0 hHeld ⊢
        refine wpAnyH_tk (i := 0) (v := ?_) rfl (by kernel_rfl) (by kernel_rfl) (by kernel_rfl) (fun _ _ _ h => h) (Or.inl ⟨by rfl, ?_⟩) hHeld ?_
        rotate_left
        · intro w hSw
          try dsimp only at hSw
          go_simp
          try with_reducible rfl
        try simp only [Act.put, List.setIfInBounds_toArray, List.set_cons_zero, List.set_cons_succ]
        refine wpAnyH_tk (i := 1) (v := ?_) rfl (by kernel_rfl) (by kernel_rfl) (by kernel_rfl) (fun _ _ _ h => h) (Or.inl ⟨by rfl, ?_⟩) hHeld ?_
        rotate_left
        · intro w hSw
          try dsimp only at hSw
          go_simp
          try with_reducible rfl
        try simp only [Act.put, List.setIfInBounds_toArray, List.set_cons_zero, List.set_cons_succ]
        refine wpAnyH_tk (i := 2) (v := ?_) rfl (by kernel_rfl) (by kernel_rfl) (by kernel_rfl) (fun _ _ _ h => h) (Or.inl ⟨by rfl, ?_⟩) hHeld ?_
        rotate_left
        · intro w hSw
          try dsimp only at hSw
          go_simp
          try with_reducible rfl
        try simp only [Act.put, List.setIfInBounds_toArray, List.set_cons_zero, List.set_cons_succ]
        refine wpAnyH_tk (i := 3) (v := ?_) rfl (by kernel_rfl) (by kernel_rfl) (by kernel_rfl) (fun _ _ _ h => h) (Or.inl ⟨by rfl, ?_⟩) hHeld ?_
        rotate_left
        · intro w hSw
          try dsimp only at hSw
          go_simp
          try with_reducible rfl
        try simp only [Act.put, List.setIfInBounds_toArray, List.set_cons_zero, List.set_cons_succ]
        refine wpAnyH_tk (i := 4) (v := ?_) rfl (by kernel_rfl) (by kernel_rfl) (by kernel_rfl) (fun _ _ _ h => h) (Or.inl ⟨by rfl, ?_⟩) hHeld ?_
        rotate_left
        · intro w hSw
          try dsimp only at hSw
          go_simp
          try with_reducible rfl
        try simp only [Act.put, List.setIfInBounds_toArray, List.set_cons_zero, List.set_cons_succ]
        have HWT := hide (wrd_tail (w := w1) (unhide HC1) (by rw [← unhide HM]; exact hcap))
        generalize (if cap = 1 then some (⟨g, o, none⟩ : Addr) else some ⟨g, o + 1, none⟩) = ar at *
        refine wpAnyH_two (i := 5) (j := 9) rfl rfl (by kernel_rfl) (fun K hK => ?_) (fun K hK => ?_)
        · go_simp
          refine (dread nm rt m (unhide HM) (by omega) _ _ _ (gnd_kp (unhide HG) ((unhide HZ1).kp.trans0 (unhide HK0))) ((unhide HWT).kp0 (unhide HK0)) (unhide HRL)).mono ?_
          rintro e w3 ⟨x, b, rfl, hx, hk3⟩
          have HX := hide hx
          have HK3 := hide ((unhide HK0).trans0 hk3)
          clear hx
          have HZ3 := hide ((unhide HZ1).kp0 (unhide HK3))
          clear hk3
          go_wp2_with fail
          refine hK.out _ _ ((unhide HK3).cell (by simp) c1) (fun hHeld2 => ?_)
          clear hK K hHeld
          have hHeld := hHeld2
          clear hHeld2
          try simp only [Act.put, List.setIfInBounds_toArray, List.set_cons_zero, List.set_cons_succ]
          refine wpAnyH_tk (i := 6) (v := ?_) rfl (by kernel_rfl) (by kernel_rfl) (by kernel_rfl) (fun _ _ _ h => h) (Or.inl ⟨by rfl, ?_⟩) hHeld ?_
          rotate_left
          · intro w hSw
            try dsimp only at hSw
            go_simp
            try with_reducible rfl
          try simp only [Act.put, List.setIfInBounds_toArray, List.set_cons_zero, List.set_cons_succ]
          refine wpAnyH_tk (i := 7) (v := ?_) rfl (by kernel_rfl) (by kernel_rfl) (by kernel_rfl) (fun _ _ _ h => h) (Or.inl ⟨by rfl, ?_⟩) hHeld ?_
          rotate_left
          · intro w hSw
            try dsimp only at hSw
            go_simp
            try with_reducible rfl
          try simp only [Act.put, List.setIfInBounds_toArray, List.set_cons_zero, List.set_cons_succ]
          refine wpAnyH_tk (i := 8) (v := ?_) rfl (by kernel_rfl) (by kernel_rfl) (by kernel_rfl) (fun _ _ _ h => h) (Or.inl ⟨by rfl, ?_⟩) hHeld ?_
          rotate_left
          · intro w hSw
            try dsimp only at hSw
            go_simp
            try with_reducible rfl
          try simp only [Act.put, List.setIfInBounds_toArray, List.set_cons_zero, List.set_cons_succ]
          refine wpAnyH_only (i := 9) rfl (by kernel_rfl) (fun K hK => ?_)
          go_simp
          have HA := hide (((unhide HZ3)).box #[.int .i64 0, .int .i64 0, .int .i64 0, .int .i64 0, .int .i64 0, .int .i64 0, .int .i64 0, .string ⟨#[]⟩] 79)
          have HKA := hide ((unhide HK3).alloc (.cells #[.int .i64 0, .int .i64 0, .int .i64 0, .int .i64 0, .int .i64 0, .int .i64 0, .int .i64 0, .string ⟨#[]⟩] 79))
          refine hK.out _ _ ((unhide HKA).cell (by simp) c1) (fun hHeld2 => ?_)
          clear hK K hHeld
          have hHeld := hHeld2
          clear hHeld2
          try simp only [Act.put, List.setIfInBounds_toArray, List.set_cons_zero, List.set_cons_succ]
          have hp6 := (unhide HK3).size
          generalize w3.alloc (.cells #[.int .i64 0, .int .i64 0, .int .i64 0, .int .i64 0, .int .i64 0, .int .i64 0, .int .i64 0, .string ⟨#[]⟩] 79) = W6 at *
          generalize w3.heap.size = p6 at *
          refine wpAnyH_only (i := 10) rfl (by kernel_rfl) (fun K hK => ?_)
          rw [if_pos (by rfl)]
          refine wp_store_row 79 _ _ rfl p6 (xcs x) rfl rfl 79 _ (zoo_varm (unhide HA) (List.Mem.head _)) Tryz.sizeSt rfl (xcs_one _) ?_
          have HB := hide (zoo_setrow (c' := xcs x) (l1 := []) (unhide HA))
          have HKB := hide ((unhide HKA).trans (setRow_kp (cs := xcs x) (zoo_varm (unhide HA) (List.Mem.head _))).2 (fun y hy => .inr (by rw [List.mem_singleton.1 hy]; exact hp6)))
          refine hK.out _ _ ((unhide HKB).cell (by simp) c1) (fun hHeld2 => ?_)
          clear hK K hHeld
          have hHeld := hHeld2
          clear hHeld2
          try simp only [Act.put]
          refine wpAnyH_tk (i := 11) (v := ?_) rfl (by kernel_rfl) (by kernel_rfl) (by kernel_rfl) (fun _ _ _ h => h) (Or.inl ⟨by rfl, ?_⟩) hHeld ?_
          rotate_left
          · intro w hSw
            try dsimp only at hSw
            go_simp
            try with_reducible rfl
          try simp only [Act.put, List.setIfInBounds_toArray, List.set_cons_zero, List.set_cons_succ]
          refine wpAnyH_done (by kernel_rfl) ?_ _
          clear hHeld HKB
          generalize World.setRow _ _ _ = W9 at HB ⊢
          have HB2 : Hid (Zoo w0 W9 (BoxT p6 (xcs x) 79 :: HalT hb h :: DskT d hb bs :: r)) := HB
          clear HB
          cases b with
          | false =>
            have hnone : rdl nm rs = none := (unhide HRD).symm.trans (by simpa using unhide HX)
            have hdl := unhide HDL
            rw [hnone, unhide HD2] at hdl
            cases hdl
            have HZ8 := hide ((unhide HB2).box #[.string ⟨#[119, 104, 97, 116]⟩] 9)
            clear hnone
            go_wp2_with (go_at_call 24; refine (dsay (l1 := [_, _, _]) [[119, 104, 97, 116]] 1 rfl _ 0 1 (unhide HZ8) (cells_strs [[119, 104, 97, 116]] (zoo_varm (unhide HZ8) (List.Mem.head _)) rfl) (join_pos (by simp)) (by simp) (by simp) hlen).mono ?_; rintro e w7 ⟨rfl, HZ7⟩)
            refine bodyPost_ret (v := .tuple #[]) (results_none Tryz.results15 _ _ _) rfl ?_
            exact ⟨rfl, Zoo.tail (Zoo.tail (unhide HZ7))⟩
          | true =>
            have hsome : rdl nm rs = some x := (unhide HRD).symm.trans (by simpa using unhide HX)
            have hxb : x.b.size ≤ maxLen := by
              have := rdl_sz ((unhide HRD).trans hsome) (unhide HRL)
              unfold maxLen; omega
            have hdl := unhide HDL
            rw [hsome, unhide HD2] at hdl
            cases hdl
            have x0 := (x8_of (zoo_varm (unhide HB2) (List.Mem.head _))).1
            clear hsome
            obtain ⟨xd, xs, xm, xa, xk, xt, xp, xb⟩ := x
            dsimp only at hlen hxb x0 HX ⊢
            go_wp2_with fail
            refine wp_region_held_drew (S := fun w' => w'.cell? ⟨p6, 0, none⟩ = some (.int .i64 xd) ∧ w'.cell? ⟨p6, 1, none⟩ = some (.int .i64 xs) ∧ w'.cell? ⟨p6, 1 + 1, none⟩ = some (.int .i64 xm) ∧ w'.cell? ⟨p6, 1 + 1 + 1, none⟩ = some (.int .i64 xa) ∧ w'.cell? ⟨p6, 1 + 1 + 1 + 1, none⟩ = some (.int .i64 xk) ∧ w'.cell? ⟨p6, 1 + 1 + 1 + 1 + 1, none⟩ = some (.int .i64 xt) ∧ w'.cell? ⟨p6, 1 + 1 + 1 + 1 + 1 + 1, none⟩ = some (.int .i64 xp) ∧ w'.cell? ⟨p6, 1 + 1 + 1 + 1 + 1 + 1 + 1, none⟩ = some (.string xb)) (by kernel_rfl) (x8_of (zoo_varm ((unhide HB2).kp0 (Kp.refl [] W9).drew) (List.Mem.head _))) (fun hHeld => ?_)
            have HE0 := hide ((unhide HB2).kp0 (Kp.refl [] W9).drew)
            generalize World.drew _ = WE at HE0 hHeld ⊢
            refine wpAnyH_tk (i := 0) (v := ?_) rfl (by kernel_rfl) (by kernel_rfl) (by kernel_rfl) (fun _ _ _ h => h) (Or.inl ⟨by rfl, ?_⟩) hHeld ?_
            rotate_left
            · intro w hSw
              try dsimp only at hSw
              go_simp
              try with_reducible rfl
            try simp only [Act.put, List.setIfInBounds_toArray, List.set_cons_zero, List.set_cons_succ]
            refine wpAnyH_tk (i := 1) (v := ?_) rfl (by kernel_rfl) (by kernel_rfl) (by kernel_rfl) (fun _ _ _ h => h) (Or.inl ⟨by rfl, ?_⟩) hHeld ?_
            rotate_left
            · intro w hSw
              try dsimp only at hSw
              go_simp
              try with_reducible rfl
            try simp only [Act.put, List.setIfInBounds_toArray, List.set_cons_zero, List.set_cons_succ]
            refine wpAnyH_tk (i := 2) (v := ?_) rfl (by kernel_rfl) (by kernel_rfl) (by kernel_rfl) (fun _ _ _ h => h) (Or.inl ⟨by rfl, ?_⟩) hHeld ?_
            rotate_left
            · intro w hSw
              try dsimp only at hSw
              go_simp
              try with_reducible rfl
            try simp only [Act.put, List.setIfInBounds_toArray, List.set_cons_zero, List.set_cons_succ]
            refine wpAnyH_tk (i := 3) (v := ?_) rfl (by kernel_rfl) (by kernel_rfl) (by kernel_rfl) (fun _ _ _ h => h) (Or.inl ⟨by rfl, ?_⟩) hHeld ?_
            rotate_left
            · intro w hSw
              try dsimp only at hSw
              go_simp
              try with_reducible rfl
            try simp only [Act.put, List.setIfInBounds_toArray, List.set_cons_zero, List.set_cons_succ]
            refine wpAnyH_tk (i := 4) (v := ?_) rfl (by kernel_rfl) (by kernel_rfl) (by kernel_rfl) (fun _ _ _ h => h) (Or.inl ⟨by rfl, ?_⟩) hHeld ?_
            rotate_left
            · intro w hSw
              try dsimp only at hSw
              go_simp
              try with_reducible rfl
            try simp only [Act.put, List.setIfInBounds_toArray, List.set_cons_zero, List.set_cons_succ]
            refine wpAnyH_only (i := 5) rfl (by kernel_rfl) (fun K hK => ?_)
            go_simp
            refine (dteller d xd WE).mono ?_
            rintro e w5 ⟨rfl, hw5⟩
            have HE1 := hide (zoo_p4 ((unhide HE0).box #[.pointer (some ⟨d, 0, none⟩)] 25))
            rw [← hw5] at HE1
            clear hw5
            go_wp2_with fail
            refine hK.out _ _ (x8_of (zoo_varm (unhide HE1) (List.Mem.tail _ (List.Mem.tail _ (List.Mem.tail _ (List.Mem.head _)))))) (fun hHeld2 => ?_)
            clear hK K hHeld
            have hHeld := hHeld2
            clear hHeld2
            try simp only [Act.put, List.setIfInBounds_toArray, List.set_cons_zero, List.set_cons_succ]
            generalize WE.heap.size = q at *
            refine wpAnyH_only (i := 6) rfl (by kernel_rfl) (fun K hK => ?_)
            go_simp
            refine (dstep ⟨xd, xs, xm, xa, xk, xt, xp, xb⟩ hxb (unhide HG) (unhide HE1) hlen).mono ?_
            rintro e w7 ⟨rfl, HZ7⟩
            go_wp2_with fail
            refine hK.out _ _ (x8_of (zoo_varm (unhide HZ7) (List.Mem.tail _ (List.Mem.tail _ (List.Mem.head _))))) (fun hHeld2 => ?_)
            clear hK K hHeld
            have hHeld := hHeld2
            clear hHeld2
            try simp only [Act.put, List.setIfInBounds_toArray, List.set_cons_zero, List.set_cons_succ]
            refine wpAnyH_done (by kernel_rfl) ?_ _
            clear hHeld
            go_wp2_with fail
            go_end0
            exact ⟨rfl, Zoo.drop_ (l1 := [_, _]) (unhide HZ7)⟩
        · go_simp
          have HA := hide ((((unhide HZ1).kp0 (unhide HK0))).box #[.int .i64 0, .int .i64 0, .int .i64 0, .int .i64 0, .int .i64 0, .int .i64 0, .int .i64 0, .string ⟨#[]⟩] 79)
          have HKA := hide ((unhide HK0).alloc (.cells #[.int .i64 0, .int .i64 0, .int .i64 0, .int .i64 0, .int .i64 0, .int .i64 0, .int .i64 0, .string ⟨#[]⟩] 79))
          refine hK.out _ _ ((unhide HKA).cell (by simp) c1) (fun hHeld2 => ?_)
          clear hK K hHeld
          have hHeld := hHeld2
          clear hHeld2
          try simp only [Act.put, List.setIfInBounds_toArray, List.set_cons_zero, List.set_cons_succ]
          have hp6 := (unhide HK0).size
          generalize WD.alloc (.cells #[.int .i64 0, .int .i64 0, .int .i64 0, .int .i64 0, .int .i64 0, .int .i64 0, .int .i64 0, .string ⟨#[]⟩] 79) = W6 at *
          generalize WD.heap.size = p6 at *
          refine wpAnyH_only (i := 5) rfl (by kernel_rfl) (fun K hK => ?_)
          go_simp
          refine (dread nm rt m (unhide HM) (by omega) _ _ _ (gnd_kp (unhide HG) ((unhide HZ1).kp.trans0 (unhide HKA))) ((unhide HWT).kp0 (unhide HKA)) (unhide HRL)).mono ?_
          rintro e w3 ⟨x, b, rfl, hx, hk3⟩
          have HX := hide hx
          have HK3 := hide ((unhide HKA).trans0 hk3)
          clear hx
          have HA3 := hide ((unhide HA).kp0 hk3)
          clear hk3
          go_wp2_with fail
          refine hK.out _ _ ((unhide HK3).cell (by simp) c1) (fun hHeld2 => ?_)
          clear hK K hHeld
          have hHeld := hHeld2
          clear hHeld2
          try simp only [Act.put, List.setIfInBounds_toArray, List.set_cons_zero, List.set_cons_succ]
          refine wpAnyH_tk (i := 6) (v := ?_) rfl (by kernel_rfl) (by kernel_rfl) (by kernel_rfl) (fun _ _ _ h => h) (Or.inl ⟨by rfl, ?_⟩) hHeld ?_
          rotate_left
          · intro w hSw
            try dsimp only at hSw
            go_simp
            try with_reducible rfl
          try simp only [Act.put, List.setIfInBounds_toArray, List.set_cons_zero, List.set_cons_succ]
          refine wpAnyH_tk (i := 7) (v := ?_) rfl (by kernel_rfl) (by kernel_rfl) (by kernel_rfl) (fun _ _ _ h => h) (Or.inl ⟨by rfl, ?_⟩) hHeld ?_
          rotate_left
          · intro w hSw
            try dsimp only at hSw
            go_simp
            try with_reducible rfl
          try simp only [Act.put, List.setIfInBounds_toArray, List.set_cons_zero, List.set_cons_succ]
          refine wpAnyH_tk (i := 8) (v := ?_) rfl (by kernel_rfl) (by kernel_rfl) (by kernel_rfl) (fun _ _ _ h => h) (Or.inl ⟨by rfl, ?_⟩) hHeld ?_
          rotate_left
          · intro w hSw
            try dsimp only at hSw
            go_simp
            try with_reducible rfl
          try simp only [Act.put, List.setIfInBounds_toArray, List.set_cons_zero, List.set_cons_succ]
          refine wpAnyH_only (i := 10) rfl (by kernel_rfl) (fun K hK => ?_)
          rw [if_pos (by rfl)]
          refine wp_store_row 79 _ _ rfl p6 (xcs x) rfl rfl 79 _ (zoo_varm (unhide HA3) (List.Mem.head _)) Tryz.sizeSt rfl (xcs_one _) ?_
          have HB := hide (zoo_setrow (c' := xcs x) (l1 := []) (unhide HA3))
          have HKB := hide ((unhide HK3).trans (setRow_kp (cs := xcs x) (zoo_varm (unhide HA3) (List.Mem.head _))).2 (fun y hy => .inr (by rw [List.mem_singleton.1 hy]; exact hp6)))
          refine hK.out _ _ ((unhide HKB).cell (by simp) c1) (fun hHeld2 => ?_)
          clear hK K hHeld
          have hHeld := hHeld2
          clear hHeld2
          try simp only [Act.put]
          refine wpAnyH_tk (i := 11) (v := ?_) rfl (by kernel_rfl) (by kernel_rfl) (by kernel_rfl) (fun _ _ _ h => h) (Or.inl ⟨by rfl, ?_⟩) hHeld ?_
          rotate_left
          · intro w hSw
            try dsimp only at hSw
            go_simp
            try with_reducible rfl
          try simp only [Act.put, List.setIfInBounds_toArray, List.set_cons_zero, List.set_cons_succ]
          refine wpAnyH_done (by kernel_rfl) ?_ _
          clear hHeld HKB
          generalize World.setRow _ _ _ = W9 at HB ⊢
          have HB2 : Hid (Zoo w0 W9 (BoxT p6 (xcs x) 79 :: HalT hb h :: DskT d hb bs :: r)) := HB
          clear HB
          cases b with
          | false =>
            have hnone : rdl nm rs = none := (unhide HRD).symm.trans (by simpa using unhide HX)
            have hdl := unhide HDL
            rw [hnone, unhide HD2] at hdl
            cases hdl
            have HZ8 := hide ((unhide HB2).box #[.string ⟨#[119, 104, 97, 116]⟩] 9)
            clear hnone
            go_wp2_with (go_at_call 24; refine (dsay (l1 := [_, _, _]) [[119, 104, 97, 116]] 1 rfl _ 0 1 (unhide HZ8) (cells_strs [[119, 104, 97, 116]] (zoo_varm (unhide HZ8) (List.Mem.head _)) rfl) (join_pos (by simp)) (by simp) (by simp) hlen).mono ?_; rintro e w7 ⟨rfl, HZ7⟩)
            refine bodyPost_ret (v := .tuple #[]) (results_none Tryz.results15 _ _ _) rfl ?_
            exact ⟨rfl, Zoo.tail (Zoo.tail (unhide HZ7))⟩
          | true =>
            have hsome : rdl nm rs = some x := (unhide HRD).symm.trans (by simpa using unhide HX)
            have hxb : x.b.size ≤ maxLen := by
              have := rdl_sz ((unhide HRD).trans hsome) (unhide HRL)
              unfold maxLen; omega
            have hdl := unhide HDL
            rw [hsome, unhide HD2] at hdl
            cases hdl
            have x0 := (x8_of (zoo_varm (unhide HB2) (List.Mem.head _))).1
            clear hsome
            obtain ⟨xd, xs, xm, xa, xk, xt, xp, xb⟩ := x
            dsimp only at hlen hxb x0 HX ⊢
            go_wp2_with fail
            refine wp_region_held_drew (S := fun w' => w'.cell? ⟨p6, 0, none⟩ = some (.int .i64 xd) ∧ w'.cell? ⟨p6, 1, none⟩ = some (.int .i64 xs) ∧ w'.cell? ⟨p6, 1 + 1, none⟩ = some (.int .i64 xm) ∧ w'.cell? ⟨p6, 1 + 1 + 1, none⟩ = some (.int .i64 xa) ∧ w'.cell? ⟨p6, 1 + 1 + 1 + 1, none⟩ = some (.int .i64 xk) ∧ w'.cell? ⟨p6, 1 + 1 + 1 + 1 + 1, none⟩ = some (.int .i64 xt) ∧ w'.cell? ⟨p6, 1 + 1 + 1 + 1 + 1 + 1, none⟩ = some (.int .i64 xp) ∧ w'.cell? ⟨p6, 1 + 1 + 1 + 1 + 1 + 1 + 1, none⟩ = some (.string xb)) (by kernel_rfl) (x8_of (zoo_varm ((unhide HB2).kp0 (Kp.refl [] W9).drew) (List.Mem.head _))) (fun hHeld => ?_)
            have HE0 := hide ((unhide HB2).kp0 (Kp.refl [] W9).drew)
            generalize World.drew _ = WE at HE0 hHeld ⊢
            refine wpAnyH_tk (i := 0) (v := ?_) rfl (by kernel_rfl) (by kernel_rfl) (by kernel_rfl) (fun _ _ _ h => h) (Or.inl ⟨by rfl, ?_⟩) hHeld ?_
            rotate_left
            · intro w hSw
              try dsimp only at hSw
              go_simp
              try with_reducible rfl
            try simp only [Act.put, List.setIfInBounds_toArray, List.set_cons_zero, List.set_cons_succ]
            refine wpAnyH_tk (i := 1) (v := ?_) rfl (by kernel_rfl) (by kernel_rfl) (by kernel_rfl) (fun _ _ _ h => h) (Or.inl ⟨by rfl, ?_⟩) hHeld ?_
            rotate_left
            · intro w hSw
              try dsimp only at hSw
              go_simp
              try with_reducible rfl
            try simp only [Act.put, List.setIfInBounds_toArray, List.set_cons_zero, List.set_cons_succ]
            refine wpAnyH_tk (i := 2) (v := ?_) rfl (by kernel_rfl) (by kernel_rfl) (by kernel_rfl) (fun _ _ _ h => h) (Or.inl ⟨by rfl, ?_⟩) hHeld ?_
            rotate_left
            · intro w hSw
              try dsimp only at hSw
              go_simp
              try with_reducible rfl
            try simp only [Act.put, List.setIfInBounds_toArray, List.set_cons_zero, List.set_cons_succ]
            refine wpAnyH_tk (i := 3) (v := ?_) rfl (by kernel_rfl) (by kernel_rfl) (by kernel_rfl) (fun _ _ _ h => h) (Or.inl ⟨by rfl, ?_⟩) hHeld ?_
            rotate_left
            · intro w hSw
              try dsimp only at hSw
              go_simp
              try with_reducible rfl
            try simp only [Act.put, List.setIfInBounds_toArray, List.set_cons_zero, List.set_cons_succ]
            refine wpAnyH_tk (i := 4) (v := ?_) rfl (by kernel_rfl) (by kernel_rfl) (by kernel_rfl) (fun _ _ _ h => h) (Or.inl ⟨by rfl, ?_⟩) hHeld ?_
            rotate_left
            · intro w hSw
              try dsimp only at hSw
              go_simp
              try with_reducible rfl
            try simp only [Act.put, List.setIfInBounds_toArray, List.set_cons_zero, List.set_cons_succ]
            refine wpAnyH_only (i := 5) rfl (by kernel_rfl) (fun K hK => ?_)
            go_simp
            refine (dteller d xd WE).mono ?_
            rintro e w5 ⟨rfl, hw5⟩
            have HE1 := hide (zoo_p4 ((unhide HE0).box #[.pointer (some ⟨d, 0, none⟩)] 25))
            rw [← hw5] at HE1
            clear hw5
            go_wp2_with fail
            refine hK.out _ _ (x8_of (zoo_varm (unhide HE1) (List.Mem.tail _ (List.Mem.tail _ (List.Mem.tail _ (List.Mem.head _)))))) (fun hHeld2 => ?_)
            clear hK K hHeld
            have hHeld := hHeld2
            clear hHeld2
            try simp only [Act.put, List.setIfInBounds_toArray, List.set_cons_zero, List.set_cons_succ]
            generalize WE.heap.size = q at *
            refine wpAnyH_only (i := 6) rfl (by kernel_rfl) (fun K hK => ?_)
            go_simp
            refine (dstep ⟨xd, xs, xm, xa, xk, xt, xp, xb⟩ hxb (unhide HG) (unhide HE1) hlen).mono ?_
            rintro e w7 ⟨rfl, HZ7⟩
            go_wp2_with fail
            refine hK.out _ _ (x8_of (zoo_varm (unhide HZ7) (List.Mem.tail _ (List.Mem.tail _ (List.Mem.head _))))) (fun hHeld2 => ?_)
            clear hK K hHeld
            have hHeld := hHeld2
            clear hHeld2
            try simp only [Act.put, List.setIfInBounds_toArray, List.set_cons_zero, List.set_cons_succ]
            refine wpAnyH_done (by kernel_rfl) ?_ _
            clear hHeld
            go_wp2_with fail
            go_end0
            exact ⟨rfl, Zoo.drop_ (l1 := [_, _]) (unhide HZ7)⟩
end
end
/- The desk's builder told and emptied: String, Reset, by their contracts. -/
section
open Go.RowKit
attribute [local go_sem ↓] Go.wp_at_zero Go.wp_at_succ

/-- A desk whose builder has told: its box alone. -/
def RawT (d hb : Nat) : Thing where
  holds B w F := ∃ p v : Value, w.heap[d]? = some (.cells #[p, v, .pointer (some ⟨hb, 0, none⟩)] 46 (0, 0)) ∧ F = [d] ∧ B ≤ d
  kp := fun ⟨p, v, h1, h2, h3⟩ hk hS => ⟨p, v, by rw [hk.block d (lt_of_block h1) (hS d (by rw [h2]; simp))]; exact h1, h2, h3⟩
  lo := fun ⟨p, v, h1, h2, h3⟩ x hx => by rw [h2] at hx; rw [List.mem_singleton.1 hx]; exact ⟨h3, lt_of_block h1⟩
  base := fun ⟨p, v, h1, h2, h3⟩ hC => ⟨p, v, h1, h2, Nat.le_trans hC h3⟩
theorem kp_freeze {w : World} (g n : Nat) : Kp [g] w (w.freeze ⟨g, 0, none⟩ n) := by
  unfold World.freeze
  split
  · exact Kp.refl _ _
  · refine ⟨rfl, rfl, rfl, by simp, fun k hk hn => ?_⟩
    have hne : g ≠ k := fun e => hn (by simp [e])
    simp only [Array.getElem?_modify, if_neg hne]
set_option maxHeartbeats 2000000 in
theorem dstring {B d hb : Nat} {bs : List UInt8} {w : World} {F : List Nat} (h : (DskT d hb bs).holds B w F) :
    Calls Tryz.prog 16 #[.pointer (some ⟨d, 0, none⟩)] w fun e w' => e = .returned (.string ⟨bs.toArray⟩) ∧ Hid (Ch (RawT d hb) B w F w') := by
  obtain ⟨p, a, cap, _, hbk, hown, rfl, hBd, hda, hnil⟩ := h
  cases bs with
  | nil =>
    have ha := hnil rfl
    subst ha
    obtain ⟨_, hcp, _⟩ | ⟨g, e, _⟩ := hown.cases
    · subst hcp
      have c1 : w.drew.cell? ⟨d, 1, none⟩ = some (.slice none 0 0) := cell_of_block (w := w.drew) hbk rfl
      have hSD : (Builtin.unsafeSliceData_ #[42] 85 #[.slice none 0 0]).run Tryz.prog w.drew = .ok (.pointer none) w.drew := rfl
      have hUS := fun (W : World) (q : Option Addr) => Lib.run_unsafeString_none (P := Tryz.prog) W 85 3 9 q
      have hfin : Ch (RawT d hb) B w [d] w.drew := ⟨[d], ⟨p, _, hbk, rfl, hBd⟩, (Kp.refl [d] w).drew, fun x hx => .inl hx⟩
      have HF := hide hfin
      clear hbk hown hfin
      go_enter Tryz.func16, Tryz.ntmps16
      go_wp2_with fail
      go_region
      all_goals (go_wp2_with fail; go_ret; exact ⟨rfl, HF⟩)
    · cases e
  | cons c0 cr =>
    obtain ⟨_, _, e⟩ | ⟨g, rfl, hBg, hgl, hle⟩ := hown.cases
    · cases e
    obtain ⟨l, hl⟩ : ∃ l, c0 :: cr = l := ⟨_, rfl⟩
    have h0 : l ≠ [] := by rw [← hl]; simp
    rw [hl] at hbk hown hle ⊢
    obtain ⟨g2, cap2, cur, hv, _, hg, hnc, hcm, hcs, htake⟩ : ∃ g2 cap2 cur, Value.slice (some ⟨g, 0, none⟩) l.length cap = .slice (some ⟨g2, 0, none⟩) l.length cap2 ∧ B ≤ g2 ∧ w.heap[g2]? = some (.cells cur 5 (0, 0)) ∧ l.length ≤ cap2 ∧ cap2 ≤ maxLen ∧ cur.size = cap2 * 1 ∧ cur.toList.take (l.length * 1) = bcells l := by
      rcases hown.2 with ⟨_, hz⟩ | ⟨g2, cap2, cur, hv, r⟩
      · exact absurd (List.eq_nil_of_length_eq_zero hz) h0
      · exact ⟨g2, cap2, cur, hv, r⟩
    cases hv
    have c1 : w.drew.cell? ⟨d, 1, none⟩ = some (.slice (some ⟨g, 0, none⟩) l.length cap) := cell_of_block (w := w.drew) hbk rfl
    have hcap0 : cap ≠ 0 := by have := List.length_pos_iff.2 h0; omega
    have hSD : (Builtin.unsafeSliceData_ #[42] 85 #[.slice (some ⟨g, 0, none⟩) l.length cap]).run Tryz.prog w.drew = .ok (.pointer (some ⟨g, 0, none⟩)) w.drew := Lib.run_unsafeSliceData_row _ _ _ _ _ _ (by omega)
    have hUS : (Builtin.unsafeString_ #[85, 3] 9 #[.pointer (some ⟨g, 0, none⟩), .int .i64 l.length]).run Tryz.prog w.drew = .ok (.string ⟨l.toArray⟩) (w.drew.freeze ⟨g, 0, none⟩ l.length) := by
      refine Lib.run_unsafeString_row w.drew 85 3 9 5 Tryz.underlying85 btX.cellsByte g cur.size (by have hg' : w.drew.heap[g]? = some (.cells cur 5 (0, 0)) := hg; simp [World.shape?, hg']) l h0 (by omega) (by unfold maxLen at hcm; omega) ?_
      intro j x hx
      exact hown.cells (g := g) rfl j (.int .u8 x.toNat) (by simp [bcells, hx])
    have hne : d ∉ [g] := by simpa [ob_some] using hda
    have hkf : Kp [g] w (w.drew.freeze ⟨g, 0, none⟩ l.length) := (Kp.refl [g] w).drew.trans (kp_freeze g l.length) (fun x hx => .inl hx)
    have hfin : Ch (RawT d hb) B w (d :: ob (some ⟨g, 0, none⟩)) (w.drew.freeze ⟨g, 0, none⟩ l.length) := by
      refine ⟨[d], ⟨p, .slice (some ⟨g, 0, none⟩) l.length cap, ?_, rfl, hBd⟩, hkf.mono (fun x hx => by simp [ob_some] at hx ⊢; simp [hx]), fun x hx => .inl (by simp at hx; simp [hx])⟩
      rw [hkf.block d (lt_of_block hbk) hne]
      exact hbk
    have HF := hide hfin
    generalize l.length = n at *
    clear hbk hown hfin hkf hg htake hle hnc hda hnil hl h0
    go_enter Tryz.func16, Tryz.ntmps16
    go_wp2_with fail
    go_region
    all_goals (go_wp2_with fail; go_ret; exact ⟨rfl, HF⟩)
set_option maxHeartbeats 1000000 in
theorem dreset {B d hb : Nat} {w : World} {F : List Nat} (h : (RawT d hb).holds B w F) :
    Calls Tryz.prog 17 #[.pointer (some ⟨d, 0, none⟩)] w fun e w' => e = .returned (.tuple #[]) ∧ Hid (Ch (DskT d hb []) B w F w') := by
  obtain ⟨p, v, hbk, rfl, hBd⟩ := h
  have c0 : w.cell? ⟨d, 0, none⟩ = some p := cell_of_block hbk rfl
  have c1 : w.cell? ⟨d, 1, none⟩ = some v := cell_of_block hbk rfl
  have f0 : w.frozen? ⟨d, 0, none⟩ = false := frozen_of_block _ hbk
  have hb1 := heap_setCell_at 0 (.pointer none) hbk
  have f1 : (w.setCell ⟨d, 0, none⟩ (.pointer none)).frozen? ⟨d, 1, none⟩ = false := frozen_of_block _ hb1
  have hfin : Ch (DskT d hb []) B w [d] ((w.setCell ⟨d, 0, none⟩ (.pointer none)).setCell ⟨d, 1, none⟩ (.slice none 0 0)) := by
    refine ⟨[d], ⟨.pointer none, none, 0, .inl rfl, ?_, ownU_nil _ _, rfl, hBd, by simp [ob_none], fun _ => rfl⟩, ((Kp.refl [d] w).setCell (.inl (by simp)) _).setCell (.inl (by simp)) _, fun x hx => .inl hx⟩
    rw [heap_setCell_at 1 _ hb1]
    rfl
  have HF := hide hfin
  clear hfin hb1 hbk
  go_enter Tryz.func17, Tryz.ntmps17
  go_wp2_with fail
  go_end0
  exact ⟨rfl, HF⟩
section
variable {w0 w : World} {l1 r : List Thing} {d hb : Nat} {bs : List UInt8}
theorem z_string (hz : Zoo w0 w (l1 ++ DskT d hb bs :: r)) : Calls Tryz.prog 16 #[.pointer (some ⟨d, 0, none⟩)] w fun e w' => e = .returned (.string ⟨bs.toArray⟩) ∧ Hid (Zoo w0 w' (l1 ++ RawT d hb :: r)) := by
  obtain ⟨F, h1, k⟩ := hz.at_
  refine (dstring h1).mono ?_
  rintro e w' ⟨rfl, hch⟩
  exact ⟨rfl, k _ _ (unhide hch)⟩
theorem z_reset (hz : Zoo w0 w (l1 ++ RawT d hb :: r)) : Calls Tryz.prog 17 #[.pointer (some ⟨d, 0, none⟩)] w fun e w' => e = .returned (.tuple #[]) ∧ Hid (Zoo w0 w' (l1 ++ DskT d hb [] :: r)) := by
  obtain ⟨F, h1, k⟩ := hz.at_
  refine (dreset h1).mono ?_
  rintro e w' ⟨rfl, hch⟩
  exact ⟨rfl, k _ _ (unhide hch)⟩
end
end
/- The desk's check; how long what is told can be. -/
section
open Go.RowKit
attribute [local go_sem ↓] Go.wp_at_zero Go.wp_at_succ

def lsum : List (List UInt8) → Nat
  | [] => 0
  | x :: r => x.length + lsum r
theorem join_len : ∀ ws : List (List UInt8), (Lib.join ws [32]).length ≤ lsum ws + ws.length
  | [] => Nat.zero_le _
  | [x] => by rw [Lib.join_one]; simp [lsum]
  | x :: y :: r => by
    have h : Lib.join (x :: y :: r) [32] = x ++ ([32] ++ Lib.join (y :: r) [32]) := by simp [Lib.join, List.intercalate]
    have := join_len (y :: r)
    rw [h]
    simp [lsum] at this ⊢
    omega
theorem say_len (ws : List (List UInt8)) : (say ws).length ≤ lsum ws + ws.length + 1 := by
  unfold say
  rw [List.length_append]
  have := join_len ws
  simp
  omega
theorem pvx_sum : ∀ l : List Ver, (∀ p ∈ l, p.s.size ≤ 12 ∧ 0 ≤ p.a ∧ p.a ≤ 9) → lsum (l.map pvx) ≤ l.length * 58
  | [], _ => Nat.zero_le _
  | p :: r, h => by
    have h1 := h p (by simp)
    have h2 := pvx_sum r (fun q hq => h q (by simp [hq]))
    have h3 := Lib.itoa_length_le p.a (by omega) (by omega)
    have h4 := vtx_len p.t p.s (by omega)
    have h5 : (pvx p).length = (Lib.itoa p.a).length + (vtx p.t p.s).length := by unfold pvx; rw [List.length_append]
    simp only [List.map_cons, lsum, List.length_cons, h5]
    omega
theorem tell_len {v : Ev} (h : EvS v) (d : Int) : (say (tell d v)).length ≤ 600 := by
  have h0 := say_len (tell d v)
  have c := Lib.itoa_length_le v.c (by have := h.c0; omega) (by have := h.c1; omega)
  have n := Lib.itoa_length_le v.n (by have := h.n0; omega) (by have := h.n1; omega)
  have s := vtx_len v.t v.s (by have := h.s; omega)
  have ss := h.s
  have pl := pvx_sum v.l h.l
  have ll := h.len
  have hb : lsum (tell d v) + (tell d v).length ≤ 599 := by
    unfold tell
    by_cases hc : v.c ≠ 0
    · rw [if_pos hc]; simp [lsum]; omega
    · rw [if_neg hc]
      unfold telk
      by_cases h2 : d = 2
      · rw [if_pos h2]; simp [lsum]; omega
      · rw [if_neg h2]
        by_cases h5 : d = 5
        · rw [if_pos h5]; simp [lsum]; omega
        · rw [if_neg h5]
          by_cases h6 : d = 6 ∨ d = 8 ∨ d = 10
          · rw [if_pos h6]; simp [lsum]; omega
          · rw [if_neg h6]; simp [lsum]
  omega
theorem dln_len {h : HSt} (hi : HInv h) (l : List UInt8) : (dln h l).2.length ≤ 600 := by
  unfold dln
  cases hw : wds l with
  | nil => exact Nat.zero_le _
  | cons w ws =>
    dsimp only
    by_cases hl : w = [108, 97, 115, 116] ∧ ws = []
    · rw [if_pos hl]
      obtain ⟨b1, b2, b3, b4, b5⟩ := hal_nums hi
      have h0 := say_len [[108, 97, 115, 116], Lib.itoa h.n, Lib.itoa (fmx h.f 8), Lib.itoa (least h.n h.seat 5)]
      have e1 := Lib.itoa_length_le h.n (by omega) (by omega)
      have e2 := Lib.itoa_length_le (fmx h.f 8) (by omega) (by omega)
      have e3 := Lib.itoa_length_le (least h.n h.seat 5) (by omega) (by omega)
      simp [lsum] at h0
      dsimp only
      omega
    · rw [if_neg hl]
      cases hr : rdl w ws with
      | none =>
        have h0 := say_len [[119, 104, 97, 116]]
        simp [lsum] at h0
        dsimp only
        omega
      | some x => exact tell_len (hev_small hi x) x.d
def CkEnd (ls : List (List UInt8)) (w : World) (e : Ending) (w' : World) : Prop := ∃ c p : Int, e = .returned (.agg #[.int .i64 c, .int .i64 p]) ∧ lft ls = (c, p) ∧ Kp [] w w'
theorem ckEnd_mk {ls : List (List UInt8)} {w w' : World} (c p : Int) (h : lft ls = (c, p)) (hk : Kp [] w w') : CkEnd ls w (.returned (.agg #[.int .i64 c, .int .i64 p])) w' := ⟨c, p, rfl, h, hk⟩
theorem Tryz.sizeFa : (Tryz.prog.info? 31).map (·.size) = some 2 := by kernel_rfl
theorem lfg_step {ls : List (List UInt8)} {k : Nat} {l : List UInt8} (h : ls[k]? = some l) : lfg k (ls.drop k) = if (10 : UInt8) ∈ l then (15, (k : Int)) else lfg (k + 1) (ls.drop (k + 1)) := by
  obtain ⟨hk, e⟩ := List.getElem?_eq_some_iff.1 h
  rw [List.drop_eq_getElem_cons hk, e, lfg]
set_option maxHeartbeats 2000000 in
theorem dchk (ls : List (List UInt8)) (n : Nat) (hn : n = ls.length) (a : Option Addr) (cap : Nat) (w : World) (hw : Wrd w a ls) :
    Calls Tryz.prog 14 #[.slice a n cap] w fun e w' => CkEnd ls w e w' := by
  have HZ0 := hide ((zoo_nil (Kp.refl [] w)).box #[.int .i64 0, .int .i64 0] 31)
  have HW := hide hw
  have HN := hide hn
  clear hw hn
  go_enter Tryz.func14, Tryz.ntmps14
  by_cases hbig : 150 < n
  · have i1 : (150 : Int) < (n : Int) := by omega
    have hfin : lft ls = (14, -1) := by unfold lft; rw [if_pos (by rw [← unhide HN]; exact hbig)]
    have HF := hide hfin
    clear hfin
    go_wp2_with fail
    have hz3 := (zoo_nil (Kp.refl [] w)).box #[.int .i64 14, .int .i64 (-1)] 31
    refine bodyPost_ret (v := .agg #[.int .i64 14, .int .i64 (-1)]) (results_cell_row Tryz.results14 _ _ w.heap.size 31 _ (0, 0) _ rfl (zoo_varm hz3 (List.Mem.head _)) Tryz.underlying31 rfl Tryz.sizeFa) rfl ?_
    exact ckEnd_mk _ _ (unhide HF) hz3.kp
  · have i1 : ¬ (150 : Int) < (n : Int) := by omega
    go_wp2_with fail
    generalize w.alloc (.cells #[.int .i64 0, .int .i64 0] 31) = W at *
    generalize w.heap.size = pR at *
    go_loopw [11] (fun t wr => ∃ k : Nat, k ≤ n ∧ t = .int .i64 k ∧ Hid (lft ls = lfg k (ls.drop k)) ∧ Hid (Zoo w wr [BoxT pR #[.int .i64 0, .int .i64 0] 31])) (fun t _ => n - (intOf t).toNat)
    case atStart => exact ⟨0, Nat.zero_le _, rfl, by show lft ls = lfg 0 ls; unfold lft; rw [if_neg (by rw [← unhide HN]; exact hbig)], HZ0⟩
    case round =>
      obtain ⟨k, hk, rfl, HI, HZ⟩ := hrel
      have hR := zoo_varm (unhide HZ) (List.Mem.head _)
      by_cases hlt : k < n
      · have i0 : (0 : Int) ≤ (k : Int) := by omega
        have i2 : (k : Int) < (n : Int) := by omega
        obtain ⟨l, hl⟩ : ∃ l, ls[k]? = some l := ⟨_, List.getElem?_eq_getElem (by rw [← unhide HN]; exact hlt)⟩
        obtain ⟨g, o, rfl, hc⟩ := ((unhide HW).kp0 (unhide HZ).kp) (by rw [← unhide HN]; omega)
        have c1 := hc k l hl
        have HST := hide (lfg_step hl)
        have HCO := hide (scontains l wr)
        clear hc hl
        by_cases hm : (10 : UInt8) ∈ l
        · have e1 : decide ((10 : UInt8) ∈ l) = true := by simp [hm]
          rw [e1] at HCO
          have hfin : lft ls = (15, (k : Int)) := by rw [unhide HI, unhide HST, if_pos hm]
          have HF := hide hfin
          clear hfin e1
          go_wp2_with (first | (go_at_call 22; refine (unhide HCO).mono ?_; rintro e w' ⟨rfl, hw'⟩; subst w') | (refine wpList_store_row rfl 31 _ _ rfl pR #[.int .i64 15, .int .i64 (k : Int)] rfl rfl 31 _ hR Tryz.sizeFa rfl (by simp [Value.oneCell']) ?_))
          have hz3 := zoo_setrow (c' := #[.int .i64 15, .int .i64 (k : Int)]) (l1 := []) (unhide HZ)
          refine bodyPost_ret (v := .agg #[.int .i64 15, .int .i64 (k : Int)]) (results_cell_row Tryz.results14 _ _ pR 31 _ (0, 0) _ rfl (zoo_varm hz3 (List.Mem.head _)) Tryz.underlying31 rfl Tryz.sizeFa) rfl ?_
          exact ckEnd_mk _ _ (unhide HF) hz3.kp
        · have e1 : decide ((10 : UInt8) ∈ l) = false := by simp [hm]
          rw [e1] at HCO
          clear e1
          go_wp2_with (go_at_call 22; refine (unhide HCO).mono ?_; rintro e w' ⟨rfl, hw'⟩; subst w')
          refine ⟨⟨k + 1, by omega, by go_num, ?_, HZ⟩, by simp [intOf]; omega⟩
          exact (unhide HI).trans ((unhide HST).trans (if_neg hm))
      · have i2 : ¬ (k : Int) < (n : Int) := by omega
        have hfin : lft ls = (0, 0) := by
          rw [unhide HI, List.drop_of_length_le (by rw [← unhide HN]; omega)]; rfl
        have HF := hide hfin
        clear hfin
        go_wp2_with (refine wpList_store_row rfl 31 _ _ rfl pR #[.int .i64 0, .int .i64 0] rfl rfl 31 _ hR Tryz.sizeFa rfl (by simp [Value.oneCell']) ?_)
        have hz3 := zoo_setrow (c' := #[.int .i64 0, .int .i64 0]) (l1 := []) (unhide HZ)
        refine bodyPost_ret (v := .agg #[.int .i64 0, .int .i64 0]) (results_cell_row Tryz.results14 _ _ pR 31 _ (0, 0) _ rfl (zoo_varm hz3 (List.Mem.head _)) Tryz.underlying31 rfl Tryz.sizeFa) rfl ?_
        exact ckEnd_mk _ _ (unhide HF) hz3.kp
end
/- The desk's New and Do, by their contracts. -/
section
open Go.RowKit
attribute [local go_sem ↓] Go.wp_at_zero Go.wp_at_succ

theorem results_tmp_cell {fn : Func} {p u : Tmp} {ty : TypeId} (h : fn.results = #[.tmp u, .cell p ty]) (tmps : Array Value) (P : Program) (w : World) :
    (results fn tmps).run P w = ((asAddr (tmps.getD p undef)).run P w).andThen fun a w1 => ((loadVar ty a).run P w1).andThen fun v w2 => .ok (.tuple #[tmps.getD u undef, v]) w2 := by
  simp only [results, h]
  simp [Sem.run_bind, Result.andThen]
theorem faload {w : World} {p : Nat} {c : Array Value} (hs : c.size = 2) (h : w.heap[p]? = some (.cells c 31 (0, 0))) : (loadVar 31 ⟨p, 0, none⟩).run Tryz.prog w = .ok (.agg c) w :=
  run_loadVar_row w p 31 31 c (0, 0) _ h Tryz.underlying31 rfl (by rw [hs]; exact Tryz.sizeFa)
def h00 : HSt := ⟨fun _ => [dv], 0, [], fun _ => none⟩
section
variable {w0 w : World} {r : List Thing} {d hb : Nat} {h : HSt}
set_option maxHeartbeats 1000000 in
theorem dnew (hz : Zoo w0 w r) : Calls Tryz.prog 7 #[] w fun e w' => ∃ d hb, e = .returned (.pointer (some ⟨d, 0, none⟩)) ∧ Hid (Zoo w0 w' (HalT hb h00 :: DskT d hb [] :: r)) := by
  have HZ := hide hz
  clear hz
  go_enter Tryz.func7, Tryz.ntmps7
  go_wp2_with (go_at_call 12; refine (h_new w).mono ?_; rintro e w1 ⟨hb, rfl, F, hh, hk⟩; have HZ1 : Hid (Zoo w0 w1 (HalT hb h00 :: r)) := (unhide HZ).cons hh hk; clear hh hk)
  go_ret
  refine ⟨w1.heap.size, hb, rfl, zoo_in ((unhide HZ1).cons (F := [w1.heap.size]) ⟨.pointer none, none, 0, .inl rfl, heap_alloc_new w1 _, ownU_nil _ _, rfl, Nat.le_refl _, by simp [ob_none], fun _ => rfl⟩ ((Kp.refl [] w1).alloc _))⟩
/-- What a Do leaves, and tells. -/
def dox (h : HSt) (ls : List (List UInt8)) : HSt × List UInt8 := if (lft ls).1 ≠ 0 then (h, []) else drun h ls
def DoEnd (ls : List (List UInt8)) (h : HSt) (d hb : Nat) (w0 : World) (r : List Thing) (e : Ending) (w' : World) : Prop := e = .returned (.tuple #[.string ⟨(dox h ls).2.toArray⟩, .agg #[.int .i64 (lft ls).1, .int .i64 (lft ls).2]]) ∧ (dox h ls).2.length ≤ 90000 ∧ Zoo w0 w' (HalT hb (dox h ls).1 :: DskT d hb [] :: r)
theorem take_snoc {α : Type} {l : List α} {k : Nat} {x : α} (h : l[k]? = some x) : l.take (k + 1) = l.take k ++ [x] := by rw [List.take_add_one, h]; rfl
set_option maxHeartbeats 4000000 in
theorem ddo (ls : List (List UInt8)) (n : Nat) (hn : n = ls.length) (a : Option Addr) (cap : Nat) (hw : ∀ (W : World) (l1 : List Thing), Zoo w0 W (l1 ++ r) → Wrd W a ls) (hl : ∀ l ∈ ls, l.length ≤ 10000) (hg : Gnd w0) (hz : Zoo w0 w (HalT hb h :: DskT d hb [] :: r)) :
    Calls Tryz.prog 9 #[.pointer (some ⟨d, 0, none⟩), .slice a n cap] w fun e w' => DoEnd ls h d hb w0 r e w' := by
  have HZ0 := hide (hz.box #[.int .i64 0, .int .i64 0] 31)
  have HW := hide hw
  have HG := hide hg
  have HN := hide hn
  have HL := hide hl
  clear hg hw hn hl hz
  go_enter Tryz.func9, Tryz.ntmps9
  go_wp2_with (go_at_call 14; refine (dchk ls n (unhide HN) a cap _ (unhide HW _ [_, _, _] (unhide HZ0))).mono ?_; rintro e w1 ⟨c, p, rfl, hcp, hk1⟩; have HZ1 := hide (((unhide HZ0).kp0 hk1).box #[.int .i64 c, .int .i64 p] 31); have HCP := hide hcp; clear hcp hk1; obtain rfl | hc0 := Classical.em (c = 0))
  · have hp0 : p = 0 := by
      have h1 := unhide HCP
      unfold lft at h1
      by_cases hb : 150 < ls.length
      · rw [if_pos hb] at h1; cases h1
      · rw [if_neg hb] at h1
        have := lfg_val (i := 0) (ls := ls) (by rw [h1])
        rw [this] at h1; cases h1; rfl
    subst hp0
    have hn150 : n ≤ 150 := by
      have h1 := unhide HCP
      rw [unhide HN]
      unfold lft at h1
      by_cases hb : 150 < ls.length
      · rw [if_pos hb] at h1; cases h1
      · omega
    have hdx : dox h ls = drun h ls := by unfold dox; rw [unhide HCP]; simp
    have HDX := hide hdx
    clear hdx HZ0
    generalize w1.alloc (.cells #[.int .i64 0, .int .i64 0] 31) = W2 at *
    generalize w1.heap.size = pF at *
    generalize w.heap.size = pA at *
    have HS : Hid (Zoo w0 W2 (HalT hb h :: DskT d hb [] :: BoxT pF #[.int .i64 0, .int .i64 0] 31 :: BoxT pA #[.int .i64 0, .int .i64 0] 31 :: r)) := zoo_22 (unhide HZ1)
    clear HZ1
    go_loopw [18] (fun t wr => ∃ (k : Nat) (h1 : HSt) (acc : List UInt8), k ≤ n ∧ t = .int .i64 k ∧ acc.length ≤ 600 * k ∧ Hid (drun h (ls.take k) = (h1, acc)) ∧ Hid (Zoo w0 wr (HalT hb h1 :: DskT d hb acc :: BoxT pF #[.int .i64 0, .int .i64 0] 31 :: BoxT pA #[.int .i64 0, .int .i64 0] 31 :: r))) (fun t _ => n - (intOf t).toNat)
    case atStart => exact ⟨0, h, [], Nat.zero_le _, rfl, Nat.zero_le _, rfl, HS⟩
    case round =>
      obtain ⟨k, h1, acc, hk, rfl, hal, HI, HZR⟩ := hrel
      by_cases hlt : k < n
      · have i0 : (0 : Int) ≤ (k : Int) := by omega
        have i1 : (k : Int) < (n : Int) := by omega
        obtain ⟨l, hl⟩ : ∃ l, ls[k]? = some l := ⟨_, List.getElem?_eq_getElem (by rw [← unhide HN]; exact hlt)⟩
        obtain ⟨g, o, rfl, hc⟩ := (unhide HW wr [_, _, _, _] (unhide HZR)) (by rw [← unhide HN]; omega)
        have c1 := hc k l hl
        have hdl := dln_len (hal_hinv (unhide HZR)) l
        have hrun : drun h (ls.take (k + 1)) = ((dln h1 l).1, acc ++ (dln h1 l).2) := by rw [take_snoc hl, drun_snoc, unhide HI]
        have HD := hide (doline l (unhide HL l (List.mem_of_getElem? hl)) (unhide HG) (unhide HZR) (by omega))
        have HR := hide hrun
        clear hrun hc hl
        go_wp2_with (go_at_call 15; refine (unhide HD).mono ?_; rintro e w5 ⟨rfl, HZ5⟩)
        refine ⟨⟨k + 1, (dln h1 l).1, acc ++ (dln h1 l).2, by omega, by go_num, by rw [List.length_append]; omega, HR, HZ5⟩, by simp [intOf]; omega⟩
      · have i1 : ¬ (k : Int) < (n : Int) := by omega
        have hI := unhide HI
        rw [List.take_of_length_le (by rw [← unhide HN]; omega)] at hI
        have hfin : dox h ls = (h1, acc) := (unhide HDX).trans hI
        have HF := hide hfin
        clear hI hfin HI HDX
        have HS1 := hide (z_string (l1 := [_]) (unhide HZR))
        go_wp2_with (first | (go_at_call 16; refine (unhide HS1).mono ?_; rintro e w5 ⟨rfl, HZ5⟩; have HR1 := hide (z_reset (l1 := [_]) (unhide HZ5))) | (go_at_call 17; refine (unhide HR1).mono ?_; rintro e w6 ⟨rfl, HZ6⟩) | (refine wpList_store_row rfl 31 _ _ rfl pA #[.int .i64 0, .int .i64 0] rfl rfl 31 _ (zoo_varm (unhide HZ6) (List.Mem.tail _ (List.Mem.tail _ (List.Mem.tail _ (List.Mem.head _))))) Tryz.sizeFa rfl (by simp [Value.oneCell']) ?_))
        have hz3 := zoo_setrow (c' := #[.int .i64 0, .int .i64 0]) (l1 := [_, _, _]) (unhide HZ6)
        have hld := faload rfl (zoo_varm hz3 (List.Mem.tail _ (List.Mem.tail _ (List.Mem.tail _ (List.Mem.head _)))))
        refine bodyPost_ret (v := .tuple #[.string ⟨acc.toArray⟩, .agg #[.int .i64 0, .int .i64 0]]) ?_ rfl ?_
        · rw [results_tmp_cell Tryz.results9]; simp [asAddr, Result.andThen, Act.put, hld]
        · unfold DoEnd
          rw [unhide HF, unhide HCP]
          exact ⟨rfl, by show acc.length ≤ 90000; omega, Zoo.drop_ (l1 := [_, _]) (Zoo.drop_ (l1 := [_, _]) hz3)⟩
  · have hdx : dox h ls = (h, []) := by unfold dox; rw [unhide HCP]; simp [hc0]
    have HDX := hide hdx
    clear hdx HZ0
    have hcb : (c != 0) = true := by simpa using hc0
    go_wp2_with fail
    generalize w1.alloc (.cells #[.int .i64 c, .int .i64 p] 31) = W2 at *
    generalize w1.heap.size = pF at *
    generalize w.heap.size = pA at *
    refine wp_region_held_drew (S := fun w' => w'.cell? ⟨pF, 0, none⟩ = some (.int .i64 c) ∧ w'.cell? ⟨pF, 1, none⟩ = some (.int .i64 p)) (by kernel_rfl) (And.intro (cell_of_block (zoo_varm ((unhide HZ1).kp0 (Kp.refl [] W2).drew) (List.Mem.head _)) rfl) (cell_of_block (zoo_varm ((unhide HZ1).kp0 (Kp.refl [] W2).drew) (List.Mem.head _)) rfl)) (fun hHeld => ?_)
    have HA0 := hide ((unhide HZ1).kp0 (Kp.refl [] W2).drew)
    generalize World.drew _ = WD at HA0 hHeld ⊢
    refine wpAnyH_tk (i := 0) (v := ?_) rfl (by kernel_rfl) (by kernel_rfl) (by kernel_rfl) (fun _ _ _ h => h) (Or.inl ⟨by rfl, ?_⟩) hHeld ?_
    rotate_left
    · intro w hSw
      try dsimp only at hSw
      go_simp
      try with_reducible rfl
    try simp only [Act.put, List.setIfInBounds_toArray, List.set_cons_zero, List.set_cons_succ]
    refine wpAnyH_tk (i := 1) (v := ?_) rfl (by kernel_rfl) (by kernel_rfl) (by kernel_rfl) (fun _ _ _ h => h) (Or.inl ⟨by rfl, ?_⟩) hHeld ?_
    rotate_left
    · intro w hSw
      try dsimp only at hSw
      go_simp
      try with_reducible rfl
    try simp only [Act.put, List.setIfInBounds_toArray, List.set_cons_zero, List.set_cons_succ]
    refine wpAnyH_only (i := 2) rfl (by kernel_rfl) (fun K hK => ?_)
    rw [if_pos (by rfl)]
    refine wp_store_row 31 _ _ rfl pA #[.int .i64 c, .int .i64 p] rfl rfl 31 _ (zoo_varm (unhide HA0) (List.Mem.tail _ (List.Mem.head _))) Tryz.sizeFa rfl (by simp [Value.oneCell']) ?_
    have HB := hide (zoo_setrow (c' := #[.int .i64 c, .int .i64 p]) (l1 := [_]) (unhide HA0))
    refine hK.out _ _ ((And.intro (cell_of_block (zoo_varm (unhide HB) (List.Mem.head _)) rfl) (cell_of_block (zoo_varm (unhide HB) (List.Mem.head _)) rfl))) (fun hHeld2 => ?_)
    clear hK K hHeld
    have hHeld := hHeld2
    clear hHeld2
    try simp only [Act.put]
    refine wpAnyH_done (by kernel_rfl) ?_ _
    clear hHeld
    go_wp2_with fail
    have hld := faload rfl (zoo_varm (unhide HB) (List.Mem.tail _ (List.Mem.head _)))
    refine bodyPost_ret (v := .tuple #[.string ⟨#[]⟩, .agg #[.int .i64 c, .int .i64 p]]) ?_ rfl ?_
    · rw [results_tmp_cell Tryz.results9]; simp [asAddr, Result.andThen, hld]
    · unfold DoEnd
      rw [unhide HDX, unhide HCP]
      exact ⟨rfl, Nat.zero_le _, Zoo.tail (Zoo.tail (unhide HB))⟩
end
end
/- The laws' slow and deskBegun, by their contracts. -/
section
open Go.RowKit
attribute [local go_sem ↓] Go.wp_at_zero Go.wp_at_succ

theorem lsum_snoc (l : List (List UInt8)) (x : List UInt8) : lsum (l ++ [x]) = lsum l + x.length := by
  induction l with
  | nil => simp [lsum]
  | cons a r ih => simp only [List.cons_append, lsum, ih]; omega
theorem lsum_mem {l : List (List UInt8)} {x : List UInt8} (h : x ∈ l) : x.length ≤ lsum l := by
  induction l with
  | nil => cases h
  | cons a r ih =>
    simp only [lsum]
    rcases List.mem_cons.1 h with e | e
    · rw [e]; omega
    · have := ih e; omega
def SlEnd (ls : List (List UInt8)) (w : World) (e : Ending) (w' : World) : Prop := ∃ b : Bool, e = .returned (.bool b) ∧ (b = false → lsum ls ≤ 9000) ∧ w' = w
theorem slEnd_mk {ls : List (List UInt8)} {w : World} (b : Bool) (h : b = false → lsum ls ≤ 9000) : SlEnd ls w (.returned (.bool b)) w := ⟨b, rfl, h, rfl⟩
set_option maxHeartbeats 1000000 in
theorem dslow (ls : List (List UInt8)) (n : Nat) (hn : n = ls.length) (a : Option Addr) (cap : Nat) (w : World) (hw : Wrd w a ls) (hnm : n ≤ 9223372036854775807) (hl : ∀ l ∈ ls, l.length ≤ 140737488355327) :
    Calls Tryz.prog 6 #[.slice a n cap] w fun e w' => SlEnd ls w e w' := by
  have HW := hide hw
  have HN := hide hn
  have HL := hide hl
  clear hw hn hl
  go_enter Tryz.func6, Tryz.ntmps6
  go_wp2_with fail
  go_loop [3, 4] (fun s t => ∃ (k m : Nat), k ≤ n ∧ m ≤ 9000 ∧ s = .int .i64 m ∧ t = .int .i64 k ∧ Hid (m = lsum (ls.take k))) (fun _ t => n - (intOf t).toNat)
  case atStart => exact ⟨0, 0, Nat.zero_le _, by omega, rfl, rfl, rfl⟩
  case round =>
    obtain ⟨k, m, hk, hm, rfl, rfl, HI⟩ := hrel
    by_cases hlt : k < n
    · have i0 : (0 : Int) ≤ (k : Int) := by omega
      have i1 : (k : Int) < (n : Int) := by omega
      obtain ⟨l, hl⟩ : ∃ l, ls[k]? = some l := ⟨_, List.getElem?_eq_getElem (by rw [← unhide HN]; exact hlt)⟩
      obtain ⟨g, o, rfl, hc⟩ := (unhide HW) (by rw [← unhide HN]; omega)
      have c1 := hc k l hl
      have hll := unhide HL l (List.mem_of_getElem? hl)
      have hsz : (ByteArray.mk l.toArray).size = l.length := size8 l
      have hsum : m + l.length = lsum (ls.take (k + 1)) := by rw [take_snoc hl, lsum_snoc, ← unhide HI]
      have HS := hide hsum
      clear hsum hc hl
      by_cases hbig : 9000 < m + l.length
      · have i2 : (9000 : Int) < (m : Int) + (l.length : Int) := by omega
        go_wp2_with fail
        go_ret
        exact slEnd_mk true (fun h => by cases h)
      · have i2 : ¬ (9000 : Int) < (m : Int) + (l.length : Int) := by omega
        go_wp2_with fail
        exact ⟨⟨k + 1, m + l.length, by omega, by omega, by go_num, by go_num, HS⟩, by simp [intOf]; omega⟩
    · have i1 : ¬ (k : Int) < (n : Int) := by omega
      have hI := unhide HI
      rw [List.take_of_length_le (by rw [← unhide HN]; omega)] at hI
      go_wp2_with fail
      go_ret
      exact slEnd_mk false (fun _ => by omega)
def bgl : List (List UInt8) := [[115, 104, 111, 116, 32, 48], [112, 117, 116, 32, 48, 32, 49, 32, 61, 97, 92, 50, 48, 98], [103, 101, 116, 32, 48, 32, 49], [99, 111, 109, 109, 105, 116, 32, 48], [108, 111, 111, 107, 32, 49, 32, 48], [103, 101, 116, 32, 49, 32, 49], [108, 105, 115, 116, 32, 49, 32, 48, 32, 55], [115, 117, 114, 101, 32, 50], [108, 105, 115, 116, 32, 50, 32, 48, 32, 55], [108, 97, 115, 116], [120]]
def bgt : List UInt8 := [111, 107, 10, 111, 107, 10, 104, 97, 115, 32, 61, 97, 92, 50, 48, 98, 10, 111, 107, 32, 49, 10, 111, 107, 10, 104, 97, 115, 32, 45, 10, 97, 108, 108, 10, 111, 107, 10, 97, 108, 108, 32, 49, 61, 97, 92, 50, 48, 98, 10, 108, 97, 115, 116, 32, 49, 32, 48, 32, 48, 10, 119, 104, 97, 116, 10]
theorem bg_ok : lft bgl = (0, 0) := by kernel_rfl
theorem bg_told : (dox h00 bgl).2 = bgt := by kernel_rfl
theorem bg_len : ∀ l ∈ bgl, l.length ≤ 10000 := by decide
theorem kw_wrd {w0 : World} {l2 r : List Thing} {a : Option Addr} {n cap : Nat} {ws : List (List UInt8)} : ∀ (W : World) (l1 : List Thing), Zoo w0 W (l1 ++ (l2 ++ KwT 9 1 a n cap (strs ws) :: r)) → Wrd W a ws := fun W l1 hz => krow_wrd (kw_row (l1 := l1 ++ l2) (by rw [List.append_assoc]; exact hz))
set_option maxHeartbeats 2000000 in
theorem dbegun (w : World) (hg : Gnd w) : Calls Tryz.prog 5 #[] w fun e w' => e = .returned (.bool true) ∧ Kp [] w w' := by
  have HN := hide (dnew (zoo_nil (Kp.refl [] w)))
  have HG := hide hg
  clear hg
  go_enter Tryz.func5, Tryz.ntmps5
  go_wp2_with (first | (go_at_call 7; refine (unhide HN).mono ?_; rintro e w1 ⟨d, hb, rfl, HZ1⟩; have HZ2 := hide (zoo_b (kw_lit (unhide HZ1) bgl 11 rfl #[.string ⟨#[115, 104, 111, 116, 32, 48]⟩, .string ⟨#[112, 117, 116, 32, 48, 32, 49, 32, 61, 97, 92, 50, 48, 98]⟩, .string ⟨#[103, 101, 116, 32, 48, 32, 49]⟩, .string ⟨#[99, 111, 109, 109, 105, 116, 32, 48]⟩, .string ⟨#[108, 111, 111, 107, 32, 49, 32, 48]⟩, .string ⟨#[103, 101, 116, 32, 49, 32, 49]⟩, .string ⟨#[108, 105, 115, 116, 32, 49, 32, 48, 32, 55]⟩, .string ⟨#[115, 117, 114, 101, 32, 50]⟩, .string ⟨#[108, 105, 115, 116, 32, 50, 32, 48, 32, 55]⟩, .string ⟨#[108, 97, 115, 116]⟩, .string ⟨#[120]⟩] rfl (by omega)))) | (go_at_call 9; refine (ddo bgl 11 rfl _ _ (kw_wrd (l2 := [])) bg_len (unhide HG) (unhide HZ2)).mono ?_; rintro e w3 ⟨rfl, _, hz3⟩; rw [bg_ok, bg_told]; have HZ3 := hide hz3.kp; clear hz3))
  go_ret
  refine ⟨rfl, (unhide HZ3).alloc _⟩
end
/- DeskJoins: what lines tell one behind the other they tell together. -/
section
open Go.RowKit
attribute [local go_sem ↓] Go.wp_at_zero Go.wp_at_succ

theorem Wrd.take {w : World} {a : Option Addr} {ws : List (List UInt8)} (h : Wrd w a ws) (k : Nat) : Wrd w a (ws.take k) := fun hp => by
  obtain ⟨g, o, e, h1⟩ := h (by rw [List.length_take] at hp; omega)
  refine ⟨g, o, e, fun j l hl => h1 j l ?_⟩
  rw [List.getElem?_take] at hl
  split at hl
  · exact hl
  · cases hl
theorem sl_cases {b : Bool} {p : Prop} (h : b = false → p) : (b = false ∧ p) ∨ b = true := by
  cases b with
  | false => exact .inl ⟨rfl, h rfl⟩
  | true => exact .inr rfl
theorem lft_small {ls : List (List UInt8)} (h : ls.length ≤ 150) : lft ls = lfg 0 ls := by unfold lft; rw [if_neg (by omega)]
theorem lft_parts {ls : List (List UInt8)} (h : ls.length ≤ 150) (k : Nat) : (lft ls).1 = 0 ↔ (lft (ls.take k)).1 = 0 ∧ (lft (ls.drop k)).1 = 0 := by
  rw [lft_small h, lft_small (by rw [List.length_take]; omega), lft_small (by rw [List.length_drop]; omega), lfg_iff, lfg_iff, lfg_iff]
  constructor
  · intro q
    exact ⟨fun l hl => q l (List.mem_of_mem_take hl), fun l hl => q l (List.mem_of_mem_drop hl)⟩
  · rintro ⟨q1, q2⟩ l hl
    rw [← List.take_append_drop k ls] at hl
    rcases List.mem_append.1 hl with e | e
    · exact q1 l e
    · exact q2 l e
theorem dox_join {ls : List (List UInt8)} (h : ls.length ≤ 150) (k : Nat) (h0 : HSt) (hz : (lft ls).1 = 0) : (dox h0 (ls.take k)).2 ++ (dox (dox h0 (ls.take k)).1 (ls.drop k)).2 = (dox h0 ls).2 := by
  obtain ⟨h1, h2⟩ := (lft_parts h k).1 hz
  have e0 : dox h0 ls = drun h0 ls := if_neg (fun q => q hz)
  have e1 : dox h0 (ls.take k) = drun h0 (ls.take k) := if_neg (fun q => q h1)
  have e2 : dox (drun h0 (ls.take k)).1 (ls.drop k) = drun (drun h0 (ls.take k)).1 (ls.drop k) := if_neg (fun q => q h2)
  rw [e0, e1, e2]
  have := drun_app h0 (ls.take k) (ls.drop k)
  rw [List.take_append_drop] at this
  rw [this]
set_option maxHeartbeats 8000000 in
theorem djoins (a : Option Addr) (n cap : Nat) (ls : List (List UInt8)) (ct : Int) (w : World) (hn : n = ls.length) (hnm : n ≤ 9223372036854775807) (hcap : n ≤ cap) (hw : Wrd w a ls) (hl : ∀ l ∈ ls, l.length ≤ 140737488355327) (hnone : a = none → cap = 0) (hg : Gnd w) :
    Calls Tryz.prog 4 #[.slice a n cap, .int .i64 ct] w fun e w' => e = .returned (.bool true) ∧ Below w.heap.size w w' := by
  have HB := hide (dbegun w hg)
  have HG := hide hg
  have HN := hide hn
  have HL := hide hl
  have HW := hide hw
  have HS := hide (fun W (hk : Kp [] w W) => dslow ls n hn a cap W (hw.kp0 hk) hnm hl)
  clear hg hn hl hw
  go_enter Tryz.func4, Tryz.ntmps4
  by_cases hbig : 150 < n
  · have i1 : (150 : Int) < (n : Int) := by omega
    go_wp2_with (go_at_call 5; refine (unhide HB).mono ?_; rintro e w1 ⟨rfl, hk1⟩; have HK1 := hide hk1; clear hk1)
    go_ret
    exact ⟨rfl, below_of_kp (unhide HK1)⟩
  have i1 : ¬ (150 : Int) < (n : Int) := by omega
  obtain ⟨k, hcut, hkn⟩ := cut_of ct (n := n) (by omega)
  have d0 : (0 : Int) ≤ (k : Int) := by omega
  have d1 : (k : Int) ≤ (cap : Int) := by omega
  have d2 : (k : Int) ≤ (n : Int) := by omega
  have hlen : ls.length ≤ 150 := by rw [← unhide HN]; omega
  have htk : (ls.take k).length = k := by rw [List.length_take, ← unhide HN]; omega
  have hdk : (ls.drop k).length = n - k := by rw [List.length_drop, ← unhide HN]
  have HTK := hide htk
  have HDK := hide hdk
  have HLE := hide hlen
  clear htk hdk hlen
  obtain ⟨⟨c1, p1⟩, hc1⟩ : ∃ q, lft (ls.take k) = q := ⟨_, rfl⟩
  obtain ⟨⟨c2, p2⟩, hc2⟩ : ∃ q, lft ls = q := ⟨_, rfl⟩
  obtain ⟨⟨c3, p3⟩, hc3⟩ : ∃ q, lft (ls.drop k) = q := ⟨_, rfl⟩
  obtain ⟨⟨s1, t1⟩, hT1⟩ : ∃ q, dox h00 (ls.take k) = q := ⟨_, rfl⟩
  obtain ⟨⟨s2, t2⟩, hT2⟩ : ∃ q, dox h00 ls = q := ⟨_, rfl⟩
  obtain ⟨⟨s3, t3⟩, hT3⟩ : ∃ q, dox s1 (ls.drop k) = q := ⟨_, rfl⟩
  have hpar := lft_parts (unhide HLE) k
  rw [hc1, hc2, hc3] at hpar
  dsimp only at hpar
  have hjoin : c2 = 0 → t1 ++ t3 = t2 := fun e => by
    have q := dox_join (unhide HLE) k h00 (by rw [hc2]; exact e)
    rw [hT1, hT2] at q
    dsimp only at q
    rw [hT3] at q
    exact q
  have hd1 : lsum ls ≤ 9000 → ∀ (W : World) (r : List Thing) (d hb : Nat) (aa : Option Addr) (cc : Nat), Wrd w aa (ls.take k) → Zoo w W (HalT hb h00 :: DskT d hb [] :: r) → Calls Tryz.prog 9 #[.pointer (some ⟨d, 0, none⟩), .slice aa k cc] W fun e w' => e = .returned (.tuple #[.string ⟨t1.toArray⟩, .agg #[.int .i64 c1, .int .i64 p1]]) ∧ t1.length ≤ 90000 ∧ Zoo w w' (HalT hb s1 :: DskT d hb [] :: r) := fun hs W r d hb aa cc hw1 hz1 => by
    have q := ddo (ls.take k) k (unhide HTK).symm aa cc (fun W' _ hz' => hw1.kp0 hz'.kp) (fun l hl => Nat.le_trans (lsum_mem (List.mem_of_mem_take hl)) (by omega)) (unhide HG) hz1
    unfold DoEnd at q
    rw [hT1, hc1] at q
    exact q
  have hd2 : lsum ls ≤ 9000 → ∀ (W : World) (r : List Thing) (d hb : Nat) (aa : Option Addr) (cc : Nat), Wrd w aa ls → Zoo w W (HalT hb h00 :: DskT d hb [] :: r) → Calls Tryz.prog 9 #[.pointer (some ⟨d, 0, none⟩), .slice aa n cc] W fun e w' => e = .returned (.tuple #[.string ⟨t2.toArray⟩, .agg #[.int .i64 c2, .int .i64 p2]]) ∧ t2.length ≤ 90000 ∧ Zoo w w' (HalT hb s2 :: DskT d hb [] :: r) := fun hs W r d hb aa cc hw1 hz1 => by
    have q := ddo ls n (unhide HN) aa cc (fun W' _ hz' => hw1.kp0 hz'.kp) (fun l hl => Nat.le_trans (lsum_mem hl) (by omega)) (unhide HG) hz1
    unfold DoEnd at q
    rw [hT2, hc2] at q
    exact q
  have hd3 : lsum ls ≤ 9000 → ∀ (W : World) (r : List Thing) (d hb : Nat) (aa : Option Addr) (cc : Nat), Wrd w aa (ls.drop k) → Zoo w W (HalT hb s1 :: DskT d hb [] :: r) → Calls Tryz.prog 9 #[.pointer (some ⟨d, 0, none⟩), .slice aa (n - k) cc] W fun e w' => e = .returned (.tuple #[.string ⟨t3.toArray⟩, .agg #[.int .i64 c3, .int .i64 p3]]) ∧ t3.length ≤ 90000 ∧ Zoo w w' (HalT hb s3 :: DskT d hb [] :: r) := fun hs W r d hb aa cc hw1 hz1 => by
    have q := ddo (ls.drop k) (n - k) (unhide HDK).symm aa cc (fun W' _ hz' => hw1.kp0 hz'.kp) (fun l hl => Nat.le_trans (lsum_mem (List.mem_of_mem_drop hl)) (by omega)) (unhide HG) hz1
    unfold DoEnd at q
    rw [hT3, hc3] at q
    exact q
  have HD1 := hide hd1
  have HD2 := hide hd2
  have HD3 := hide hd3
  have HJ := hide hjoin
  have hcase : (c2 = 0 ∧ c1 = 0 ∧ c3 = 0) ∨ (c2 ≠ 0 ∧ c1 ≠ 0) ∨ (c2 ≠ 0 ∧ c1 = 0 ∧ c3 ≠ 0) := by omega
  clear hd1 hd2 hd3 hjoin hc1 hc2 hc3 hT1 hT2 hT3 hpar
  have HW1 := hide ((unhide HW).take k)
  cases a with
  | none =>
    have hc0 := hnone rfl
    subst hc0
    have hn0 : n = 0 := by omega
    subst hn0
    have hk0 : k = 0 := by omega
    subst hk0
    have HWD : Hid (∀ aa, Wrd w aa (ls.drop 0)) := fun aa hp => by rw [List.drop_zero, ← unhide HN] at hp; omega
    rcases hcase with ⟨rfl, rfl, rfl⟩ | ⟨g2, g1⟩ | ⟨g2, rfl, g3⟩
    · have ht := unhide HJ rfl
      subst ht
      have hmk := mk_app t1 t3
      go_wp2_with (first | (go_at_call 5; refine (unhide HB).mono ?_; rintro e w1 ⟨rfl, hk1⟩; have HK1 := hide hk1; clear hk1) | (go_at_call 6; refine (unhide HS _ (unhide HK1)).mono ?_; rintro e w1b ⟨b, rfl, hb, hw1⟩; subst w1b; obtain ⟨rfl, hs⟩ | rfl := sl_cases hb) | (go_at_call 7; refine (dnew (unhide HZ2)).mono ?_; rintro e w3 ⟨dd2, hb2, rfl, HZ3⟩) | (go_at_call 7; refine (dnew (zoo_nil (unhide HK1))).mono ?_; rintro e w2 ⟨dd1, hb1, rfl, HZ2⟩) | (go_at_call 9; refine (unhide HD2 hs _ _ _ _ _ _ (unhide HW) (unhide HZ7)).mono ?_; rintro e w8 ⟨rfl, b4, hz8⟩; have HZ8 := hide (hz8.box #[.int .i64 0, .int .i64 p2] 31); have e3 := cell_of_block (i := 0) (zoo_varm (unhide HZ8) (List.Mem.tail _ (List.Mem.tail _ (List.Mem.tail _ (List.Mem.head _))))) rfl; have e4 := cell_of_block (i := 0) (zoo_varm (unhide HZ8) (List.Mem.tail _ (List.Mem.tail _ (List.Mem.tail _ (List.Mem.tail _ (List.Mem.tail _ (List.Mem.tail _ (List.Mem.tail _ (List.Mem.tail _ (List.Mem.tail _ (List.Mem.head _))))))))))) rfl; clear hz8) | (go_at_call 7; refine (dnew (unhide HZ6)).mono ?_; rintro e w7 ⟨dd3, hb3, rfl, HZ7⟩) | (go_at_call 9; refine (unhide HD3 hs _ _ _ _ _ _ (unhide HWD _) (zoo_42 (unhide HZ5))).mono ?_; rintro e w6 ⟨rfl, b3, hz6⟩; have hcat : ¬ 9223372036854775807 < t1.length + t3.length := (by omega); have HZ6 := hide (hz6.box #[.int .i64 0, .int .i64 p3] 31); have e1 := cell_of_block (i := 0) (zoo_varm (unhide HZ6) (List.Mem.tail _ (List.Mem.tail _ (List.Mem.tail _ (List.Mem.head _))))) rfl; have e2 := cell_of_block (i := 0) (zoo_varm (unhide HZ6) (List.Mem.tail _ (List.Mem.tail _ (List.Mem.tail _ (List.Mem.tail _ (List.Mem.tail _ (List.Mem.tail _ (List.Mem.head _)))))))) rfl; clear hz6) | (go_at_call 9; refine (unhide HD2 hs _ _ _ _ _ _ (unhide HW) (zoo_32 (unhide HZ4))).mono ?_; rintro e w5 ⟨rfl, b2, hz5⟩; have HZ5 := hide (hz5.box #[.int .i64 0, .int .i64 p2] 31); clear hz5) | (go_at_call 9; refine (unhide HD1 hs _ _ _ _ _ _ (unhide HW1) (zoo_22 (unhide HZ3))).mono ?_; rintro e w4 ⟨rfl, b1, hz4⟩; have HZ4 := hide (hz4.box #[.int .i64 0, .int .i64 p1] 31); clear hz4))
      all_goals (go_ret; first | exact ⟨rfl, below_of_kp (unhide HZ8).kp⟩ | exact ⟨rfl, below_of_kp (unhide HZ6).kp⟩ | exact ⟨rfl, below_of_kp (unhide HK1)⟩)
    · have g2b : (c2 != 0) = true := by simpa using g2
      have g1b : (c1 != 0) = true := by simpa using g1
      go_wp2_with (first | (go_at_call 5; refine (unhide HB).mono ?_; rintro e w1 ⟨rfl, hk1⟩; have HK1 := hide hk1; clear hk1) | (go_at_call 6; refine (unhide HS _ (unhide HK1)).mono ?_; rintro e w1b ⟨b, rfl, hb, hw1⟩; subst w1b; obtain ⟨rfl, hs⟩ | rfl := sl_cases hb) | (go_at_call 7; refine (dnew (unhide HZ2)).mono ?_; rintro e w3 ⟨dd2, hb2, rfl, HZ3⟩) | (go_at_call 7; refine (dnew (zoo_nil (unhide HK1))).mono ?_; rintro e w2 ⟨dd1, hb1, rfl, HZ2⟩) | (go_at_call 9; refine (unhide HD3 hs _ _ _ _ _ _ (unhide HWD _) (zoo_42 (unhide HZ5))).mono ?_; rintro e w6 ⟨rfl, b3, hz6⟩; have hcat : ¬ 9223372036854775807 < t1.length + t3.length := (by omega); have HZ6 := hide (hz6.box #[.int .i64 c3, .int .i64 p3] 31); have e1 := cell_of_block (i := 0) (zoo_varm (unhide HZ6) (List.Mem.tail _ (List.Mem.tail _ (List.Mem.tail _ (List.Mem.head _))))) rfl; have e2 := cell_of_block (i := 0) (zoo_varm (unhide HZ6) (List.Mem.tail _ (List.Mem.tail _ (List.Mem.tail _ (List.Mem.tail _ (List.Mem.tail _ (List.Mem.tail _ (List.Mem.head _)))))))) rfl; clear hz6) | (go_at_call 9; refine (unhide HD2 hs _ _ _ _ _ _ (unhide HW) (zoo_32 (unhide HZ4))).mono ?_; rintro e w5 ⟨rfl, b2, hz5⟩; have HZ5 := hide (hz5.box #[.int .i64 c2, .int .i64 p2] 31); clear hz5) | (go_at_call 9; refine (unhide HD1 hs _ _ _ _ _ _ (unhide HW1) (zoo_22 (unhide HZ3))).mono ?_; rintro e w4 ⟨rfl, b1, hz4⟩; have HZ4 := hide (hz4.box #[.int .i64 c1, .int .i64 p1] 31); clear hz4))
      all_goals (go_ret; first | exact ⟨rfl, below_of_kp (unhide HZ8).kp⟩ | exact ⟨rfl, below_of_kp (unhide HZ6).kp⟩ | exact ⟨rfl, below_of_kp (unhide HK1)⟩)
    · have g2b : (c2 != 0) = true := by simpa using g2
      have g3b : (c3 != 0) = true := by simpa using g3
      go_wp2_with (first | (go_at_call 5; refine (unhide HB).mono ?_; rintro e w1 ⟨rfl, hk1⟩; have HK1 := hide hk1; clear hk1) | (go_at_call 6; refine (unhide HS _ (unhide HK1)).mono ?_; rintro e w1b ⟨b, rfl, hb, hw1⟩; subst w1b; obtain ⟨rfl, hs⟩ | rfl := sl_cases hb) | (go_at_call 7; refine (dnew (unhide HZ2)).mono ?_; rintro e w3 ⟨dd2, hb2, rfl, HZ3⟩) | (go_at_call 7; refine (dnew (zoo_nil (unhide HK1))).mono ?_; rintro e w2 ⟨dd1, hb1, rfl, HZ2⟩) | (go_at_call 9; refine (unhide HD3 hs _ _ _ _ _ _ (unhide HWD _) (zoo_42 (unhide HZ5))).mono ?_; rintro e w6 ⟨rfl, b3, hz6⟩; have hcat : ¬ 9223372036854775807 < t1.length + t3.length := (by omega); have HZ6 := hide (hz6.box #[.int .i64 c3, .int .i64 p3] 31); have e1 := cell_of_block (i := 0) (zoo_varm (unhide HZ6) (List.Mem.tail _ (List.Mem.tail _ (List.Mem.tail _ (List.Mem.head _))))) rfl; have e2 := cell_of_block (i := 0) (zoo_varm (unhide HZ6) (List.Mem.tail _ (List.Mem.tail _ (List.Mem.tail _ (List.Mem.tail _ (List.Mem.tail _ (List.Mem.tail _ (List.Mem.head _)))))))) rfl; clear hz6) | (go_at_call 9; refine (unhide HD2 hs _ _ _ _ _ _ (unhide HW) (zoo_32 (unhide HZ4))).mono ?_; rintro e w5 ⟨rfl, b2, hz5⟩; have HZ5 := hide (hz5.box #[.int .i64 c2, .int .i64 p2] 31); clear hz5) | (go_at_call 9; refine (unhide HD1 hs _ _ _ _ _ _ (unhide HW1) (zoo_22 (unhide HZ3))).mono ?_; rintro e w4 ⟨rfl, b1, hz4⟩; have HZ4 := hide (hz4.box #[.int .i64 0, .int .i64 p1] 31); clear hz4))
      all_goals (go_ret; first | exact ⟨rfl, below_of_kp (unhide HZ8).kp⟩ | exact ⟨rfl, below_of_kp (unhide HZ6).kp⟩ | exact ⟨rfl, below_of_kp (unhide HK1)⟩)
  | some ad =>
    by_cases hn0 : n = 0
    · subst hn0
      have hk0 : k = 0 := by omega
      subst hk0
      have HWD : Hid (∀ aa, Wrd w aa (ls.drop 0)) := fun aa hp => by rw [List.drop_zero, ← unhide HN] at hp; omega
      have HW : Hid (∀ aa, Wrd w aa ls) := fun aa hp => by rw [← unhide HN] at hp; omega
      have HW1 : Hid (∀ aa, Wrd w aa (ls.take 0)) := fun aa hp => by simp at hp
      by_cases hc0 : cap = 0
      · subst hc0
        rcases hcase with ⟨rfl, rfl, rfl⟩ | ⟨g2, g1⟩ | ⟨g2, rfl, g3⟩
        · have ht := unhide HJ rfl
          subst ht
          have hmk := mk_app t1 t3
          go_wp2_with (first | (go_at_call 5; refine (unhide HB).mono ?_; rintro e w1 ⟨rfl, hk1⟩; have HK1 := hide hk1; clear hk1) | (go_at_call 6; refine (unhide HS _ (unhide HK1)).mono ?_; rintro e w1b ⟨b, rfl, hb, hw1⟩; subst w1b; obtain ⟨rfl, hs⟩ | rfl := sl_cases hb) | (go_at_call 7; refine (dnew (unhide HZ2)).mono ?_; rintro e w3 ⟨dd2, hb2, rfl, HZ3⟩) | (go_at_call 7; refine (dnew (zoo_nil (unhide HK1))).mono ?_; rintro e w2 ⟨dd1, hb1, rfl, HZ2⟩) | (go_at_call 9; refine (unhide HD2 hs _ _ _ _ _ _ (unhide HW _) (unhide HZ7)).mono ?_; rintro e w8 ⟨rfl, b4, hz8⟩; have HZ8 := hide (hz8.box #[.int .i64 0, .int .i64 p2] 31); have e3 := cell_of_block (i := 0) (zoo_varm (unhide HZ8) (List.Mem.tail _ (List.Mem.tail _ (List.Mem.tail _ (List.Mem.head _))))) rfl; have e4 := cell_of_block (i := 0) (zoo_varm (unhide HZ8) (List.Mem.tail _ (List.Mem.tail _ (List.Mem.tail _ (List.Mem.tail _ (List.Mem.tail _ (List.Mem.tail _ (List.Mem.tail _ (List.Mem.tail _ (List.Mem.tail _ (List.Mem.head _))))))))))) rfl; clear hz8) | (go_at_call 7; refine (dnew (unhide HZ6)).mono ?_; rintro e w7 ⟨dd3, hb3, rfl, HZ7⟩) | (go_at_call 9; refine (unhide HD3 hs _ _ _ _ _ _ (unhide HWD _) (zoo_42 (unhide HZ5))).mono ?_; rintro e w6 ⟨rfl, b3, hz6⟩; have hcat : ¬ 9223372036854775807 < t1.length + t3.length := (by omega); have HZ6 := hide (hz6.box #[.int .i64 0, .int .i64 p3] 31); have e1 := cell_of_block (i := 0) (zoo_varm (unhide HZ6) (List.Mem.tail _ (List.Mem.tail _ (List.Mem.tail _ (List.Mem.head _))))) rfl; have e2 := cell_of_block (i := 0) (zoo_varm (unhide HZ6) (List.Mem.tail _ (List.Mem.tail _ (List.Mem.tail _ (List.Mem.tail _ (List.Mem.tail _ (List.Mem.tail _ (List.Mem.head _)))))))) rfl; clear hz6) | (go_at_call 9; refine (unhide HD2 hs _ _ _ _ _ _ (unhide HW _) (zoo_32 (unhide HZ4))).mono ?_; rintro e w5 ⟨rfl, b2, hz5⟩; have HZ5 := hide (hz5.box #[.int .i64 0, .int .i64 p2] 31); clear hz5) | (go_at_call 9; refine (unhide HD1 hs _ _ _ _ _ _ (unhide HW1 _) (zoo_22 (unhide HZ3))).mono ?_; rintro e w4 ⟨rfl, b1, hz4⟩; have HZ4 := hide (hz4.box #[.int .i64 0, .int .i64 p1] 31); clear hz4))
          all_goals (go_ret; first | exact ⟨rfl, below_of_kp (unhide HZ8).kp⟩ | exact ⟨rfl, below_of_kp (unhide HZ6).kp⟩ | exact ⟨rfl, below_of_kp (unhide HK1)⟩)
        · have g2b : (c2 != 0) = true := by simpa using g2
          have g1b : (c1 != 0) = true := by simpa using g1
          go_wp2_with (first | (go_at_call 5; refine (unhide HB).mono ?_; rintro e w1 ⟨rfl, hk1⟩; have HK1 := hide hk1; clear hk1) | (go_at_call 6; refine (unhide HS _ (unhide HK1)).mono ?_; rintro e w1b ⟨b, rfl, hb, hw1⟩; subst w1b; obtain ⟨rfl, hs⟩ | rfl := sl_cases hb) | (go_at_call 7; refine (dnew (unhide HZ2)).mono ?_; rintro e w3 ⟨dd2, hb2, rfl, HZ3⟩) | (go_at_call 7; refine (dnew (zoo_nil (unhide HK1))).mono ?_; rintro e w2 ⟨dd1, hb1, rfl, HZ2⟩) | (go_at_call 9; refine (unhide HD3 hs _ _ _ _ _ _ (unhide HWD _) (zoo_42 (unhide HZ5))).mono ?_; rintro e w6 ⟨rfl, b3, hz6⟩; have hcat : ¬ 9223372036854775807 < t1.length + t3.length := (by omega); have HZ6 := hide (hz6.box #[.int .i64 c3, .int .i64 p3] 31); have e1 := cell_of_block (i := 0) (zoo_varm (unhide HZ6) (List.Mem.tail _ (List.Mem.tail _ (List.Mem.tail _ (List.Mem.head _))))) rfl; have e2 := cell_of_block (i := 0) (zoo_varm (unhide HZ6) (List.Mem.tail _ (List.Mem.tail _ (List.Mem.tail _ (List.Mem.tail _ (List.Mem.tail _ (List.Mem.tail _ (List.Mem.head _)))))))) rfl; clear hz6) | (go_at_call 9; refine (unhide HD2 hs _ _ _ _ _ _ (unhide HW _) (zoo_32 (unhide HZ4))).mono ?_; rintro e w5 ⟨rfl, b2, hz5⟩; have HZ5 := hide (hz5.box #[.int .i64 c2, .int .i64 p2] 31); clear hz5) | (go_at_call 9; refine (unhide HD1 hs _ _ _ _ _ _ (unhide HW1 _) (zoo_22 (unhide HZ3))).mono ?_; rintro e w4 ⟨rfl, b1, hz4⟩; have HZ4 := hide (hz4.box #[.int .i64 c1, .int .i64 p1] 31); clear hz4))
          all_goals (go_ret; first | exact ⟨rfl, below_of_kp (unhide HZ8).kp⟩ | exact ⟨rfl, below_of_kp (unhide HZ6).kp⟩ | exact ⟨rfl, below_of_kp (unhide HK1)⟩)
        · have g2b : (c2 != 0) = true := by simpa using g2
          have g3b : (c3 != 0) = true := by simpa using g3
          go_wp2_with (first | (go_at_call 5; refine (unhide HB).mono ?_; rintro e w1 ⟨rfl, hk1⟩; have HK1 := hide hk1; clear hk1) | (go_at_call 6; refine (unhide HS _ (unhide HK1)).mono ?_; rintro e w1b ⟨b, rfl, hb, hw1⟩; subst w1b; obtain ⟨rfl, hs⟩ | rfl := sl_cases hb) | (go_at_call 7; refine (dnew (unhide HZ2)).mono ?_; rintro e w3 ⟨dd2, hb2, rfl, HZ3⟩) | (go_at_call 7; refine (dnew (zoo_nil (unhide HK1))).mono ?_; rintro e w2 ⟨dd1, hb1, rfl, HZ2⟩) | (go_at_call 9; refine (unhide HD3 hs _ _ _ _ _ _ (unhide HWD _) (zoo_42 (unhide HZ5))).mono ?_; rintro e w6 ⟨rfl, b3, hz6⟩; have hcat : ¬ 9223372036854775807 < t1.length + t3.length := (by omega); have HZ6 := hide (hz6.box #[.int .i64 c3, .int .i64 p3] 31); have e1 := cell_of_block (i := 0) (zoo_varm (unhide HZ6) (List.Mem.tail _ (List.Mem.tail _ (List.Mem.tail _ (List.Mem.head _))))) rfl; have e2 := cell_of_block (i := 0) (zoo_varm (unhide HZ6) (List.Mem.tail _ (List.Mem.tail _ (List.Mem.tail _ (List.Mem.tail _ (List.Mem.tail _ (List.Mem.tail _ (List.Mem.head _)))))))) rfl; clear hz6) | (go_at_call 9; refine (unhide HD2 hs _ _ _ _ _ _ (unhide HW _) (zoo_32 (unhide HZ4))).mono ?_; rintro e w5 ⟨rfl, b2, hz5⟩; have HZ5 := hide (hz5.box #[.int .i64 c2, .int .i64 p2] 31); clear hz5) | (go_at_call 9; refine (unhide HD1 hs _ _ _ _ _ _ (unhide HW1 _) (zoo_22 (unhide HZ3))).mono ?_; rintro e w4 ⟨rfl, b1, hz4⟩; have HZ4 := hide (hz4.box #[.int .i64 0, .int .i64 p1] 31); clear hz4))
          all_goals (go_ret; first | exact ⟨rfl, below_of_kp (unhide HZ8).kp⟩ | exact ⟨rfl, below_of_kp (unhide HZ6).kp⟩ | exact ⟨rfl, below_of_kp (unhide HK1)⟩)
      · have hc1 : ¬ (0 : Nat) = cap := fun e => hc0 e.symm
        have hcz : (0 : Int) ≤ (cap : Int) := by omega
        rcases hcase with ⟨rfl, rfl, rfl⟩ | ⟨g2, g1⟩ | ⟨g2, rfl, g3⟩
        · have ht := unhide HJ rfl
          subst ht
          have hmk := mk_app t1 t3
          go_wp2_with (first | (go_at_call 5; refine (unhide HB).mono ?_; rintro e w1 ⟨rfl, hk1⟩; have HK1 := hide hk1; clear hk1) | (go_at_call 6; refine (unhide HS _ (unhide HK1)).mono ?_; rintro e w1b ⟨b, rfl, hb, hw1⟩; subst w1b; obtain ⟨rfl, hs⟩ | rfl := sl_cases hb) | (go_at_call 7; refine (dnew (unhide HZ2)).mono ?_; rintro e w3 ⟨dd2, hb2, rfl, HZ3⟩) | (go_at_call 7; refine (dnew (zoo_nil (unhide HK1))).mono ?_; rintro e w2 ⟨dd1, hb1, rfl, HZ2⟩) | (go_at_call 9; refine (unhide HD2 hs _ _ _ _ _ _ (unhide HW _) (unhide HZ7)).mono ?_; rintro e w8 ⟨rfl, b4, hz8⟩; have HZ8 := hide (hz8.box #[.int .i64 0, .int .i64 p2] 31); have e3 := cell_of_block (i := 0) (zoo_varm (unhide HZ8) (List.Mem.tail _ (List.Mem.tail _ (List.Mem.tail _ (List.Mem.head _))))) rfl; have e4 := cell_of_block (i := 0) (zoo_varm (unhide HZ8) (List.Mem.tail _ (List.Mem.tail _ (List.Mem.tail _ (List.Mem.tail _ (List.Mem.tail _ (List.Mem.tail _ (List.Mem.tail _ (List.Mem.tail _ (List.Mem.tail _ (List.Mem.head _))))))))))) rfl; clear hz8) | (go_at_call 7; refine (dnew (unhide HZ6)).mono ?_; rintro e w7 ⟨dd3, hb3, rfl, HZ7⟩) | (go_at_call 9; refine (unhide HD3 hs _ _ _ _ _ _ (unhide HWD _) (zoo_42 (unhide HZ5))).mono ?_; rintro e w6 ⟨rfl, b3, hz6⟩; have hcat : ¬ 9223372036854775807 < t1.length + t3.length := (by omega); have HZ6 := hide (hz6.box #[.int .i64 0, .int .i64 p3] 31); have e1 := cell_of_block (i := 0) (zoo_varm (unhide HZ6) (List.Mem.tail _ (List.Mem.tail _ (List.Mem.tail _ (List.Mem.head _))))) rfl; have e2 := cell_of_block (i := 0) (zoo_varm (unhide HZ6) (List.Mem.tail _ (List.Mem.tail _ (List.Mem.tail _ (List.Mem.tail _ (List.Mem.tail _ (List.Mem.tail _ (List.Mem.head _)))))))) rfl; clear hz6) | (go_at_call 9; refine (unhide HD2 hs _ _ _ _ _ _ (unhide HW _) (zoo_32 (unhide HZ4))).mono ?_; rintro e w5 ⟨rfl, b2, hz5⟩; have HZ5 := hide (hz5.box #[.int .i64 0, .int .i64 p2] 31); clear hz5) | (go_at_call 9; refine (unhide HD1 hs _ _ _ _ _ _ (unhide HW1 _) (zoo_22 (unhide HZ3))).mono ?_; rintro e w4 ⟨rfl, b1, hz4⟩; have HZ4 := hide (hz4.box #[.int .i64 0, .int .i64 p1] 31); clear hz4))
          all_goals (go_ret; first | exact ⟨rfl, below_of_kp (unhide HZ8).kp⟩ | exact ⟨rfl, below_of_kp (unhide HZ6).kp⟩ | exact ⟨rfl, below_of_kp (unhide HK1)⟩)
        · have g2b : (c2 != 0) = true := by simpa using g2
          have g1b : (c1 != 0) = true := by simpa using g1
          go_wp2_with (first | (go_at_call 5; refine (unhide HB).mono ?_; rintro e w1 ⟨rfl, hk1⟩; have HK1 := hide hk1; clear hk1) | (go_at_call 6; refine (unhide HS _ (unhide HK1)).mono ?_; rintro e w1b ⟨b, rfl, hb, hw1⟩; subst w1b; obtain ⟨rfl, hs⟩ | rfl := sl_cases hb) | (go_at_call 7; refine (dnew (unhide HZ2)).mono ?_; rintro e w3 ⟨dd2, hb2, rfl, HZ3⟩) | (go_at_call 7; refine (dnew (zoo_nil (unhide HK1))).mono ?_; rintro e w2 ⟨dd1, hb1, rfl, HZ2⟩) | (go_at_call 9; refine (unhide HD3 hs _ _ _ _ _ _ (unhide HWD _) (zoo_42 (unhide HZ5))).mono ?_; rintro e w6 ⟨rfl, b3, hz6⟩; have hcat : ¬ 9223372036854775807 < t1.length + t3.length := (by omega); have HZ6 := hide (hz6.box #[.int .i64 c3, .int .i64 p3] 31); have e1 := cell_of_block (i := 0) (zoo_varm (unhide HZ6) (List.Mem.tail _ (List.Mem.tail _ (List.Mem.tail _ (List.Mem.head _))))) rfl; have e2 := cell_of_block (i := 0) (zoo_varm (unhide HZ6) (List.Mem.tail _ (List.Mem.tail _ (List.Mem.tail _ (List.Mem.tail _ (List.Mem.tail _ (List.Mem.tail _ (List.Mem.head _)))))))) rfl; clear hz6) | (go_at_call 9; refine (unhide HD2 hs _ _ _ _ _ _ (unhide HW _) (zoo_32 (unhide HZ4))).mono ?_; rintro e w5 ⟨rfl, b2, hz5⟩; have HZ5 := hide (hz5.box #[.int .i64 c2, .int .i64 p2] 31); clear hz5) | (go_at_call 9; refine (unhide HD1 hs _ _ _ _ _ _ (unhide HW1 _) (zoo_22 (unhide HZ3))).mono ?_; rintro e w4 ⟨rfl, b1, hz4⟩; have HZ4 := hide (hz4.box #[.int .i64 c1, .int .i64 p1] 31); clear hz4))
          all_goals (go_ret; first | exact ⟨rfl, below_of_kp (unhide HZ8).kp⟩ | exact ⟨rfl, below_of_kp (unhide HZ6).kp⟩ | exact ⟨rfl, below_of_kp (unhide HK1)⟩)
        · have g2b : (c2 != 0) = true := by simpa using g2
          have g3b : (c3 != 0) = true := by simpa using g3
          go_wp2_with (first | (go_at_call 5; refine (unhide HB).mono ?_; rintro e w1 ⟨rfl, hk1⟩; have HK1 := hide hk1; clear hk1) | (go_at_call 6; refine (unhide HS _ (unhide HK1)).mono ?_; rintro e w1b ⟨b, rfl, hb, hw1⟩; subst w1b; obtain ⟨rfl, hs⟩ | rfl := sl_cases hb) | (go_at_call 7; refine (dnew (unhide HZ2)).mono ?_; rintro e w3 ⟨dd2, hb2, rfl, HZ3⟩) | (go_at_call 7; refine (dnew (zoo_nil (unhide HK1))).mono ?_; rintro e w2 ⟨dd1, hb1, rfl, HZ2⟩) | (go_at_call 9; refine (unhide HD3 hs _ _ _ _ _ _ (unhide HWD _) (zoo_42 (unhide HZ5))).mono ?_; rintro e w6 ⟨rfl, b3, hz6⟩; have hcat : ¬ 9223372036854775807 < t1.length + t3.length := (by omega); have HZ6 := hide (hz6.box #[.int .i64 c3, .int .i64 p3] 31); have e1 := cell_of_block (i := 0) (zoo_varm (unhide HZ6) (List.Mem.tail _ (List.Mem.tail _ (List.Mem.tail _ (List.Mem.head _))))) rfl; have e2 := cell_of_block (i := 0) (zoo_varm (unhide HZ6) (List.Mem.tail _ (List.Mem.tail _ (List.Mem.tail _ (List.Mem.tail _ (List.Mem.tail _ (List.Mem.tail _ (List.Mem.head _)))))))) rfl; clear hz6) | (go_at_call 9; refine (unhide HD2 hs _ _ _ _ _ _ (unhide HW _) (zoo_32 (unhide HZ4))).mono ?_; rintro e w5 ⟨rfl, b2, hz5⟩; have HZ5 := hide (hz5.box #[.int .i64 c2, .int .i64 p2] 31); clear hz5) | (go_at_call 9; refine (unhide HD1 hs _ _ _ _ _ _ (unhide HW1 _) (zoo_22 (unhide HZ3))).mono ?_; rintro e w4 ⟨rfl, b1, hz4⟩; have HZ4 := hide (hz4.box #[.int .i64 0, .int .i64 p1] 31); clear hz4))
          all_goals (go_ret; first | exact ⟨rfl, below_of_kp (unhide HZ8).kp⟩ | exact ⟨rfl, below_of_kp (unhide HZ6).kp⟩ | exact ⟨rfl, below_of_kp (unhide HK1)⟩)
    · obtain ⟨g, o, e, hcells⟩ := unhide HW (by rw [← unhide HN]; omega)
      cases e
      by_cases hck : cap = k
      · subst hck
        have hnk : n = cap := by omega
        subst hnk
        rw [Nat.sub_self] at HD3
        have HWD : Hid (∀ aa, Wrd w aa (ls.drop n)) := fun aa hp => by rw [List.length_drop, ← unhide HN] at hp; omega
        clear hcells
        rcases hcase with ⟨rfl, rfl, rfl⟩ | ⟨g2, g1⟩ | ⟨g2, rfl, g3⟩
        · have ht := unhide HJ rfl
          subst ht
          have hmk := mk_app t1 t3
          go_wp2_with (first | (go_at_call 5; refine (unhide HB).mono ?_; rintro e w1 ⟨rfl, hk1⟩; have HK1 := hide hk1; clear hk1) | (go_at_call 6; refine (unhide HS _ (unhide HK1)).mono ?_; rintro e w1b ⟨b, rfl, hb, hw1⟩; subst w1b; obtain ⟨rfl, hs⟩ | rfl := sl_cases hb) | (go_at_call 7; refine (dnew (unhide HZ2)).mono ?_; rintro e w3 ⟨dd2, hb2, rfl, HZ3⟩) | (go_at_call 7; refine (dnew (zoo_nil (unhide HK1))).mono ?_; rintro e w2 ⟨dd1, hb1, rfl, HZ2⟩) | (go_at_call 9; refine (unhide HD2 hs _ _ _ _ _ _ (unhide HW) (unhide HZ7)).mono ?_; rintro e w8 ⟨rfl, b4, hz8⟩; have HZ8 := hide (hz8.box #[.int .i64 0, .int .i64 p2] 31); have e3 := cell_of_block (i := 0) (zoo_varm (unhide HZ8) (List.Mem.tail _ (List.Mem.tail _ (List.Mem.tail _ (List.Mem.head _))))) rfl; have e4 := cell_of_block (i := 0) (zoo_varm (unhide HZ8) (List.Mem.tail _ (List.Mem.tail _ (List.Mem.tail _ (List.Mem.tail _ (List.Mem.tail _ (List.Mem.tail _ (List.Mem.tail _ (List.Mem.tail _ (List.Mem.tail _ (List.Mem.head _))))))))))) rfl; clear hz8) | (go_at_call 7; refine (dnew (unhide HZ6)).mono ?_; rintro e w7 ⟨dd3, hb3, rfl, HZ7⟩) | (go_at_call 9; refine (unhide HD3 hs _ _ _ _ _ _ (unhide HWD _) (zoo_42 (unhide HZ5))).mono ?_; rintro e w6 ⟨rfl, b3, hz6⟩; have hcat : ¬ 9223372036854775807 < t1.length + t3.length := (by omega); have HZ6 := hide (hz6.box #[.int .i64 0, .int .i64 p3] 31); have e1 := cell_of_block (i := 0) (zoo_varm (unhide HZ6) (List.Mem.tail _ (List.Mem.tail _ (List.Mem.tail _ (List.Mem.head _))))) rfl; have e2 := cell_of_block (i := 0) (zoo_varm (unhide HZ6) (List.Mem.tail _ (List.Mem.tail _ (List.Mem.tail _ (List.Mem.tail _ (List.Mem.tail _ (List.Mem.tail _ (List.Mem.head _)))))))) rfl; clear hz6) | (go_at_call 9; refine (unhide HD2 hs _ _ _ _ _ _ (unhide HW) (zoo_32 (unhide HZ4))).mono ?_; rintro e w5 ⟨rfl, b2, hz5⟩; have HZ5 := hide (hz5.box #[.int .i64 0, .int .i64 p2] 31); clear hz5) | (go_at_call 9; refine (unhide HD1 hs _ _ _ _ _ _ (unhide HW1) (zoo_22 (unhide HZ3))).mono ?_; rintro e w4 ⟨rfl, b1, hz4⟩; have HZ4 := hide (hz4.box #[.int .i64 0, .int .i64 p1] 31); clear hz4))
          all_goals (go_ret; first | exact ⟨rfl, below_of_kp (unhide HZ8).kp⟩ | exact ⟨rfl, below_of_kp (unhide HZ6).kp⟩ | exact ⟨rfl, below_of_kp (unhide HK1)⟩)
        · have g2b : (c2 != 0) = true := by simpa using g2
          have g1b : (c1 != 0) = true := by simpa using g1
          go_wp2_with (first | (go_at_call 5; refine (unhide HB).mono ?_; rintro e w1 ⟨rfl, hk1⟩; have HK1 := hide hk1; clear hk1) | (go_at_call 6; refine (unhide HS _ (unhide HK1)).mono ?_; rintro e w1b ⟨b, rfl, hb, hw1⟩; subst w1b; obtain ⟨rfl, hs⟩ | rfl := sl_cases hb) | (go_at_call 7; refine (dnew (unhide HZ2)).mono ?_; rintro e w3 ⟨dd2, hb2, rfl, HZ3⟩) | (go_at_call 7; refine (dnew (zoo_nil (unhide HK1))).mono ?_; rintro e w2 ⟨dd1, hb1, rfl, HZ2⟩) | (go_at_call 9; refine (unhide HD3 hs _ _ _ _ _ _ (unhide HWD _) (zoo_42 (unhide HZ5))).mono ?_; rintro e w6 ⟨rfl, b3, hz6⟩; have hcat : ¬ 9223372036854775807 < t1.length + t3.length := (by omega); have HZ6 := hide (hz6.box #[.int .i64 c3, .int .i64 p3] 31); have e1 := cell_of_block (i := 0) (zoo_varm (unhide HZ6) (List.Mem.tail _ (List.Mem.tail _ (List.Mem.tail _ (List.Mem.head _))))) rfl; have e2 := cell_of_block (i := 0) (zoo_varm (unhide HZ6) (List.Mem.tail _ (List.Mem.tail _ (List.Mem.tail _ (List.Mem.tail _ (List.Mem.tail _ (List.Mem.tail _ (List.Mem.head _)))))))) rfl; clear hz6) | (go_at_call 9; refine (unhide HD2 hs _ _ _ _ _ _ (unhide HW) (zoo_32 (unhide HZ4))).mono ?_; rintro e w5 ⟨rfl, b2, hz5⟩; have HZ5 := hide (hz5.box #[.int .i64 c2, .int .i64 p2] 31); clear hz5) | (go_at_call 9; refine (unhide HD1 hs _ _ _ _ _ _ (unhide HW1) (zoo_22 (unhide HZ3))).mono ?_; rintro e w4 ⟨rfl, b1, hz4⟩; have HZ4 := hide (hz4.box #[.int .i64 c1, .int .i64 p1] 31); clear hz4))
          all_goals (go_ret; first | exact ⟨rfl, below_of_kp (unhide HZ8).kp⟩ | exact ⟨rfl, below_of_kp (unhide HZ6).kp⟩ | exact ⟨rfl, below_of_kp (unhide HK1)⟩)
        · have g2b : (c2 != 0) = true := by simpa using g2
          have g3b : (c3 != 0) = true := by simpa using g3
          go_wp2_with (first | (go_at_call 5; refine (unhide HB).mono ?_; rintro e w1 ⟨rfl, hk1⟩; have HK1 := hide hk1; clear hk1) | (go_at_call 6; refine (unhide HS _ (unhide HK1)).mono ?_; rintro e w1b ⟨b, rfl, hb, hw1⟩; subst w1b; obtain ⟨rfl, hs⟩ | rfl := sl_cases hb) | (go_at_call 7; refine (dnew (unhide HZ2)).mono ?_; rintro e w3 ⟨dd2, hb2, rfl, HZ3⟩) | (go_at_call 7; refine (dnew (zoo_nil (unhide HK1))).mono ?_; rintro e w2 ⟨dd1, hb1, rfl, HZ2⟩) | (go_at_call 9; refine (unhide HD3 hs _ _ _ _ _ _ (unhide HWD _) (zoo_42 (unhide HZ5))).mono ?_; rintro e w6 ⟨rfl, b3, hz6⟩; have hcat : ¬ 9223372036854775807 < t1.length + t3.length := (by omega); have HZ6 := hide (hz6.box #[.int .i64 c3, .int .i64 p3] 31); have e1 := cell_of_block (i := 0) (zoo_varm (unhide HZ6) (List.Mem.tail _ (List.Mem.tail _ (List.Mem.tail _ (List.Mem.head _))))) rfl; have e2 := cell_of_block (i := 0) (zoo_varm (unhide HZ6) (List.Mem.tail _ (List.Mem.tail _ (List.Mem.tail _ (List.Mem.tail _ (List.Mem.tail _ (List.Mem.tail _ (List.Mem.head _)))))))) rfl; clear hz6) | (go_at_call 9; refine (unhide HD2 hs _ _ _ _ _ _ (unhide HW) (zoo_32 (unhide HZ4))).mono ?_; rintro e w5 ⟨rfl, b2, hz5⟩; have HZ5 := hide (hz5.box #[.int .i64 c2, .int .i64 p2] 31); clear hz5) | (go_at_call 9; refine (unhide HD1 hs _ _ _ _ _ _ (unhide HW1) (zoo_22 (unhide HZ3))).mono ?_; rintro e w4 ⟨rfl, b1, hz4⟩; have HZ4 := hide (hz4.box #[.int .i64 0, .int .i64 p1] 31); clear hz4))
          all_goals (go_ret; first | exact ⟨rfl, below_of_kp (unhide HZ8).kp⟩ | exact ⟨rfl, below_of_kp (unhide HZ6).kp⟩ | exact ⟨rfl, below_of_kp (unhide HK1)⟩)
      · have HWD : Hid (Wrd w (some ⟨g, o + k, none⟩) (ls.drop k)) := fun _ => ⟨g, o + k, rfl, fun j l hl => by
          rw [List.getElem?_drop] at hl
          have := hcells (k + j) l hl
          rwa [show o + k + j = o + (k + j) by omega]⟩
        clear hcells
        rcases hcase with ⟨rfl, rfl, rfl⟩ | ⟨g2, g1⟩ | ⟨g2, rfl, g3⟩
        · have ht := unhide HJ rfl
          subst ht
          have hmk := mk_app t1 t3
          go_wp2_with (first | (go_at_call 5; refine (unhide HB).mono ?_; rintro e w1 ⟨rfl, hk1⟩; have HK1 := hide hk1; clear hk1) | (go_at_call 6; refine (unhide HS _ (unhide HK1)).mono ?_; rintro e w1b ⟨b, rfl, hb, hw1⟩; subst w1b; obtain ⟨rfl, hs⟩ | rfl := sl_cases hb) | (go_at_call 7; refine (dnew (unhide HZ2)).mono ?_; rintro e w3 ⟨dd2, hb2, rfl, HZ3⟩) | (go_at_call 7; refine (dnew (zoo_nil (unhide HK1))).mono ?_; rintro e w2 ⟨dd1, hb1, rfl, HZ2⟩) | (go_at_call 9; refine (unhide HD2 hs _ _ _ _ _ _ (unhide HW) (unhide HZ7)).mono ?_; rintro e w8 ⟨rfl, b4, hz8⟩; have HZ8 := hide (hz8.box #[.int .i64 0, .int .i64 p2] 31); have e3 := cell_of_block (i := 0) (zoo_varm (unhide HZ8) (List.Mem.tail _ (List.Mem.tail _ (List.Mem.tail _ (List.Mem.head _))))) rfl; have e4 := cell_of_block (i := 0) (zoo_varm (unhide HZ8) (List.Mem.tail _ (List.Mem.tail _ (List.Mem.tail _ (List.Mem.tail _ (List.Mem.tail _ (List.Mem.tail _ (List.Mem.tail _ (List.Mem.tail _ (List.Mem.tail _ (List.Mem.head _))))))))))) rfl; clear hz8) | (go_at_call 7; refine (dnew (unhide HZ6)).mono ?_; rintro e w7 ⟨dd3, hb3, rfl, HZ7⟩) | (go_at_call 9; refine (unhide HD3 hs _ _ _ _ _ _ (unhide HWD) (zoo_42 (unhide HZ5))).mono ?_; rintro e w6 ⟨rfl, b3, hz6⟩; have hcat : ¬ 9223372036854775807 < t1.length + t3.length := (by omega); have HZ6 := hide (hz6.box #[.int .i64 0, .int .i64 p3] 31); have e1 := cell_of_block (i := 0) (zoo_varm (unhide HZ6) (List.Mem.tail _ (List.Mem.tail _ (List.Mem.tail _ (List.Mem.head _))))) rfl; have e2 := cell_of_block (i := 0) (zoo_varm (unhide HZ6) (List.Mem.tail _ (List.Mem.tail _ (List.Mem.tail _ (List.Mem.tail _ (List.Mem.tail _ (List.Mem.tail _ (List.Mem.head _)))))))) rfl; clear hz6) | (go_at_call 9; refine (unhide HD2 hs _ _ _ _ _ _ (unhide HW) (zoo_32 (unhide HZ4))).mono ?_; rintro e w5 ⟨rfl, b2, hz5⟩; have HZ5 := hide (hz5.box #[.int .i64 0, .int .i64 p2] 31); clear hz5) | (go_at_call 9; refine (unhide HD1 hs _ _ _ _ _ _ (unhide HW1) (zoo_22 (unhide HZ3))).mono ?_; rintro e w4 ⟨rfl, b1, hz4⟩; have HZ4 := hide (hz4.box #[.int .i64 0, .int .i64 p1] 31); clear hz4))
          all_goals (go_ret; first | exact ⟨rfl, below_of_kp (unhide HZ8).kp⟩ | exact ⟨rfl, below_of_kp (unhide HZ6).kp⟩ | exact ⟨rfl, below_of_kp (unhide HK1)⟩)
        · have g2b : (c2 != 0) = true := by simpa using g2
          have g1b : (c1 != 0) = true := by simpa using g1
          go_wp2_with (first | (go_at_call 5; refine (unhide HB).mono ?_; rintro e w1 ⟨rfl, hk1⟩; have HK1 := hide hk1; clear hk1) | (go_at_call 6; refine (unhide HS _ (unhide HK1)).mono ?_; rintro e w1b ⟨b, rfl, hb, hw1⟩; subst w1b; obtain ⟨rfl, hs⟩ | rfl := sl_cases hb) | (go_at_call 7; refine (dnew (unhide HZ2)).mono ?_; rintro e w3 ⟨dd2, hb2, rfl, HZ3⟩) | (go_at_call 7; refine (dnew (zoo_nil (unhide HK1))).mono ?_; rintro e w2 ⟨dd1, hb1, rfl, HZ2⟩) | (go_at_call 9; refine (unhide HD3 hs _ _ _ _ _ _ (unhide HWD) (zoo_42 (unhide HZ5))).mono ?_; rintro e w6 ⟨rfl, b3, hz6⟩; have hcat : ¬ 9223372036854775807 < t1.length + t3.length := (by omega); have HZ6 := hide (hz6.box #[.int .i64 c3, .int .i64 p3] 31); have e1 := cell_of_block (i := 0) (zoo_varm (unhide HZ6) (List.Mem.tail _ (List.Mem.tail _ (List.Mem.tail _ (List.Mem.head _))))) rfl; have e2 := cell_of_block (i := 0) (zoo_varm (unhide HZ6) (List.Mem.tail _ (List.Mem.tail _ (List.Mem.tail _ (List.Mem.tail _ (List.Mem.tail _ (List.Mem.tail _ (List.Mem.head _)))))))) rfl; clear hz6) | (go_at_call 9; refine (unhide HD2 hs _ _ _ _ _ _ (unhide HW) (zoo_32 (unhide HZ4))).mono ?_; rintro e w5 ⟨rfl, b2, hz5⟩; have HZ5 := hide (hz5.box #[.int .i64 c2, .int .i64 p2] 31); clear hz5) | (go_at_call 9; refine (unhide HD1 hs _ _ _ _ _ _ (unhide HW1) (zoo_22 (unhide HZ3))).mono ?_; rintro e w4 ⟨rfl, b1, hz4⟩; have HZ4 := hide (hz4.box #[.int .i64 c1, .int .i64 p1] 31); clear hz4))
          all_goals (go_ret; first | exact ⟨rfl, below_of_kp (unhide HZ8).kp⟩ | exact ⟨rfl, below_of_kp (unhide HZ6).kp⟩ | exact ⟨rfl, below_of_kp (unhide HK1)⟩)
        · have g2b : (c2 != 0) = true := by simpa using g2
          have g3b : (c3 != 0) = true := by simpa using g3
          go_wp2_with (first | (go_at_call 5; refine (unhide HB).mono ?_; rintro e w1 ⟨rfl, hk1⟩; have HK1 := hide hk1; clear hk1) | (go_at_call 6; refine (unhide HS _ (unhide HK1)).mono ?_; rintro e w1b ⟨b, rfl, hb, hw1⟩; subst w1b; obtain ⟨rfl, hs⟩ | rfl := sl_cases hb) | (go_at_call 7; refine (dnew (unhide HZ2)).mono ?_; rintro e w3 ⟨dd2, hb2, rfl, HZ3⟩) | (go_at_call 7; refine (dnew (zoo_nil (unhide HK1))).mono ?_; rintro e w2 ⟨dd1, hb1, rfl, HZ2⟩) | (go_at_call 9; refine (unhide HD3 hs _ _ _ _ _ _ (unhide HWD) (zoo_42 (unhide HZ5))).mono ?_; rintro e w6 ⟨rfl, b3, hz6⟩; have hcat : ¬ 9223372036854775807 < t1.length + t3.length := (by omega); have HZ6 := hide (hz6.box #[.int .i64 c3, .int .i64 p3] 31); have e1 := cell_of_block (i := 0) (zoo_varm (unhide HZ6) (List.Mem.tail _ (List.Mem.tail _ (List.Mem.tail _ (List.Mem.head _))))) rfl; have e2 := cell_of_block (i := 0) (zoo_varm (unhide HZ6) (List.Mem.tail _ (List.Mem.tail _ (List.Mem.tail _ (List.Mem.tail _ (List.Mem.tail _ (List.Mem.tail _ (List.Mem.head _)))))))) rfl; clear hz6) | (go_at_call 9; refine (unhide HD2 hs _ _ _ _ _ _ (unhide HW) (zoo_32 (unhide HZ4))).mono ?_; rintro e w5 ⟨rfl, b2, hz5⟩; have HZ5 := hide (hz5.box #[.int .i64 c2, .int .i64 p2] 31); clear hz5) | (go_at_call 9; refine (unhide HD1 hs _ _ _ _ _ _ (unhide HW1) (zoo_22 (unhide HZ3))).mono ?_; rintro e w4 ⟨rfl, b1, hz4⟩; have HZ4 := hide (hz4.box #[.int .i64 0, .int .i64 p1] 31); clear hz4))
          all_goals (go_ret; first | exact ⟨rfl, below_of_kp (unhide HZ8).kp⟩ | exact ⟨rfl, below_of_kp (unhide HZ6).kp⟩ | exact ⟨rfl, below_of_kp (unhide HK1)⟩)
end
end Go.Proofs.YtldkeaeohceckadGreatDoor
