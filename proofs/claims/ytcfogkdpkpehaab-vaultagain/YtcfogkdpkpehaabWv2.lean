/- VaultAgain, walked. -/
import Derived.Test.YtcfogkdpkpehaabV4
namespace Go.Proofs.Ytcfogkdpkpehaab
open Go.RowKit
set_option maxRecDepth 20000
attribute [local go_sem ↓] Go.wp_at_zero Go.wp_at_succ

theorem l_log {w0 w : World} {vb tb gb : Nat} {f : Nat → List Ver} {n : Nat} {cs : List (List Ver)} {r : List Thing} {bs : List UInt8} (hb : lb cs ++ [] = bs) (hz : Zoo w0 w (VltT vb tb gb f n cs [] :: r)) :
    Calls Try.prog 45 #[.pointer (some ⟨vb, 0, none⟩)] w fun e w' => BtEnd bs w e w' := by
  obtain ⟨F, ⟨Ft, Fg, k⟩, _⟩ := zoo_at0 hz
  subst hb
  exact vlog w k
theorem l_first' {w0 w : World} {vb tb gb : Nat} {f : Nat → List Ver} {n : Nat} {cs : List (List Ver)} {r : List Thing} (x : Int) (hx : fmx f 8 = x) (hz : Zoo w0 w (VltT vb tb gb f n cs [] :: r)) : Calls Try.prog 44 #[.pointer (some ⟨tb, 0, none⟩)] w fun e w' => e = .returned (.int .i64 x) ∧ w' = w := by
  subst hx
  exact l_first hz
set_option maxHeartbeats 4000000 in
theorem vagain12 (a : Option Addr) (n1 c : Nat) (st : Nat → VStep) (w : World) (h : VSts w a n1 st) :
    Calls Try.prog 12 #[.slice a n1 c] w fun e w' => e = .returned (.bool true) ∧ Below w.heap.size w w' := by
  have HS := hide h
  obtain ⟨in0, hi0, hz0, hz1, hz2⟩ := info_parts Try.info89
  clear h
  go_enter Try.func12, Try.ntmps12
  go_wp2_with fail
  refine (vbegun w).mono ?_
  rintro e w1 ⟨rfl, hk1⟩
  have HK1 := hide hk1
  clear hk1
  go_wp2_with fail
  refine (gvault a n1 c st w1 ((unhide HS).kp0 (unhide HK1))).mono ?_
  rintro e w' ⟨q, rfl, hq, hw'⟩
  subst w'
  cases q with
  | true =>
    clear hq
    go_wp2_with fail
    go_ret
    exact ⟨rfl, (unhide HK1).below (Nat.le_refl _) (by simp)⟩
  | false =>
  have h150 := hq rfl
  clear hq
  go_wp2_with fail
  refine (newHouse w1).mono ?_
  rintro e w2 ⟨hb, vb, cb, rfl, c0, HH⟩
  go_wp2_with fail
  clear c0
  go_loopw [4] (fun i wr => ∃ k : Nat, k ≤ n1 ∧ i = .int .i64 k ∧ Hid (Hou w1 wr hb vb cb k)) (fun i _ => n1 - (intOf i).toNat)
  case atStart => exact ⟨0, by omega, rfl, HH⟩
  case round =>
    obtain ⟨k, hk, rfl, HI⟩ := hrel
    by_cases hlt : k < n1
    · obtain ⟨lb', lo, rfl, hst⟩ := (unhide HS).2 (by omega)
      obtain ⟨q0, q1, q2, q3, q4, q5, q6, q7, hsz⟩ := (hst k hlt).kp0 ((unhide HK1).trans0 (unhide HI).kp)
      have q7' : wr.cell? ⟨lb', lo + k * 8 + 7, none⟩ = some (.string (st k).s) := q7
      have i0 : (0 : Int) ≤ (k : Int) := by omega
      have i1 : (k : Int) < (n1 : Int) := by omega
      have HST := hstep (st k) wr (unhide HI) (by omega) hsz
      have HSTP := hide HST
      clear hst HST hsz
      generalize (st k) = x at *
      obtain ⟨xd, xk, xm, xa, xy, xp, xt, xs⟩ := x
      dsimp only at q0 q1 q2 q3 q4 q5 q6 q7 q7' HSTP
      go_wp2_with fail
      refine (unhide HSTP).mono ?_
      rintro e w4 ⟨rfl, HI4⟩
      clear q0 q1 q2 q3 q4 q5 q6 q7 q7' HSTP
      go_wp2_with fail
      exact ⟨⟨k + 1, by omega, by go_num, HI4⟩, by simp [intOf]; omega⟩
    · have i1 : ¬ (k : Int) < (n1 : Int) := by omega
      obtain ⟨tb, gb, sb, f, n, cs, sts, ds, hh⟩ := unhide HI
      have HVI := hide hh.vi
      have HZ := hide (zoo_swap hh.zoo)
      have HINV := hide (l_inv (unhide HZ))
      have hn40 := (unhide HINV).1.n40
      have HLEN := hide hh.vi.len
      obtain ⟨x0, x1⟩ := fmx_le (unhide HINV).1 8 (Nat.le_refl _)
      obtain ⟨m, hm⟩ : ∃ m : Nat, fmx f 8 = (m : Int) := ⟨(fmx f 8).toNat, by omega⟩
      have hmn : m ≤ n := by omega
      have HM := hide hm
      obtain ⟨bs, hbs⟩ : ∃ bs, lb cs ++ [] = bs := ⟨_, rfl⟩
      have HBS := hide hbs
      clear hh hm x0 x1 hbs
      generalize hR : (CrtT cb sb f n cs [] sts :: List.map prt ds) = R at HZ
      clear hR
      have HZD := hide ((unhide HZ).kp0 (Kp.refl [] _).drew)
      obtain ⟨h0, v0, hl, vl⟩ := lk_facts (unhide HZD) (List.Mem.tail _ (List.Mem.head _)) (List.Mem.head _)
      clear HZ
      go_wp2_with fail
      refine wp_region_held_drew (S := fun w' => w'.cell? ⟨hb, 0, none⟩ = some (.pointer (some ⟨vb, 0, none⟩)) ∧ w'.cell? ⟨vb, 0, none⟩ = some (.pointer (some ⟨tb, 0, none⟩))) (by kernel_rfl) ⟨h0, v0⟩ (fun hHeld => ?_)
      clear h0 v0 hl vl
      generalize World.drew _ = WD at HZD hHeld ⊢
      refine wpAnyH_tk (i := 0) (v := ?_) rfl (by kernel_rfl) (by kernel_rfl) (by kernel_rfl) (fun _ _ _ h => h) (Or.inl ⟨by rfl, ?_⟩) hHeld ?_
      rotate_left
      · intro w hSw
        try dsimp only at hSw
        go_simp
        try with_reducible rfl
      try simp only [Act.put, List.setIfInBounds_toArray, List.set_cons_zero, List.set_cons_succ]
      refine wpAnyH_tk (i := 1) (v := ?_) rfl (by kernel_rfl) (by kernel_rfl) (by kernel_rfl) (fun _ _ _ h => h) (Or.inl ⟨by rfl, ?_⟩) hHeld ?_
      rotate_left
      · intro w hSw
        try dsimp only at hSw
        go_simp
        try with_reducible rfl
      try simp only [Act.put, List.setIfInBounds_toArray, List.set_cons_zero, List.set_cons_succ]
      refine wpAnyH_tk (i := 2) (v := ?_) rfl (by kernel_rfl) (by kernel_rfl) (by kernel_rfl) (fun _ _ _ h => h) (Or.inl ⟨by rfl, ?_⟩) hHeld ?_
      rotate_left
      · intro w hSw
        try dsimp only at hSw
        go_simp
        try with_reducible rfl
      try simp only [Act.put, List.setIfInBounds_toArray, List.set_cons_zero, List.set_cons_succ]
      refine wpAnyH_tk (i := 3) (v := ?_) rfl (by kernel_rfl) (by kernel_rfl) (by kernel_rfl) (fun _ _ _ h => h) (Or.inl ⟨by rfl, ?_⟩) hHeld ?_
      rotate_left
      · intro w hSw
        try dsimp only at hSw
        go_simp
        try with_reducible rfl
      try simp only [Act.put, List.setIfInBounds_toArray, List.set_cons_zero, List.set_cons_succ]
      refine wpAnyH_tk (i := 4) (v := ?_) rfl (by kernel_rfl) (by kernel_rfl) (by kernel_rfl) (fun _ _ _ h => h) (Or.inl ⟨by rfl, ?_⟩) hHeld ?_
      rotate_left
      · intro w hSw
        try dsimp only at hSw
        go_simp
        try with_reducible rfl
      try simp only [Act.put, List.setIfInBounds_toArray, List.set_cons_zero, List.set_cons_succ]
      refine wpAnyH_tk (i := 5) (v := ?_) rfl (by kernel_rfl) (by kernel_rfl) (by kernel_rfl) (fun _ _ _ h => h) (Or.inl ⟨by rfl, ?_⟩) hHeld ?_
      rotate_left
      · intro w hSw
        try dsimp only at hSw
        go_simp
        try with_reducible rfl
      try simp only [Act.put, List.setIfInBounds_toArray, List.set_cons_zero, List.set_cons_succ]
      refine wpAnyH_tk (i := 6) (v := ?_) rfl (by kernel_rfl) (by kernel_rfl) (by kernel_rfl) (fun _ _ _ h => h) (Or.inl ⟨by rfl, ?_⟩) hHeld ?_
      rotate_left
      · intro w hSw
        try dsimp only at hSw
        go_simp
        try with_reducible rfl
      try simp only [Act.put, List.setIfInBounds_toArray, List.set_cons_zero, List.set_cons_succ]
      refine wpAnyH_tk (i := 8) (v := ?_) rfl (by kernel_rfl) (by kernel_rfl) (by kernel_rfl) (fun _ _ _ h => h) (Or.inl ⟨by rfl, ?_⟩) hHeld ?_
      rotate_left
      · intro w hSw
        try dsimp only at hSw
        go_simp
        try with_reducible rfl
      try simp only [Act.put, List.setIfInBounds_toArray, List.set_cons_zero, List.set_cons_succ]
      refine wpAnyH_tk (i := 9) (v := ?_) rfl (by kernel_rfl) (by kernel_rfl) (by kernel_rfl) (fun _ _ _ h => h) (Or.inl ⟨by rfl, ?_⟩) hHeld ?_
      rotate_left
      · intro w hSw
        try dsimp only at hSw
        go_simp
        try with_reducible rfl
      try simp only [Act.put, List.setIfInBounds_toArray, List.set_cons_zero, List.set_cons_succ]
      refine wpAnyH_tk (i := 10) (v := ?_) rfl (by kernel_rfl) (by kernel_rfl) (by kernel_rfl) (fun _ _ _ h => h) (Or.inl ⟨by rfl, ?_⟩) hHeld ?_
      rotate_left
      · intro w hSw
        try dsimp only at hSw
        go_simp
        try with_reducible rfl
      try simp only [Act.put, List.setIfInBounds_toArray, List.set_cons_zero, List.set_cons_succ]
      refine wpAnyH_tk (i := 11) (v := ?_) rfl (by kernel_rfl) (by kernel_rfl) (by kernel_rfl) (fun _ _ _ h => h) (Or.inl ⟨by rfl, ?_⟩) hHeld ?_
      rotate_left
      · intro w hSw
        try dsimp only at hSw
        go_simp
        try with_reducible rfl
      try simp only [Act.put, List.setIfInBounds_toArray, List.set_cons_zero, List.set_cons_succ]
      refine wpAnyH_tk (i := 12) (v := ?_) rfl (by kernel_rfl) (by kernel_rfl) (by kernel_rfl) (fun _ _ _ h => h) (Or.inl ⟨by rfl, ?_⟩) hHeld ?_
      rotate_left
      · intro w hSw
        try dsimp only at hSw
        go_simp
        try with_reducible rfl
      try simp only [Act.put, List.setIfInBounds_toArray, List.set_cons_zero, List.set_cons_succ]
      refine wpAnyH_tk (i := 13) (v := ?_) rfl (by kernel_rfl) (by kernel_rfl) (by kernel_rfl) (fun _ _ _ h => h) (Or.inl ⟨by rfl, ?_⟩) hHeld ?_
      rotate_left
      · intro w hSw
        try dsimp only at hSw
        go_simp
        try with_reducible rfl
      try simp only [Act.put, List.setIfInBounds_toArray, List.set_cons_zero, List.set_cons_succ]
      refine wpAnyH_tk (i := 14) (v := ?_) rfl (by kernel_rfl) (by kernel_rfl) (by kernel_rfl) (fun _ _ _ h => h) (Or.inl ⟨by rfl, ?_⟩) hHeld ?_
      rotate_left
      · intro w hSw
        try dsimp only at hSw
        go_simp
        try with_reducible rfl
      try simp only [Act.put, List.setIfInBounds_toArray, List.set_cons_zero, List.set_cons_succ]
      refine wpAnyH_tk (i := 16) (v := ?_) rfl (by kernel_rfl) (by kernel_rfl) (by kernel_rfl) (fun _ _ _ h => h) (Or.inl ⟨by rfl, ?_⟩) hHeld ?_
      rotate_left
      · intro w hSw
        try dsimp only at hSw
        go_simp
        try with_reducible rfl
      try simp only [Act.put, List.setIfInBounds_toArray, List.set_cons_zero, List.set_cons_succ]
      refine wpAnyH_tk (i := 17) (v := ?_) rfl (by kernel_rfl) (by kernel_rfl) (by kernel_rfl) (fun _ _ _ h => h) (Or.inl ⟨by rfl, ?_⟩) hHeld ?_
      rotate_left
      · intro w hSw
        try dsimp only at hSw
        go_simp
        try with_reducible rfl
      try simp only [Act.put, List.setIfInBounds_toArray, List.set_cons_zero, List.set_cons_succ]
      refine wpAnyH_tk (i := 18) (v := ?_) rfl (by kernel_rfl) (by kernel_rfl) (by kernel_rfl) (fun _ _ _ h => h) (Or.inl ⟨by rfl, ?_⟩) hHeld ?_
      rotate_left
      · intro w hSw
        try dsimp only at hSw
        go_simp
        try with_reducible rfl
      try simp only [Act.put, List.setIfInBounds_toArray, List.set_cons_zero, List.set_cons_succ]
      refine wpAnyH_tk (i := 19) (v := ?_) rfl (by kernel_rfl) (by kernel_rfl) (by kernel_rfl) (fun _ _ _ h => h) (Or.inl ⟨by rfl, ?_⟩) hHeld ?_
      rotate_left
      · intro w hSw
        try dsimp only at hSw
        go_simp
        try with_reducible rfl
      try simp only [Act.put, List.setIfInBounds_toArray, List.set_cons_zero, List.set_cons_succ]
      refine wpAnyH_only (i := 7) rfl (by kernel_rfl) (fun K hK => ?_)
      go_simp
      refine (l_last (unhide HZD)).mono ?_
      rintro e w' ⟨rfl, hw'⟩
      subst w'
      go_wp2_with fail
      refine hK.out _ _ (hHeld) (fun hHeld2 => ?_)
      clear hK K hHeld
      have hHeld := hHeld2
      clear hHeld2
      try simp only [Act.put, List.setIfInBounds_toArray, List.set_cons_zero, List.set_cons_succ]
      refine wpAnyH_only (i := 15) rfl (by kernel_rfl) (fun K hK => ?_)
      go_simp
      refine (l_first' m (unhide HM) (unhide HZD)).mono ?_
      rintro e w' ⟨rfl, hw'⟩
      subst w'
      go_wp2_with fail
      refine hK.out _ _ (hHeld) (fun hHeld2 => ?_)
      clear hK K hHeld
      have hHeld := hHeld2
      clear hHeld2
      try simp only [Act.put, List.setIfInBounds_toArray, List.set_cons_zero, List.set_cons_succ]
      refine wpAnyH_only (i := 20) rfl (by kernel_rfl) (fun K hK => ?_)
      go_simp
      refine (l_log (unhide HBS) (unhide HZD)).mono ?_
      rintro e w3 ⟨a3, n3, k3, rfl, hn3, hc3, hb3, hk3⟩
      have HZ3 := hide ((unhide HZD).kp0 hk3)
      obtain ⟨h0, v0, hl, vl⟩ := lk_facts (unhide HZ3) (List.Mem.tail _ (List.Mem.head _)) (List.Mem.head _)
      have v3 := str_of hb3 n3 k3 hn3 w3 (Kp.refl _ _)
      clear hn3 hc3 hb3 hk3
      go_wp2_with fail
      refine hK.out _ _ (And.intro h0 v0) (fun hHeld2 => ?_)
      clear hK K hHeld
      have hHeld := hHeld2
      clear hHeld2
      try simp only [Act.put, List.setIfInBounds_toArray, List.set_cons_zero, List.set_cons_succ]
      refine wpAnyH_switch (S' := fun w' => (convert 23 9 (.slice a3 n3 k3)).run Try.prog w' = .ok (.string ⟨bs.toArray⟩) w' ∧ w'.cell? ⟨hb, 0, none⟩ = some (.pointer (some ⟨vb, 0, none⟩)) ∧ w'.cell? ⟨vb, 0, none⟩ = some (.pointer (some ⟨tb, 0, none⟩))) (fun _ h => h.2) ?_
      clear hHeld
      have hHeld := And.intro v3 (And.intro h0 v0)
      refine wpAnyH_tk (i := 21) (v := ?_) rfl (by kernel_rfl) (by kernel_rfl) (by kernel_rfl) (fun _ _ _ h => h) (Or.inl ⟨by rfl, ?_⟩) hHeld ?_
      rotate_left
      · intro w hSw
        try dsimp only at hSw
        go_simp
        try with_reducible rfl
      try simp only [Act.put, List.setIfInBounds_toArray, List.set_cons_zero, List.set_cons_succ]
      refine wpAnyH_tk (i := 22) (v := ?_) rfl (by kernel_rfl) (by kernel_rfl) (by kernel_rfl) (fun _ _ _ h => h) (Or.inl ⟨by rfl, ?_⟩) hHeld ?_
      rotate_left
      · intro w hSw
        try dsimp only at hSw
        go_simp
        try with_reducible rfl
      try simp only [Act.put, List.setIfInBounds_toArray, List.set_cons_zero, List.set_cons_succ]
      refine wpAnyH_tk (i := 23) (v := ?_) rfl (by kernel_rfl) (by kernel_rfl) (by kernel_rfl) (fun _ _ _ h => h) (Or.inl ⟨by rfl, ?_⟩) hHeld ?_
      rotate_left
      · intro w hSw
        try dsimp only at hSw
        go_simp
        try with_reducible rfl
      try simp only [Act.put, List.setIfInBounds_toArray, List.set_cons_zero, List.set_cons_succ]
      refine wpAnyH_tk (i := 24) (v := ?_) rfl (by kernel_rfl) (by kernel_rfl) (by kernel_rfl) (fun _ _ _ h => h) (Or.inl ⟨by rfl, ?_⟩) hHeld ?_
      rotate_left
      · intro w hSw
        try dsimp only at hSw
        go_simp
        try with_reducible rfl
      try simp only [Act.put, List.setIfInBounds_toArray, List.set_cons_zero, List.set_cons_succ]
      refine wpAnyH_done (by kernel_rfl) ?_ _
      clear hHeld v3 h0 v0 hl vl HZD
      have HZ4 := hide (ws_nil (unhide HZ3))
      clear HZ3
      go_wp2_with fail
      go_loopw [8, 9] (fun s i wr => ∃ (k : Nat) (a : Option Addr) (cap : Nat), k ≤ n + 1 - m ∧ s = .slice a (wss f n m k).length cap ∧ i = .int .i64 ((m + k : Nat) : Int) ∧ Hid (Zoo w1 wr (VltT vb tb gb f n cs [] :: WsT a cap (wss f n m k) :: HbT hb vb cb ds.length ds.length (ds.map Dd.db) (ds.map Dd.wb) :: R))) (fun _ i _ => n + 1 - (intOf i).toNat)
      case atStart => exact ⟨0, none, 0, by omega, rfl, rfl, HZ4⟩
      case round =>
        obtain ⟨k, aw, cap, hk, rfl, rfl, HL⟩ := hrel
        by_cases hle : m + k ≤ n
        · have i2 : ((m + k : Nat) : Int) ≤ (n : Int) := by omega
          have HN := hide (wss_succ f n m k)
          have hlen : (wss f n m k).length ≤ 41 := by rw [wss_len]; omega
          obtain ⟨u, hu⟩ : ∃ u, shw f n ((m + k : Nat) : Int) 8 = u := ⟨_, rfl⟩
          have HU := hide hu
          rw [hu] at HN
          clear hu
          have HSK := hide (shk_known (y := ((m + k : Nat) : Int)) (unhide HINV).1 (by rw [unhide HM]; omega) i2)
          generalize wss f n m k = L at HL HN hlen ⊢
          obtain ⟨h0, v0, hl, vl⟩ := lk_facts (unhide HL) (List.Mem.tail _ (List.Mem.tail _ (List.Mem.head _))) (List.Mem.head _)
          have hx40 : m + k ≤ 40 := by omega
          generalize hx : m + k = x at *
          go_wp2_with fail
          refine (l_sheet (unhide HSK) u (by rw [unhide HU]) (unhide HL)).mono ?_
          rintro e w5 ⟨rfl, HZ5⟩
          clear h0 v0 hl vl HL
          have HV6 := hide (heap_alloc_new w5 (.cells (wagg u) 89))
          have HZ7 := hide ((unhide HZ5).kp0 (((Kp.refl [] w5).alloc (.cells (wagg u) 89)).alloc (.cells #[.bool (u 0).t, .string (u 0).s, .bool (u 1).t, .string (u 1).s, .bool (u 2).t, .string (u 2).s, .bool (u 3).t, .string (u 3).s, .bool (u 4).t, .string (u 4).s, .bool (u 5).t, .string (u 5).s, .bool (u 6).t, .string (u 6).s, .bool (u 7).t, .string (u 7).s] 89)))
          have hOW := hide (ws_own (unhide HZ7))
          have hwl := (unhide HZ5).base
          go_wp2_with (first | (refine wpList_store_row rfl 89 _ _ rfl w5.heap.size (wagg u) rfl rfl 89 _ (heap_alloc_new w5 _) Try.size89 rfl (wagg_one _) ?_; rw [World.setRow_alloc_new]) | (refine wpList_load66x (by rfl) _ rfl w5.heap.size rfl u (unhide HV6) ?_) | (at_builtin; refine wpList_append_lies _ rfl _ _ 87 rfl w1.heap.size 89 in0 _ 16 192 Try.underlying87 hi0 hz0 hz1 hz2 rfl (by omega) (.slice aw L.length cap) L.length (wcs L) rfl (unhide hOW) ⟨w5.heap.size + 1, 0, none⟩ 1 1 [.bool (u 0).t, .string (u 0).s, .bool (u 1).t, .string (u 1).s, .bool (u 2).t, .string (u 2).s, .bool (u 3).t, .string (u 3).s, .bool (u 4).t, .string (u 4).s, .bool (u 5).t, .string (u 5).s, .bool (u 6).t, .string (u 6).s, .bool (u 7).t, .string (u 7).s] (by rfl) (by rfl) (World.news_of_block (cs := #[.bool (u 0).t, .string (u 0).s, .bool (u 1).t, .string (u 1).s, .bool (u 2).t, .string (u 2).s, .bool (u 3).t, .string (u 3).s, .bool (u 4).t, .string (u 4).s, .bool (u 5).t, .string (u 5).s, .bool (u 6).t, .string (u 6).s, .bool (u 7).t, .string (u 7).s]) (t := 89) (fr := (0, 0)) (by have := heap_alloc_new (w5.alloc (.cells (wagg u) 89)) (.cells #[.bool (u 0).t, .string (u 0).s, .bool (u 1).t, .string (u 1).s, .bool (u 2).t, .string (u 2).s, .bool (u 3).t, .string (u 3).s, .bool (u 4).t, .string (u 4).s, .bool (u 5).t, .string (u 5).s, .bool (u 6).t, .string (u 6).s, .bool (u 7).t, .string (u 7).s] 89); simpa using this)) (by simp [Value.oneCell']) (by omega) (by unfold maxLen; omega) (by omega) (by simp; omega) _ rfl ?_; intro g2 cap2 w8 hown hgrow hat hlt2))
          have HL2 := hide (ws_app (u := u) (unhide HZ7) hown hgrow hat)
          clear hown hgrow hat hlt2 HZ7 hOW
          go_wp2_with fail
          exact ⟨⟨k + 1, some ⟨g2, 0, none⟩, cap2, by omega, by rw [unhide HN]; simp, by subst hx; go_num, by rw [unhide HN]; exact HL2⟩, by simp [intOf]; omega⟩
        · have i2 : ¬ ((m + k : Nat) : Int) ≤ (n : Int) := by omega
          obtain ⟨N, hN⟩ : ∃ N, n + 1 - m = N := ⟨_, rfl⟩
          have hkN : k = N := by omega
          subst hkN
          rw [wss_len]
          go_wp2_with fail
          go_loopw [12] (fun i wr => ∃ j : Nat, j ≤ 2 ∧ i = .int .i64 j ∧ ∃ tb f2, Hid (Zoo w1 wr (VltT vb tb gb f2 n cs [] :: WsT aw cap (wss f n m k) :: HbT hb vb cb ds.length ds.length (ds.map Dd.db) (ds.map Dd.wb) :: R))) (fun i _ => 2 - (intOf i).toNat)
          case atStart => exact ⟨0, by omega, rfl, tb, f, HL⟩
          case round =>
            obtain ⟨j, hj, rfl, tb2, f2, HJ⟩ := hrel
            by_cases hj2 : j < 2
            · have j1 : (j : Int) < 2 := by omega
              obtain ⟨h0, v0, hl, vl⟩ := lk_facts (unhide HJ) (List.Mem.tail _ (List.Mem.tail _ (List.Mem.head _))) (List.Mem.head _)
              go_wp2_with fail
              refine (b_crash (unhide HJ)).mono ?_
              rintro e w3 ⟨rfl, tb3, c3, HZ3⟩
              rw [← unhide HLEN] at HZ3
              clear h0 v0 hl vl c3
              obtain ⟨h0, v0, hl, vl⟩ := lk_facts (unhide HZ3) (List.Mem.tail _ (List.Mem.tail _ (List.Mem.head _))) (List.Mem.head _)
              go_wp2_with fail
              refine (l_last (unhide HZ3)).mono ?_
              rintro e w4 ⟨rfl, hw4⟩
              subst w4
              go_wp2_with fail
              refine (l_first' 0 (fmx_wal0 cs) (unhide HZ3)).mono ?_
              rintro e w4 ⟨rfl, hw4⟩
              subst w4
              go_wp2_with fail
              refine (l_log (unhide HBS) (unhide HZ3)).mono ?_
              rintro e w4 ⟨a4, n4, k4, rfl, hn4, hc4, hb4, hk4⟩
              have HZ4 := hide ((unhide HZ3).kp0 hk4)
              have v4 := str_of hb4 n4 k4 hn4 w4 (Kp.refl _ _)
              clear hn4 hc4 hb4 hk4 HZ3 h0 v0 hl vl
              go_wp2_with fail
              clear v4
              go_loopw [13] (fun i wr => ∃ x : Nat, x ≤ k ∧ i = .int .i64 ((m + x : Nat) : Int) ∧ Hid (Zoo w1 wr (VltT vb tb3 gb (wal0 cs) n cs [] :: WsT aw cap (wss f n m k) :: HbT hb vb cb ds.length ds.length (ds.map Dd.db) (ds.map Dd.wb) :: R))) (fun i _ => n + 1 - (intOf i).toNat)
              case atStart => exact ⟨0, by omega, rfl, HZ4⟩
              case round =>
                obtain ⟨x, hx, rfl, HX⟩ := hrel
                by_cases hxn : m + x ≤ n
                · have i3 : ((m + x : Nat) : Int) ≤ (n : Int) := by omega
                  obtain ⟨u, hu⟩ : ∃ u, shw f n ((m + x : Nat) : Int) 8 = u := ⟨_, rfl⟩
                  have HU := hide ((crash_shw (y := ((m + x : Nat) : Int)) (unhide HVI) (unhide HINV).2 (by rw [unhide HM]; omega)).trans hu)
                  have HAT := hide (wss_at (f := f) (n := n) (m := m) (k := k) (i := x) (by omega))
                  rw [hu] at HAT
                  clear hu
                  have hiw := inv_wal0 (unhide HINV).2
                  rw [← unhide HLEN] at hiw
                  have HSK := hide (shk_known (y := ((m + x : Nat) : Int)) hiw (by rw [fmx_wal0]; omega) i3)
                  clear hiw
                  obtain ⟨h0, v0, hl, vl⟩ := lk_facts (unhide HX) (List.Mem.tail _ (List.Mem.tail _ (List.Mem.head _))) (List.Mem.head _)
                  have hsub : ((m + x : Nat) : Int) - (m : Int) = (x : Int) := by omega
                  have y0 : (0 : Int) ≤ (x : Int) := by omega
                  have y1 : (x : Int) < (k : Int) := by omega
                  have hx40 : m + x ≤ 40 := by omega
                  obtain ⟨xx, hxx⟩ : ∃ xx, m + x = xx := ⟨_, rfl⟩
                  rw [hxx] at hsub i3 HU HSK hxn hx40 ⊢
                  go_wp2_with fail
                  refine (l_sheet (unhide HSK) u (by rw [unhide HU]) (unhide HX)).mono ?_
                  rintro e w5 ⟨rfl, HZ5⟩
                  clear h0 v0 hl vl HX
                  have HZ6 := hide (((unhide HZ5).kp0 ((Kp.refl [] w5).alloc (.cells (wagg u) 89))).kp0 (Kp.refl [] (w5.alloc (.cells (wagg u) 89))).drew)
                  obtain ⟨g, hg, hr2⟩ := ws_range (unhide HZ6) (unhide HAT)
                  have hr1 := ws_var (w := (w5.alloc (.cells (wagg u) 89)).drew) (p := w5.heap.size) (u := u) (by rw [(Kp.refl [] (w5.alloc (.cells (wagg u) 89))).drew.block w5.heap.size (by simp) (by simp)]; exact heap_alloc_new w5 _)
                  have HR := hide (And.intro hr1 hr2)
                  subst hg
                  clear hr1 hr2
                  go_wp2_with (refine wpList_store_row rfl 89 _ _ rfl w5.heap.size (wagg u) rfl rfl 89 _ (heap_alloc_new w5 _) Try.size89 rfl (wagg_one _) ?_; rw [World.setRow_alloc_new])
                  generalize (w5.alloc (.cells (wagg u) 89)) = W6 at HZ6 HR ⊢
                  generalize w5.heap.size = p14 at HR ⊢
                  have heq := eq66 u
                  have hwr : IntKind.i64.wrap (x : Int) = (x : Int) := wrap_i64_id _ (by omega) (by omega)
                  refine wp_region_held_drew (S := fun w' => w'.rangeAt p14 0 (wagg u).toList ∧ w'.rangeAt g (x * 16) (wagg u).toList) (by kernel_rfl) (unhide HR) (fun hHeld => ?_)
                  refine wpAnyH_tk (i := 0) (v := ?_) rfl (by kernel_rfl) (by kernel_rfl) (by kernel_rfl) (fun _ _ _ h => h) (Or.inl ⟨by rfl, ?_⟩) hHeld ?_
                  rotate_left
                  · intro w hSw
                    try dsimp only at hSw
                    go_simp
                    try with_reducible rfl
                  try simp only [Act.put, List.setIfInBounds_toArray, List.set_cons_zero, List.set_cons_succ]
                  refine wpAnyH_tk (i := 1) (v := ?_) rfl (by kernel_rfl) (by kernel_rfl) (by kernel_rfl) (fun _ _ _ h => h) (Or.inl ⟨by rfl, ?_⟩) hHeld ?_
                  rotate_left
                  · intro w hSw
                    try dsimp only at hSw
                    go_simp
                    try with_reducible rfl
                  try simp only [Act.put, List.setIfInBounds_toArray, List.set_cons_zero, List.set_cons_succ]
                  refine wpAnyH_tk (i := 2) (v := ?_) rfl (by kernel_rfl) (by kernel_rfl) (by kernel_rfl) (fun _ _ _ h => h) (Or.inl ⟨by rfl, ?_⟩) hHeld ?_
                  rotate_left
                  · intro w hSw
                    try dsimp only at hSw
                    go_simp
                    try with_reducible rfl
                  try simp only [Act.put, List.setIfInBounds_toArray, List.set_cons_zero, List.set_cons_succ]
                  refine wpAnyH_tk (i := 3) rfl (by kernel_rfl) (by kernel_rfl) (by kernel_rfl) (fun _ _ _ h => h) (yields_mid (by rfl) _ rfl p14 0 rfl u (fun _ h => h.1)) hHeld ?_
                  try simp only [Act.put, List.setIfInBounds_toArray, List.set_cons_zero, List.set_cons_succ]
                  refine wpAnyH_tk (i := 4) (v := ?_) rfl (by kernel_rfl) (by kernel_rfl) (by kernel_rfl) (fun _ _ _ h => h) (Or.inl ⟨by rfl, ?_⟩) hHeld ?_
                  rotate_left
                  · intro w hSw
                    try dsimp only at hSw
                    go_simp
                    try with_reducible rfl
                  try simp only [Act.put, List.setIfInBounds_toArray, List.set_cons_zero, List.set_cons_succ]
                  refine wpAnyH_tk (i := 5) (v := ?_) rfl (by kernel_rfl) (by kernel_rfl) (by kernel_rfl) (fun _ _ _ h => h) (Or.inl ⟨by rfl, ?_⟩) hHeld ?_
                  rotate_left
                  · intro w hSw
                    try dsimp only at hSw
                    go_simp
                    try with_reducible rfl
                  try simp only [Act.put, List.setIfInBounds_toArray, List.set_cons_zero, List.set_cons_succ]
                  refine wpAnyH_tk (i := 6) (v := ?_) rfl (by kernel_rfl) (by kernel_rfl) (by kernel_rfl) (fun _ _ _ h => h) (Or.inl ⟨by rfl, ?_⟩) hHeld ?_
                  rotate_left
                  · intro w hSw
                    try dsimp only at hSw
                    go_simp
                    try with_reducible rfl
                  try simp only [Act.put, List.setIfInBounds_toArray, List.set_cons_zero, List.set_cons_succ]
                  refine wpAnyH_tk (i := 7) (v := ?_) rfl (by kernel_rfl) (by kernel_rfl) (by kernel_rfl) (fun _ _ _ h => h) (Or.inl ⟨by rfl, ?_⟩) hHeld ?_
                  rotate_left
                  · intro w hSw
                    try dsimp only at hSw
                    go_simp
                    try with_reducible rfl
                  try simp only [Act.put, List.setIfInBounds_toArray, List.set_cons_zero, List.set_cons_succ]
                  refine wpAnyH_tk (i := 8) (v := ?_) rfl (by kernel_rfl) (by kernel_rfl) (by kernel_rfl) (fun _ _ _ h => h) (Or.inl ⟨by rfl, ?_⟩) hHeld ?_
                  rotate_left
                  · intro w hSw
                    try dsimp only at hSw
                    go_simp
                    try with_reducible rfl
                  try simp only [Act.put, List.setIfInBounds_toArray, List.set_cons_zero, List.set_cons_succ]
                  refine wpAnyH_tk (i := 9) rfl (by kernel_rfl) (by kernel_rfl) (by kernel_rfl) (fun _ _ _ h => h) (yields_mid (by rfl) _ rfl g _ rfl u (fun _ h => by first | exact h.2 | simpa using h.2)) hHeld ?_
                  try simp only [Act.put, List.setIfInBounds_toArray, List.set_cons_zero, List.set_cons_succ]
                  refine wpAnyH_tk (i := 10) (v := ?_) rfl (by kernel_rfl) (by kernel_rfl) (by kernel_rfl) (fun _ _ _ h => h) (Or.inl ⟨by rfl, ?_⟩) hHeld ?_
                  rotate_left
                  · intro w hSw
                    try dsimp only at hSw
                    go_simp
                    try with_reducible rfl
                  try simp only [Act.put, List.setIfInBounds_toArray, List.set_cons_zero, List.set_cons_succ]
                  refine wpAnyH_tk (i := 11) (v := ?_) rfl (by kernel_rfl) (by kernel_rfl) (by kernel_rfl) (fun _ _ _ h => h) (Or.inl ⟨by rfl, ?_⟩) hHeld ?_
                  rotate_left
                  · intro w hSw
                    try dsimp only at hSw
                    go_simp
                    try with_reducible rfl
                  try simp only [Act.put, List.setIfInBounds_toArray, List.set_cons_zero, List.set_cons_succ]
                  refine wpAnyH_done (by kernel_rfl) ?_ _
                  clear hwr hHeld heq
                  go_wp2_with fail
                  exact ⟨⟨x + 1, by omega, by subst hxx; go_num, HZ6⟩, by simp [intOf]; omega⟩
                · have i3 : ¬ ((m + x : Nat) : Int) ≤ (n : Int) := by omega
                  go_wp2_with fail
                  exact ⟨⟨j + 1, by omega, by go_num, tb3, _, HX⟩, by simp [intOf]; omega⟩
            · have j1 : ¬ (j : Int) < 2 := by omega
              go_wp2_with fail
              go_ret
              exact ⟨by trivial, ((unhide HK1).trans0 (unhide HJ).kp).below (Nat.le_refl _) (by simp)⟩
end Go.Proofs.Ytcfogkdpkpehaab
