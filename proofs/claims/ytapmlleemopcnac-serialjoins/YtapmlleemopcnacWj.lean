/- SerialJoins, walked. -/
import Derived.Test.YtapmlleemopcnacWw
import Derived.Test.YtapmlleemopcnacGa
namespace Go.Proofs.Ytapmlleemopcnac
open Go.RowKit Srt
set_option maxRecDepth 20000
attribute [local go_sem ↓] Go.wp_at_zero Go.wp_at_succ

theorem eq97 (v : Nat → Ver) (w : World) : (Op.equalIn 10000 97 (.agg (wagg v)) (.agg (wagg v))).run Try.prog w = .ok true w := by
  obtain ⟨i0, hi0, hz0, hz1, hz2⟩ := info_parts Try.info31
  have h := run_equalIn_array (P := Try.prog) w 9999 (wagg v) (wagg v) Try.underlying97 hi0
  rw [Try.cel31] at h
  rw [show (10000 : Nat) = 9999 + 1 from rfl, h]
  exact items24 9997 v (List.range 8) w (fun i hi => List.mem_range.1 hi)
theorem yields_av {ops : Array Oper} {S : World → Prop} {op : Oper} {a : Act} (hw : Region.wanted op (yielded ops a.tmps) = true) (x : Operand) (ho : op.op = .load 71 x) (b o : Nat) (hx : a.eval x = .pointer (some ⟨b, o, none⟩)) (u : Nat → Ver) (hS : ∀ w, S w → w.rangeAt b o (wagg u).toList) : YieldsIf Try.prog ops S op (.agg (wagg u)) a := by
  have h := yieldsIf_load_mid (P := Try.prog) hw 71 x ho b o hx (wagg u).toList _ hS Try.underlying71 rfl (by kernel_rfl)
  rw [Array.toArray_toList] at h
  exact h
theorem acts_take {w : World} {a : Option Addr} {l : List Ac} (h : ActsIn w a l) (k : Nat) : ActsIn w a (l.take k) := fun hp => by
  rw [List.length_take] at hp
  obtain ⟨b, o, e, h1⟩ := h (by omega)
  refine ⟨b, o, e, fun i x hx => h1 i x ?_⟩
  rw [List.getElem?_take] at hx
  split at hx
  · exact hx
  · cases hx
set_option maxHeartbeats 8000000 in
theorem sjoins12 (v : Nat → Ver) (a : Option Addr) (c : Nat) (l : List Ac) (ct : Int) (w : World) (h : AcsH w a l) (hc : l.length ≤ c) (hcm : c ≤ maxLen) (hn0 : a = none → c = 0) :
    Calls Try.prog 12 #[.agg (wagg v), .slice a l.length c, .int .i64 ct] w fun e w' => e = .returned (.bool true) ∧ Below w.heap.size w w' := by
  have HZ0 := hide ((zoo_nil (Kp.refl [] w)).box (wagg v) 71)
  have HA := hide h
  have HN0 := hide hn0
  clear h hn0
  unfold maxLen at hcm
  obtain ⟨n, hn⟩ : ∃ n, l.length = n := ⟨_, rfl⟩
  have HN := hide hn
  rw [hn] at hc ⊢
  clear hn
  go_enter Try.func12, Try.ntmps12
  go_wp2_with fail
  generalize w.alloc (.cells (wagg v) 71) = W0 at HZ0 ⊢
  generalize w.heap.size = p3 at HZ0 ⊢
  refine (sbegun W0).mono ?_
  rintro e w1 ⟨rfl, hk1⟩
  have HZ1 := hide ((unhide HZ0).kp0 hk1)
  clear hk1 HZ0
  go_wp2_with fail
  have HGA := hide (gacts a c l w1 ((unhide HA).kp0 (unhide HZ1).kp))
  rw [unhide HN] at HGA
  refine (unhide HGA).mono ?_
  rintro e w' ⟨q, rfl, hq, hw'⟩
  subst w'
  clear HGA
  cases q with
  | true =>
    clear hq
    go_wp2_with fail
    go_ret
    exact ⟨rfl, (unhide HZ1).kp.below (Nat.le_refl _) (by simp)⟩
  | false =>
  have HOK := hide (hq rfl)
  have hn1 : n ≤ 1000 := by have := (hq rfl).1; have := unhide HN; omega
  clear hq
  go_wp2_with fail
  go_loop [7] (fun i => ∃ k : Nat, k ≤ n ∧ i = .int .i64 k ∧ Hid (∀ j x, j < k → l[j]? = some x → keyB x.key = true)) (fun i => n - (intOf i).toNat)
  case atStart => exact ⟨0, Nat.zero_le _, rfl, fun j x hj => by omega⟩
  case round =>
    obtain ⟨k, hk, rfl, HKY⟩ := hrel
    by_cases hlt : k < n
    · have i1 : (k : Int) < (n : Int) := by omega
      have i0 : (0 : Int) ≤ (k : Int) := by omega
      have hln : k < l.length := by have := unhide HN; omega
      obtain ⟨b, o, rfl, hb⟩ := ((unhide HA).kp0 (unhide HZ1).kp).2 (by omega)
      obtain ⟨x, hx⟩ : ∃ x, l[k]? = some x := ⟨_, List.getElem?_eq_getElem hln⟩
      have q1 := (hb k x hx).c1
      have HX := hide hx
      clear hb hx
      obtain ⟨kd, key, to_, xt, xs, xl⟩ := x
      dsimp only at q1
      go_wp2_with fail
      refine (key12 key w1).mono ?_
      rintro e w' ⟨rfl, hw'⟩
      subst w'
      cases hkb : keyB key with
      | false =>
        clear hkb
        go_wp2_with fail
        go_ret
        exact ⟨rfl, (unhide HZ1).kp.below (Nat.le_refl _) (by simp)⟩
      | true =>
        have HKB := hide hkb
        clear hkb
        go_wp2_with fail
        refine ⟨⟨k + 1, by omega, by go_num, fun j y hj hy => ?_⟩, by simp [intOf]; omega⟩
        rcases Nat.lt_or_ge j k with e | e
        · exact unhide HKY j y e hy
        · have : j = k := by omega
          subst this
          rw [unhide HX] at hy
          cases hy
          exact unhide HKB
    · have i1 : ¬ (k : Int) < (n : Int) := by omega
      have HKA : Hid (∀ x, x ∈ l → keyB x.key = true) := fun x hx => by
        obtain ⟨j, hj, e⟩ := List.getElem_of_mem hx
        exact unhide HKY j x (by have := unhide HN; omega) (by rw [List.getElem?_eq_getElem hj, e])
      obtain ⟨d, hcut, hdn⟩ := cut_of ct (n := n) (by omega)
      have d0 : (0 : Int) ≤ (d : Int) := by omega
      have d1 : (d : Int) ≤ (c : Int) := by omega
      have d2 : (d : Int) ≤ (n : Int) := by omega
      have HJ : Hid (rpw v l = rpw (rpw v (l.take d)) (l.drop d) ∧ rpo v l = (rpo v (l.take d) && rpo (rpw v (l.take d)) (l.drop d))) := by
        have q := rpl_join (l.take d) (l.drop d) v (fun x hx => unhide HKA x (List.mem_of_mem_take hx))
        rw [List.take_append_drop] at q
        exact ⟨by show (rpl v true l).1 = _; rw [q], by show (rpl v true l).2 = _; rw [q]⟩
      clear HKY HKA
      have HR0 := hide (fun cc => replay v a cc l w1 ((unhide HA).ins.kp0 (unhide HZ1).kp) (unhide HOK))
      rw [unhide HN] at HR0
      have hb3 := zoo_varm (unhide HZ1) (List.Mem.head _)
      have HB3 := hide hb3
      clear hb3
      go_wp2_with (refine wpList_load_row rfl 71 _ rfl p3 rfl 71 _ (0, 0) _ (unhide HB3) Try.underlying71 rfl (by kernel_rfl) ?_)
      refine (unhide HR0 _).mono ?_
      rintro e w2 ⟨rfl, hk2⟩
      have HZ2 := hide ((unhide HZ1).kp0 hk2)
      clear hk2 HR0 HB3
      obtain ⟨X, hX⟩ : ∃ X, rpw v l = X := ⟨_, rfl⟩
      obtain ⟨bX, hbX⟩ : ∃ b, rpo v l = b := ⟨_, rfl⟩
      rw [hX, hbX] at HJ ⊢
      clear hX hbX
      have HZ3 := hide ((unhide HZ2).box (wagg X) 97)
      have HR1 := hide (fun aa cc W (hk : Kp [] w W) (hin : ActsIn w aa (l.take d)) => replay v aa cc (l.take d) W (hin.kp0 hk) ⟨by rw [List.length_take]; have := (unhide HOK).1; omega, fun x hx => (unhide HOK).2 x (List.mem_of_mem_take hx)⟩)
      have HR2 := hide (fun u aa cc W (hk : Kp [] w W) (hin : ActsIn w aa (l.drop d)) => replay u aa cc (l.drop d) W (hin.kp0 hk) ⟨by rw [List.length_drop]; have := (unhide HOK).1; omega, fun x hx => (unhide HOK).2 x (List.mem_of_mem_drop hx)⟩)
      have hlt1 : (l.take d).length = d := by rw [List.length_take]; have := unhide HN; omega
      have hlt2 : (l.drop d).length = n - d := by rw [List.length_drop]; have := unhide HN; omega
      rw [hlt1] at HR1
      rw [hlt2] at HR2
      obtain ⟨Y, hY⟩ : ∃ Y, rpw v (l.take d) = Y := ⟨_, rfl⟩
      obtain ⟨bY, hbY⟩ : ∃ b, rpo v (l.take d) = b := ⟨_, rfl⟩
      rw [hY, hbY] at HJ
      have HYY := hide (And.intro hY hbY)
      clear hY hbY hlt1 hlt2
      go_wp2_with (refine wpList_store_row rfl 97 _ _ rfl w2.heap.size (wagg X) rfl rfl 97 _ (heap_alloc_new w2 _) Try.size97 rfl (wagg_one _) ?_; rw [World.setRow_alloc_new])
      generalize w2.alloc (.cells (wagg X) 97) = W3 at HZ3 ⊢
      generalize w2.heap.size = p9 at HZ3 ⊢
      clear HZ2 HZ1
      obtain ⟨bZ, hbZ⟩ : ∃ b, rpo Y (l.drop d) = b := ⟨_, rfl⟩
      rw [hbZ] at HJ
      have HBZ := hide hbZ
      clear hbZ
      cases a with
      | none =>
        have hc0 := unhide HN0 rfl
        subst hc0
        obtain rfl : n = 0 := by omega
        obtain rfl : d = 0 := by omega
        refine wp_region_held_drew (S := fun w' => w'.rangeAt p3 0 (wagg v).toList) (by kernel_rfl) (rangeAt_var (zoo_varm ((unhide HZ3).kp0 ((Kp.refl [] W3).drew)) (List.Mem.tail _ (List.Mem.head _)))) (fun hHeld => ?_)
        have HA0 := hide ((unhide HZ3).kp0 ((Kp.refl [] W3).drew))
        generalize World.drew _ = WD at HA0 hHeld ⊢
        refine wpAnyH_tk (i := 0) rfl (by kernel_rfl) (by kernel_rfl) (by kernel_rfl) (fun _ _ _ h => h) (yields_av (by rfl) _ rfl p3 0 rfl v (fun _ h => h)) hHeld ?_
        try simp only [Act.put, List.setIfInBounds_toArray, List.set_cons_zero, List.set_cons_succ]
        refine wpAnyH_tk (i := 1) (v := ?_) rfl (by kernel_rfl) (by kernel_rfl) (by kernel_rfl) (fun _ _ _ h => h) (Or.inl ⟨by rfl, ?_⟩) hHeld ?_
        rotate_left
        · intro w hSw
          try dsimp only at hSw
          go_simp
          try with_reducible rfl
        try simp only [Act.put, List.setIfInBounds_toArray, List.set_cons_zero, List.set_cons_succ]
        refine wpAnyH_tk (i := 2) (v := ?_) rfl (by kernel_rfl) (by kernel_rfl) (by kernel_rfl) (fun _ _ _ h => h) (Or.inl ⟨by rfl, ?_⟩) hHeld ?_
        rotate_left
        · intro w hSw
          try dsimp only at hSw
          go_simp
          try with_reducible rfl
        try simp only [Act.put, List.setIfInBounds_toArray, List.set_cons_zero, List.set_cons_succ]
        refine wpAnyH_tk (i := 3) (v := ?_) rfl (by kernel_rfl) (by kernel_rfl) (by kernel_rfl) (fun _ _ _ h => h) (Or.inl ⟨by rfl, ?_⟩) hHeld ?_
        rotate_left
        · intro w hSw
          try dsimp only at hSw
          go_simp
          try with_reducible rfl
        try simp only [Act.put, List.setIfInBounds_toArray, List.set_cons_zero, List.set_cons_succ]
        refine wpAnyH_two (i := 4) (j := 8) rfl rfl (by kernel_rfl) (fun K hK => ?_) (fun K hK => ?_)
        · go_simp
          refine (unhide HR1 (none) _ _ (unhide HA0).kp (acts_take (unhide HA).ins _)).mono ?_
          rintro e w6 ⟨rfl, hk6⟩
          rw [(unhide HYY).1, (unhide HYY).2]
          have HA1 := hide ((unhide HA0).kp0 hk6)
          clear hk6
          go_wp2_with fail
          refine hK.out _ _ (rangeAt_var (zoo_varm (unhide HA1) (List.Mem.tail _ (List.Mem.head _)))) (fun hHeld2 => ?_)
          clear hK K hHeld
          have hHeld := hHeld2
          clear hHeld2
          try simp only [Act.put, List.setIfInBounds_toArray, List.set_cons_zero, List.set_cons_succ]
          refine wpAnyH_tk (i := 5) (v := ?_) rfl (by kernel_rfl) (by kernel_rfl) (by kernel_rfl) (fun _ _ _ h => h) (Or.inl ⟨by rfl, ?_⟩) hHeld ?_
          rotate_left
          · intro w hSw
            try dsimp only at hSw
            go_simp
            try with_reducible rfl
          try simp only [Act.put, List.setIfInBounds_toArray, List.set_cons_zero, List.set_cons_succ]
          refine wpAnyH_tk (i := 6) (v := ?_) rfl (by kernel_rfl) (by kernel_rfl) (by kernel_rfl) (fun _ _ _ h => h) (Or.inl ⟨by rfl, ?_⟩) hHeld ?_
          rotate_left
          · intro w hSw
            try dsimp only at hSw
            go_simp
            try with_reducible rfl
          try simp only [Act.put, List.setIfInBounds_toArray, List.set_cons_zero, List.set_cons_succ]
          refine wpAnyH_tk (i := 7) (v := ?_) rfl (by kernel_rfl) (by kernel_rfl) (by kernel_rfl) (fun _ _ _ h => h) (Or.inl ⟨by rfl, ?_⟩) hHeld ?_
          rotate_left
          · intro w hSw
            try dsimp only at hSw
            go_simp
            try with_reducible rfl
          try simp only [Act.put, List.setIfInBounds_toArray, List.set_cons_zero, List.set_cons_succ]
          refine wpAnyH_only (i := 8) rfl (by kernel_rfl) (fun K hK => ?_)
          go_simp
          have HA2 := hide ((unhide HA1).box (wagg (fun _ => dv)) 97)
          rw [zeros_eq] at HA2
          refine hK.out _ _ (rangeAt_var (zoo_varm (unhide HA2) (List.Mem.tail _ (List.Mem.tail _ (List.Mem.head _))))) (fun hHeld2 => ?_)
          clear hK K hHeld
          have hHeld := hHeld2
          clear hHeld2
          try simp only [Act.put, List.setIfInBounds_toArray, List.set_cons_zero, List.set_cons_succ]
          generalize w6.heap.size = p11 at *
          refine wpAnyH_only (i := 9) rfl (by kernel_rfl) (fun K hK => ?_)
          rw [if_pos (by rfl)]
          refine wp_store_row 97 _ _ rfl p11 (wagg Y) rfl rfl 97 _ (zoo_varm (unhide HA2) (List.Mem.head _)) Try.size97 rfl (wagg_one _) ?_
          have HZF := hide (zoo_setrL (l1 := []) (c' := wagg Y) (unhide HA2))
          refine hK.out _ _ (rangeAt_var (zoo_varm (unhide HZF) (List.Mem.tail _ (List.Mem.tail _ (List.Mem.head _))))) (fun hHeld2 => ?_)
          clear hK K hHeld
          have hHeld := hHeld2
          clear hHeld2
          simp only [Act.put]
          refine wpAnyH_tk (i := 10) (v := ?_) rfl (by kernel_rfl) (by kernel_rfl) (by kernel_rfl) (fun _ _ _ h => h) (Or.inl ⟨by rfl, ?_⟩) hHeld ?_
          rotate_left
          · intro w hSw
            try dsimp only at hSw
            go_simp
            try with_reducible rfl
          try simp only [Act.put, List.setIfInBounds_toArray, List.set_cons_zero, List.set_cons_succ]
          refine wpAnyH_done (by kernel_rfl) ?_ _
          generalize World.setRow _ _ _ = W9p11 at HZF ⊢
          clear hHeld
          go_wp2_with fail
          refine wp_region_held_drew (S := fun w' => w'.rangeAt p11 0 (wagg Y).toList) (by kernel_rfl) (rangeAt_var (zoo_varm ((unhide HZF).kp0 ((Kp.refl [] W9p11).drew)) (List.Mem.head _))) (fun hHeld => ?_)
          have HB0 := hide ((unhide HZF).kp0 ((Kp.refl [] W9p11).drew))
          generalize World.drew _ = WE at HB0 hHeld ⊢
          refine wpAnyH_tk (i := 0) rfl (by kernel_rfl) (by kernel_rfl) (by kernel_rfl) (fun _ _ _ h => h) (yields_s (by rfl) _ rfl p11 0 rfl Y (fun _ h => h)) hHeld ?_
          try simp only [Act.put, List.setIfInBounds_toArray, List.set_cons_zero, List.set_cons_succ]
          refine wpAnyH_tk (i := 1) (v := ?_) rfl (by kernel_rfl) (by kernel_rfl) (by kernel_rfl) (fun _ _ _ h => h) (Or.inl ⟨by rfl, ?_⟩) hHeld ?_
          rotate_left
          · intro w hSw
            try dsimp only at hSw
            go_simp
            try with_reducible rfl
          try simp only [Act.put, List.setIfInBounds_toArray, List.set_cons_zero, List.set_cons_succ]
          refine wpAnyH_tk (i := 2) (v := ?_) rfl (by kernel_rfl) (by kernel_rfl) (by kernel_rfl) (fun _ _ _ h => h) (Or.inl ⟨by rfl, ?_⟩) hHeld ?_
          rotate_left
          · intro w hSw
            try dsimp only at hSw
            go_simp
            try with_reducible rfl
          try simp only [Act.put, List.setIfInBounds_toArray, List.set_cons_zero, List.set_cons_succ]
          refine wpAnyH_tk (i := 3) (v := ?_) rfl (by kernel_rfl) (by kernel_rfl) (by kernel_rfl) (fun _ _ _ h => h) (Or.inl ⟨by rfl, ?_⟩) hHeld ?_
          rotate_left
          · intro w hSw
            try dsimp only at hSw
            go_simp
            try with_reducible rfl
          try simp only [Act.put, List.setIfInBounds_toArray, List.set_cons_zero, List.set_cons_succ]
          refine wpAnyH_two (i := 4) (j := 8) rfl rfl (by kernel_rfl) (fun K hK => ?_) (fun K hK => ?_)
          · go_simp
            refine (unhide HR2 Y _ _ _ (unhide HB0).kp (fun hp => absurd hp (by rw [List.length_drop]; have := unhide HN; omega))).mono ?_
            rintro e w6 ⟨rfl, hk6⟩
            rw [← (unhide HJ).1, unhide HBZ]
            have HB1 := hide ((unhide HB0).kp0 hk6)
            clear hk6
            go_wp2_with fail
            refine hK.out _ _ (rangeAt_var (zoo_varm (unhide HB1) (List.Mem.head _))) (fun hHeld2 => ?_)
            clear hK K hHeld
            have hHeld := hHeld2
            clear hHeld2
            try simp only [Act.put, List.setIfInBounds_toArray, List.set_cons_zero, List.set_cons_succ]
            refine wpAnyH_tk (i := 5) (v := ?_) rfl (by kernel_rfl) (by kernel_rfl) (by kernel_rfl) (fun _ _ _ h => h) (Or.inl ⟨by rfl, ?_⟩) hHeld ?_
            rotate_left
            · intro w hSw
              try dsimp only at hSw
              go_simp
              try with_reducible rfl
            try simp only [Act.put, List.setIfInBounds_toArray, List.set_cons_zero, List.set_cons_succ]
            refine wpAnyH_tk (i := 6) (v := ?_) rfl (by kernel_rfl) (by kernel_rfl) (by kernel_rfl) (fun _ _ _ h => h) (Or.inl ⟨by rfl, ?_⟩) hHeld ?_
            rotate_left
            · intro w hSw
              try dsimp only at hSw
              go_simp
              try with_reducible rfl
            try simp only [Act.put, List.setIfInBounds_toArray, List.set_cons_zero, List.set_cons_succ]
            refine wpAnyH_tk (i := 7) (v := ?_) rfl (by kernel_rfl) (by kernel_rfl) (by kernel_rfl) (fun _ _ _ h => h) (Or.inl ⟨by rfl, ?_⟩) hHeld ?_
            rotate_left
            · intro w hSw
              try dsimp only at hSw
              go_simp
              try with_reducible rfl
            try simp only [Act.put, List.setIfInBounds_toArray, List.set_cons_zero, List.set_cons_succ]
            refine wpAnyH_only (i := 8) rfl (by kernel_rfl) (fun K hK => ?_)
            go_simp
            have HB2 := hide ((unhide HB1).box (wagg (fun _ => dv)) 97)
            rw [zeros_eq] at HB2
            refine hK.out _ _ (rangeAt_var (zoo_varm (unhide HB2) (List.Mem.tail _ (List.Mem.head _)))) (fun hHeld2 => ?_)
            clear hK K hHeld
            have hHeld := hHeld2
            clear hHeld2
            try simp only [Act.put, List.setIfInBounds_toArray, List.set_cons_zero, List.set_cons_succ]
            generalize w6.heap.size = p13 at *
            refine wpAnyH_only (i := 9) rfl (by kernel_rfl) (fun K hK => ?_)
            rw [if_pos (by rfl)]
            refine wp_store_row 97 _ _ rfl p13 (wagg X) rfl rfl 97 _ (zoo_varm (unhide HB2) (List.Mem.head _)) Try.size97 rfl (wagg_one _) ?_
            have HZG := hide (zoo_setrL (l1 := []) (c' := wagg X) (unhide HB2))
            refine hK.out _ _ (rangeAt_var (zoo_varm (unhide HZG) (List.Mem.tail _ (List.Mem.head _)))) (fun hHeld2 => ?_)
            clear hK K hHeld
            have hHeld := hHeld2
            clear hHeld2
            simp only [Act.put]
            refine wpAnyH_tk (i := 10) (v := ?_) rfl (by kernel_rfl) (by kernel_rfl) (by kernel_rfl) (fun _ _ _ h => h) (Or.inl ⟨by rfl, ?_⟩) hHeld ?_
            rotate_left
            · intro w hSw
              try dsimp only at hSw
              go_simp
              try with_reducible rfl
            try simp only [Act.put, List.setIfInBounds_toArray, List.set_cons_zero, List.set_cons_succ]
            refine wpAnyH_done (by kernel_rfl) ?_ _
            generalize World.setRow _ _ _ = W9p13 at HZG ⊢
            clear hHeld
            have A9 := hide (zoo_varm (unhide HZG) (List.Mem.tail _ (List.Mem.tail _ (List.Mem.head _))))
            have A13 := hide (zoo_varm (unhide HZG) (List.Mem.head _))
            have hbj := (unhide HJ).2
            subst hbj
            have heq := eq97 X
            cases bY <;> cases bZ
            all_goals
              go_wp2_with (first | (refine wpList_load97 (by rfl) _ rfl p9 rfl X (unhide A9) ?_) | (refine wpList_load97 (by rfl) _ rfl p13 rfl X (unhide A13) ?_))
              go_ret
              exact ⟨by trivial, (unhide HZG).kp.below (Nat.le_refl _) (by simp)⟩
          · go_simp
            have HB1 := hide ((unhide HB0).box (wagg (fun _ => dv)) 97)
            rw [zeros_eq] at HB1
            refine hK.out _ _ (rangeAt_var (zoo_varm (unhide HB1) (List.Mem.tail _ (List.Mem.head _)))) (fun hHeld2 => ?_)
            clear hK K hHeld
            have hHeld := hHeld2
            clear hHeld2
            try simp only [Act.put, List.setIfInBounds_toArray, List.set_cons_zero, List.set_cons_succ]
            generalize WE.heap.size = p13 at *
            refine wpAnyH_only (i := 4) rfl (by kernel_rfl) (fun K hK => ?_)
            go_simp
            refine (unhide HR2 Y _ _ _ (unhide HB1).kp (fun hp => absurd hp (by rw [List.length_drop]; have := unhide HN; omega))).mono ?_
            rintro e w6 ⟨rfl, hk6⟩
            rw [← (unhide HJ).1, unhide HBZ]
            have HB2 := hide ((unhide HB1).kp0 hk6)
            clear hk6
            go_wp2_with fail
            refine hK.out _ _ (rangeAt_var (zoo_varm (unhide HB2) (List.Mem.tail _ (List.Mem.head _)))) (fun hHeld2 => ?_)
            clear hK K hHeld
            have hHeld := hHeld2
            clear hHeld2
            try simp only [Act.put, List.setIfInBounds_toArray, List.set_cons_zero, List.set_cons_succ]
            refine wpAnyH_tk (i := 5) (v := ?_) rfl (by kernel_rfl) (by kernel_rfl) (by kernel_rfl) (fun _ _ _ h => h) (Or.inl ⟨by rfl, ?_⟩) hHeld ?_
            rotate_left
            · intro w hSw
              try dsimp only at hSw
              go_simp
              try with_reducible rfl
            try simp only [Act.put, List.setIfInBounds_toArray, List.set_cons_zero, List.set_cons_succ]
            refine wpAnyH_tk (i := 6) (v := ?_) rfl (by kernel_rfl) (by kernel_rfl) (by kernel_rfl) (fun _ _ _ h => h) (Or.inl ⟨by rfl, ?_⟩) hHeld ?_
            rotate_left
            · intro w hSw
              try dsimp only at hSw
              go_simp
              try with_reducible rfl
            try simp only [Act.put, List.setIfInBounds_toArray, List.set_cons_zero, List.set_cons_succ]
            refine wpAnyH_tk (i := 7) (v := ?_) rfl (by kernel_rfl) (by kernel_rfl) (by kernel_rfl) (fun _ _ _ h => h) (Or.inl ⟨by rfl, ?_⟩) hHeld ?_
            rotate_left
            · intro w hSw
              try dsimp only at hSw
              go_simp
              try with_reducible rfl
            try simp only [Act.put, List.setIfInBounds_toArray, List.set_cons_zero, List.set_cons_succ]
            refine wpAnyH_only (i := 9) rfl (by kernel_rfl) (fun K hK => ?_)
            rw [if_pos (by rfl)]
            refine wp_store_row 97 _ _ rfl p13 (wagg X) rfl rfl 97 _ (zoo_varm (unhide HB2) (List.Mem.head _)) Try.size97 rfl (wagg_one _) ?_
            have HZG := hide (zoo_setrL (l1 := []) (c' := wagg X) (unhide HB2))
            refine hK.out _ _ (rangeAt_var (zoo_varm (unhide HZG) (List.Mem.tail _ (List.Mem.head _)))) (fun hHeld2 => ?_)
            clear hK K hHeld
            have hHeld := hHeld2
            clear hHeld2
            simp only [Act.put]
            refine wpAnyH_tk (i := 10) (v := ?_) rfl (by kernel_rfl) (by kernel_rfl) (by kernel_rfl) (fun _ _ _ h => h) (Or.inl ⟨by rfl, ?_⟩) hHeld ?_
            rotate_left
            · intro w hSw
              try dsimp only at hSw
              go_simp
              try with_reducible rfl
            try simp only [Act.put, List.setIfInBounds_toArray, List.set_cons_zero, List.set_cons_succ]
            refine wpAnyH_done (by kernel_rfl) ?_ _
            generalize World.setRow _ _ _ = W9p13 at HZG ⊢
            clear hHeld
            have A9 := hide (zoo_varm (unhide HZG) (List.Mem.tail _ (List.Mem.tail _ (List.Mem.head _))))
            have A13 := hide (zoo_varm (unhide HZG) (List.Mem.head _))
            have hbj := (unhide HJ).2
            subst hbj
            have heq := eq97 X
            cases bY <;> cases bZ
            all_goals
              go_wp2_with (first | (refine wpList_load97 (by rfl) _ rfl p9 rfl X (unhide A9) ?_) | (refine wpList_load97 (by rfl) _ rfl p13 rfl X (unhide A13) ?_))
              go_ret
              exact ⟨by trivial, (unhide HZG).kp.below (Nat.le_refl _) (by simp)⟩
        · go_simp
          have HA1 := hide ((unhide HA0).box (wagg (fun _ => dv)) 97)
          rw [zeros_eq] at HA1
          refine hK.out _ _ (rangeAt_var (zoo_varm (unhide HA1) (List.Mem.tail _ (List.Mem.tail _ (List.Mem.head _))))) (fun hHeld2 => ?_)
          clear hK K hHeld
          have hHeld := hHeld2
          clear hHeld2
          try simp only [Act.put, List.setIfInBounds_toArray, List.set_cons_zero, List.set_cons_succ]
          generalize WD.heap.size = p11 at *
          refine wpAnyH_only (i := 4) rfl (by kernel_rfl) (fun K hK => ?_)
          go_simp
          refine (unhide HR1 (none) _ _ (unhide HA1).kp (acts_take (unhide HA).ins _)).mono ?_
          rintro e w6 ⟨rfl, hk6⟩
          rw [(unhide HYY).1, (unhide HYY).2]
          have HA2 := hide ((unhide HA1).kp0 hk6)
          clear hk6
          go_wp2_with fail
          refine hK.out _ _ (rangeAt_var (zoo_varm (unhide HA2) (List.Mem.tail _ (List.Mem.tail _ (List.Mem.head _))))) (fun hHeld2 => ?_)
          clear hK K hHeld
          have hHeld := hHeld2
          clear hHeld2
          try simp only [Act.put, List.setIfInBounds_toArray, List.set_cons_zero, List.set_cons_succ]
          refine wpAnyH_tk (i := 5) (v := ?_) rfl (by kernel_rfl) (by kernel_rfl) (by kernel_rfl) (fun _ _ _ h => h) (Or.inl ⟨by rfl, ?_⟩) hHeld ?_
          rotate_left
          · intro w hSw
            try dsimp only at hSw
            go_simp
            try with_reducible rfl
          try simp only [Act.put, List.setIfInBounds_toArray, List.set_cons_zero, List.set_cons_succ]
          refine wpAnyH_tk (i := 6) (v := ?_) rfl (by kernel_rfl) (by kernel_rfl) (by kernel_rfl) (fun _ _ _ h => h) (Or.inl ⟨by rfl, ?_⟩) hHeld ?_
          rotate_left
          · intro w hSw
            try dsimp only at hSw
            go_simp
            try with_reducible rfl
          try simp only [Act.put, List.setIfInBounds_toArray, List.set_cons_zero, List.set_cons_succ]
          refine wpAnyH_tk (i := 7) (v := ?_) rfl (by kernel_rfl) (by kernel_rfl) (by kernel_rfl) (fun _ _ _ h => h) (Or.inl ⟨by rfl, ?_⟩) hHeld ?_
          rotate_left
          · intro w hSw
            try dsimp only at hSw
            go_simp
            try with_reducible rfl
          try simp only [Act.put, List.setIfInBounds_toArray, List.set_cons_zero, List.set_cons_succ]
          refine wpAnyH_only (i := 9) rfl (by kernel_rfl) (fun K hK => ?_)
          rw [if_pos (by rfl)]
          refine wp_store_row 97 _ _ rfl p11 (wagg Y) rfl rfl 97 _ (zoo_varm (unhide HA2) (List.Mem.head _)) Try.size97 rfl (wagg_one _) ?_
          have HZF := hide (zoo_setrL (l1 := []) (c' := wagg Y) (unhide HA2))
          refine hK.out _ _ (rangeAt_var (zoo_varm (unhide HZF) (List.Mem.tail _ (List.Mem.tail _ (List.Mem.head _))))) (fun hHeld2 => ?_)
          clear hK K hHeld
          have hHeld := hHeld2
          clear hHeld2
          simp only [Act.put]
          refine wpAnyH_tk (i := 10) (v := ?_) rfl (by kernel_rfl) (by kernel_rfl) (by kernel_rfl) (fun _ _ _ h => h) (Or.inl ⟨by rfl, ?_⟩) hHeld ?_
          rotate_left
          · intro w hSw
            try dsimp only at hSw
            go_simp
            try with_reducible rfl
          try simp only [Act.put, List.setIfInBounds_toArray, List.set_cons_zero, List.set_cons_succ]
          refine wpAnyH_done (by kernel_rfl) ?_ _
          generalize World.setRow _ _ _ = W9p11 at HZF ⊢
          clear hHeld
          go_wp2_with fail
          refine wp_region_held_drew (S := fun w' => w'.rangeAt p11 0 (wagg Y).toList) (by kernel_rfl) (rangeAt_var (zoo_varm ((unhide HZF).kp0 ((Kp.refl [] W9p11).drew)) (List.Mem.head _))) (fun hHeld => ?_)
          have HB0 := hide ((unhide HZF).kp0 ((Kp.refl [] W9p11).drew))
          generalize World.drew _ = WE at HB0 hHeld ⊢
          refine wpAnyH_tk (i := 0) rfl (by kernel_rfl) (by kernel_rfl) (by kernel_rfl) (fun _ _ _ h => h) (yields_s (by rfl) _ rfl p11 0 rfl Y (fun _ h => h)) hHeld ?_
          try simp only [Act.put, List.setIfInBounds_toArray, List.set_cons_zero, List.set_cons_succ]
          refine wpAnyH_tk (i := 1) (v := ?_) rfl (by kernel_rfl) (by kernel_rfl) (by kernel_rfl) (fun _ _ _ h => h) (Or.inl ⟨by rfl, ?_⟩) hHeld ?_
          rotate_left
          · intro w hSw
            try dsimp only at hSw
            go_simp
            try with_reducible rfl
          try simp only [Act.put, List.setIfInBounds_toArray, List.set_cons_zero, List.set_cons_succ]
          refine wpAnyH_tk (i := 2) (v := ?_) rfl (by kernel_rfl) (by kernel_rfl) (by kernel_rfl) (fun _ _ _ h => h) (Or.inl ⟨by rfl, ?_⟩) hHeld ?_
          rotate_left
          · intro w hSw
            try dsimp only at hSw
            go_simp
            try with_reducible rfl
          try simp only [Act.put, List.setIfInBounds_toArray, List.set_cons_zero, List.set_cons_succ]
          refine wpAnyH_tk (i := 3) (v := ?_) rfl (by kernel_rfl) (by kernel_rfl) (by kernel_rfl) (fun _ _ _ h => h) (Or.inl ⟨by rfl, ?_⟩) hHeld ?_
          rotate_left
          · intro w hSw
            try dsimp only at hSw
            go_simp
            try with_reducible rfl
          try simp only [Act.put, List.setIfInBounds_toArray, List.set_cons_zero, List.set_cons_succ]
          refine wpAnyH_two (i := 4) (j := 8) rfl rfl (by kernel_rfl) (fun K hK => ?_) (fun K hK => ?_)
          · go_simp
            refine (unhide HR2 Y _ _ _ (unhide HB0).kp (fun hp => absurd hp (by rw [List.length_drop]; have := unhide HN; omega))).mono ?_
            rintro e w6 ⟨rfl, hk6⟩
            rw [← (unhide HJ).1, unhide HBZ]
            have HB1 := hide ((unhide HB0).kp0 hk6)
            clear hk6
            go_wp2_with fail
            refine hK.out _ _ (rangeAt_var (zoo_varm (unhide HB1) (List.Mem.head _))) (fun hHeld2 => ?_)
            clear hK K hHeld
            have hHeld := hHeld2
            clear hHeld2
            try simp only [Act.put, List.setIfInBounds_toArray, List.set_cons_zero, List.set_cons_succ]
            refine wpAnyH_tk (i := 5) (v := ?_) rfl (by kernel_rfl) (by kernel_rfl) (by kernel_rfl) (fun _ _ _ h => h) (Or.inl ⟨by rfl, ?_⟩) hHeld ?_
            rotate_left
            · intro w hSw
              try dsimp only at hSw
              go_simp
              try with_reducible rfl
            try simp only [Act.put, List.setIfInBounds_toArray, List.set_cons_zero, List.set_cons_succ]
            refine wpAnyH_tk (i := 6) (v := ?_) rfl (by kernel_rfl) (by kernel_rfl) (by kernel_rfl) (fun _ _ _ h => h) (Or.inl ⟨by rfl, ?_⟩) hHeld ?_
            rotate_left
            · intro w hSw
              try dsimp only at hSw
              go_simp
              try with_reducible rfl
            try simp only [Act.put, List.setIfInBounds_toArray, List.set_cons_zero, List.set_cons_succ]
            refine wpAnyH_tk (i := 7) (v := ?_) rfl (by kernel_rfl) (by kernel_rfl) (by kernel_rfl) (fun _ _ _ h => h) (Or.inl ⟨by rfl, ?_⟩) hHeld ?_
            rotate_left
            · intro w hSw
              try dsimp only at hSw
              go_simp
              try with_reducible rfl
            try simp only [Act.put, List.setIfInBounds_toArray, List.set_cons_zero, List.set_cons_succ]
            refine wpAnyH_only (i := 8) rfl (by kernel_rfl) (fun K hK => ?_)
            go_simp
            have HB2 := hide ((unhide HB1).box (wagg (fun _ => dv)) 97)
            rw [zeros_eq] at HB2
            refine hK.out _ _ (rangeAt_var (zoo_varm (unhide HB2) (List.Mem.tail _ (List.Mem.head _)))) (fun hHeld2 => ?_)
            clear hK K hHeld
            have hHeld := hHeld2
            clear hHeld2
            try simp only [Act.put, List.setIfInBounds_toArray, List.set_cons_zero, List.set_cons_succ]
            generalize w6.heap.size = p13 at *
            refine wpAnyH_only (i := 9) rfl (by kernel_rfl) (fun K hK => ?_)
            rw [if_pos (by rfl)]
            refine wp_store_row 97 _ _ rfl p13 (wagg X) rfl rfl 97 _ (zoo_varm (unhide HB2) (List.Mem.head _)) Try.size97 rfl (wagg_one _) ?_
            have HZG := hide (zoo_setrL (l1 := []) (c' := wagg X) (unhide HB2))
            refine hK.out _ _ (rangeAt_var (zoo_varm (unhide HZG) (List.Mem.tail _ (List.Mem.head _)))) (fun hHeld2 => ?_)
            clear hK K hHeld
            have hHeld := hHeld2
            clear hHeld2
            simp only [Act.put]
            refine wpAnyH_tk (i := 10) (v := ?_) rfl (by kernel_rfl) (by kernel_rfl) (by kernel_rfl) (fun _ _ _ h => h) (Or.inl ⟨by rfl, ?_⟩) hHeld ?_
            rotate_left
            · intro w hSw
              try dsimp only at hSw
              go_simp
              try with_reducible rfl
            try simp only [Act.put, List.setIfInBounds_toArray, List.set_cons_zero, List.set_cons_succ]
            refine wpAnyH_done (by kernel_rfl) ?_ _
            generalize World.setRow _ _ _ = W9p13 at HZG ⊢
            clear hHeld
            have A9 := hide (zoo_varm (unhide HZG) (List.Mem.tail _ (List.Mem.tail _ (List.Mem.head _))))
            have A13 := hide (zoo_varm (unhide HZG) (List.Mem.head _))
            have hbj := (unhide HJ).2
            subst hbj
            have heq := eq97 X
            cases bY <;> cases bZ
            all_goals
              go_wp2_with (first | (refine wpList_load97 (by rfl) _ rfl p9 rfl X (unhide A9) ?_) | (refine wpList_load97 (by rfl) _ rfl p13 rfl X (unhide A13) ?_))
              go_ret
              exact ⟨by trivial, (unhide HZG).kp.below (Nat.le_refl _) (by simp)⟩
          · go_simp
            have HB1 := hide ((unhide HB0).box (wagg (fun _ => dv)) 97)
            rw [zeros_eq] at HB1
            refine hK.out _ _ (rangeAt_var (zoo_varm (unhide HB1) (List.Mem.tail _ (List.Mem.head _)))) (fun hHeld2 => ?_)
            clear hK K hHeld
            have hHeld := hHeld2
            clear hHeld2
            try simp only [Act.put, List.setIfInBounds_toArray, List.set_cons_zero, List.set_cons_succ]
            generalize WE.heap.size = p13 at *
            refine wpAnyH_only (i := 4) rfl (by kernel_rfl) (fun K hK => ?_)
            go_simp
            refine (unhide HR2 Y _ _ _ (unhide HB1).kp (fun hp => absurd hp (by rw [List.length_drop]; have := unhide HN; omega))).mono ?_
            rintro e w6 ⟨rfl, hk6⟩
            rw [← (unhide HJ).1, unhide HBZ]
            have HB2 := hide ((unhide HB1).kp0 hk6)
            clear hk6
            go_wp2_with fail
            refine hK.out _ _ (rangeAt_var (zoo_varm (unhide HB2) (List.Mem.tail _ (List.Mem.head _)))) (fun hHeld2 => ?_)
            clear hK K hHeld
            have hHeld := hHeld2
            clear hHeld2
            try simp only [Act.put, List.setIfInBounds_toArray, List.set_cons_zero, List.set_cons_succ]
            refine wpAnyH_tk (i := 5) (v := ?_) rfl (by kernel_rfl) (by kernel_rfl) (by kernel_rfl) (fun _ _ _ h => h) (Or.inl ⟨by rfl, ?_⟩) hHeld ?_
            rotate_left
            · intro w hSw
              try dsimp only at hSw
              go_simp
              try with_reducible rfl
            try simp only [Act.put, List.setIfInBounds_toArray, List.set_cons_zero, List.set_cons_succ]
            refine wpAnyH_tk (i := 6) (v := ?_) rfl (by kernel_rfl) (by kernel_rfl) (by kernel_rfl) (fun _ _ _ h => h) (Or.inl ⟨by rfl, ?_⟩) hHeld ?_
            rotate_left
            · intro w hSw
              try dsimp only at hSw
              go_simp
              try with_reducible rfl
            try simp only [Act.put, List.setIfInBounds_toArray, List.set_cons_zero, List.set_cons_succ]
            refine wpAnyH_tk (i := 7) (v := ?_) rfl (by kernel_rfl) (by kernel_rfl) (by kernel_rfl) (fun _ _ _ h => h) (Or.inl ⟨by rfl, ?_⟩) hHeld ?_
            rotate_left
            · intro w hSw
              try dsimp only at hSw
              go_simp
              try with_reducible rfl
            try simp only [Act.put, List.setIfInBounds_toArray, List.set_cons_zero, List.set_cons_succ]
            refine wpAnyH_only (i := 9) rfl (by kernel_rfl) (fun K hK => ?_)
            rw [if_pos (by rfl)]
            refine wp_store_row 97 _ _ rfl p13 (wagg X) rfl rfl 97 _ (zoo_varm (unhide HB2) (List.Mem.head _)) Try.size97 rfl (wagg_one _) ?_
            have HZG := hide (zoo_setrL (l1 := []) (c' := wagg X) (unhide HB2))
            refine hK.out _ _ (rangeAt_var (zoo_varm (unhide HZG) (List.Mem.tail _ (List.Mem.head _)))) (fun hHeld2 => ?_)
            clear hK K hHeld
            have hHeld := hHeld2
            clear hHeld2
            simp only [Act.put]
            refine wpAnyH_tk (i := 10) (v := ?_) rfl (by kernel_rfl) (by kernel_rfl) (by kernel_rfl) (fun _ _ _ h => h) (Or.inl ⟨by rfl, ?_⟩) hHeld ?_
            rotate_left
            · intro w hSw
              try dsimp only at hSw
              go_simp
              try with_reducible rfl
            try simp only [Act.put, List.setIfInBounds_toArray, List.set_cons_zero, List.set_cons_succ]
            refine wpAnyH_done (by kernel_rfl) ?_ _
            generalize World.setRow _ _ _ = W9p13 at HZG ⊢
            clear hHeld
            have A9 := hide (zoo_varm (unhide HZG) (List.Mem.tail _ (List.Mem.tail _ (List.Mem.head _))))
            have A13 := hide (zoo_varm (unhide HZG) (List.Mem.head _))
            have hbj := (unhide HJ).2
            subst hbj
            have heq := eq97 X
            cases bY <;> cases bZ
            all_goals
              go_wp2_with (first | (refine wpList_load97 (by rfl) _ rfl p9 rfl X (unhide A9) ?_) | (refine wpList_load97 (by rfl) _ rfl p13 rfl X (unhide A13) ?_))
              go_ret
              exact ⟨by trivial, (unhide HZG).kp.below (Nat.le_refl _) (by simp)⟩
      | some ad =>
        by_cases hcd : c = d
        · have hcd2 : c - d = 0 := by omega
          refine wp_region_held_drew (S := fun w' => w'.rangeAt p3 0 (wagg v).toList) (by kernel_rfl) (rangeAt_var (zoo_varm ((unhide HZ3).kp0 ((Kp.refl [] W3).drew)) (List.Mem.tail _ (List.Mem.head _)))) (fun hHeld => ?_)
          have HA0 := hide ((unhide HZ3).kp0 ((Kp.refl [] W3).drew))
          generalize World.drew _ = WD at HA0 hHeld ⊢
          refine wpAnyH_tk (i := 0) rfl (by kernel_rfl) (by kernel_rfl) (by kernel_rfl) (fun _ _ _ h => h) (yields_av (by rfl) _ rfl p3 0 rfl v (fun _ h => h)) hHeld ?_
          try simp only [Act.put, List.setIfInBounds_toArray, List.set_cons_zero, List.set_cons_succ]
          refine wpAnyH_tk (i := 1) (v := ?_) rfl (by kernel_rfl) (by kernel_rfl) (by kernel_rfl) (fun _ _ _ h => h) (Or.inl ⟨by rfl, ?_⟩) hHeld ?_
          rotate_left
          · intro w hSw
            try dsimp only at hSw
            go_simp
            try with_reducible rfl
          try simp only [Act.put, List.setIfInBounds_toArray, List.set_cons_zero, List.set_cons_succ]
          refine wpAnyH_tk (i := 2) (v := ?_) rfl (by kernel_rfl) (by kernel_rfl) (by kernel_rfl) (fun _ _ _ h => h) (Or.inl ⟨by rfl, ?_⟩) hHeld ?_
          rotate_left
          · intro w hSw
            try dsimp only at hSw
            go_simp
            try with_reducible rfl
          try simp only [Act.put, List.setIfInBounds_toArray, List.set_cons_zero, List.set_cons_succ]
          refine wpAnyH_tk (i := 3) (v := ?_) rfl (by kernel_rfl) (by kernel_rfl) (by kernel_rfl) (fun _ _ _ h => h) (Or.inl ⟨by rfl, ?_⟩) hHeld ?_
          rotate_left
          · intro w hSw
            try dsimp only at hSw
            go_simp
            try with_reducible rfl
          try simp only [Act.put, List.setIfInBounds_toArray, List.set_cons_zero, List.set_cons_succ]
          refine wpAnyH_two (i := 4) (j := 8) rfl rfl (by kernel_rfl) (fun K hK => ?_) (fun K hK => ?_)
          · go_simp
            refine (unhide HR1 (some ad) _ _ (unhide HA0).kp (acts_take (unhide HA).ins _)).mono ?_
            rintro e w6 ⟨rfl, hk6⟩
            rw [(unhide HYY).1, (unhide HYY).2]
            have HA1 := hide ((unhide HA0).kp0 hk6)
            clear hk6
            go_wp2_with fail
            refine hK.out _ _ (rangeAt_var (zoo_varm (unhide HA1) (List.Mem.tail _ (List.Mem.head _)))) (fun hHeld2 => ?_)
            clear hK K hHeld
            have hHeld := hHeld2
            clear hHeld2
            try simp only [Act.put, List.setIfInBounds_toArray, List.set_cons_zero, List.set_cons_succ]
            refine wpAnyH_tk (i := 5) (v := ?_) rfl (by kernel_rfl) (by kernel_rfl) (by kernel_rfl) (fun _ _ _ h => h) (Or.inl ⟨by rfl, ?_⟩) hHeld ?_
            rotate_left
            · intro w hSw
              try dsimp only at hSw
              go_simp
              try with_reducible rfl
            try simp only [Act.put, List.setIfInBounds_toArray, List.set_cons_zero, List.set_cons_succ]
            refine wpAnyH_tk (i := 6) (v := ?_) rfl (by kernel_rfl) (by kernel_rfl) (by kernel_rfl) (fun _ _ _ h => h) (Or.inl ⟨by rfl, ?_⟩) hHeld ?_
            rotate_left
            · intro w hSw
              try dsimp only at hSw
              go_simp
              try with_reducible rfl
            try simp only [Act.put, List.setIfInBounds_toArray, List.set_cons_zero, List.set_cons_succ]
            refine wpAnyH_tk (i := 7) (v := ?_) rfl (by kernel_rfl) (by kernel_rfl) (by kernel_rfl) (fun _ _ _ h => h) (Or.inl ⟨by rfl, ?_⟩) hHeld ?_
            rotate_left
            · intro w hSw
              try dsimp only at hSw
              go_simp
              try with_reducible rfl
            try simp only [Act.put, List.setIfInBounds_toArray, List.set_cons_zero, List.set_cons_succ]
            refine wpAnyH_only (i := 8) rfl (by kernel_rfl) (fun K hK => ?_)
            go_simp
            have HA2 := hide ((unhide HA1).box (wagg (fun _ => dv)) 97)
            rw [zeros_eq] at HA2
            refine hK.out _ _ (rangeAt_var (zoo_varm (unhide HA2) (List.Mem.tail _ (List.Mem.tail _ (List.Mem.head _))))) (fun hHeld2 => ?_)
            clear hK K hHeld
            have hHeld := hHeld2
            clear hHeld2
            try simp only [Act.put, List.setIfInBounds_toArray, List.set_cons_zero, List.set_cons_succ]
            generalize w6.heap.size = p11 at *
            refine wpAnyH_only (i := 9) rfl (by kernel_rfl) (fun K hK => ?_)
            rw [if_pos (by rfl)]
            refine wp_store_row 97 _ _ rfl p11 (wagg Y) rfl rfl 97 _ (zoo_varm (unhide HA2) (List.Mem.head _)) Try.size97 rfl (wagg_one _) ?_
            have HZF := hide (zoo_setrL (l1 := []) (c' := wagg Y) (unhide HA2))
            refine hK.out _ _ (rangeAt_var (zoo_varm (unhide HZF) (List.Mem.tail _ (List.Mem.tail _ (List.Mem.head _))))) (fun hHeld2 => ?_)
            clear hK K hHeld
            have hHeld := hHeld2
            clear hHeld2
            simp only [Act.put]
            refine wpAnyH_tk (i := 10) (v := ?_) rfl (by kernel_rfl) (by kernel_rfl) (by kernel_rfl) (fun _ _ _ h => h) (Or.inl ⟨by rfl, ?_⟩) hHeld ?_
            rotate_left
            · intro w hSw
              try dsimp only at hSw
              go_simp
              try with_reducible rfl
            try simp only [Act.put, List.setIfInBounds_toArray, List.set_cons_zero, List.set_cons_succ]
            refine wpAnyH_done (by kernel_rfl) ?_ _
            generalize World.setRow _ _ _ = W9p11 at HZF ⊢
            clear hHeld
            go_wp2_with fail
            refine wp_region_held_drew (S := fun w' => w'.rangeAt p11 0 (wagg Y).toList) (by kernel_rfl) (rangeAt_var (zoo_varm ((unhide HZF).kp0 ((Kp.refl [] W9p11).drew)) (List.Mem.head _))) (fun hHeld => ?_)
            have HB0 := hide ((unhide HZF).kp0 ((Kp.refl [] W9p11).drew))
            generalize World.drew _ = WE at HB0 hHeld ⊢
            refine wpAnyH_tk (i := 0) rfl (by kernel_rfl) (by kernel_rfl) (by kernel_rfl) (fun _ _ _ h => h) (yields_s (by rfl) _ rfl p11 0 rfl Y (fun _ h => h)) hHeld ?_
            try simp only [Act.put, List.setIfInBounds_toArray, List.set_cons_zero, List.set_cons_succ]
            refine wpAnyH_tk (i := 1) (v := ?_) rfl (by kernel_rfl) (by kernel_rfl) (by kernel_rfl) (fun _ _ _ h => h) (Or.inl ⟨by rfl, ?_⟩) hHeld ?_
            rotate_left
            · intro w hSw
              try dsimp only at hSw
              go_simp
              try with_reducible rfl
            try simp only [Act.put, List.setIfInBounds_toArray, List.set_cons_zero, List.set_cons_succ]
            refine wpAnyH_tk (i := 2) (v := ?_) rfl (by kernel_rfl) (by kernel_rfl) (by kernel_rfl) (fun _ _ _ h => h) (Or.inl ⟨by rfl, ?_⟩) hHeld ?_
            rotate_left
            · intro w hSw
              try dsimp only at hSw
              go_simp
              try with_reducible rfl
            try simp only [Act.put, List.setIfInBounds_toArray, List.set_cons_zero, List.set_cons_succ]
            refine wpAnyH_tk (i := 3) (v := ?_) rfl (by kernel_rfl) (by kernel_rfl) (by kernel_rfl) (fun _ _ _ h => h) (Or.inl ⟨by rfl, ?_⟩) hHeld ?_
            rotate_left
            · intro w hSw
              try dsimp only at hSw
              go_simp
              try with_reducible rfl
            try simp only [Act.put, List.setIfInBounds_toArray, List.set_cons_zero, List.set_cons_succ]
            refine wpAnyH_two (i := 4) (j := 8) rfl rfl (by kernel_rfl) (fun K hK => ?_) (fun K hK => ?_)
            · go_simp
              refine (unhide HR2 Y _ _ _ (unhide HB0).kp (fun hp => absurd hp (by rw [List.length_drop]; have := unhide HN; omega))).mono ?_
              rintro e w6 ⟨rfl, hk6⟩
              rw [← (unhide HJ).1, unhide HBZ]
              have HB1 := hide ((unhide HB0).kp0 hk6)
              clear hk6
              go_wp2_with fail
              refine hK.out _ _ (rangeAt_var (zoo_varm (unhide HB1) (List.Mem.head _))) (fun hHeld2 => ?_)
              clear hK K hHeld
              have hHeld := hHeld2
              clear hHeld2
              try simp only [Act.put, List.setIfInBounds_toArray, List.set_cons_zero, List.set_cons_succ]
              refine wpAnyH_tk (i := 5) (v := ?_) rfl (by kernel_rfl) (by kernel_rfl) (by kernel_rfl) (fun _ _ _ h => h) (Or.inl ⟨by rfl, ?_⟩) hHeld ?_
              rotate_left
              · intro w hSw
                try dsimp only at hSw
                go_simp
                try with_reducible rfl
              try simp only [Act.put, List.setIfInBounds_toArray, List.set_cons_zero, List.set_cons_succ]
              refine wpAnyH_tk (i := 6) (v := ?_) rfl (by kernel_rfl) (by kernel_rfl) (by kernel_rfl) (fun _ _ _ h => h) (Or.inl ⟨by rfl, ?_⟩) hHeld ?_
              rotate_left
              · intro w hSw
                try dsimp only at hSw
                go_simp
                try with_reducible rfl
              try simp only [Act.put, List.setIfInBounds_toArray, List.set_cons_zero, List.set_cons_succ]
              refine wpAnyH_tk (i := 7) (v := ?_) rfl (by kernel_rfl) (by kernel_rfl) (by kernel_rfl) (fun _ _ _ h => h) (Or.inl ⟨by rfl, ?_⟩) hHeld ?_
              rotate_left
              · intro w hSw
                try dsimp only at hSw
                go_simp
                try with_reducible rfl
              try simp only [Act.put, List.setIfInBounds_toArray, List.set_cons_zero, List.set_cons_succ]
              refine wpAnyH_only (i := 8) rfl (by kernel_rfl) (fun K hK => ?_)
              go_simp
              have HB2 := hide ((unhide HB1).box (wagg (fun _ => dv)) 97)
              rw [zeros_eq] at HB2
              refine hK.out _ _ (rangeAt_var (zoo_varm (unhide HB2) (List.Mem.tail _ (List.Mem.head _)))) (fun hHeld2 => ?_)
              clear hK K hHeld
              have hHeld := hHeld2
              clear hHeld2
              try simp only [Act.put, List.setIfInBounds_toArray, List.set_cons_zero, List.set_cons_succ]
              generalize w6.heap.size = p13 at *
              refine wpAnyH_only (i := 9) rfl (by kernel_rfl) (fun K hK => ?_)
              rw [if_pos (by rfl)]
              refine wp_store_row 97 _ _ rfl p13 (wagg X) rfl rfl 97 _ (zoo_varm (unhide HB2) (List.Mem.head _)) Try.size97 rfl (wagg_one _) ?_
              have HZG := hide (zoo_setrL (l1 := []) (c' := wagg X) (unhide HB2))
              refine hK.out _ _ (rangeAt_var (zoo_varm (unhide HZG) (List.Mem.tail _ (List.Mem.head _)))) (fun hHeld2 => ?_)
              clear hK K hHeld
              have hHeld := hHeld2
              clear hHeld2
              simp only [Act.put]
              refine wpAnyH_tk (i := 10) (v := ?_) rfl (by kernel_rfl) (by kernel_rfl) (by kernel_rfl) (fun _ _ _ h => h) (Or.inl ⟨by rfl, ?_⟩) hHeld ?_
              rotate_left
              · intro w hSw
                try dsimp only at hSw
                go_simp
                try with_reducible rfl
              try simp only [Act.put, List.setIfInBounds_toArray, List.set_cons_zero, List.set_cons_succ]
              refine wpAnyH_done (by kernel_rfl) ?_ _
              generalize World.setRow _ _ _ = W9p13 at HZG ⊢
              clear hHeld
              have A9 := hide (zoo_varm (unhide HZG) (List.Mem.tail _ (List.Mem.tail _ (List.Mem.head _))))
              have A13 := hide (zoo_varm (unhide HZG) (List.Mem.head _))
              have hbj := (unhide HJ).2
              subst hbj
              have heq := eq97 X
              cases bY <;> cases bZ
              all_goals
                go_wp2_with (first | (refine wpList_load97 (by rfl) _ rfl p9 rfl X (unhide A9) ?_) | (refine wpList_load97 (by rfl) _ rfl p13 rfl X (unhide A13) ?_))
                go_ret
                exact ⟨by trivial, (unhide HZG).kp.below (Nat.le_refl _) (by simp)⟩
            · go_simp
              have HB1 := hide ((unhide HB0).box (wagg (fun _ => dv)) 97)
              rw [zeros_eq] at HB1
              refine hK.out _ _ (rangeAt_var (zoo_varm (unhide HB1) (List.Mem.tail _ (List.Mem.head _)))) (fun hHeld2 => ?_)
              clear hK K hHeld
              have hHeld := hHeld2
              clear hHeld2
              try simp only [Act.put, List.setIfInBounds_toArray, List.set_cons_zero, List.set_cons_succ]
              generalize WE.heap.size = p13 at *
              refine wpAnyH_only (i := 4) rfl (by kernel_rfl) (fun K hK => ?_)
              go_simp
              refine (unhide HR2 Y _ _ _ (unhide HB1).kp (fun hp => absurd hp (by rw [List.length_drop]; have := unhide HN; omega))).mono ?_
              rintro e w6 ⟨rfl, hk6⟩
              rw [← (unhide HJ).1, unhide HBZ]
              have HB2 := hide ((unhide HB1).kp0 hk6)
              clear hk6
              go_wp2_with fail
              refine hK.out _ _ (rangeAt_var (zoo_varm (unhide HB2) (List.Mem.tail _ (List.Mem.head _)))) (fun hHeld2 => ?_)
              clear hK K hHeld
              have hHeld := hHeld2
              clear hHeld2
              try simp only [Act.put, List.setIfInBounds_toArray, List.set_cons_zero, List.set_cons_succ]
              refine wpAnyH_tk (i := 5) (v := ?_) rfl (by kernel_rfl) (by kernel_rfl) (by kernel_rfl) (fun _ _ _ h => h) (Or.inl ⟨by rfl, ?_⟩) hHeld ?_
              rotate_left
              · intro w hSw
                try dsimp only at hSw
                go_simp
                try with_reducible rfl
              try simp only [Act.put, List.setIfInBounds_toArray, List.set_cons_zero, List.set_cons_succ]
              refine wpAnyH_tk (i := 6) (v := ?_) rfl (by kernel_rfl) (by kernel_rfl) (by kernel_rfl) (fun _ _ _ h => h) (Or.inl ⟨by rfl, ?_⟩) hHeld ?_
              rotate_left
              · intro w hSw
                try dsimp only at hSw
                go_simp
                try with_reducible rfl
              try simp only [Act.put, List.setIfInBounds_toArray, List.set_cons_zero, List.set_cons_succ]
              refine wpAnyH_tk (i := 7) (v := ?_) rfl (by kernel_rfl) (by kernel_rfl) (by kernel_rfl) (fun _ _ _ h => h) (Or.inl ⟨by rfl, ?_⟩) hHeld ?_
              rotate_left
              · intro w hSw
                try dsimp only at hSw
                go_simp
                try with_reducible rfl
              try simp only [Act.put, List.setIfInBounds_toArray, List.set_cons_zero, List.set_cons_succ]
              refine wpAnyH_only (i := 9) rfl (by kernel_rfl) (fun K hK => ?_)
              rw [if_pos (by rfl)]
              refine wp_store_row 97 _ _ rfl p13 (wagg X) rfl rfl 97 _ (zoo_varm (unhide HB2) (List.Mem.head _)) Try.size97 rfl (wagg_one _) ?_
              have HZG := hide (zoo_setrL (l1 := []) (c' := wagg X) (unhide HB2))
              refine hK.out _ _ (rangeAt_var (zoo_varm (unhide HZG) (List.Mem.tail _ (List.Mem.head _)))) (fun hHeld2 => ?_)
              clear hK K hHeld
              have hHeld := hHeld2
              clear hHeld2
              simp only [Act.put]
              refine wpAnyH_tk (i := 10) (v := ?_) rfl (by kernel_rfl) (by kernel_rfl) (by kernel_rfl) (fun _ _ _ h => h) (Or.inl ⟨by rfl, ?_⟩) hHeld ?_
              rotate_left
              · intro w hSw
                try dsimp only at hSw
                go_simp
                try with_reducible rfl
              try simp only [Act.put, List.setIfInBounds_toArray, List.set_cons_zero, List.set_cons_succ]
              refine wpAnyH_done (by kernel_rfl) ?_ _
              generalize World.setRow _ _ _ = W9p13 at HZG ⊢
              clear hHeld
              have A9 := hide (zoo_varm (unhide HZG) (List.Mem.tail _ (List.Mem.tail _ (List.Mem.head _))))
              have A13 := hide (zoo_varm (unhide HZG) (List.Mem.head _))
              have hbj := (unhide HJ).2
              subst hbj
              have heq := eq97 X
              cases bY <;> cases bZ
              all_goals
                go_wp2_with (first | (refine wpList_load97 (by rfl) _ rfl p9 rfl X (unhide A9) ?_) | (refine wpList_load97 (by rfl) _ rfl p13 rfl X (unhide A13) ?_))
                go_ret
                exact ⟨by trivial, (unhide HZG).kp.below (Nat.le_refl _) (by simp)⟩
          · go_simp
            have HA1 := hide ((unhide HA0).box (wagg (fun _ => dv)) 97)
            rw [zeros_eq] at HA1
            refine hK.out _ _ (rangeAt_var (zoo_varm (unhide HA1) (List.Mem.tail _ (List.Mem.tail _ (List.Mem.head _))))) (fun hHeld2 => ?_)
            clear hK K hHeld
            have hHeld := hHeld2
            clear hHeld2
            try simp only [Act.put, List.setIfInBounds_toArray, List.set_cons_zero, List.set_cons_succ]
            generalize WD.heap.size = p11 at *
            refine wpAnyH_only (i := 4) rfl (by kernel_rfl) (fun K hK => ?_)
            go_simp
            refine (unhide HR1 (some ad) _ _ (unhide HA1).kp (acts_take (unhide HA).ins _)).mono ?_
            rintro e w6 ⟨rfl, hk6⟩
            rw [(unhide HYY).1, (unhide HYY).2]
            have HA2 := hide ((unhide HA1).kp0 hk6)
            clear hk6
            go_wp2_with fail
            refine hK.out _ _ (rangeAt_var (zoo_varm (unhide HA2) (List.Mem.tail _ (List.Mem.tail _ (List.Mem.head _))))) (fun hHeld2 => ?_)
            clear hK K hHeld
            have hHeld := hHeld2
            clear hHeld2
            try simp only [Act.put, List.setIfInBounds_toArray, List.set_cons_zero, List.set_cons_succ]
            refine wpAnyH_tk (i := 5) (v := ?_) rfl (by kernel_rfl) (by kernel_rfl) (by kernel_rfl) (fun _ _ _ h => h) (Or.inl ⟨by rfl, ?_⟩) hHeld ?_
            rotate_left
            · intro w hSw
              try dsimp only at hSw
              go_simp
              try with_reducible rfl
            try simp only [Act.put, List.setIfInBounds_toArray, List.set_cons_zero, List.set_cons_succ]
            refine wpAnyH_tk (i := 6) (v := ?_) rfl (by kernel_rfl) (by kernel_rfl) (by kernel_rfl) (fun _ _ _ h => h) (Or.inl ⟨by rfl, ?_⟩) hHeld ?_
            rotate_left
            · intro w hSw
              try dsimp only at hSw
              go_simp
              try with_reducible rfl
            try simp only [Act.put, List.setIfInBounds_toArray, List.set_cons_zero, List.set_cons_succ]
            refine wpAnyH_tk (i := 7) (v := ?_) rfl (by kernel_rfl) (by kernel_rfl) (by kernel_rfl) (fun _ _ _ h => h) (Or.inl ⟨by rfl, ?_⟩) hHeld ?_
            rotate_left
            · intro w hSw
              try dsimp only at hSw
              go_simp
              try with_reducible rfl
            try simp only [Act.put, List.setIfInBounds_toArray, List.set_cons_zero, List.set_cons_succ]
            refine wpAnyH_only (i := 9) rfl (by kernel_rfl) (fun K hK => ?_)
            rw [if_pos (by rfl)]
            refine wp_store_row 97 _ _ rfl p11 (wagg Y) rfl rfl 97 _ (zoo_varm (unhide HA2) (List.Mem.head _)) Try.size97 rfl (wagg_one _) ?_
            have HZF := hide (zoo_setrL (l1 := []) (c' := wagg Y) (unhide HA2))
            refine hK.out _ _ (rangeAt_var (zoo_varm (unhide HZF) (List.Mem.tail _ (List.Mem.tail _ (List.Mem.head _))))) (fun hHeld2 => ?_)
            clear hK K hHeld
            have hHeld := hHeld2
            clear hHeld2
            simp only [Act.put]
            refine wpAnyH_tk (i := 10) (v := ?_) rfl (by kernel_rfl) (by kernel_rfl) (by kernel_rfl) (fun _ _ _ h => h) (Or.inl ⟨by rfl, ?_⟩) hHeld ?_
            rotate_left
            · intro w hSw
              try dsimp only at hSw
              go_simp
              try with_reducible rfl
            try simp only [Act.put, List.setIfInBounds_toArray, List.set_cons_zero, List.set_cons_succ]
            refine wpAnyH_done (by kernel_rfl) ?_ _
            generalize World.setRow _ _ _ = W9p11 at HZF ⊢
            clear hHeld
            go_wp2_with fail
            refine wp_region_held_drew (S := fun w' => w'.rangeAt p11 0 (wagg Y).toList) (by kernel_rfl) (rangeAt_var (zoo_varm ((unhide HZF).kp0 ((Kp.refl [] W9p11).drew)) (List.Mem.head _))) (fun hHeld => ?_)
            have HB0 := hide ((unhide HZF).kp0 ((Kp.refl [] W9p11).drew))
            generalize World.drew _ = WE at HB0 hHeld ⊢
            refine wpAnyH_tk (i := 0) rfl (by kernel_rfl) (by kernel_rfl) (by kernel_rfl) (fun _ _ _ h => h) (yields_s (by rfl) _ rfl p11 0 rfl Y (fun _ h => h)) hHeld ?_
            try simp only [Act.put, List.setIfInBounds_toArray, List.set_cons_zero, List.set_cons_succ]
            refine wpAnyH_tk (i := 1) (v := ?_) rfl (by kernel_rfl) (by kernel_rfl) (by kernel_rfl) (fun _ _ _ h => h) (Or.inl ⟨by rfl, ?_⟩) hHeld ?_
            rotate_left
            · intro w hSw
              try dsimp only at hSw
              go_simp
              try with_reducible rfl
            try simp only [Act.put, List.setIfInBounds_toArray, List.set_cons_zero, List.set_cons_succ]
            refine wpAnyH_tk (i := 2) (v := ?_) rfl (by kernel_rfl) (by kernel_rfl) (by kernel_rfl) (fun _ _ _ h => h) (Or.inl ⟨by rfl, ?_⟩) hHeld ?_
            rotate_left
            · intro w hSw
              try dsimp only at hSw
              go_simp
              try with_reducible rfl
            try simp only [Act.put, List.setIfInBounds_toArray, List.set_cons_zero, List.set_cons_succ]
            refine wpAnyH_tk (i := 3) (v := ?_) rfl (by kernel_rfl) (by kernel_rfl) (by kernel_rfl) (fun _ _ _ h => h) (Or.inl ⟨by rfl, ?_⟩) hHeld ?_
            rotate_left
            · intro w hSw
              try dsimp only at hSw
              go_simp
              try with_reducible rfl
            try simp only [Act.put, List.setIfInBounds_toArray, List.set_cons_zero, List.set_cons_succ]
            refine wpAnyH_two (i := 4) (j := 8) rfl rfl (by kernel_rfl) (fun K hK => ?_) (fun K hK => ?_)
            · go_simp
              refine (unhide HR2 Y _ _ _ (unhide HB0).kp (fun hp => absurd hp (by rw [List.length_drop]; have := unhide HN; omega))).mono ?_
              rintro e w6 ⟨rfl, hk6⟩
              rw [← (unhide HJ).1, unhide HBZ]
              have HB1 := hide ((unhide HB0).kp0 hk6)
              clear hk6
              go_wp2_with fail
              refine hK.out _ _ (rangeAt_var (zoo_varm (unhide HB1) (List.Mem.head _))) (fun hHeld2 => ?_)
              clear hK K hHeld
              have hHeld := hHeld2
              clear hHeld2
              try simp only [Act.put, List.setIfInBounds_toArray, List.set_cons_zero, List.set_cons_succ]
              refine wpAnyH_tk (i := 5) (v := ?_) rfl (by kernel_rfl) (by kernel_rfl) (by kernel_rfl) (fun _ _ _ h => h) (Or.inl ⟨by rfl, ?_⟩) hHeld ?_
              rotate_left
              · intro w hSw
                try dsimp only at hSw
                go_simp
                try with_reducible rfl
              try simp only [Act.put, List.setIfInBounds_toArray, List.set_cons_zero, List.set_cons_succ]
              refine wpAnyH_tk (i := 6) (v := ?_) rfl (by kernel_rfl) (by kernel_rfl) (by kernel_rfl) (fun _ _ _ h => h) (Or.inl ⟨by rfl, ?_⟩) hHeld ?_
              rotate_left
              · intro w hSw
                try dsimp only at hSw
                go_simp
                try with_reducible rfl
              try simp only [Act.put, List.setIfInBounds_toArray, List.set_cons_zero, List.set_cons_succ]
              refine wpAnyH_tk (i := 7) (v := ?_) rfl (by kernel_rfl) (by kernel_rfl) (by kernel_rfl) (fun _ _ _ h => h) (Or.inl ⟨by rfl, ?_⟩) hHeld ?_
              rotate_left
              · intro w hSw
                try dsimp only at hSw
                go_simp
                try with_reducible rfl
              try simp only [Act.put, List.setIfInBounds_toArray, List.set_cons_zero, List.set_cons_succ]
              refine wpAnyH_only (i := 8) rfl (by kernel_rfl) (fun K hK => ?_)
              go_simp
              have HB2 := hide ((unhide HB1).box (wagg (fun _ => dv)) 97)
              rw [zeros_eq] at HB2
              refine hK.out _ _ (rangeAt_var (zoo_varm (unhide HB2) (List.Mem.tail _ (List.Mem.head _)))) (fun hHeld2 => ?_)
              clear hK K hHeld
              have hHeld := hHeld2
              clear hHeld2
              try simp only [Act.put, List.setIfInBounds_toArray, List.set_cons_zero, List.set_cons_succ]
              generalize w6.heap.size = p13 at *
              refine wpAnyH_only (i := 9) rfl (by kernel_rfl) (fun K hK => ?_)
              rw [if_pos (by rfl)]
              refine wp_store_row 97 _ _ rfl p13 (wagg X) rfl rfl 97 _ (zoo_varm (unhide HB2) (List.Mem.head _)) Try.size97 rfl (wagg_one _) ?_
              have HZG := hide (zoo_setrL (l1 := []) (c' := wagg X) (unhide HB2))
              refine hK.out _ _ (rangeAt_var (zoo_varm (unhide HZG) (List.Mem.tail _ (List.Mem.head _)))) (fun hHeld2 => ?_)
              clear hK K hHeld
              have hHeld := hHeld2
              clear hHeld2
              simp only [Act.put]
              refine wpAnyH_tk (i := 10) (v := ?_) rfl (by kernel_rfl) (by kernel_rfl) (by kernel_rfl) (fun _ _ _ h => h) (Or.inl ⟨by rfl, ?_⟩) hHeld ?_
              rotate_left
              · intro w hSw
                try dsimp only at hSw
                go_simp
                try with_reducible rfl
              try simp only [Act.put, List.setIfInBounds_toArray, List.set_cons_zero, List.set_cons_succ]
              refine wpAnyH_done (by kernel_rfl) ?_ _
              generalize World.setRow _ _ _ = W9p13 at HZG ⊢
              clear hHeld
              have A9 := hide (zoo_varm (unhide HZG) (List.Mem.tail _ (List.Mem.tail _ (List.Mem.head _))))
              have A13 := hide (zoo_varm (unhide HZG) (List.Mem.head _))
              have hbj := (unhide HJ).2
              subst hbj
              have heq := eq97 X
              cases bY <;> cases bZ
              all_goals
                go_wp2_with (first | (refine wpList_load97 (by rfl) _ rfl p9 rfl X (unhide A9) ?_) | (refine wpList_load97 (by rfl) _ rfl p13 rfl X (unhide A13) ?_))
                go_ret
                exact ⟨by trivial, (unhide HZG).kp.below (Nat.le_refl _) (by simp)⟩
            · go_simp
              have HB1 := hide ((unhide HB0).box (wagg (fun _ => dv)) 97)
              rw [zeros_eq] at HB1
              refine hK.out _ _ (rangeAt_var (zoo_varm (unhide HB1) (List.Mem.tail _ (List.Mem.head _)))) (fun hHeld2 => ?_)
              clear hK K hHeld
              have hHeld := hHeld2
              clear hHeld2
              try simp only [Act.put, List.setIfInBounds_toArray, List.set_cons_zero, List.set_cons_succ]
              generalize WE.heap.size = p13 at *
              refine wpAnyH_only (i := 4) rfl (by kernel_rfl) (fun K hK => ?_)
              go_simp
              refine (unhide HR2 Y _ _ _ (unhide HB1).kp (fun hp => absurd hp (by rw [List.length_drop]; have := unhide HN; omega))).mono ?_
              rintro e w6 ⟨rfl, hk6⟩
              rw [← (unhide HJ).1, unhide HBZ]
              have HB2 := hide ((unhide HB1).kp0 hk6)
              clear hk6
              go_wp2_with fail
              refine hK.out _ _ (rangeAt_var (zoo_varm (unhide HB2) (List.Mem.tail _ (List.Mem.head _)))) (fun hHeld2 => ?_)
              clear hK K hHeld
              have hHeld := hHeld2
              clear hHeld2
              try simp only [Act.put, List.setIfInBounds_toArray, List.set_cons_zero, List.set_cons_succ]
              refine wpAnyH_tk (i := 5) (v := ?_) rfl (by kernel_rfl) (by kernel_rfl) (by kernel_rfl) (fun _ _ _ h => h) (Or.inl ⟨by rfl, ?_⟩) hHeld ?_
              rotate_left
              · intro w hSw
                try dsimp only at hSw
                go_simp
                try with_reducible rfl
              try simp only [Act.put, List.setIfInBounds_toArray, List.set_cons_zero, List.set_cons_succ]
              refine wpAnyH_tk (i := 6) (v := ?_) rfl (by kernel_rfl) (by kernel_rfl) (by kernel_rfl) (fun _ _ _ h => h) (Or.inl ⟨by rfl, ?_⟩) hHeld ?_
              rotate_left
              · intro w hSw
                try dsimp only at hSw
                go_simp
                try with_reducible rfl
              try simp only [Act.put, List.setIfInBounds_toArray, List.set_cons_zero, List.set_cons_succ]
              refine wpAnyH_tk (i := 7) (v := ?_) rfl (by kernel_rfl) (by kernel_rfl) (by kernel_rfl) (fun _ _ _ h => h) (Or.inl ⟨by rfl, ?_⟩) hHeld ?_
              rotate_left
              · intro w hSw
                try dsimp only at hSw
                go_simp
                try with_reducible rfl
              try simp only [Act.put, List.setIfInBounds_toArray, List.set_cons_zero, List.set_cons_succ]
              refine wpAnyH_only (i := 9) rfl (by kernel_rfl) (fun K hK => ?_)
              rw [if_pos (by rfl)]
              refine wp_store_row 97 _ _ rfl p13 (wagg X) rfl rfl 97 _ (zoo_varm (unhide HB2) (List.Mem.head _)) Try.size97 rfl (wagg_one _) ?_
              have HZG := hide (zoo_setrL (l1 := []) (c' := wagg X) (unhide HB2))
              refine hK.out _ _ (rangeAt_var (zoo_varm (unhide HZG) (List.Mem.tail _ (List.Mem.head _)))) (fun hHeld2 => ?_)
              clear hK K hHeld
              have hHeld := hHeld2
              clear hHeld2
              simp only [Act.put]
              refine wpAnyH_tk (i := 10) (v := ?_) rfl (by kernel_rfl) (by kernel_rfl) (by kernel_rfl) (fun _ _ _ h => h) (Or.inl ⟨by rfl, ?_⟩) hHeld ?_
              rotate_left
              · intro w hSw
                try dsimp only at hSw
                go_simp
                try with_reducible rfl
              try simp only [Act.put, List.setIfInBounds_toArray, List.set_cons_zero, List.set_cons_succ]
              refine wpAnyH_done (by kernel_rfl) ?_ _
              generalize World.setRow _ _ _ = W9p13 at HZG ⊢
              clear hHeld
              have A9 := hide (zoo_varm (unhide HZG) (List.Mem.tail _ (List.Mem.tail _ (List.Mem.head _))))
              have A13 := hide (zoo_varm (unhide HZG) (List.Mem.head _))
              have hbj := (unhide HJ).2
              subst hbj
              have heq := eq97 X
              cases bY <;> cases bZ
              all_goals
                go_wp2_with (first | (refine wpList_load97 (by rfl) _ rfl p9 rfl X (unhide A9) ?_) | (refine wpList_load97 (by rfl) _ rfl p13 rfl X (unhide A13) ?_))
                go_ret
                exact ⟨by trivial, (unhide HZG).kp.below (Nat.le_refl _) (by simp)⟩
        · have hcd2 : ¬ c - d = 0 := by omega
          refine wp_region_held_drew (S := fun w' => w'.rangeAt p3 0 (wagg v).toList) (by kernel_rfl) (rangeAt_var (zoo_varm ((unhide HZ3).kp0 ((Kp.refl [] W3).drew)) (List.Mem.tail _ (List.Mem.head _)))) (fun hHeld => ?_)
          have HA0 := hide ((unhide HZ3).kp0 ((Kp.refl [] W3).drew))
          generalize World.drew _ = WD at HA0 hHeld ⊢
          refine wpAnyH_tk (i := 0) rfl (by kernel_rfl) (by kernel_rfl) (by kernel_rfl) (fun _ _ _ h => h) (yields_av (by rfl) _ rfl p3 0 rfl v (fun _ h => h)) hHeld ?_
          try simp only [Act.put, List.setIfInBounds_toArray, List.set_cons_zero, List.set_cons_succ]
          refine wpAnyH_tk (i := 1) (v := ?_) rfl (by kernel_rfl) (by kernel_rfl) (by kernel_rfl) (fun _ _ _ h => h) (Or.inl ⟨by rfl, ?_⟩) hHeld ?_
          rotate_left
          · intro w hSw
            try dsimp only at hSw
            go_simp
            try with_reducible rfl
          try simp only [Act.put, List.setIfInBounds_toArray, List.set_cons_zero, List.set_cons_succ]
          refine wpAnyH_tk (i := 2) (v := ?_) rfl (by kernel_rfl) (by kernel_rfl) (by kernel_rfl) (fun _ _ _ h => h) (Or.inl ⟨by rfl, ?_⟩) hHeld ?_
          rotate_left
          · intro w hSw
            try dsimp only at hSw
            go_simp
            try with_reducible rfl
          try simp only [Act.put, List.setIfInBounds_toArray, List.set_cons_zero, List.set_cons_succ]
          refine wpAnyH_tk (i := 3) (v := ?_) rfl (by kernel_rfl) (by kernel_rfl) (by kernel_rfl) (fun _ _ _ h => h) (Or.inl ⟨by rfl, ?_⟩) hHeld ?_
          rotate_left
          · intro w hSw
            try dsimp only at hSw
            go_simp
            try with_reducible rfl
          try simp only [Act.put, List.setIfInBounds_toArray, List.set_cons_zero, List.set_cons_succ]
          refine wpAnyH_two (i := 4) (j := 8) rfl rfl (by kernel_rfl) (fun K hK => ?_) (fun K hK => ?_)
          · go_simp
            refine (unhide HR1 (some ad) _ _ (unhide HA0).kp (acts_take (unhide HA).ins _)).mono ?_
            rintro e w6 ⟨rfl, hk6⟩
            rw [(unhide HYY).1, (unhide HYY).2]
            have HA1 := hide ((unhide HA0).kp0 hk6)
            clear hk6
            go_wp2_with fail
            refine hK.out _ _ (rangeAt_var (zoo_varm (unhide HA1) (List.Mem.tail _ (List.Mem.head _)))) (fun hHeld2 => ?_)
            clear hK K hHeld
            have hHeld := hHeld2
            clear hHeld2
            try simp only [Act.put, List.setIfInBounds_toArray, List.set_cons_zero, List.set_cons_succ]
            refine wpAnyH_tk (i := 5) (v := ?_) rfl (by kernel_rfl) (by kernel_rfl) (by kernel_rfl) (fun _ _ _ h => h) (Or.inl ⟨by rfl, ?_⟩) hHeld ?_
            rotate_left
            · intro w hSw
              try dsimp only at hSw
              go_simp
              try with_reducible rfl
            try simp only [Act.put, List.setIfInBounds_toArray, List.set_cons_zero, List.set_cons_succ]
            refine wpAnyH_tk (i := 6) (v := ?_) rfl (by kernel_rfl) (by kernel_rfl) (by kernel_rfl) (fun _ _ _ h => h) (Or.inl ⟨by rfl, ?_⟩) hHeld ?_
            rotate_left
            · intro w hSw
              try dsimp only at hSw
              go_simp
              try with_reducible rfl
            try simp only [Act.put, List.setIfInBounds_toArray, List.set_cons_zero, List.set_cons_succ]
            refine wpAnyH_tk (i := 7) (v := ?_) rfl (by kernel_rfl) (by kernel_rfl) (by kernel_rfl) (fun _ _ _ h => h) (Or.inl ⟨by rfl, ?_⟩) hHeld ?_
            rotate_left
            · intro w hSw
              try dsimp only at hSw
              go_simp
              try with_reducible rfl
            try simp only [Act.put, List.setIfInBounds_toArray, List.set_cons_zero, List.set_cons_succ]
            refine wpAnyH_only (i := 8) rfl (by kernel_rfl) (fun K hK => ?_)
            go_simp
            have HA2 := hide ((unhide HA1).box (wagg (fun _ => dv)) 97)
            rw [zeros_eq] at HA2
            refine hK.out _ _ (rangeAt_var (zoo_varm (unhide HA2) (List.Mem.tail _ (List.Mem.tail _ (List.Mem.head _))))) (fun hHeld2 => ?_)
            clear hK K hHeld
            have hHeld := hHeld2
            clear hHeld2
            try simp only [Act.put, List.setIfInBounds_toArray, List.set_cons_zero, List.set_cons_succ]
            generalize w6.heap.size = p11 at *
            refine wpAnyH_only (i := 9) rfl (by kernel_rfl) (fun K hK => ?_)
            rw [if_pos (by rfl)]
            refine wp_store_row 97 _ _ rfl p11 (wagg Y) rfl rfl 97 _ (zoo_varm (unhide HA2) (List.Mem.head _)) Try.size97 rfl (wagg_one _) ?_
            have HZF := hide (zoo_setrL (l1 := []) (c' := wagg Y) (unhide HA2))
            refine hK.out _ _ (rangeAt_var (zoo_varm (unhide HZF) (List.Mem.tail _ (List.Mem.tail _ (List.Mem.head _))))) (fun hHeld2 => ?_)
            clear hK K hHeld
            have hHeld := hHeld2
            clear hHeld2
            simp only [Act.put]
            refine wpAnyH_tk (i := 10) (v := ?_) rfl (by kernel_rfl) (by kernel_rfl) (by kernel_rfl) (fun _ _ _ h => h) (Or.inl ⟨by rfl, ?_⟩) hHeld ?_
            rotate_left
            · intro w hSw
              try dsimp only at hSw
              go_simp
              try with_reducible rfl
            try simp only [Act.put, List.setIfInBounds_toArray, List.set_cons_zero, List.set_cons_succ]
            refine wpAnyH_done (by kernel_rfl) ?_ _
            generalize World.setRow _ _ _ = W9p11 at HZF ⊢
            clear hHeld
            go_wp2_with fail
            refine wp_region_held_drew (S := fun w' => w'.rangeAt p11 0 (wagg Y).toList) (by kernel_rfl) (rangeAt_var (zoo_varm ((unhide HZF).kp0 ((Kp.refl [] W9p11).drew)) (List.Mem.head _))) (fun hHeld => ?_)
            have HB0 := hide ((unhide HZF).kp0 ((Kp.refl [] W9p11).drew))
            generalize World.drew _ = WE at HB0 hHeld ⊢
            refine wpAnyH_tk (i := 0) rfl (by kernel_rfl) (by kernel_rfl) (by kernel_rfl) (fun _ _ _ h => h) (yields_s (by rfl) _ rfl p11 0 rfl Y (fun _ h => h)) hHeld ?_
            try simp only [Act.put, List.setIfInBounds_toArray, List.set_cons_zero, List.set_cons_succ]
            refine wpAnyH_tk (i := 1) (v := ?_) rfl (by kernel_rfl) (by kernel_rfl) (by kernel_rfl) (fun _ _ _ h => h) (Or.inl ⟨by rfl, ?_⟩) hHeld ?_
            rotate_left
            · intro w hSw
              try dsimp only at hSw
              go_simp
              try with_reducible rfl
            try simp only [Act.put, List.setIfInBounds_toArray, List.set_cons_zero, List.set_cons_succ]
            refine wpAnyH_tk (i := 2) (v := ?_) rfl (by kernel_rfl) (by kernel_rfl) (by kernel_rfl) (fun _ _ _ h => h) (Or.inl ⟨by rfl, ?_⟩) hHeld ?_
            rotate_left
            · intro w hSw
              try dsimp only at hSw
              go_simp
              try with_reducible rfl
            try simp only [Act.put, List.setIfInBounds_toArray, List.set_cons_zero, List.set_cons_succ]
            refine wpAnyH_tk (i := 3) (v := ?_) rfl (by kernel_rfl) (by kernel_rfl) (by kernel_rfl) (fun _ _ _ h => h) (Or.inl ⟨by rfl, ?_⟩) hHeld ?_
            rotate_left
            · intro w hSw
              try dsimp only at hSw
              go_simp
              try with_reducible rfl
            try simp only [Act.put, List.setIfInBounds_toArray, List.set_cons_zero, List.set_cons_succ]
            refine wpAnyH_two (i := 4) (j := 8) rfl rfl (by kernel_rfl) (fun K hK => ?_) (fun K hK => ?_)
            · go_simp
              refine (unhide HR2 Y _ _ _ (unhide HB0).kp (fun hp => (by obtain ⟨b, o, e, h1⟩ := (unhide HA).ins (by rw [List.length_drop] at hp; omega); cases e; exact ⟨b, o + d * 6, by simp [addr_add], ActsIn.drop h1 d⟩))).mono ?_
              rintro e w6 ⟨rfl, hk6⟩
              rw [← (unhide HJ).1, unhide HBZ]
              have HB1 := hide ((unhide HB0).kp0 hk6)
              clear hk6
              go_wp2_with fail
              refine hK.out _ _ (rangeAt_var (zoo_varm (unhide HB1) (List.Mem.head _))) (fun hHeld2 => ?_)
              clear hK K hHeld
              have hHeld := hHeld2
              clear hHeld2
              try simp only [Act.put, List.setIfInBounds_toArray, List.set_cons_zero, List.set_cons_succ]
              refine wpAnyH_tk (i := 5) (v := ?_) rfl (by kernel_rfl) (by kernel_rfl) (by kernel_rfl) (fun _ _ _ h => h) (Or.inl ⟨by rfl, ?_⟩) hHeld ?_
              rotate_left
              · intro w hSw
                try dsimp only at hSw
                go_simp
                try with_reducible rfl
              try simp only [Act.put, List.setIfInBounds_toArray, List.set_cons_zero, List.set_cons_succ]
              refine wpAnyH_tk (i := 6) (v := ?_) rfl (by kernel_rfl) (by kernel_rfl) (by kernel_rfl) (fun _ _ _ h => h) (Or.inl ⟨by rfl, ?_⟩) hHeld ?_
              rotate_left
              · intro w hSw
                try dsimp only at hSw
                go_simp
                try with_reducible rfl
              try simp only [Act.put, List.setIfInBounds_toArray, List.set_cons_zero, List.set_cons_succ]
              refine wpAnyH_tk (i := 7) (v := ?_) rfl (by kernel_rfl) (by kernel_rfl) (by kernel_rfl) (fun _ _ _ h => h) (Or.inl ⟨by rfl, ?_⟩) hHeld ?_
              rotate_left
              · intro w hSw
                try dsimp only at hSw
                go_simp
                try with_reducible rfl
              try simp only [Act.put, List.setIfInBounds_toArray, List.set_cons_zero, List.set_cons_succ]
              refine wpAnyH_only (i := 8) rfl (by kernel_rfl) (fun K hK => ?_)
              go_simp
              have HB2 := hide ((unhide HB1).box (wagg (fun _ => dv)) 97)
              rw [zeros_eq] at HB2
              refine hK.out _ _ (rangeAt_var (zoo_varm (unhide HB2) (List.Mem.tail _ (List.Mem.head _)))) (fun hHeld2 => ?_)
              clear hK K hHeld
              have hHeld := hHeld2
              clear hHeld2
              try simp only [Act.put, List.setIfInBounds_toArray, List.set_cons_zero, List.set_cons_succ]
              generalize w6.heap.size = p13 at *
              refine wpAnyH_only (i := 9) rfl (by kernel_rfl) (fun K hK => ?_)
              rw [if_pos (by rfl)]
              refine wp_store_row 97 _ _ rfl p13 (wagg X) rfl rfl 97 _ (zoo_varm (unhide HB2) (List.Mem.head _)) Try.size97 rfl (wagg_one _) ?_
              have HZG := hide (zoo_setrL (l1 := []) (c' := wagg X) (unhide HB2))
              refine hK.out _ _ (rangeAt_var (zoo_varm (unhide HZG) (List.Mem.tail _ (List.Mem.head _)))) (fun hHeld2 => ?_)
              clear hK K hHeld
              have hHeld := hHeld2
              clear hHeld2
              simp only [Act.put]
              refine wpAnyH_tk (i := 10) (v := ?_) rfl (by kernel_rfl) (by kernel_rfl) (by kernel_rfl) (fun _ _ _ h => h) (Or.inl ⟨by rfl, ?_⟩) hHeld ?_
              rotate_left
              · intro w hSw
                try dsimp only at hSw
                go_simp
                try with_reducible rfl
              try simp only [Act.put, List.setIfInBounds_toArray, List.set_cons_zero, List.set_cons_succ]
              refine wpAnyH_done (by kernel_rfl) ?_ _
              generalize World.setRow _ _ _ = W9p13 at HZG ⊢
              clear hHeld
              have A9 := hide (zoo_varm (unhide HZG) (List.Mem.tail _ (List.Mem.tail _ (List.Mem.head _))))
              have A13 := hide (zoo_varm (unhide HZG) (List.Mem.head _))
              have hbj := (unhide HJ).2
              subst hbj
              have heq := eq97 X
              cases bY <;> cases bZ
              all_goals
                go_wp2_with (first | (refine wpList_load97 (by rfl) _ rfl p9 rfl X (unhide A9) ?_) | (refine wpList_load97 (by rfl) _ rfl p13 rfl X (unhide A13) ?_))
                go_ret
                exact ⟨by trivial, (unhide HZG).kp.below (Nat.le_refl _) (by simp)⟩
            · go_simp
              have HB1 := hide ((unhide HB0).box (wagg (fun _ => dv)) 97)
              rw [zeros_eq] at HB1
              refine hK.out _ _ (rangeAt_var (zoo_varm (unhide HB1) (List.Mem.tail _ (List.Mem.head _)))) (fun hHeld2 => ?_)
              clear hK K hHeld
              have hHeld := hHeld2
              clear hHeld2
              try simp only [Act.put, List.setIfInBounds_toArray, List.set_cons_zero, List.set_cons_succ]
              generalize WE.heap.size = p13 at *
              refine wpAnyH_only (i := 4) rfl (by kernel_rfl) (fun K hK => ?_)
              go_simp
              refine (unhide HR2 Y _ _ _ (unhide HB1).kp (fun hp => (by obtain ⟨b, o, e, h1⟩ := (unhide HA).ins (by rw [List.length_drop] at hp; omega); cases e; exact ⟨b, o + d * 6, by simp [addr_add], ActsIn.drop h1 d⟩))).mono ?_
              rintro e w6 ⟨rfl, hk6⟩
              rw [← (unhide HJ).1, unhide HBZ]
              have HB2 := hide ((unhide HB1).kp0 hk6)
              clear hk6
              go_wp2_with fail
              refine hK.out _ _ (rangeAt_var (zoo_varm (unhide HB2) (List.Mem.tail _ (List.Mem.head _)))) (fun hHeld2 => ?_)
              clear hK K hHeld
              have hHeld := hHeld2
              clear hHeld2
              try simp only [Act.put, List.setIfInBounds_toArray, List.set_cons_zero, List.set_cons_succ]
              refine wpAnyH_tk (i := 5) (v := ?_) rfl (by kernel_rfl) (by kernel_rfl) (by kernel_rfl) (fun _ _ _ h => h) (Or.inl ⟨by rfl, ?_⟩) hHeld ?_
              rotate_left
              · intro w hSw
                try dsimp only at hSw
                go_simp
                try with_reducible rfl
              try simp only [Act.put, List.setIfInBounds_toArray, List.set_cons_zero, List.set_cons_succ]
              refine wpAnyH_tk (i := 6) (v := ?_) rfl (by kernel_rfl) (by kernel_rfl) (by kernel_rfl) (fun _ _ _ h => h) (Or.inl ⟨by rfl, ?_⟩) hHeld ?_
              rotate_left
              · intro w hSw
                try dsimp only at hSw
                go_simp
                try with_reducible rfl
              try simp only [Act.put, List.setIfInBounds_toArray, List.set_cons_zero, List.set_cons_succ]
              refine wpAnyH_tk (i := 7) (v := ?_) rfl (by kernel_rfl) (by kernel_rfl) (by kernel_rfl) (fun _ _ _ h => h) (Or.inl ⟨by rfl, ?_⟩) hHeld ?_
              rotate_left
              · intro w hSw
                try dsimp only at hSw
                go_simp
                try with_reducible rfl
              try simp only [Act.put, List.setIfInBounds_toArray, List.set_cons_zero, List.set_cons_succ]
              refine wpAnyH_only (i := 9) rfl (by kernel_rfl) (fun K hK => ?_)
              rw [if_pos (by rfl)]
              refine wp_store_row 97 _ _ rfl p13 (wagg X) rfl rfl 97 _ (zoo_varm (unhide HB2) (List.Mem.head _)) Try.size97 rfl (wagg_one _) ?_
              have HZG := hide (zoo_setrL (l1 := []) (c' := wagg X) (unhide HB2))
              refine hK.out _ _ (rangeAt_var (zoo_varm (unhide HZG) (List.Mem.tail _ (List.Mem.head _)))) (fun hHeld2 => ?_)
              clear hK K hHeld
              have hHeld := hHeld2
              clear hHeld2
              simp only [Act.put]
              refine wpAnyH_tk (i := 10) (v := ?_) rfl (by kernel_rfl) (by kernel_rfl) (by kernel_rfl) (fun _ _ _ h => h) (Or.inl ⟨by rfl, ?_⟩) hHeld ?_
              rotate_left
              · intro w hSw
                try dsimp only at hSw
                go_simp
                try with_reducible rfl
              try simp only [Act.put, List.setIfInBounds_toArray, List.set_cons_zero, List.set_cons_succ]
              refine wpAnyH_done (by kernel_rfl) ?_ _
              generalize World.setRow _ _ _ = W9p13 at HZG ⊢
              clear hHeld
              have A9 := hide (zoo_varm (unhide HZG) (List.Mem.tail _ (List.Mem.tail _ (List.Mem.head _))))
              have A13 := hide (zoo_varm (unhide HZG) (List.Mem.head _))
              have hbj := (unhide HJ).2
              subst hbj
              have heq := eq97 X
              cases bY <;> cases bZ
              all_goals
                go_wp2_with (first | (refine wpList_load97 (by rfl) _ rfl p9 rfl X (unhide A9) ?_) | (refine wpList_load97 (by rfl) _ rfl p13 rfl X (unhide A13) ?_))
                go_ret
                exact ⟨by trivial, (unhide HZG).kp.below (Nat.le_refl _) (by simp)⟩
          · go_simp
            have HA1 := hide ((unhide HA0).box (wagg (fun _ => dv)) 97)
            rw [zeros_eq] at HA1
            refine hK.out _ _ (rangeAt_var (zoo_varm (unhide HA1) (List.Mem.tail _ (List.Mem.tail _ (List.Mem.head _))))) (fun hHeld2 => ?_)
            clear hK K hHeld
            have hHeld := hHeld2
            clear hHeld2
            try simp only [Act.put, List.setIfInBounds_toArray, List.set_cons_zero, List.set_cons_succ]
            generalize WD.heap.size = p11 at *
            refine wpAnyH_only (i := 4) rfl (by kernel_rfl) (fun K hK => ?_)
            go_simp
            refine (unhide HR1 (some ad) _ _ (unhide HA1).kp (acts_take (unhide HA).ins _)).mono ?_
            rintro e w6 ⟨rfl, hk6⟩
            rw [(unhide HYY).1, (unhide HYY).2]
            have HA2 := hide ((unhide HA1).kp0 hk6)
            clear hk6
            go_wp2_with fail
            refine hK.out _ _ (rangeAt_var (zoo_varm (unhide HA2) (List.Mem.tail _ (List.Mem.tail _ (List.Mem.head _))))) (fun hHeld2 => ?_)
            clear hK K hHeld
            have hHeld := hHeld2
            clear hHeld2
            try simp only [Act.put, List.setIfInBounds_toArray, List.set_cons_zero, List.set_cons_succ]
            refine wpAnyH_tk (i := 5) (v := ?_) rfl (by kernel_rfl) (by kernel_rfl) (by kernel_rfl) (fun _ _ _ h => h) (Or.inl ⟨by rfl, ?_⟩) hHeld ?_
            rotate_left
            · intro w hSw
              try dsimp only at hSw
              go_simp
              try with_reducible rfl
            try simp only [Act.put, List.setIfInBounds_toArray, List.set_cons_zero, List.set_cons_succ]
            refine wpAnyH_tk (i := 6) (v := ?_) rfl (by kernel_rfl) (by kernel_rfl) (by kernel_rfl) (fun _ _ _ h => h) (Or.inl ⟨by rfl, ?_⟩) hHeld ?_
            rotate_left
            · intro w hSw
              try dsimp only at hSw
              go_simp
              try with_reducible rfl
            try simp only [Act.put, List.setIfInBounds_toArray, List.set_cons_zero, List.set_cons_succ]
            refine wpAnyH_tk (i := 7) (v := ?_) rfl (by kernel_rfl) (by kernel_rfl) (by kernel_rfl) (fun _ _ _ h => h) (Or.inl ⟨by rfl, ?_⟩) hHeld ?_
            rotate_left
            · intro w hSw
              try dsimp only at hSw
              go_simp
              try with_reducible rfl
            try simp only [Act.put, List.setIfInBounds_toArray, List.set_cons_zero, List.set_cons_succ]
            refine wpAnyH_only (i := 9) rfl (by kernel_rfl) (fun K hK => ?_)
            rw [if_pos (by rfl)]
            refine wp_store_row 97 _ _ rfl p11 (wagg Y) rfl rfl 97 _ (zoo_varm (unhide HA2) (List.Mem.head _)) Try.size97 rfl (wagg_one _) ?_
            have HZF := hide (zoo_setrL (l1 := []) (c' := wagg Y) (unhide HA2))
            refine hK.out _ _ (rangeAt_var (zoo_varm (unhide HZF) (List.Mem.tail _ (List.Mem.tail _ (List.Mem.head _))))) (fun hHeld2 => ?_)
            clear hK K hHeld
            have hHeld := hHeld2
            clear hHeld2
            simp only [Act.put]
            refine wpAnyH_tk (i := 10) (v := ?_) rfl (by kernel_rfl) (by kernel_rfl) (by kernel_rfl) (fun _ _ _ h => h) (Or.inl ⟨by rfl, ?_⟩) hHeld ?_
            rotate_left
            · intro w hSw
              try dsimp only at hSw
              go_simp
              try with_reducible rfl
            try simp only [Act.put, List.setIfInBounds_toArray, List.set_cons_zero, List.set_cons_succ]
            refine wpAnyH_done (by kernel_rfl) ?_ _
            generalize World.setRow _ _ _ = W9p11 at HZF ⊢
            clear hHeld
            go_wp2_with fail
            refine wp_region_held_drew (S := fun w' => w'.rangeAt p11 0 (wagg Y).toList) (by kernel_rfl) (rangeAt_var (zoo_varm ((unhide HZF).kp0 ((Kp.refl [] W9p11).drew)) (List.Mem.head _))) (fun hHeld => ?_)
            have HB0 := hide ((unhide HZF).kp0 ((Kp.refl [] W9p11).drew))
            generalize World.drew _ = WE at HB0 hHeld ⊢
            refine wpAnyH_tk (i := 0) rfl (by kernel_rfl) (by kernel_rfl) (by kernel_rfl) (fun _ _ _ h => h) (yields_s (by rfl) _ rfl p11 0 rfl Y (fun _ h => h)) hHeld ?_
            try simp only [Act.put, List.setIfInBounds_toArray, List.set_cons_zero, List.set_cons_succ]
            refine wpAnyH_tk (i := 1) (v := ?_) rfl (by kernel_rfl) (by kernel_rfl) (by kernel_rfl) (fun _ _ _ h => h) (Or.inl ⟨by rfl, ?_⟩) hHeld ?_
            rotate_left
            · intro w hSw
              try dsimp only at hSw
              go_simp
              try with_reducible rfl
            try simp only [Act.put, List.setIfInBounds_toArray, List.set_cons_zero, List.set_cons_succ]
            refine wpAnyH_tk (i := 2) (v := ?_) rfl (by kernel_rfl) (by kernel_rfl) (by kernel_rfl) (fun _ _ _ h => h) (Or.inl ⟨by rfl, ?_⟩) hHeld ?_
            rotate_left
            · intro w hSw
              try dsimp only at hSw
              go_simp
              try with_reducible rfl
            try simp only [Act.put, List.setIfInBounds_toArray, List.set_cons_zero, List.set_cons_succ]
            refine wpAnyH_tk (i := 3) (v := ?_) rfl (by kernel_rfl) (by kernel_rfl) (by kernel_rfl) (fun _ _ _ h => h) (Or.inl ⟨by rfl, ?_⟩) hHeld ?_
            rotate_left
            · intro w hSw
              try dsimp only at hSw
              go_simp
              try with_reducible rfl
            try simp only [Act.put, List.setIfInBounds_toArray, List.set_cons_zero, List.set_cons_succ]
            refine wpAnyH_two (i := 4) (j := 8) rfl rfl (by kernel_rfl) (fun K hK => ?_) (fun K hK => ?_)
            · go_simp
              refine (unhide HR2 Y _ _ _ (unhide HB0).kp (fun hp => (by obtain ⟨b, o, e, h1⟩ := (unhide HA).ins (by rw [List.length_drop] at hp; omega); cases e; exact ⟨b, o + d * 6, by simp [addr_add], ActsIn.drop h1 d⟩))).mono ?_
              rintro e w6 ⟨rfl, hk6⟩
              rw [← (unhide HJ).1, unhide HBZ]
              have HB1 := hide ((unhide HB0).kp0 hk6)
              clear hk6
              go_wp2_with fail
              refine hK.out _ _ (rangeAt_var (zoo_varm (unhide HB1) (List.Mem.head _))) (fun hHeld2 => ?_)
              clear hK K hHeld
              have hHeld := hHeld2
              clear hHeld2
              try simp only [Act.put, List.setIfInBounds_toArray, List.set_cons_zero, List.set_cons_succ]
              refine wpAnyH_tk (i := 5) (v := ?_) rfl (by kernel_rfl) (by kernel_rfl) (by kernel_rfl) (fun _ _ _ h => h) (Or.inl ⟨by rfl, ?_⟩) hHeld ?_
              rotate_left
              · intro w hSw
                try dsimp only at hSw
                go_simp
                try with_reducible rfl
              try simp only [Act.put, List.setIfInBounds_toArray, List.set_cons_zero, List.set_cons_succ]
              refine wpAnyH_tk (i := 6) (v := ?_) rfl (by kernel_rfl) (by kernel_rfl) (by kernel_rfl) (fun _ _ _ h => h) (Or.inl ⟨by rfl, ?_⟩) hHeld ?_
              rotate_left
              · intro w hSw
                try dsimp only at hSw
                go_simp
                try with_reducible rfl
              try simp only [Act.put, List.setIfInBounds_toArray, List.set_cons_zero, List.set_cons_succ]
              refine wpAnyH_tk (i := 7) (v := ?_) rfl (by kernel_rfl) (by kernel_rfl) (by kernel_rfl) (fun _ _ _ h => h) (Or.inl ⟨by rfl, ?_⟩) hHeld ?_
              rotate_left
              · intro w hSw
                try dsimp only at hSw
                go_simp
                try with_reducible rfl
              try simp only [Act.put, List.setIfInBounds_toArray, List.set_cons_zero, List.set_cons_succ]
              refine wpAnyH_only (i := 8) rfl (by kernel_rfl) (fun K hK => ?_)
              go_simp
              have HB2 := hide ((unhide HB1).box (wagg (fun _ => dv)) 97)
              rw [zeros_eq] at HB2
              refine hK.out _ _ (rangeAt_var (zoo_varm (unhide HB2) (List.Mem.tail _ (List.Mem.head _)))) (fun hHeld2 => ?_)
              clear hK K hHeld
              have hHeld := hHeld2
              clear hHeld2
              try simp only [Act.put, List.setIfInBounds_toArray, List.set_cons_zero, List.set_cons_succ]
              generalize w6.heap.size = p13 at *
              refine wpAnyH_only (i := 9) rfl (by kernel_rfl) (fun K hK => ?_)
              rw [if_pos (by rfl)]
              refine wp_store_row 97 _ _ rfl p13 (wagg X) rfl rfl 97 _ (zoo_varm (unhide HB2) (List.Mem.head _)) Try.size97 rfl (wagg_one _) ?_
              have HZG := hide (zoo_setrL (l1 := []) (c' := wagg X) (unhide HB2))
              refine hK.out _ _ (rangeAt_var (zoo_varm (unhide HZG) (List.Mem.tail _ (List.Mem.head _)))) (fun hHeld2 => ?_)
              clear hK K hHeld
              have hHeld := hHeld2
              clear hHeld2
              simp only [Act.put]
              refine wpAnyH_tk (i := 10) (v := ?_) rfl (by kernel_rfl) (by kernel_rfl) (by kernel_rfl) (fun _ _ _ h => h) (Or.inl ⟨by rfl, ?_⟩) hHeld ?_
              rotate_left
              · intro w hSw
                try dsimp only at hSw
                go_simp
                try with_reducible rfl
              try simp only [Act.put, List.setIfInBounds_toArray, List.set_cons_zero, List.set_cons_succ]
              refine wpAnyH_done (by kernel_rfl) ?_ _
              generalize World.setRow _ _ _ = W9p13 at HZG ⊢
              clear hHeld
              have A9 := hide (zoo_varm (unhide HZG) (List.Mem.tail _ (List.Mem.tail _ (List.Mem.head _))))
              have A13 := hide (zoo_varm (unhide HZG) (List.Mem.head _))
              have hbj := (unhide HJ).2
              subst hbj
              have heq := eq97 X
              cases bY <;> cases bZ
              all_goals
                go_wp2_with (first | (refine wpList_load97 (by rfl) _ rfl p9 rfl X (unhide A9) ?_) | (refine wpList_load97 (by rfl) _ rfl p13 rfl X (unhide A13) ?_))
                go_ret
                exact ⟨by trivial, (unhide HZG).kp.below (Nat.le_refl _) (by simp)⟩
            · go_simp
              have HB1 := hide ((unhide HB0).box (wagg (fun _ => dv)) 97)
              rw [zeros_eq] at HB1
              refine hK.out _ _ (rangeAt_var (zoo_varm (unhide HB1) (List.Mem.tail _ (List.Mem.head _)))) (fun hHeld2 => ?_)
              clear hK K hHeld
              have hHeld := hHeld2
              clear hHeld2
              try simp only [Act.put, List.setIfInBounds_toArray, List.set_cons_zero, List.set_cons_succ]
              generalize WE.heap.size = p13 at *
              refine wpAnyH_only (i := 4) rfl (by kernel_rfl) (fun K hK => ?_)
              go_simp
              refine (unhide HR2 Y _ _ _ (unhide HB1).kp (fun hp => (by obtain ⟨b, o, e, h1⟩ := (unhide HA).ins (by rw [List.length_drop] at hp; omega); cases e; exact ⟨b, o + d * 6, by simp [addr_add], ActsIn.drop h1 d⟩))).mono ?_
              rintro e w6 ⟨rfl, hk6⟩
              rw [← (unhide HJ).1, unhide HBZ]
              have HB2 := hide ((unhide HB1).kp0 hk6)
              clear hk6
              go_wp2_with fail
              refine hK.out _ _ (rangeAt_var (zoo_varm (unhide HB2) (List.Mem.tail _ (List.Mem.head _)))) (fun hHeld2 => ?_)
              clear hK K hHeld
              have hHeld := hHeld2
              clear hHeld2
              try simp only [Act.put, List.setIfInBounds_toArray, List.set_cons_zero, List.set_cons_succ]
              refine wpAnyH_tk (i := 5) (v := ?_) rfl (by kernel_rfl) (by kernel_rfl) (by kernel_rfl) (fun _ _ _ h => h) (Or.inl ⟨by rfl, ?_⟩) hHeld ?_
              rotate_left
              · intro w hSw
                try dsimp only at hSw
                go_simp
                try with_reducible rfl
              try simp only [Act.put, List.setIfInBounds_toArray, List.set_cons_zero, List.set_cons_succ]
              refine wpAnyH_tk (i := 6) (v := ?_) rfl (by kernel_rfl) (by kernel_rfl) (by kernel_rfl) (fun _ _ _ h => h) (Or.inl ⟨by rfl, ?_⟩) hHeld ?_
              rotate_left
              · intro w hSw
                try dsimp only at hSw
                go_simp
                try with_reducible rfl
              try simp only [Act.put, List.setIfInBounds_toArray, List.set_cons_zero, List.set_cons_succ]
              refine wpAnyH_tk (i := 7) (v := ?_) rfl (by kernel_rfl) (by kernel_rfl) (by kernel_rfl) (fun _ _ _ h => h) (Or.inl ⟨by rfl, ?_⟩) hHeld ?_
              rotate_left
              · intro w hSw
                try dsimp only at hSw
                go_simp
                try with_reducible rfl
              try simp only [Act.put, List.setIfInBounds_toArray, List.set_cons_zero, List.set_cons_succ]
              refine wpAnyH_only (i := 9) rfl (by kernel_rfl) (fun K hK => ?_)
              rw [if_pos (by rfl)]
              refine wp_store_row 97 _ _ rfl p13 (wagg X) rfl rfl 97 _ (zoo_varm (unhide HB2) (List.Mem.head _)) Try.size97 rfl (wagg_one _) ?_
              have HZG := hide (zoo_setrL (l1 := []) (c' := wagg X) (unhide HB2))
              refine hK.out _ _ (rangeAt_var (zoo_varm (unhide HZG) (List.Mem.tail _ (List.Mem.head _)))) (fun hHeld2 => ?_)
              clear hK K hHeld
              have hHeld := hHeld2
              clear hHeld2
              simp only [Act.put]
              refine wpAnyH_tk (i := 10) (v := ?_) rfl (by kernel_rfl) (by kernel_rfl) (by kernel_rfl) (fun _ _ _ h => h) (Or.inl ⟨by rfl, ?_⟩) hHeld ?_
              rotate_left
              · intro w hSw
                try dsimp only at hSw
                go_simp
                try with_reducible rfl
              try simp only [Act.put, List.setIfInBounds_toArray, List.set_cons_zero, List.set_cons_succ]
              refine wpAnyH_done (by kernel_rfl) ?_ _
              generalize World.setRow _ _ _ = W9p13 at HZG ⊢
              clear hHeld
              have A9 := hide (zoo_varm (unhide HZG) (List.Mem.tail _ (List.Mem.tail _ (List.Mem.head _))))
              have A13 := hide (zoo_varm (unhide HZG) (List.Mem.head _))
              have hbj := (unhide HJ).2
              subst hbj
              have heq := eq97 X
              cases bY <;> cases bZ
              all_goals
                go_wp2_with (first | (refine wpList_load97 (by rfl) _ rfl p9 rfl X (unhide A9) ?_) | (refine wpList_load97 (by rfl) _ rfl p13 rfl X (unhide A13) ?_))
                go_ret
                exact ⟨by trivial, (unhide HZG).kp.below (Nat.le_refl _) (by simp)⟩
end Go.Proofs.Ytapmlleemopcnac
