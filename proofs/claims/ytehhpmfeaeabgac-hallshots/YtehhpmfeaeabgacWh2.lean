/- HallShots, walked. -/
import Derived.Test.YtehhpmfeaeabgacHw
namespace Go.Proofs.Ytehhpmfeaeabgac
open Go.RowKit
set_option maxRecDepth 20000
attribute [local go_sem ↓] Go.wp_at_zero Go.wp_at_succ

theorem wds_zero' : Wds Try.zeroCells73 (fun _ _ => dv) := by
  refine ⟨rfl, fun s hs k hk => ?_⟩
  rcases (show s = 0 ∨ s = 1 ∨ s = 2 ∨ s = 3 ∨ s = 4 by omega) with e | e | e | e | e <;> subst e <;> rcases lt8 hk with rfl | rfl | rfl | rfl | rfl | rfl | rfl | rfl <;> exact ⟨rfl, rfl⟩
theorem fcode_dat {st : Nat → Sd} {s : Int} (h : (dat st s).isSome = false) : ¬ fcode st s = 0 := fun q => by
  obtain ⟨j, D, d, rfl, h5, hd⟩ := f_yes q
  rw [dat_in h5, hd] at h
  cases h
theorem dat_some {st : Nat → Sd} {s : Int} (h : (dat st s).isSome = true) : ∃ (j D : Nat) (d : Dp), s = (j : Int) ∧ j < 5 ∧ st j = some (D, d) := by
  unfold dat at h
  split at h
  · rename_i hs
    obtain ⟨j, rfl, h5⟩ := seat_in hs
    rw [Int.toNat_natCast] at h
    cases hd : st j with
    | none => rw [hd] at h; cases h
    | some y => exact ⟨j, y.1, y.2, rfl, h5, hd⟩
  · cases h
theorem sts_of {st : Nat → Sd} {seat : Nat → Option Dp} (h : Sts st seat) {s : Nat} {d : Dp} (hd : seat s = some d) : ∃ D, st s = some (D, d) := by
  have q := h s
  cases hq : st s with
  | none => rw [hq, hd] at q; cases q
  | some y =>
    rw [hq, hd] at q
    simp only [Option.map_some, Option.some.injEq] at q
    exact ⟨y.1, by rw [← q]⟩
theorem sts_at {st : Nat → Sd} {seat : Nat → Option Dp} (h : Sts st seat) {s D : Nat} {d : Dp} (hd : st s = some (D, d)) : seat s = some d := by rw [← h s, hd]; rfl
theorem upd_twice {u : Nat → Nat → Ver} {s k : Nat} {x y : Ver} : upd (upd u s (upd (u s) k x)) s (upd (upd u s (upd (u s) k x) s) k y) = upd u s (upd (u s) k y) := by
  funext i
  by_cases e : i = s
  · subst e
    rw [upd_same, upd_same, upd_same]
    funext j
    unfold upd
    split <;> rfl
  · rw [upd_other _ _ _ e, upd_other _ _ _ e, upd_other _ _ _ e]
theorem ps_app {w0 W w2 : World} {r : List Thing} {a : Option Addr} {cap g2 cap2 : Nat} {L : List Ver} {k : Int} {t : Bool} {s : ByteArray} (hz : Zoo w0 W (PsT a cap L :: r)) (hown : w2.ownsRow w0.heap.size 79 3 (.slice (some ⟨g2, 0, none⟩) (L.length + 1) cap2) (L.length + 1) (vcells L ++ [.int .i64 k, .bool t, .string s])) (hgrow : W.grownBy w2 (Value.slice a L.length cap).ownBlock) (hat : (Value.slice a L.length cap).ownBlock = some g2 ∨ g2 = W.heap.size) :
    Zoo w0 w2 (PsT (some ⟨g2, 0, none⟩) cap2 (L ++ [⟨k, t, s⟩]) :: r) := by
  obtain ⟨F, ⟨h1, h2⟩, k2⟩ := zoo_at0 hz
  have hv : vcells L ++ [.int .i64 k, .bool t, .string s] = vcells (L ++ [⟨k, t, s⟩]) := by rw [vcells_append]; rfl
  have hob : ∀ g, (Value.slice a L.length cap).ownBlock = some g → g ∈ F := fun g hg => by
    rw [h2]
    cases a with
    | none => simp [Value.ownBlock] at hg
    | some ad => simp [Value.ownBlock] at hg; simp [ob, hg]
  refine k2 _ _ ⟨[g2], ⟨by rw [hv] at hown; simpa using hown, rfl⟩, (Kp.refl F W).grown hgrow (fun g hg => .inl (hob g hg)), fun x hx => ?_⟩
  rw [List.mem_singleton.1 hx]
  rcases hat with q | q
  · exact .inl (hob _ q)
  · exact .inr (by omega)
theorem hal_ev {w0 w : World} {o P : Thing} {r : List Thing} (hz : Zoo w0 w (o :: P :: r)) (c : Array Value) (T : TypeId) : Zoo w0 (w.alloc (.cells c T)) (o :: BoxT w.heap.size c T :: P :: r) := zoo_swap (hz.box c T)
set_option maxHeartbeats 40000000 in
theorem hshots4 (a : Option Addr) (n1 c : Nat) (st : Nat → HStep) (w : World) (h : HSts w a n1 st) :
    Calls Try.prog 4 #[.slice a n1 c] w fun e w' => e = .returned (.bool true) ∧ Below w.heap.size w w' := by
  have HS := hide h
  clear h
  go_enter Try.func4, Try.ntmps4
  go_wp2_with fail
  refine (hbegun w).mono ?_
  rintro e w1 ⟨rfl, hk1⟩
  have HK1 := hide hk1
  clear hk1
  go_wp2_with fail
  refine (gsteps a n1 c st w1 ((unhide HS).kp0 (unhide HK1))).mono ?_
  rintro e w' ⟨q, rfl, hq, hw'⟩
  subst w'
  cases q with
  | true =>
    clear hq
    go_wp2_with fail
    go_ret
    exact ⟨rfl, (unhide HK1).below (Nat.le_refl _) (by simp)⟩
  | false =>
  have h200 := hq rfl
  clear hq
  go_wp2_with fail
  refine (h_new w1).mono ?_
  rintro e w2 ⟨hb, rfl, F, hh, hk⟩
  have HZ0 : Hid (Zoo w1 w2 [HalT hb hs0]) := (zoo_nil (Kp.refl [] w1)).cons hh hk
  clear hh hk
  have HZ1 := hide (hal_var (P := ManyT []) (zoo_swap (opt_none (unhide HZ0))) Try.zeroCells73 73)
  clear HZ0
  go_wp2_with fail
  generalize w2.alloc (.cells Try.zeroCells73 73) = W3 at HZ1 ⊢
  generalize w2.heap.size = p at HZ1 ⊢
  have HZ2 := hide (wds_of (l1 := [_]) (unhide HZ1) wds_zero')
  clear HZ1
  go_loopw [5] (fun i wr => ∃ k : Nat, k ≤ n1 ∧ i = .int .i64 k ∧ ∃ h u, Hid (Shot h u) ∧ Hid (Zoo w1 wr [HalT hb h, WdsT p u])) (fun i _ => n1 - (intOf i).toNat)
  case atStart => exact ⟨0, by omega, rfl, hs0, _, fun _ _ h => (by cases h), HZ2⟩
  case round =>
    obtain ⟨k, hk, rfl, h, u, HSH, HI⟩ := hrel
    by_cases hlt : k < n1
    · obtain ⟨lb', lo, rfl, hst⟩ := (unhide HS).2 (by omega)
      obtain ⟨q0, q1, q2, q3, q4, q5, q6, q7, hsz⟩ := (hst k hlt).kp0 ((unhide HK1).trans0 (unhide HI).kp)
      have i0 : (0 : Int) ≤ (k : Int) := by omega
      have i1 : (k : Int) < (n1 : Int) := by omega
      clear hst
      generalize (st k) = x at *
      obtain ⟨vb0, tb0, gb0, sd, hsd, hi, -⟩ := hal_open (unhide HI)
      have HI0 := hide hi
      clear hi hsd sd vb0 tb0 gb0
      have HIN := hide ((unhide HI0).step x)
      have HSTAY := hide (fun hx => (unhide HSH).stay (unhide HI0) x hx)
      have HBEG := hide (fun h1 h2 => (unhide HSH).began (unhide HI0) x h1 h2)
      have HWR := hide (fun (s : Nat) (d : Dp) h5 h1 h2 (t : Bool) (b : ByteArray) h3 h4 => (unhide HSH).wrote x (s := s) (d := d) h5 h1 h2 (t := t) (b := b) h3 h4)
      have HGOT := hide (fun (s : Nat) (d : Dp) h5 h1 h2 h3 h4 => (unhide HSH).got (unhide HI0) x (s := s) (d := d) h5 h1 h2 h3 h4)
      have HLST := hide (fun (s : Nat) (d : Dp) h5 h1 h2 h3 h4 => (unhide HSH).listed (unhide HI0) x (s := s) (d := d) h5 h1 h2 h3 h4)
      have HLN := hide (hev_len h x)
      have HNOT := hide (fun (sd : Nat → Sd) (hs : Sts sd h.seat) h1 h2 => f_not hs (x := x) h1 h2)
      have HDO := hide (fun W r (hz : Zoo w1 W (HalT hb h :: r)) => hal_do x hsz hz)
      generalize hev h x = v at *
      generalize hdo h x = h' at *
      obtain ⟨xd, xs, xm, xa, xk, xt, xp, xb⟩ := x
      dsimp only at q0 q1 q2 q3 q4 q5 q6 q7 hsz
      have HZ4 := hide (hal_var (P := ManyT []) (zoo_swap (opt_none (unhide HI))) #[.int .i64 xd, .int .i64 xs, .int .i64 xm, .int .i64 xa, .int .i64 xk, .int .i64 xt, .int .i64 xp, .string xb] 37)
      go_wp2_with fail
      clear q0 q1 q2 q3 q4 q5 q6 q7 HI
      generalize wr.alloc (.cells #[.int .i64 xd, .int .i64 xs, .int .i64 xm, .int .i64 xa, .int .i64 xk, .int .i64 xt, .int .i64 xp, .string xb] 37) = W4 at HZ4 ⊢
      generalize wr.heap.size = q at HZ4 ⊢
      obtain ⟨vb, tb, gb, sd, hsd, -, hl⟩ := hal_open (unhide HZ4)
      have HL4 := hide hl
      have HSD := hide hsd
      clear hl hsd
      have hq := zoo_varm (p := q) (unhide HZ4) (List.Mem.tail _ (List.Mem.head _))
      have x0 : W4.cell? ⟨q, 0, none⟩ = some (.int .i64 xd) := cell_of_block hq rfl
      have x1 : W4.cell? ⟨q, 1, none⟩ = some (.int .i64 xs) := cell_of_block hq rfl
      have x2 : W4.cell? ⟨q, 2, none⟩ = some (.int .i64 xm) := cell_of_block hq rfl
      have x3 : W4.cell? ⟨q, 3, none⟩ = some (.int .i64 xa) := cell_of_block hq rfl
      have x4 : W4.cell? ⟨q, 4, none⟩ = some (.int .i64 xk) := cell_of_block hq rfl
      have x5 : W4.cell? ⟨q, 5, none⟩ = some (.int .i64 xt) := cell_of_block hq rfl
      have x6 : W4.cell? ⟨q, 6, none⟩ = some (.int .i64 xp) := cell_of_block hq rfl
      have x7 : W4.cell? ⟨q, 7, none⟩ = some (.string xb) := cell_of_block hq rfl
      clear hq
      refine (h_busy xs (unhide HL4)).mono ?_
      rintro e w' ⟨rfl, hw'⟩
      subst w'
      go_wp2_with fail
      refine (unhide HDO _ _ (unhide HZ4)).mono ?_
      rintro e w5 ⟨a5, cap5, rfl, HY⟩
      clear x0 x1 x2 x3 x4 x5 x6 x7 HDO HZ4 HL4
      have hq := zoo_varm (p := q) (unhide HY) (List.Mem.tail _ (List.Mem.tail _ (List.Mem.head _)))
      have x0 : w5.cell? ⟨q, 0, none⟩ = some (.int .i64 xd) := cell_of_block hq rfl
      have x1 : w5.cell? ⟨q, 1, none⟩ = some (.int .i64 xs) := cell_of_block hq rfl
      have ql := lt_of_block hq
      clear hq
      by_cases hc : v.c = 0
      rotate_left
      · have hcb : (v.c != 0) = true := by simpa using hc
        go_wp2_with fail
        exact ⟨⟨k + 1, by omega, by go_num, h', u, unhide HSTAY (.inl hc), hal_drop (hal_drop (hal_drop (hal_ev (unhide HY) _ _)))⟩, by simp [intOf]; omega⟩
      rw [hc]
      have HZ6 := hide (hal_ev (unhide HY) #[.int .i64 0, .int .i64 v.n, .bool v.t, .string v.s, .slice a5 v.l.length cap5] 34)
      clear HY
      by_cases k1 : xd = 1
      · subst k1
        obtain ⟨s, d, h5, hxs, hsd', hk1, hk2, hsh'⟩ := unhide HBEG rfl hc
        subst hxs
        have HSH' := hide hsh'
        have HKN := hide (shk_known (unhide HIN).inv hk1 hk2)
        clear hsh' hk1 hk2
        go_wp2_with fail
        clear x0 x1 ql
        generalize w5.alloc (.cells #[.int .i64 0, .int .i64 v.n, .bool v.t, .string v.s, .slice a5 v.l.length cap5] 34) = W6 at HZ6 ⊢
        generalize w5.heap.size = pe at HZ6 ⊢
        obtain ⟨vb, tb, gb, sd2, hsd2, -, hl⟩ := hal_open (unhide HZ6)
        have HL6 := hide hl
        obtain ⟨D, hD⟩ := sts_of hsd2 hsd'
        have HSD2 := hide hsd2
        clear hl hsd2 HZ6
        have hsb : seatB (s : Int) = true := decide_eq_true (by omega)
        have hq := (unhide HL6).var (p := q) (List.Mem.tail _ (List.Mem.tail _ (List.Mem.head _)))
        have x1 : W6.cell? ⟨q, 1, none⟩ = some (.int .i64 (s : Int)) := cell_of_block hq rfl
        clear hq
        refine (h_deed (s : Int) (unhide HL6)).mono ?_
        rintro e w' ⟨rfl, hw'⟩
        subst w'
        rw [dat_in h5, hD, show sp (some (D, d)) = .pointer (some ⟨D, 0, none⟩) from rfl]
        go_wp2_with fail
        refine (isseat (s : Int) _).mono ?_
        rintro e w' ⟨rfl, hw'⟩
        subst w'
        rw [hsb]
        go_wp2_with fail
        have HLD := hide ((unhide HL6).kp0 (Kp.refl [] _).drew)
        clear HL6 x1
        have c0 := (unhide HLD).c0
        have v0 := (unhide HLD).v0
        obtain ⟨u2, hu2⟩ : ∃ u2, shw h'.f h'.n d.y 8 = u2 := ⟨_, rfl⟩
        have HU := hide hu2
        rw [hu2] at HSH'
        clear hu2
        refine wp_region_held_drew (S := fun w' => w'.cell? ⟨hb, 0, none⟩ = some (.pointer (some ⟨vb, 0, none⟩)) ∧ w'.cell? ⟨vb, 0, none⟩ = some (.pointer (some ⟨tb, 0, none⟩))) (by kernel_rfl) ⟨c0, v0⟩ (fun hHeld => ?_)
        clear c0 v0
        generalize World.drew _ = WD at HLD hHeld ⊢
        refine wpAnyH_tk (i := 0) (v := ?_) rfl (by kernel_rfl) (by kernel_rfl) (by kernel_rfl) (fun _ _ _ h => h) (Or.inl ⟨by rfl, ?_⟩) hHeld ?_
        rotate_left
        · intro w hSw
          try dsimp only at hSw
          go_simp
          try with_reducible rfl
        try simp only [Act.put, List.setIfInBounds_toArray, List.set_cons_zero, List.set_cons_succ]
        refine wpAnyH_tk (i := 1) (v := ?_) rfl (by kernel_rfl) (by kernel_rfl) (by kernel_rfl) (fun _ _ _ h => h) (Or.inl ⟨by rfl, ?_⟩) hHeld ?_
        rotate_left
        · intro w hSw
          try dsimp only at hSw
          go_simp
          try with_reducible rfl
        try simp only [Act.put, List.setIfInBounds_toArray, List.set_cons_zero, List.set_cons_succ]
        refine wpAnyH_tk (i := 2) (v := ?_) rfl (by kernel_rfl) (by kernel_rfl) (by kernel_rfl) (fun _ _ _ h => h) (Or.inl ⟨by rfl, ?_⟩) hHeld ?_
        rotate_left
        · intro w hSw
          try dsimp only at hSw
          go_simp
          try with_reducible rfl
        try simp only [Act.put, List.setIfInBounds_toArray, List.set_cons_zero, List.set_cons_succ]
        refine wpAnyH_tk (i := 3) (v := ?_) rfl (by kernel_rfl) (by kernel_rfl) (by kernel_rfl) (fun _ _ _ h => h) (Or.inl ⟨by rfl, ?_⟩) hHeld ?_
        rotate_left
        · intro w hSw
          try dsimp only at hSw
          go_simp
          try with_reducible rfl
        try simp only [Act.put, List.setIfInBounds_toArray, List.set_cons_zero, List.set_cons_succ]
        refine wpAnyH_tk (i := 4) (v := ?_) rfl (by kernel_rfl) (by kernel_rfl) (by kernel_rfl) (fun _ _ _ h => h) (Or.inl ⟨by rfl, ?_⟩) hHeld ?_
        rotate_left
        · intro w hSw
          try dsimp only at hSw
          go_simp
          try with_reducible rfl
        try simp only [Act.put, List.setIfInBounds_toArray, List.set_cons_zero, List.set_cons_succ]
        refine wpAnyH_tk (i := 5) (v := ?_) rfl (by kernel_rfl) (by kernel_rfl) (by kernel_rfl) (fun _ _ _ h => h) (Or.inl ⟨by rfl, ?_⟩) hHeld ?_
        rotate_left
        · intro w hSw
          try dsimp only at hSw
          go_simp
          try with_reducible rfl
        try simp only [Act.put, List.setIfInBounds_toArray, List.set_cons_zero, List.set_cons_succ]
        refine wpAnyH_tk (i := 6) (v := ?_) rfl (by kernel_rfl) (by kernel_rfl) (by kernel_rfl) (fun _ _ _ h => h) (Or.inl ⟨by rfl, ?_⟩) hHeld ?_
        rotate_left
        · intro w hSw
          try dsimp only at hSw
          go_simp
          try with_reducible rfl
        try simp only [Act.put, List.setIfInBounds_toArray, List.set_cons_zero, List.set_cons_succ]
        refine wpAnyH_tk (i := 7) (v := ?_) rfl (by kernel_rfl) (by kernel_rfl) (by kernel_rfl) (fun _ _ _ h => h) (Or.inl ⟨by rfl, ?_⟩) hHeld ?_
        rotate_left
        · intro w hSw
          try dsimp only at hSw
          go_simp
          try with_reducible rfl
        try simp only [Act.put, List.setIfInBounds_toArray, List.set_cons_zero, List.set_cons_succ]
        refine wpAnyH_two (i := 8) (j := 13) rfl rfl (by kernel_rfl) (fun K hK => ?_) (fun K hK => ?_)
        · go_simp
          refine (dat71 _ ((unhide HLD).ded h5 hD)).mono ?_
          rintro e w' ⟨rfl, hw'⟩
          subst w'
          go_wp2_with fail
          refine hK.out _ _ (hHeld) (fun hHeld2 => ?_)
          clear hK K hHeld
          have hHeld := hHeld2
          clear hHeld2
          try simp only [Act.put, List.setIfInBounds_toArray, List.set_cons_zero, List.set_cons_succ]
          refine wpAnyH_two (i := 9) (j := 13) rfl rfl (by kernel_rfl) (fun K hK => ?_) (fun K hK => ?_)
          · go_simp
            refine (h_sheet (unhide HKN) u2 (by rw [unhide HU]) (unhide HLD)).mono ?_
            rintro e w11 ⟨rfl, HL11⟩
            go_wp2_with fail
            refine hK.out _ _ (⟨(unhide HL11).c0, (unhide HL11).v0⟩) (fun hHeld2 => ?_)
            clear hK K hHeld
            have hHeld := hHeld2
            clear hHeld2
            try simp only [Act.put, List.setIfInBounds_toArray, List.set_cons_zero, List.set_cons_succ]
            refine wpAnyH_tk (i := 10) (v := ?_) rfl (by kernel_rfl) (by kernel_rfl) (by kernel_rfl) (fun _ _ _ h => h) (Or.inl ⟨by rfl, ?_⟩) hHeld ?_
            rotate_left
            · intro w hSw
              try dsimp only at hSw
              go_simp
              try with_reducible rfl
            try simp only [Act.put, List.setIfInBounds_toArray, List.set_cons_zero, List.set_cons_succ]
            refine wpAnyH_tk (i := 11) (v := ?_) rfl (by kernel_rfl) (by kernel_rfl) (by kernel_rfl) (fun _ _ _ h => h) (Or.inl ⟨by rfl, ?_⟩) hHeld ?_
            rotate_left
            · intro w hSw
              try dsimp only at hSw
              go_simp
              try with_reducible rfl
            try simp only [Act.put, List.setIfInBounds_toArray, List.set_cons_zero, List.set_cons_succ]
            refine wpAnyH_tk (i := 12) (v := ?_) rfl (by kernel_rfl) (by kernel_rfl) (by kernel_rfl) (fun _ _ _ h => h) (Or.inl ⟨by rfl, ?_⟩) hHeld ?_
            rotate_left
            · intro w hSw
              try dsimp only at hSw
              go_simp
              try with_reducible rfl
            try simp only [Act.put, List.setIfInBounds_toArray, List.set_cons_zero, List.set_cons_succ]
            refine wpAnyH_only (i := 13) rfl (by kernel_rfl) (fun K hK => ?_)
            go_simp
            have HLA := hide ((unhide HL11).new (wagg (fun _ => dv)) 72)
            have SS := And.intro (unhide HLA).c0 (unhide HLA).v0
            rw [zeros_eq] at HLA SS
            refine hK.out _ _ (⟨SS.1, SS.2⟩) (fun hHeld2 => ?_)
            clear hK K hHeld
            have hHeld := hHeld2
            clear hHeld2
            try simp only [Act.put, List.setIfInBounds_toArray, List.set_cons_zero, List.set_cons_succ]
            clear SS
            generalize hp3 : w11.heap.size = p3 at HLA ⊢
            clear hp3
            refine wpAnyH_only (i := 14) rfl (by kernel_rfl) (fun K hK => ?_)
            rw [if_pos (by rfl)]
            refine wp_store_row 72 _ _ rfl p3 (wagg u2) rfl rfl 72 _ ((unhide HLA).var (List.Mem.head _)) Try.size72 rfl (wagg_one _) ?_
            have HLE := hide (Hall.setr2 (c' := wagg u2) (unhide HLA))
            refine hK.out _ _ (⟨(unhide HLE).c0, (unhide HLE).v0⟩) (fun hHeld2 => ?_)
            clear hK K hHeld
            have hHeld := hHeld2
            clear hHeld2
            simp only [Act.put]
            refine wpAnyH_tk (i := 15) (v := ?_) rfl (by kernel_rfl) (by kernel_rfl) (by kernel_rfl) (fun _ _ _ h => h) (Or.inl ⟨by rfl, ?_⟩) hHeld ?_
            rotate_left
            · intro w hSw
              try dsimp only at hSw
              go_simp
              try with_reducible rfl
            try simp only [Act.put, List.setIfInBounds_toArray, List.set_cons_zero, List.set_cons_succ]
            refine wpAnyH_done (by kernel_rfl) ?_ _
            clear hHeld
            have A1 := hide ((unhide HLE).var (List.Mem.head _))
            have hq := (unhide HLE).var (p := q) (List.Mem.tail _ (List.Mem.tail _ (List.Mem.tail _ (List.Mem.head _))))
            have y1 := cell_of_block (i := 1) (v := .int .i64 (s : Int)) hq rfl
            clear hq
            have HZE := hide (hal_close (unhide HSD2) (unhide HIN) (unhide HLE))
            clear HLE
            generalize World.setRow _ _ _ = W12 at HZE A1 y1 ⊢
            obtain ⟨hth, HZF⟩ := wds_store (l1 := [_, _, _, _, _]) (unhide HZE) h5 u2
            have HTH := hide hth
            have j0 : (0 : Int) ≤ (s : Int) := by omega
            have j5 : (s : Int) < 5 := by omega
            clear hth
            have HSZ := hide (show (Try.prog.info? 72).map (·.size) = some (wagg u2).size from Try.size72)
            go_wp2_with (first | (refine wpList_load66 (by rfl) _ rfl p3 rfl u2 (unhide A1) ?_) | (refine wpList_store_mid rfl 72 _ _ rfl p (s * 16) (wagg u2) rfl rfl (unhide HTH) (unhide HSZ) (wagg_one _) ?_; generalize W12.setCells p (s * 16) (wagg u2).toList = W13 at HZF ⊢))
            exact ⟨⟨k + 1, by omega, by go_num, h', _, HSH', hal_drop (hal_drop (hal_drop (hal_drop (unhide HZF))))⟩, by simp [intOf]; omega⟩
          · go_simp
            have HLA := hide ((unhide HLD).new (wagg (fun _ => dv)) 72)
            have SS := And.intro (unhide HLA).c0 (unhide HLA).v0
            rw [zeros_eq] at HLA SS
            refine hK.out _ _ (⟨SS.1, SS.2⟩) (fun hHeld2 => ?_)
            clear hK K hHeld
            have hHeld := hHeld2
            clear hHeld2
            try simp only [Act.put, List.setIfInBounds_toArray, List.set_cons_zero, List.set_cons_succ]
            clear SS
            generalize hp3 : WD.heap.size = p3 at HLA ⊢
            clear hp3
            refine wpAnyH_only (i := 9) rfl (by kernel_rfl) (fun K hK => ?_)
            go_simp
            refine (h_sheet (unhide HKN) u2 (by rw [unhide HU]) (unhide HLA)).mono ?_
            rintro e w11 ⟨rfl, HL11⟩
            go_wp2_with fail
            refine hK.out _ _ (⟨(unhide HL11).c0, (unhide HL11).v0⟩) (fun hHeld2 => ?_)
            clear hK K hHeld
            have hHeld := hHeld2
            clear hHeld2
            try simp only [Act.put, List.setIfInBounds_toArray, List.set_cons_zero, List.set_cons_succ]
            refine wpAnyH_tk (i := 10) (v := ?_) rfl (by kernel_rfl) (by kernel_rfl) (by kernel_rfl) (fun _ _ _ h => h) (Or.inl ⟨by rfl, ?_⟩) hHeld ?_
            rotate_left
            · intro w hSw
              try dsimp only at hSw
              go_simp
              try with_reducible rfl
            try simp only [Act.put, List.setIfInBounds_toArray, List.set_cons_zero, List.set_cons_succ]
            refine wpAnyH_tk (i := 11) (v := ?_) rfl (by kernel_rfl) (by kernel_rfl) (by kernel_rfl) (fun _ _ _ h => h) (Or.inl ⟨by rfl, ?_⟩) hHeld ?_
            rotate_left
            · intro w hSw
              try dsimp only at hSw
              go_simp
              try with_reducible rfl
            try simp only [Act.put, List.setIfInBounds_toArray, List.set_cons_zero, List.set_cons_succ]
            refine wpAnyH_tk (i := 12) (v := ?_) rfl (by kernel_rfl) (by kernel_rfl) (by kernel_rfl) (fun _ _ _ h => h) (Or.inl ⟨by rfl, ?_⟩) hHeld ?_
            rotate_left
            · intro w hSw
              try dsimp only at hSw
              go_simp
              try with_reducible rfl
            try simp only [Act.put, List.setIfInBounds_toArray, List.set_cons_zero, List.set_cons_succ]
            refine wpAnyH_only (i := 14) rfl (by kernel_rfl) (fun K hK => ?_)
            rw [if_pos (by rfl)]
            refine wp_store_row 72 _ _ rfl p3 (wagg u2) rfl rfl 72 _ ((unhide HL11).var (List.Mem.head _)) Try.size72 rfl (wagg_one _) ?_
            have HLE := hide (Hall.setr2 (c' := wagg u2) (unhide HL11))
            refine hK.out _ _ (⟨(unhide HLE).c0, (unhide HLE).v0⟩) (fun hHeld2 => ?_)
            clear hK K hHeld
            have hHeld := hHeld2
            clear hHeld2
            simp only [Act.put]
            refine wpAnyH_tk (i := 15) (v := ?_) rfl (by kernel_rfl) (by kernel_rfl) (by kernel_rfl) (fun _ _ _ h => h) (Or.inl ⟨by rfl, ?_⟩) hHeld ?_
            rotate_left
            · intro w hSw
              try dsimp only at hSw
              go_simp
              try with_reducible rfl
            try simp only [Act.put, List.setIfInBounds_toArray, List.set_cons_zero, List.set_cons_succ]
            refine wpAnyH_done (by kernel_rfl) ?_ _
            clear hHeld
            have A1 := hide ((unhide HLE).var (List.Mem.head _))
            have hq := (unhide HLE).var (p := q) (List.Mem.tail _ (List.Mem.tail _ (List.Mem.tail _ (List.Mem.head _))))
            have y1 := cell_of_block (i := 1) (v := .int .i64 (s : Int)) hq rfl
            clear hq
            have HZE := hide (hal_close (unhide HSD2) (unhide HIN) (unhide HLE))
            clear HLE
            generalize World.setRow _ _ _ = W12 at HZE A1 y1 ⊢
            obtain ⟨hth, HZF⟩ := wds_store (l1 := [_, _, _, _, _]) (unhide HZE) h5 u2
            have HTH := hide hth
            have j0 : (0 : Int) ≤ (s : Int) := by omega
            have j5 : (s : Int) < 5 := by omega
            clear hth
            have HSZ := hide (show (Try.prog.info? 72).map (·.size) = some (wagg u2).size from Try.size72)
            go_wp2_with (first | (refine wpList_load66 (by rfl) _ rfl p3 rfl u2 (unhide A1) ?_) | (refine wpList_store_mid rfl 72 _ _ rfl p (s * 16) (wagg u2) rfl rfl (unhide HTH) (unhide HSZ) (wagg_one _) ?_; generalize W12.setCells p (s * 16) (wagg u2).toList = W13 at HZF ⊢))
            exact ⟨⟨k + 1, by omega, by go_num, h', _, HSH', hal_drop (hal_drop (hal_drop (hal_drop (unhide HZF))))⟩, by simp [intOf]; omega⟩
        · go_simp
          have HLA := hide ((unhide HLD).new (wagg (fun _ => dv)) 72)
          have SS := And.intro (unhide HLA).c0 (unhide HLA).v0
          rw [zeros_eq] at HLA SS
          refine hK.out _ _ (⟨SS.1, SS.2⟩) (fun hHeld2 => ?_)
          clear hK K hHeld
          have hHeld := hHeld2
          clear hHeld2
          try simp only [Act.put, List.setIfInBounds_toArray, List.set_cons_zero, List.set_cons_succ]
          clear SS
          generalize hp3 : WD.heap.size = p3 at HLA ⊢
          clear hp3
          refine wpAnyH_only (i := 8) rfl (by kernel_rfl) (fun K hK => ?_)
          go_simp
          refine (dat71 _ ((unhide HLA).ded h5 hD)).mono ?_
          rintro e w' ⟨rfl, hw'⟩
          subst w'
          go_wp2_with fail
          refine hK.out _ _ (hHeld) (fun hHeld2 => ?_)
          clear hK K hHeld
          have hHeld := hHeld2
          clear hHeld2
          try simp only [Act.put, List.setIfInBounds_toArray, List.set_cons_zero, List.set_cons_succ]
          refine wpAnyH_only (i := 9) rfl (by kernel_rfl) (fun K hK => ?_)
          go_simp
          refine (h_sheet (unhide HKN) u2 (by rw [unhide HU]) (unhide HLA)).mono ?_
          rintro e w11 ⟨rfl, HL11⟩
          go_wp2_with fail
          refine hK.out _ _ (⟨(unhide HL11).c0, (unhide HL11).v0⟩) (fun hHeld2 => ?_)
          clear hK K hHeld
          have hHeld := hHeld2
          clear hHeld2
          try simp only [Act.put, List.setIfInBounds_toArray, List.set_cons_zero, List.set_cons_succ]
          refine wpAnyH_tk (i := 10) (v := ?_) rfl (by kernel_rfl) (by kernel_rfl) (by kernel_rfl) (fun _ _ _ h => h) (Or.inl ⟨by rfl, ?_⟩) hHeld ?_
          rotate_left
          · intro w hSw
            try dsimp only at hSw
            go_simp
            try with_reducible rfl
          try simp only [Act.put, List.setIfInBounds_toArray, List.set_cons_zero, List.set_cons_succ]
          refine wpAnyH_tk (i := 11) (v := ?_) rfl (by kernel_rfl) (by kernel_rfl) (by kernel_rfl) (fun _ _ _ h => h) (Or.inl ⟨by rfl, ?_⟩) hHeld ?_
          rotate_left
          · intro w hSw
            try dsimp only at hSw
            go_simp
            try with_reducible rfl
          try simp only [Act.put, List.setIfInBounds_toArray, List.set_cons_zero, List.set_cons_succ]
          refine wpAnyH_tk (i := 12) (v := ?_) rfl (by kernel_rfl) (by kernel_rfl) (by kernel_rfl) (fun _ _ _ h => h) (Or.inl ⟨by rfl, ?_⟩) hHeld ?_
          rotate_left
          · intro w hSw
            try dsimp only at hSw
            go_simp
            try with_reducible rfl
          try simp only [Act.put, List.setIfInBounds_toArray, List.set_cons_zero, List.set_cons_succ]
          refine wpAnyH_only (i := 14) rfl (by kernel_rfl) (fun K hK => ?_)
          rw [if_pos (by rfl)]
          refine wp_store_row 72 _ _ rfl p3 (wagg u2) rfl rfl 72 _ ((unhide HL11).var (List.Mem.head _)) Try.size72 rfl (wagg_one _) ?_
          have HLE := hide (Hall.setr2 (c' := wagg u2) (unhide HL11))
          refine hK.out _ _ (⟨(unhide HLE).c0, (unhide HLE).v0⟩) (fun hHeld2 => ?_)
          clear hK K hHeld
          have hHeld := hHeld2
          clear hHeld2
          simp only [Act.put]
          refine wpAnyH_tk (i := 15) (v := ?_) rfl (by kernel_rfl) (by kernel_rfl) (by kernel_rfl) (fun _ _ _ h => h) (Or.inl ⟨by rfl, ?_⟩) hHeld ?_
          rotate_left
          · intro w hSw
            try dsimp only at hSw
            go_simp
            try with_reducible rfl
          try simp only [Act.put, List.setIfInBounds_toArray, List.set_cons_zero, List.set_cons_succ]
          refine wpAnyH_done (by kernel_rfl) ?_ _
          clear hHeld
          have A1 := hide ((unhide HLE).var (List.Mem.head _))
          have hq := (unhide HLE).var (p := q) (List.Mem.tail _ (List.Mem.tail _ (List.Mem.tail _ (List.Mem.head _))))
          have y1 := cell_of_block (i := 1) (v := .int .i64 (s : Int)) hq rfl
          clear hq
          have HZE := hide (hal_close (unhide HSD2) (unhide HIN) (unhide HLE))
          clear HLE
          generalize World.setRow _ _ _ = W12 at HZE A1 y1 ⊢
          obtain ⟨hth, HZF⟩ := wds_store (l1 := [_, _, _, _, _]) (unhide HZE) h5 u2
          have HTH := hide hth
          have j0 : (0 : Int) ≤ (s : Int) := by omega
          have j5 : (s : Int) < 5 := by omega
          clear hth
          have HSZ := hide (show (Try.prog.info? 72).map (·.size) = some (wagg u2).size from Try.size72)
          go_wp2_with (first | (refine wpList_load66 (by rfl) _ rfl p3 rfl u2 (unhide A1) ?_) | (refine wpList_store_mid rfl 72 _ _ rfl p (s * 16) (wagg u2) rfl rfl (unhide HTH) (unhide HSZ) (wagg_one _) ?_; generalize W12.setCells p (s * 16) (wagg u2).toList = W13 at HZF ⊢))
          exact ⟨⟨k + 1, by omega, by go_num, h', _, HSH', hal_drop (hal_drop (hal_drop (hal_drop (unhide HZF))))⟩, by simp [intOf]; omega⟩
      have k1b : (xd == 1) = false := beq_eq_false_iff_ne.2 k1
      cases hbz : (dat sd xs).isSome with
      | false =>
        have hno : ¬ (xd = 3 ∨ xd = 4) := fun q => by
          have hq := (unhide HNOT _ (unhide HSD) (by omega) (fcode_dat hbz)).2
          rw [hq] at hc
          exact fcode_dat hbz hc
        go_wp2_with fail
        exact ⟨⟨k + 1, by omega, by go_num, h', u, unhide HSTAY (.inr ⟨k1, by omega, by omega⟩), hal_drop (hal_drop (hal_drop (unhide HZ6)))⟩, by simp [intOf]; omega⟩
      | true =>
        obtain ⟨s, D, d, hxs, h5, hsj⟩ := dat_some hbz
        subst hxs
        have hsd' := sts_at (unhide HSD) hsj
        have hsb : seatB (s : Int) = true := decide_eq_true (by omega)
        have j0 : (0 : Int) ≤ (s : Int) := by omega
        have j5 : (s : Int) < 5 := by omega
        go_wp2_with fail
        clear x0 x1 ql hbz
        generalize w5.alloc (.cells #[.int .i64 0, .int .i64 v.n, .bool v.t, .string v.s, .slice a5 v.l.length cap5] 34) = W6 at HZ6 ⊢
        generalize w5.heap.size = pe at HZ6 ⊢
        have hq := zoo_varm (p := q) (unhide HZ6) (List.Mem.tail _ (List.Mem.tail _ (List.Mem.tail _ (List.Mem.head _))))
        have x0 : W6.cell? ⟨q, 0, none⟩ = some (.int .i64 xd) := cell_of_block hq rfl
        have x1 : W6.cell? ⟨q, 1, none⟩ = some (.int .i64 (s : Int)) := cell_of_block hq rfl
        have x4 : W6.cell? ⟨q, 4, none⟩ = some (.int .i64 xk) := cell_of_block hq rfl
        have x5 : W6.cell? ⟨q, 5, none⟩ = some (.int .i64 xt) := cell_of_block hq rfl
        have x7 : W6.cell? ⟨q, 7, none⟩ = some (.string xb) := cell_of_block hq rfl
        clear hq
        obtain ⟨-, -, y2, y3, y4, -, -, -, -, -⟩ := evF (zoo_varm (p := pe) (unhide HZ6) (List.Mem.tail _ (List.Mem.head _)))
        refine (isseat (s : Int) _).mono ?_
        rintro e w' ⟨rfl, hw'⟩
        subst w'
        rw [hsb]
        by_cases k2 : xd = 2
        · subst k2
          obtain ⟨j, hj, hkj, eT, eS⟩ := unhide HGOT s d h5 rfl hsd' rfl hc
          subst hkj
          obtain ⟨z0, z1, -, -⟩ := wds_cells (l1 := [_, _, _, _]) (unhide HZ6) h5 hj
          rw [← eT] at z0
          rw [← eS] at z1
          clear eT eS
          have l0 : (0 : Int) ≤ (j : Int) := by omega
          have l8 : (j : Int) < 8 := by omega
          have hkb : keyB (j : Int) = true := by simp [keyB]; omega
          go_wp2_with fail
          go_quiet ((go_at_call 35; exact Calls.quiet_of_same ((key12 _ _).mono (fun e w' q => ⟨by rw [q.1, hkb], q.2⟩))))
          go_wp2_with fail
          exact ⟨⟨k + 1, by omega, by go_num, h', u, unhide HSTAY (.inr ⟨by decide, by decide, by decide⟩), (hal_drop (hal_drop (hal_drop (unhide HZ6)))).kp0 ((Kp.refl [] _).drewN _)⟩, by simp [intOf]; omega⟩
        have k2b : (xd == 2) = false := beq_eq_false_iff_ne.2 k2
        by_cases k3 : xd = 3
        · subst k3
          obtain ⟨j, hj, hkj, hsh'⟩ := unhide HWR s d h5 rfl hsd' true xb (.inl ⟨rfl, rfl, rfl⟩) hc
          subst hkj
          have HSH' := hide hsh'
          clear hsh'
          obtain ⟨z0, z1, g0, g1⟩ := wds_cells (l1 := [_, _, _, _]) (unhide HZ6) h5 hj
          have l0 : (0 : Int) ≤ (j : Int) := by omega
          have l8 : (j : Int) < 8 := by omega
          have hkb : keyB (j : Int) = true := by simp [keyB]; omega
          go_wp2_with fail
          refine (key12 (j : Int) _).mono ?_
          rintro e w' ⟨rfl, hw'⟩
          subst w'
          rw [hkb]
          have HZ7 := hide ((wds_set (l1 := [_, _, _, _]) (unhide HZ6) h5 hj false ⟨#[]⟩).kp0 (Kp.refl [] _).drew)
          go_wp2_with fail
          go_region
          clear z0 z1 g0 g1 x0 x1 x4 x5 x7 y2 y3 y4
          generalize World.drew _ = W7 at HZ7 ⊢
          have hq := zoo_varm (p := q) (unhide HZ7) (List.Mem.tail _ (List.Mem.tail _ (List.Mem.tail _ (List.Mem.head _))))
          have x0 : W7.cell? ⟨q, 0, none⟩ = some (.int .i64 3) := cell_of_block hq rfl
          clear hq
          go_wp2_with fail
          clear x0
          have HZD := hide ((unhide HZ7).kp0 (Kp.refl [] _).drew)
          clear HZ7
          have hq := zoo_varm (p := q) (unhide HZD) (List.Mem.tail _ (List.Mem.tail _ (List.Mem.tail _ (List.Mem.head _))))
          have x4 := cell_of_block (i := 4) (v := .int .i64 (j : Int)) hq rfl
          have x7 := cell_of_block (i := 7) (v := .string xb) hq rfl
          clear hq
          refine wp_region_held_drew (S := fun w' => w'.cell? ⟨q, 4, none⟩ = some (.int .i64 (j : Int)) ∧ w'.cell? ⟨q, 7, none⟩ = some (.string xb)) (by kernel_rfl) ⟨x4, x7⟩ (fun hHeld => ?_)
          generalize World.drew _ = WD9 at *
          refine wpAnyH_tk (i := 0) (v := ?_) rfl (by kernel_rfl) (by kernel_rfl) (by kernel_rfl) (fun _ _ _ h => h) (Or.inl ⟨by rfl, ?_⟩) hHeld ?_
          rotate_left
          · intro w hSw
            try dsimp only at hSw
            go_simp
            try with_reducible rfl
          try simp only [Act.put, List.setIfInBounds_toArray, List.set_cons_zero, List.set_cons_succ]
          refine wpAnyH_tk (i := 1) (v := ?_) rfl (by kernel_rfl) (by kernel_rfl) (by kernel_rfl) (fun _ _ _ h => h) (Or.inl ⟨by rfl, ?_⟩) hHeld ?_
          rotate_left
          · intro w hSw
            try dsimp only at hSw
            go_simp
            try with_reducible rfl
          try simp only [Act.put, List.setIfInBounds_toArray, List.set_cons_zero, List.set_cons_succ]
          refine wpAnyH_tk (i := 2) (v := ?_) rfl (by kernel_rfl) (by kernel_rfl) (by kernel_rfl) (fun _ _ _ h => h) (Or.inl ⟨by rfl, ?_⟩) hHeld ?_
          rotate_left
          · intro w hSw
            try dsimp only at hSw
            go_simp
            try with_reducible rfl
          try simp only [Act.put, List.setIfInBounds_toArray, List.set_cons_zero, List.set_cons_succ]
          refine wpAnyH_tk (i := 3) (v := ?_) rfl (by kernel_rfl) (by kernel_rfl) (by kernel_rfl) (fun _ _ _ h => h) (Or.inl ⟨by rfl, ?_⟩) hHeld ?_
          rotate_left
          · intro w hSw
            try dsimp only at hSw
            go_simp
            try with_reducible rfl
          try simp only [Act.put, List.setIfInBounds_toArray, List.set_cons_zero, List.set_cons_succ]
          refine wpAnyH_tk (i := 4) (v := ?_) rfl (by kernel_rfl) (by kernel_rfl) (by kernel_rfl) (fun _ _ _ h => h) (Or.inl ⟨by rfl, ?_⟩) hHeld ?_
          rotate_left
          · intro w hSw
            try dsimp only at hSw
            go_simp
            try with_reducible rfl
          try simp only [Act.put, List.setIfInBounds_toArray, List.set_cons_zero, List.set_cons_succ]
          refine wpAnyH_tk (i := 6) (v := ?_) rfl (by kernel_rfl) (by kernel_rfl) (by kernel_rfl) (fun _ _ _ h => h) (Or.inl ⟨by rfl, ?_⟩) hHeld ?_
          rotate_left
          · intro w hSw
            try dsimp only at hSw
            go_simp
            try with_reducible rfl
          try simp only [Act.put, List.setIfInBounds_toArray, List.set_cons_zero, List.set_cons_succ]
          refine wpAnyH_only (i := 5) rfl (by kernel_rfl) (fun K hK => ?_)
          go_simp
          refine (has24 xb _).mono ?_
          rintro e w9 ⟨rfl, hk9⟩
          have HZ10 := hide ((unhide HZD).kp0 hk9)
          have x4b := hk9.cell (by simp) x4
          have x7b := hk9.cell (by simp) x7
          obtain ⟨z0, z1, g0, g1⟩ := wds_cells (l1 := [_, _, _, _]) (unhide HZ10) h5 hj
          have HZ11 := hide (wds_set (l1 := [_, _, _, _]) (unhide HZ10) h5 hj true xb)
          clear hk9 HZD x4 x7
          go_wp2_with fail
          refine hK.out _ _ (⟨x4b, x7b⟩) (fun hHeld2 => ?_)
          clear hK K hHeld
          have hHeld := hHeld2
          clear hHeld2
          try simp only [Act.put, List.setIfInBounds_toArray, List.set_cons_zero, List.set_cons_succ]
          refine wpAnyH_tk (i := 7) (v := ?_) rfl (by kernel_rfl) (by kernel_rfl) (by kernel_rfl) (fun _ _ _ h => h) (Or.inl ⟨by rfl, ?_⟩) hHeld ?_
          rotate_left
          · intro w hSw
            try dsimp only at hSw
            go_simp
            try with_reducible rfl
          try simp only [Act.put, List.setIfInBounds_toArray, List.set_cons_zero, List.set_cons_succ]
          refine wpAnyH_only (i := 8) rfl (by kernel_rfl) (fun K hK => ?_)
          go_simp
          have hq2 := zoo_varm (p := q) (unhide HZ11) (List.Mem.tail _ (List.Mem.tail _ (List.Mem.tail _ (List.Mem.head _))))
          have x4c := cell_of_block (i := 4) (v := .int .i64 (j : Int)) hq2 rfl
          have x7c := cell_of_block (i := 7) (v := .string xb) hq2 rfl
          clear hq2
          refine hK.out _ _ (⟨x4c, x7c⟩) (fun hHeld2 => ?_)
          clear hK K hHeld
          have hHeld := hHeld2
          clear hHeld2
          try simp only [Act.put, List.setIfInBounds_toArray, List.set_cons_zero, List.set_cons_succ]
          clear x4c x7c
          refine wpAnyH_done (by kernel_rfl) ?_ _
          clear hHeld x4b x7b z0 z1 g0 g1 HZ10
          rw [upd_twice] at HZ11
          go_wp2_with fail
          exact ⟨⟨k + 1, by omega, by go_num, h', _, HSH', hal_drop (hal_drop (hal_drop (unhide HZ11)))⟩, by simp [intOf]; omega⟩
        have k3b : (xd == 3) = false := beq_eq_false_iff_ne.2 k3
        by_cases k4 : xd = 4
        · subst k4
          obtain ⟨j, hj, hkj, hsh'⟩ := unhide HWR s d h5 rfl hsd' false ⟨#[]⟩ (.inr ⟨rfl, rfl, rfl⟩) hc
          subst hkj
          have HSH' := hide hsh'
          clear hsh'
          obtain ⟨z0, z1, g0, g1⟩ := wds_cells (l1 := [_, _, _, _]) (unhide HZ6) h5 hj
          have l0 : (0 : Int) ≤ (j : Int) := by omega
          have l8 : (j : Int) < 8 := by omega
          have hkb : keyB (j : Int) = true := by simp [keyB]; omega
          go_wp2_with fail
          refine (key12 (j : Int) _).mono ?_
          rintro e w' ⟨rfl, hw'⟩
          subst w'
          rw [hkb]
          have HZ7 := hide ((wds_set (l1 := [_, _, _, _]) (unhide HZ6) h5 hj false ⟨#[]⟩).kp0 (Kp.refl [] _).drew)
          go_wp2_with fail
          go_region
          clear z0 z1 g0 g1 x0 x1 x4 x5 x7 y2 y3 y4
          generalize World.drew _ = W7 at HZ7 ⊢
          have hq := zoo_varm (p := q) (unhide HZ7) (List.Mem.tail _ (List.Mem.tail _ (List.Mem.tail _ (List.Mem.head _))))
          have x0 : W7.cell? ⟨q, 0, none⟩ = some (.int .i64 4) := cell_of_block hq rfl
          clear hq
          go_wp2_with fail
          exact ⟨⟨k + 1, by omega, by go_num, h', _, HSH', hal_drop (hal_drop (hal_drop (unhide HZ7)))⟩, by simp [intOf]; omega⟩
        have k4b : (xd == 4) = false := beq_eq_false_iff_ne.2 k4
        by_cases k5 : xd = 5
        · subst k5
          have HLS := hide (unhide HLST s d h5 rfl hsd' rfl hc)
          have HZ7 := hide (ps_nil (unhide HZ6))
          go_wp2_with fail
          clear x0 x1 x4 x5 x7 y2 y3 y4
          go_loopw [13, 14] (fun qq i wr => ∃ (m : Nat) (aw : Option Addr) (cw : Nat), m ≤ 8 ∧ qq = .slice aw (wl (u s) xk xt m).length cw ∧ i = .int .i64 m ∧ Hid (Zoo w1 wr (PsT aw cw (wl (u s) xk xt m) :: HalT hb h' :: BoxT pe #[.int .i64 0, .int .i64 v.n, .bool v.t, .string v.s, .slice a5 v.l.length cap5] 34 :: PsT a5 cap5 v.l :: BoxT q #[.int .i64 5, .int .i64 (s : Int), .int .i64 xm, .int .i64 xa, .int .i64 xk, .int .i64 xt, .int .i64 xp, .string xb] 37 :: [WdsT p u]))) (fun _ i _ => 8 - (intOf i).toNat)
          case atStart => exact ⟨0, none, 0, by omega, rfl, rfl, HZ7⟩
          case round =>
            obtain ⟨m, aw, cw, hm8, rfl, rfl, HL⟩ := hrel
            have hq := zoo_varm (p := q) (unhide HL) (List.Mem.tail _ (List.Mem.tail _ (List.Mem.tail _ (List.Mem.tail _ (List.Mem.head _)))))
            have x4 := cell_of_block (i := 4) (v := .int .i64 xk) hq rfl
            have x5 := cell_of_block (i := 5) (v := .int .i64 xt) hq rfl
            clear hq
            by_cases hlt8 : m < 8
            · have m8 : (m : Int) < 8 := by omega
              have m0 : (0 : Int) ≤ (m : Int) := by omega
              have hwl := wl_len (u s) xk xt m
              obtain ⟨z0, z1, -, -⟩ := wds_cells (l1 := [_, _, _, _, _]) (unhide HL) h5 hlt8
              have HN := hide (show wl (u s) xk xt (m + 1) = if xk ≤ (m : Int) ∧ (m : Int) ≤ xt ∧ (u s m).t = true then wl (u s) xk xt m ++ [⟨(m : Int), (u s m).t, (u s m).s⟩] else wl (u s) xk xt m from rfl)
              by_cases g1 : xk ≤ (m : Int)
              · by_cases g2 : (m : Int) ≤ xt
                · cases ht : (u s m).t with
                  | true =>
                    rw [ht] at z0 HN
                    have HN2 := hide ((unhide HN).trans (if_pos ⟨g1, g2, rfl⟩))
                    clear HN
                    obtain ⟨in0, hi0, hz0, hz1, hz2⟩ := info_parts Try.info79
                    have hB := (unhide HL).kp.size
                    obtain ⟨FP, hP, -⟩ := zoo_at0 (unhide HL)
                    have HOW := hide (own_kp0 hP.1 ((Kp.refl [] wr).alloc (.cells #[.int .i64 (m : Int), .bool true, .string (u s m).s] 79)))
                    clear hP
                    go_wp2_with (at_builtin; refine wpList_append_lies _ rfl _ _ 32 rfl w1.heap.size 79 in0 _ 3 32 Try.underlying32 hi0 hz0 hz1 hz2 rfl (by omega) (.slice aw (wl (u s) xk xt m).length cw) (wl (u s) xk xt m).length (vcells (wl (u s) xk xt m)) rfl (unhide HOW) ⟨wr.heap.size, 0, none⟩ 1 1 [.int .i64 (m : Int), .bool true, .string (u s m).s] (by rfl) (by rfl) (World.news_of_block (cs := #[.int .i64 (m : Int), .bool true, .string (u s m).s]) (t := 79) (fr := (0, 0)) (heap_alloc_new wr _)) (by simp [Value.oneCell']) (by omega) (by unfold maxLen; omega) (by omega) (by simp; omega) _ rfl ?_; intro g2 cap2 w20 hown hgrow hat hlt2)
                    have HL2 := hide (ps_app ((unhide HL).kp0 ((Kp.refl [] wr).alloc (.cells #[.int .i64 (m : Int), .bool true, .string (u s m).s] 79))) hown hgrow hat)
                    clear hown hgrow hat
                    go_wp2_with fail
                    exact ⟨⟨m + 1, some ⟨g2, 0, none⟩, cap2, by omega, by rw [unhide HN2]; simp, by go_num, by rw [unhide HN2]; exact HL2⟩, by simp [intOf]; omega⟩
                  | false =>
                    rw [ht] at z0 HN
                    have HN2 := hide ((unhide HN).trans (if_neg (fun q => by cases q.2.2)))
                    clear HN
                    go_wp2_with fail
                    exact ⟨⟨m + 1, aw, cw, by omega, by rw [unhide HN2], by go_num, by rw [unhide HN2]; exact HL⟩, by simp [intOf]; omega⟩
                · have HN2 := hide ((unhide HN).trans (if_neg (fun q => g2 q.2.1)))
                  clear HN
                  go_wp2_with fail
                  exact ⟨⟨m + 1, aw, cw, by omega, by rw [unhide HN2], by go_num, by rw [unhide HN2]; exact HL⟩, by simp [intOf]; omega⟩
              · have HN2 := hide ((unhide HN).trans (if_neg (fun q => g1 q.1)))
                clear HN
                go_wp2_with fail
                exact ⟨⟨m + 1, aw, cw, by omega, by rw [unhide HN2], by go_num, by rw [unhide HN2]; exact HL⟩, by simp [intOf]; omega⟩
            · have m8 : ¬ (m : Int) < 8 := by omega
              have em : m = 8 := by omega
              subst em
              rw [← unhide HLS] at HL ⊢
              obtain ⟨-, -, -, -, y4, -, -, -, -, -⟩ := evF (zoo_varm (p := pe) (unhide HL) (List.Mem.tail _ (List.Mem.tail _ (List.Mem.head _))))
              go_wp2_with fail
              refine (same39 aw a5 cw cap5 _ (ps_slo (unhide HL) (List.Mem.head _)) (ps_slo (unhide HL) (List.Mem.tail _ (List.Mem.tail _ (List.Mem.tail _ (List.Mem.head _))))) (by have := unhide HLN; omega)).mono ?_
              rintro e w30 ⟨rfl, mm, rfl⟩
              go_wp2_with fail
              exact ⟨⟨k + 1, by omega, by go_num, h', u, unhide HSTAY (.inr ⟨by decide, by decide, by decide⟩), (hal_drop (hal_drop (hal_drop (unhide HL).tail))).kp0 ((Kp.refl [] _).drewN _)⟩, by simp [intOf]; omega⟩
        have k5b : (xd == 5) = false := beq_eq_false_iff_ne.2 k5
        go_wp2_with fail
        exact ⟨⟨k + 1, by omega, by go_num, h', u, unhide HSTAY (.inr ⟨k1, k3, k4⟩), hal_drop (hal_drop (hal_drop (unhide HZ6)))⟩, by simp [intOf]; omega⟩
    · have i1 : ¬ (k : Int) < (n1 : Int) := by omega
      go_wp2_with fail
      go_ret
      exact ⟨by trivial, ((unhide HK1).trans0 (unhide HI).kp).below (Nat.le_refl _) (by simp)⟩
end Go.Proofs.Ytehhpmfeaeabgac
