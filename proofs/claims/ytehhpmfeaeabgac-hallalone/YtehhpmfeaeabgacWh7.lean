/- HallAlone, walked. -/
import Derived.Test.YtehhpmfeaeabgacHv
namespace Go.Proofs.Ytehhpmfeaeabgac
open Go.RowKit
set_option maxRecDepth 20000
attribute [local go_sem ↓] Go.wp_at_zero Go.wp_at_succ

section
variable {w0 w : World} {o : Thing} {r : List Thing}
/-- All keys' values in a variable behind another thing: the value of one key is set. -/
theorem zoo_setwL {l1 : List Thing} {p j : Nat} {v : Nat → Ver} (hz : Zoo w0 w (l1 ++ BoxT p (wagg v) 72 :: r)) (hj : j < 8) (t : Bool) (s : ByteArray) :
    (∃ x, w.cell? ⟨p, j * 2, none⟩ = some x) ∧ (∃ x, w.cell? ⟨p, j * 2 + 1, none⟩ = some x) ∧ w.frozen? ⟨p, j * 2, none⟩ = false ∧ w.frozen? ⟨p, j * 2 + 1, none⟩ = false ∧
      Hid (Zoo w0 ((w.setCell ⟨p, j * 2, none⟩ (.bool t)).setCell ⟨p, j * 2 + 1, none⟩ (.string s)) (l1 ++ BoxT p (wagg (upd v j ⟨0, t, s⟩)) 72 :: r)) := by
  obtain ⟨F, ⟨hb, h2, h3⟩, k2⟩ := hz.at_
  refine ⟨⟨_, cell_of_block hb (wagg_at0 _ hj)⟩, ⟨_, cell_of_block hb (wagg_at1 _ hj)⟩, frozen_of_block _ hb, frozen_of_block _ hb, k2 _ _ ⟨F, ⟨?_, h2, h3⟩, ?_, fun x hx => .inl hx⟩⟩
  · rw [heap_setCell_at _ _ (heap_setCell_at _ _ hb)]
    rw [wagg_set v hj ⟨0, t, s⟩]
  · rw [h2]
    exact ((Kp.refl [p] w).setCell (.inl (by simp)) _).setCell (.inl (by simp)) _
theorem zoo_ne2 {l1 : List Thing} {p p2 : Nat} {c c2 : Array Value} {T T2 : TypeId} (hz : Zoo w0 w (l1 ++ BoxT p c T :: BoxT p2 c2 T2 :: r)) : p ≠ p2 := by
  obtain ⟨X, h1, _⟩ := hz
  obtain ⟨F, Y, _, ⟨F2, Y2, h2, ⟨F3, Y3, h3, _, _, e3⟩, hd, _⟩, _, _⟩ := zoof_app h1
  intro e
  subst e
  exact hd p (by rw [h2.2.1]; simp) (by rw [e3, h3.2.1]; simp)
theorem Hall.setr {hb vb tb gb : Nat} {h : HSt} {st : Nat → Sd} {p : Nat} {c c' : Array Value} {T : TypeId} (hz : Hall w0 w hb vb tb gb h st (BoxT p c T :: r)) : Hall w0 (w.setRow p c') hb vb tb gb h st (BoxT p c' T :: r) := by
  obtain ⟨F, ⟨hbx, h2, h3⟩, k2⟩ := Hall.at_ (l1 := []) hz
  obtain ⟨z1, z2⟩ := setRow_kp (cs := c') hbx
  exact k2 _ _ ⟨F, ⟨z1, h2, h3⟩, by rw [h2]; exact z2, fun x hx => .inl hx⟩
theorem wagg_upd {a b : Nat → Ver} (h : wagg a = wagg b) {j : Nat} (hj : j < 8) (x : Ver) : wagg (upd a j x) = wagg (upd b j x) := by rw [← wagg_set a hj x, ← wagg_set b hj x, h]
theorem upd_upd {a : Nat → Ver} {j : Nat} {x y : Ver} : upd (upd a j x) j y = upd a j y := by
  funext k
  unfold upd
  split <;> rfl
end
/-- What is so at the head of a round: the seats are empty, the variable has what all keys have. -/
def AlI (w1 wr : World) (hb p : Nat) (h : HSt) (v : Nat → Ver) : Prop := Zoo w1 wr [HalT hb h, BoxT p (wagg v) 72] ∧ HInv h ∧ (∀ s, h.seat s = none) ∧ wagg (shw h.f h.n h.n 8) = wagg v
set_option maxHeartbeats 4000000 in
theorem halone9 (a : Option Addr) (n1 c : Nat) (st : Nat → HStep) (w : World) (h : HSts w a n1 st) :
    Calls Try.prog 9 #[.slice a n1 c] w fun e w' => e = .returned (.bool true) ∧ Below w.heap.size w w' := by
  have HS := hide h
  clear h
  go_enter Try.func9, Try.ntmps9
  go_wp2_with fail
  refine (hbegun w).mono ?_
  rintro e w1 ⟨rfl, hk1⟩
  have HK1 := hide hk1
  clear hk1
  go_wp2_with fail
  refine (gsteps a n1 c st w1 ((unhide HS).kp0 (unhide HK1))).mono ?_
  rintro e w' ⟨q, rfl, hq, hw'⟩
  subst w'
  cases q with
  | true =>
    clear hq
    go_wp2_with fail
    go_ret
    exact ⟨rfl, (unhide HK1).below (Nat.le_refl _) (by simp)⟩
  | false =>
  have h200 := hq rfl
  clear hq
  go_wp2_with fail
  refine (h_new w1).mono ?_
  rintro e w2 ⟨hb, rfl, F, hh, hk⟩
  have HZ0 : Hid (Zoo w1 w2 [HalT hb hs0]) := (zoo_nil (Kp.refl [] w1)).cons hh hk
  clear hh hk
  have HZ1 := hide (hal_var (P := ManyT []) (zoo_swap (opt_none (unhide HZ0))) (wagg (fun _ => dv)) 72)
  rw [zeros_eq] at HZ1
  clear HZ0
  go_wp2_with fail
  generalize w2.alloc (.cells #[.bool false, .string ⟨#[]⟩, .bool false, .string ⟨#[]⟩, .bool false, .string ⟨#[]⟩, .bool false, .string ⟨#[]⟩, .bool false, .string ⟨#[]⟩, .bool false, .string ⟨#[]⟩, .bool false, .string ⟨#[]⟩, .bool false, .string ⟨#[]⟩] 72) = W3 at HZ1 ⊢
  generalize w2.heap.size = p at HZ1 ⊢
  rw [← zeros_eq] at HZ1
  go_loopw [5] (fun i wr => ∃ k : Nat, k ≤ n1 ∧ i = .int .i64 k ∧ ∃ h v, Hid (AlI w1 wr hb p h v)) (fun i _ => n1 - (intOf i).toNat)
  case atStart => exact ⟨0, by omega, rfl, hs0, _, unhide HZ1, hinv_new, fun _ => rfl, by rfl⟩
  case round =>
    obtain ⟨k, hk, rfl, h, v, HA⟩ := hrel
    by_cases hlt : k < n1
    · have HI := hide (unhide HA).1
      obtain ⟨lb', lo, rfl, hst⟩ := (unhide HS).2 (by omega)
      obtain ⟨q0, q1, q2, q3, q4, q5, q6, q7, hsz⟩ := (hst k hlt).kp0 ((unhide HK1).trans0 (unhide HI).kp)
      have i0 : (0 : Int) ≤ (k : Int) := by omega
      have i1 : (k : Int) < (n1 : Int) := by omega
      clear hst
      generalize (st k) = x at *
      obtain ⟨xd, xs, xm, xa, xk, xt, xp, xb⟩ := x
      dsimp only at q0 q1 q2 q3 q4 q5 q6 q7
      have HZ4 := hide (hal_var (P := ManyT []) (zoo_swap (opt_none (unhide HI))) #[.int .i64 xd, .int .i64 0, .int .i64 xm, .int .i64 xa, .int .i64 xk, .int .i64 xt, .int .i64 xp, .string xb] 37)
      by_cases k8 : xd = 8
      · subst k8
        have HN := hide (al_clear (unhide HA).2.1 (unhide HA).2.2.1 (x := ⟨8, 0, xm, xa, xk, xt, xp, xb⟩) rfl)
        go_wp2_with fail
        refine (hal_do ⟨8, 0, xm, xa, xk, xt, xp, xb⟩ hsz (unhide HZ4)).mono ?_
        rintro e w5 ⟨a5, cap5, rfl, HY⟩
        have HI2 := hide ((unhide HA).2.1.step ⟨8, 0, xm, xa, xk, xt, xp, xb⟩)
        have HW := hide (unhide HA).2.2.2
        clear HZ4 HI HA q0 q1 q2 q3 q4 q5 q6 q7
        generalize hdo h ⟨8, 0, xm, xa, xk, xt, xp, xb⟩ = h2 at *
        go_wp2_with fail
        exact ⟨⟨k + 1, by omega, by go_num, h2, v, hal_drop (hal_drop (unhide HY)), unhide HI2, (unhide HN).1, by rw [(unhide HN).2.1, (unhide HN).2.2]; exact unhide HW⟩, by simp [intOf]; omega⟩
      · have k8b : (xd == 8) = false := beq_eq_false_iff_ne.2 k8
        by_cases k3 : xd = 3
        · subst k3
          have hfd := ev_code
          obtain ⟨hz, hi, hn, hw⟩ := unhide HA
          have HI0 := hide hi
          have HN := hide hn
          have HW := hide hw
          obtain ⟨md, hmd⟩ : ∃ md : Int, 1 + (k : Int) % 2 = md := ⟨_, rfl⟩
          have hm12 : md = 1 ∨ md = 2 := by omega
          have hB := al_begin (h := h) (hn 0) hm12
          have hP := al_put (h := sit h 0 (some ⟨md, h.n, [], []⟩)) sit_get (x := ⟨3, 0, xm, xa, xk, xt, xp, xb⟩) rfl rfl
          have hC := al_commit (h := sit (sit h 0 (some ⟨md, h.n, [], []⟩)) 0 (some ⟨md, h.n, [], dpw md [] xk true xb⟩)) sit_get
          have hA := al_round hi hn (md := md) xk true xb (h3 := hdo (sit (sit h 0 (some ⟨md, h.n, [], []⟩)) 0 (some ⟨md, h.n, [], dpw md [] xk true xb⟩)) xc) (c := dpc md xk true xb) (num := (hev (sit (sit h 0 (some ⟨md, h.n, [], []⟩)) 0 (some ⟨md, h.n, [], dpw md [] xk true xb⟩)) xc).n) (code := (hev (sit (sit h 0 (some ⟨md, h.n, [], []⟩)) 0 (some ⟨md, h.n, [], dpw md [] xk true xb⟩)) xc).c) (by rw [hC.1]; rfl) rfl (by rw [hC.2]; rfl) (by rw [hC.2]; rfl)
          have hi3 : HInv (hdo (sit (sit h 0 (some ⟨md, h.n, [], []⟩)) 0 (some ⟨md, h.n, [], dpw md [] xk true xb⟩)) xc) := by have z := ((hi.step (Go.Proofs.Ytehhpmfeaeabgac.xb md)).step ⟨3, 0, xm, xa, xk, xt, xp, xb⟩).step xc; rw [hB.1, hP.1] at z; exact z
          have hC5 : hev (sit (sit h 0 (some ⟨md, h.n, [], []⟩)) 0 (some ⟨md, h.n, [], dpw md [] xk true xb⟩)) xc = ⟨(hev (sit (sit h 0 (some ⟨md, h.n, [], []⟩)) 0 (some ⟨md, h.n, [], dpw md [] xk true xb⟩)) xc).c, (hev (sit (sit h 0 (some ⟨md, h.n, [], []⟩)) 0 (some ⟨md, h.n, [], dpw md [] xk true xb⟩)) xc).n, false, ⟨#[]⟩, []⟩ := by rw [hC.2]; rfl
          have HB := hide hB
          have HP := hide hP
          have HAR := hide hA
          have HI3 := hide hi3
          have HC5 := hide hC5
          have HMD := hide hmd
          clear hz hi hn hw hB hP hC hA hi3 hC5 hmd
          go_wp2_with fail
          rw [unhide HMD]
          refine (hal_do (Go.Proofs.Ytehhpmfeaeabgac.xb md) (Nat.zero_le _) (unhide HZ4)).mono ?_
          rintro e w5 ⟨a5, cap5, rfl, HY5⟩
          rw [(unhide HB).2]
          rw [(unhide HB).1, (unhide HB).2] at HY5
          have HY5' := hide (hal_drop (unhide HY5))
          clear HZ4 HY5 HI
          generalize wr.heap.size = q at HY5' ⊢
          dsimp only [evc, List.length_nil]
          have hq := zoo_varm (p := q) (unhide HY5') (List.Mem.tail _ (List.Mem.head _))
          have x0 : w5.cell? ⟨q, 0, none⟩ = some (.int .i64 3) := cell_of_block hq rfl
          have x1 : w5.cell? ⟨q, 1, none⟩ = some (.int .i64 0) := cell_of_block hq rfl
          have x2 : w5.cell? ⟨q, 2, none⟩ = some (.int .i64 xm) := cell_of_block hq rfl
          have x3 : w5.cell? ⟨q, 3, none⟩ = some (.int .i64 xa) := cell_of_block hq rfl
          have x4 : w5.cell? ⟨q, 4, none⟩ = some (.int .i64 xk) := cell_of_block hq rfl
          have x5 : w5.cell? ⟨q, 5, none⟩ = some (.int .i64 xt) := cell_of_block hq rfl
          have x6 : w5.cell? ⟨q, 6, none⟩ = some (.int .i64 xp) := cell_of_block hq rfl
          have x7 : w5.cell? ⟨q, 7, none⟩ = some (.string xb) := cell_of_block hq rfl
          clear hq q0 q1 q2 q3 q4 q5 q6 q7
          go_wp2_with fail
          refine (hal_do ⟨3, 0, xm, xa, xk, xt, xp, xb⟩ hsz (unhide HY5')).mono ?_
          rintro e w6 ⟨a6, cap6, rfl, HY6⟩
          rw [(unhide HP).2]
          rw [(unhide HP).1, (unhide HP).2] at HY6
          have HY6' := hide (hal_drop (unhide HY6))
          clear HY5' HY6 x0 x1 x2 x3 x4 x5 x6 x7 HB HP
          dsimp only [evc, List.length_nil]
          try dsimp only at HY6'
          generalize hcc : dpc md xk true xb = c at *
          clear hcc
          by_cases hc0 : c = 0
          · subst hc0
            go_wp2_with fail
            refine (hal_do xc (Nat.zero_le _) (unhide HY6')).mono ?_
            rintro e w7 ⟨a7, cap7, rfl, HY7⟩
            rw [unhide HC5]
            rw [unhide HC5] at HY7
            dsimp only [List.length_nil]
            try dsimp only at HY7
            clear HY6' HC5
            generalize hdo (sit (sit h 0 (some ⟨md, h.n, [], []⟩)) 0 (some ⟨md, h.n, [], dpw md [] xk true xb⟩)) xc = h3 at *
            generalize (hev (sit (sit h 0 (some ⟨md, h.n, [], []⟩)) 0 (some ⟨md, h.n, [], dpw md [] xk true xb⟩)) xc).c = code at *
            generalize (hev (sit (sit h 0 (some ⟨md, h.n, [], []⟩)) 0 (some ⟨md, h.n, [], dpw md [] xk true xb⟩)) xc).n = num at *
            obtain ⟨hn3, hA⟩ := unhide HAR
            have HN3 := hide hn3
            clear hn3 HAR
            rcases hA with ⟨hx, -⟩ | ⟨-, rfl⟩ | ⟨-, rfl, rfl, j, hj, rfl, hsh⟩
            · exact (hx (by first | trivial | rfl)).elim
            · have HZ8 := hide (hal_var (unhide HY7) #[.int .i64 9, .int .i64 num, .bool false, .string ⟨#[]⟩, .slice a7 0 cap7] 34)
              go_wp2_with fail
              go_ret
              exact ⟨by trivial, ((unhide HK1).trans0 (unhide HZ8).kp).below (Nat.le_refl _) (by simp)⟩
            · have HSH := hide hsh
              clear hsh
              have HZ8 := hide (hal_var (unhide HY7) #[.int .i64 0, .int .i64 ((h.n : Int) + 1), .bool false, .string ⟨#[]⟩, .slice a7 0 cap7] 34)
              have hpos : (0 : Int) < (h.n : Int) + 1 := by omega
              have hq := zoo_varm (p := q) (unhide HY7) (List.Mem.tail _ (List.Mem.tail _ (List.Mem.head _)))
              have x4 : w7.cell? ⟨q, 4, none⟩ = some (.int .i64 (j : Int)) := cell_of_block hq rfl
              have ql := lt_of_block hq
              clear hq HY7
              go_wp2_with fail
              generalize w7.alloc (.cells #[.int .i64 0, .int .i64 ((h.n : Int) + 1), .bool false, .string ⟨#[]⟩, .slice a7 0 cap7] 34) = W8 at HZ8 ⊢
              generalize w7.heap.size = pe at HZ8 ⊢
              refine (key12 (j : Int) _).mono ?_
              rintro e w' ⟨rfl, hw'⟩
              subst w'
              rw [show keyB (j : Int) = true by simp [keyB]; omega]
              have hq := zoo_varm (p := q) (unhide HZ8) (List.Mem.tail _ (List.Mem.tail _ (List.Mem.head _)))
              have x0 : W8.cell? ⟨q, 0, none⟩ = some (.int .i64 3) := cell_of_block hq rfl
              have x4' : W8.cell? ⟨q, 4, none⟩ = some (.int .i64 (j : Int)) := cell_of_block hq rfl
              clear hq
              have hqp : q ≠ p := zoo_ne2 (l1 := [_, _]) (unhide HZ8)
              obtain ⟨⟨y0, hy0⟩, ⟨y1, hy1⟩, g0, g1, HZ9⟩ := zoo_setwL (l1 := [_, _, _]) (unhide HZ8) hj false ⟨#[]⟩
              have j0 : (0 : Int) ≤ (j : Int) := by omega
              have j8 : (j : Int) < 8 := by omega
              clear x4 ql
              go_wp2_with fail
              clear x0 x4' hy0 hy1 g0 g1 HZ8
              generalize (W8.setCell ⟨p, j * 2, none⟩ (.bool false)).setCell ⟨p, j * 2 + 1, none⟩ (.string ⟨#[]⟩) = W9 at HZ9 ⊢
              have HZD := hide ((unhide HZ9).kp0 (Kp.refl [] _).drew)
              have hq := zoo_varm (p := q) (unhide HZD) (List.Mem.tail _ (List.Mem.tail _ (List.Mem.head _)))
              have x4 := cell_of_block (i := 4) (v := .int .i64 (j : Int)) hq rfl
              have x7 := cell_of_block (i := 7) (v := .string xb) hq rfl
              clear hq HZ9
              obtain ⟨⟨y0, hy0⟩, ⟨y1, hy1⟩, g0, g1, -⟩ := zoo_setwL (l1 := [_, _, _]) (unhide HZD) hj true xb
              refine wp_region_held_drew (S := fun w' => w'.cell? ⟨q, 4, none⟩ = some (.int .i64 (j : Int)) ∧ w'.cell? ⟨q, 7, none⟩ = some (.string xb)) (by kernel_rfl) ⟨x4, x7⟩ (fun hHeld => ?_)
              generalize World.drew _ = WD9 at *
              refine wpAnyH_tk (i := 0) (v := ?_) rfl (by kernel_rfl) (by kernel_rfl) (by kernel_rfl) (fun _ _ _ h => h) (Or.inl ⟨by rfl, ?_⟩) hHeld ?_
              rotate_left
              · intro w hSw
                try dsimp only at hSw
                go_simp
                try with_reducible rfl
              try simp only [Act.put, List.setIfInBounds_toArray, List.set_cons_zero, List.set_cons_succ]
              refine wpAnyH_tk (i := 1) (v := ?_) rfl (by kernel_rfl) (by kernel_rfl) (by kernel_rfl) (fun _ _ _ h => h) (Or.inl ⟨by rfl, ?_⟩) hHeld ?_
              rotate_left
              · intro w hSw
                try dsimp only at hSw
                go_simp
                try with_reducible rfl
              try simp only [Act.put, List.setIfInBounds_toArray, List.set_cons_zero, List.set_cons_succ]
              refine wpAnyH_tk (i := 2) (v := ?_) rfl (by kernel_rfl) (by kernel_rfl) (by kernel_rfl) (fun _ _ _ h => h) (Or.inl ⟨by rfl, ?_⟩) hHeld ?_
              rotate_left
              · intro w hSw
                try dsimp only at hSw
                go_simp
                try with_reducible rfl
              try simp only [Act.put, List.setIfInBounds_toArray, List.set_cons_zero, List.set_cons_succ]
              refine wpAnyH_tk (i := 3) (v := ?_) rfl (by kernel_rfl) (by kernel_rfl) (by kernel_rfl) (fun _ _ _ h => h) (Or.inl ⟨by rfl, ?_⟩) hHeld ?_
              rotate_left
              · intro w hSw
                try dsimp only at hSw
                go_simp
                try with_reducible rfl
              try simp only [Act.put, List.setIfInBounds_toArray, List.set_cons_zero, List.set_cons_succ]
              refine wpAnyH_only (i := 4) rfl (by kernel_rfl) (fun K hK => ?_)
              go_simp
              refine (has24 xb _).mono ?_
              rintro e w9 ⟨rfl, hk9⟩
              have HZ10 := hide ((unhide HZD).kp0 hk9)
              have x4b := hk9.cell (by simp) x4
              have x7b := hk9.cell (by simp) x7
              clear hy0 hy1 g0 g1 y0 y1
              obtain ⟨⟨y0, hy0⟩, ⟨y1, hy1⟩, g0, g1, HZ11⟩ := zoo_setwL (l1 := [_, _, _]) (unhide HZ10) hj true xb
              clear hk9 HZD x4 x7
              go_wp2_with fail
              refine hK.out _ _ (⟨x4b, x7b⟩) (fun hHeld2 => ?_)
              clear hK K hHeld
              have hHeld := hHeld2
              clear hHeld2
              try simp only [Act.put, List.setIfInBounds_toArray, List.set_cons_zero, List.set_cons_succ]
              refine wpAnyH_tk (i := 5) (v := ?_) rfl (by kernel_rfl) (by kernel_rfl) (by kernel_rfl) (fun _ _ _ h => h) (Or.inl ⟨by rfl, ?_⟩) hHeld ?_
              rotate_left
              · intro w hSw
                try dsimp only at hSw
                go_simp
                try with_reducible rfl
              try simp only [Act.put, List.setIfInBounds_toArray, List.set_cons_zero, List.set_cons_succ]
              refine wpAnyH_only (i := 6) rfl (by kernel_rfl) (fun K hK => ?_)
              go_simp
              have hq2 := zoo_varm (p := q) (unhide HZ11) (List.Mem.tail _ (List.Mem.tail _ (List.Mem.head _)))
              have x4c := cell_of_block (i := 4) (v := .int .i64 (j : Int)) hq2 rfl
              have x7c := cell_of_block (i := 7) (v := .string xb) hq2 rfl
              clear hq2
              refine hK.out _ _ (⟨x4c, x7c⟩) (fun hHeld2 => ?_)
              clear hK K hHeld
              have hHeld := hHeld2
              clear hHeld2
              try simp only [Act.put, List.setIfInBounds_toArray, List.set_cons_zero, List.set_cons_succ]
              clear x4c x7c
              refine wpAnyH_done (by kernel_rfl) ?_ _
              clear hHeld x4b x7b hy0 hy1 g0 g1 HZ10
              generalize (w9.setCell ⟨p, j * 2, none⟩ (.bool true)).setCell ⟨p, j * 2 + 1, none⟩ (.string xb) = W9 at HZ11 ⊢
              rw [upd_upd] at HZ11
              have HZ9 := HZ11
              clear HZ11
              obtain ⟨u, hu⟩ : ∃ u, upd v j ⟨0, true, xb⟩ = u := ⟨_, rfl⟩
              rw [hu] at HZ9
              have HU := hide (show wagg (shw h3.f h3.n h3.n 8) = wagg u by rw [unhide HSH, wagg_upd (unhide HW) hj _, hu])
              clear hu
              obtain ⟨vb, tb, gb, sd, hsd, -, hl⟩ := hal_open (unhide HZ9)
              have HSD := hide hsd
              have HLD := hide (hl.kp0 (Kp.refl [] _).drew)
              clear hl hsd HZ9
              have c0 := (unhide HLD).c0
              have v0 := (unhide HLD).v0
              go_wp2_with fail
              refine wp_region_held_drew (S := fun w' => w'.cell? ⟨hb, 0, none⟩ = some (.pointer (some ⟨vb, 0, none⟩)) ∧ w'.cell? ⟨vb, 0, none⟩ = some (.pointer (some ⟨tb, 0, none⟩))) (by kernel_rfl) ⟨c0, v0⟩ (fun hHeld => ?_)
              clear c0 v0
              generalize World.drew _ = WD at HLD hHeld ⊢
              refine wpAnyH_tk (i := 0) (v := ?_) rfl (by kernel_rfl) (by kernel_rfl) (by kernel_rfl) (fun _ _ _ h => h) (Or.inl ⟨by rfl, ?_⟩) hHeld ?_
              rotate_left
              · intro w hSw
                try dsimp only at hSw
                go_simp
                try with_reducible rfl
              try simp only [Act.put, List.setIfInBounds_toArray, List.set_cons_zero, List.set_cons_succ]
              refine wpAnyH_tk (i := 1) (v := ?_) rfl (by kernel_rfl) (by kernel_rfl) (by kernel_rfl) (fun _ _ _ h => h) (Or.inl ⟨by rfl, ?_⟩) hHeld ?_
              rotate_left
              · intro w hSw
                try dsimp only at hSw
                go_simp
                try with_reducible rfl
              try simp only [Act.put, List.setIfInBounds_toArray, List.set_cons_zero, List.set_cons_succ]
              refine wpAnyH_tk (i := 2) (v := ?_) rfl (by kernel_rfl) (by kernel_rfl) (by kernel_rfl) (fun _ _ _ h => h) (Or.inl ⟨by rfl, ?_⟩) hHeld ?_
              rotate_left
              · intro w hSw
                try dsimp only at hSw
                go_simp
                try with_reducible rfl
              try simp only [Act.put, List.setIfInBounds_toArray, List.set_cons_zero, List.set_cons_succ]
              refine wpAnyH_tk (i := 3) (v := ?_) rfl (by kernel_rfl) (by kernel_rfl) (by kernel_rfl) (fun _ _ _ h => h) (Or.inl ⟨by rfl, ?_⟩) hHeld ?_
              rotate_left
              · intro w hSw
                try dsimp only at hSw
                go_simp
                try with_reducible rfl
              try simp only [Act.put, List.setIfInBounds_toArray, List.set_cons_zero, List.set_cons_succ]
              refine wpAnyH_tk (i := 4) (v := ?_) rfl (by kernel_rfl) (by kernel_rfl) (by kernel_rfl) (fun _ _ _ h => h) (Or.inl ⟨by rfl, ?_⟩) hHeld ?_
              rotate_left
              · intro w hSw
                try dsimp only at hSw
                go_simp
                try with_reducible rfl
              try simp only [Act.put, List.setIfInBounds_toArray, List.set_cons_zero, List.set_cons_succ]
              refine wpAnyH_tk (i := 5) (v := ?_) rfl (by kernel_rfl) (by kernel_rfl) (by kernel_rfl) (fun _ _ _ h => h) (Or.inl ⟨by rfl, ?_⟩) hHeld ?_
              rotate_left
              · intro w hSw
                try dsimp only at hSw
                go_simp
                try with_reducible rfl
              try simp only [Act.put, List.setIfInBounds_toArray, List.set_cons_zero, List.set_cons_succ]
              refine wpAnyH_tk (i := 6) (v := ?_) rfl (by kernel_rfl) (by kernel_rfl) (by kernel_rfl) (fun _ _ _ h => h) (Or.inl ⟨by rfl, ?_⟩) hHeld ?_
              rotate_left
              · intro w hSw
                try dsimp only at hSw
                go_simp
                try with_reducible rfl
              try simp only [Act.put, List.setIfInBounds_toArray, List.set_cons_zero, List.set_cons_succ]
              refine wpAnyH_tk (i := 7) (v := ?_) rfl (by kernel_rfl) (by kernel_rfl) (by kernel_rfl) (fun _ _ _ h => h) (Or.inl ⟨by rfl, ?_⟩) hHeld ?_
              rotate_left
              · intro w hSw
                try dsimp only at hSw
                go_simp
                try with_reducible rfl
              try simp only [Act.put, List.setIfInBounds_toArray, List.set_cons_zero, List.set_cons_succ]
              refine wpAnyH_tk (i := 8) (v := ?_) rfl (by kernel_rfl) (by kernel_rfl) (by kernel_rfl) (fun _ _ _ h => h) (Or.inl ⟨by rfl, ?_⟩) hHeld ?_
              rotate_left
              · intro w hSw
                try dsimp only at hSw
                go_simp
                try with_reducible rfl
              try simp only [Act.put, List.setIfInBounds_toArray, List.set_cons_zero, List.set_cons_succ]
              refine wpAnyH_tk (i := 9) (v := ?_) rfl (by kernel_rfl) (by kernel_rfl) (by kernel_rfl) (fun _ _ _ h => h) (Or.inl ⟨by rfl, ?_⟩) hHeld ?_
              rotate_left
              · intro w hSw
                try dsimp only at hSw
                go_simp
                try with_reducible rfl
              try simp only [Act.put, List.setIfInBounds_toArray, List.set_cons_zero, List.set_cons_succ]
              refine wpAnyH_tk (i := 10) (v := ?_) rfl (by kernel_rfl) (by kernel_rfl) (by kernel_rfl) (fun _ _ _ h => h) (Or.inl ⟨by rfl, ?_⟩) hHeld ?_
              rotate_left
              · intro w hSw
                try dsimp only at hSw
                go_simp
                try with_reducible rfl
              try simp only [Act.put, List.setIfInBounds_toArray, List.set_cons_zero, List.set_cons_succ]
              refine wpAnyH_tk (i := 11) (v := ?_) rfl (by kernel_rfl) (by kernel_rfl) (by kernel_rfl) (fun _ _ _ h => h) (Or.inl ⟨by rfl, ?_⟩) hHeld ?_
              rotate_left
              · intro w hSw
                try dsimp only at hSw
                go_simp
                try with_reducible rfl
              try simp only [Act.put, List.setIfInBounds_toArray, List.set_cons_zero, List.set_cons_succ]
              refine wpAnyH_tk (i := 12) (v := ?_) rfl (by kernel_rfl) (by kernel_rfl) (by kernel_rfl) (fun _ _ _ h => h) (Or.inl ⟨by rfl, ?_⟩) hHeld ?_
              rotate_left
              · intro w hSw
                try dsimp only at hSw
                go_simp
                try with_reducible rfl
              try simp only [Act.put, List.setIfInBounds_toArray, List.set_cons_zero, List.set_cons_succ]
              refine wpAnyH_tk (i := 13) (v := ?_) rfl (by kernel_rfl) (by kernel_rfl) (by kernel_rfl) (fun _ _ _ h => h) (Or.inl ⟨by rfl, ?_⟩) hHeld ?_
              rotate_left
              · intro w hSw
                try dsimp only at hSw
                go_simp
                try with_reducible rfl
              try simp only [Act.put, List.setIfInBounds_toArray, List.set_cons_zero, List.set_cons_succ]
              refine wpAnyH_two (i := 14) (j := 19) rfl rfl (by kernel_rfl) (fun K hK => ?_) (fun K hK => ?_)
              · go_simp
                refine (h_last (unhide HLD)).mono ?_
                rintro e w' ⟨rfl, hw'⟩
                subst w'
                go_wp2_with fail
                refine hK.out _ _ (hHeld) (fun hHeld2 => ?_)
                clear hK K hHeld
                have hHeld := hHeld2
                clear hHeld2
                try simp only [Act.put, List.setIfInBounds_toArray, List.set_cons_zero, List.set_cons_succ]
                refine wpAnyH_two (i := 15) (j := 19) rfl rfl (by kernel_rfl) (fun K hK => ?_) (fun K hK => ?_)
                · go_simp
                  refine (h_sheet (shk_last' (unhide HI3)) u (unhide HU) (unhide HLD)).mono ?_
                  rintro e w11 ⟨rfl, HL11⟩
                  go_wp2_with fail
                  refine hK.out _ _ (⟨(unhide HL11).c0, (unhide HL11).v0⟩) (fun hHeld2 => ?_)
                  clear hK K hHeld
                  have hHeld := hHeld2
                  clear hHeld2
                  try simp only [Act.put, List.setIfInBounds_toArray, List.set_cons_zero, List.set_cons_succ]
                  refine wpAnyH_tk (i := 16) (v := ?_) rfl (by kernel_rfl) (by kernel_rfl) (by kernel_rfl) (fun _ _ _ h => h) (Or.inl ⟨by rfl, ?_⟩) hHeld ?_
                  rotate_left
                  · intro w hSw
                    try dsimp only at hSw
                    go_simp
                    try with_reducible rfl
                  try simp only [Act.put, List.setIfInBounds_toArray, List.set_cons_zero, List.set_cons_succ]
                  refine wpAnyH_tk (i := 17) (v := ?_) rfl (by kernel_rfl) (by kernel_rfl) (by kernel_rfl) (fun _ _ _ h => h) (Or.inl ⟨by rfl, ?_⟩) hHeld ?_
                  rotate_left
                  · intro w hSw
                    try dsimp only at hSw
                    go_simp
                    try with_reducible rfl
                  try simp only [Act.put, List.setIfInBounds_toArray, List.set_cons_zero, List.set_cons_succ]
                  refine wpAnyH_tk (i := 18) (v := ?_) rfl (by kernel_rfl) (by kernel_rfl) (by kernel_rfl) (fun _ _ _ h => h) (Or.inl ⟨by rfl, ?_⟩) hHeld ?_
                  rotate_left
                  · intro w hSw
                    try dsimp only at hSw
                    go_simp
                    try with_reducible rfl
                  try simp only [Act.put, List.setIfInBounds_toArray, List.set_cons_zero, List.set_cons_succ]
                  refine wpAnyH_only (i := 19) rfl (by kernel_rfl) (fun K hK => ?_)
                  go_simp
                  have HLA := hide ((unhide HL11).new (wagg (fun _ => dv)) 72)
                  have SS := And.intro (unhide HLA).c0 (unhide HLA).v0
                  rw [zeros_eq] at HLA SS
                  refine hK.out _ _ (⟨SS.1, SS.2⟩) (fun hHeld2 => ?_)
                  clear hK K hHeld
                  have hHeld := hHeld2
                  clear hHeld2
                  try simp only [Act.put, List.setIfInBounds_toArray, List.set_cons_zero, List.set_cons_succ]
                  clear SS
                  generalize hp3 : w11.heap.size = p3 at HLA ⊢
                  clear hp3
                  refine wpAnyH_only (i := 20) rfl (by kernel_rfl) (fun K hK => ?_)
                  rw [if_pos (by rfl)]
                  refine wp_store_row 72 _ _ rfl p3 (wagg u) rfl rfl 72 _ ((unhide HLA).var (List.Mem.head _)) Try.size72 rfl (wagg_one _) ?_
                  have HLE := hide (Hall.setr (c' := wagg u) (unhide HLA))
                  refine hK.out _ _ (⟨(unhide HLE).c0, (unhide HLE).v0⟩) (fun hHeld2 => ?_)
                  clear hK K hHeld
                  have hHeld := hHeld2
                  clear hHeld2
                  simp only [Act.put]
                  refine wpAnyH_tk (i := 21) (v := ?_) rfl (by kernel_rfl) (by kernel_rfl) (by kernel_rfl) (fun _ _ _ h => h) (Or.inl ⟨by rfl, ?_⟩) hHeld ?_
                  rotate_left
                  · intro w hSw
                    try dsimp only at hSw
                    go_simp
                    try with_reducible rfl
                  try simp only [Act.put, List.setIfInBounds_toArray, List.set_cons_zero, List.set_cons_succ]
                  refine wpAnyH_done (by kernel_rfl) ?_ _
                  clear hHeld
                  have A1 := hide ((unhide HLE).var (List.Mem.head _))
                  have A2 := hide ((unhide HLE).var (p := p) (List.Mem.tail _ (List.Mem.tail _ (List.Mem.tail _ (List.Mem.head _)))))
                  have heq := eq66 u
                  generalize World.setRow _ _ _ = W12 at HLE A1 A2 ⊢
                  go_wp2_with (first | (refine wpList_load66 (by rfl) _ rfl p3 rfl u (unhide A1) ?_) | (refine wpList_load66 (by rfl) _ rfl p rfl u (unhide A2) ?_))
                  exact ⟨⟨k + 1, by omega, by go_num, h3, u, hal_drop (hal_drop (hal_drop (hal_close (unhide HSD) (unhide HI3) (unhide HLE)))), unhide HI3, unhide HN3, unhide HU⟩, by simp [intOf]; omega⟩
                · go_simp
                  have HLA := hide ((unhide HLD).new (wagg (fun _ => dv)) 72)
                  have SS := And.intro (unhide HLA).c0 (unhide HLA).v0
                  rw [zeros_eq] at HLA SS
                  refine hK.out _ _ (⟨SS.1, SS.2⟩) (fun hHeld2 => ?_)
                  clear hK K hHeld
                  have hHeld := hHeld2
                  clear hHeld2
                  try simp only [Act.put, List.setIfInBounds_toArray, List.set_cons_zero, List.set_cons_succ]
                  clear SS
                  generalize hp3 : WD.heap.size = p3 at HLA ⊢
                  clear hp3
                  refine wpAnyH_only (i := 15) rfl (by kernel_rfl) (fun K hK => ?_)
                  go_simp
                  refine (h_sheet (shk_last' (unhide HI3)) u (unhide HU) (unhide HLA)).mono ?_
                  rintro e w11 ⟨rfl, HL11⟩
                  go_wp2_with fail
                  refine hK.out _ _ (⟨(unhide HL11).c0, (unhide HL11).v0⟩) (fun hHeld2 => ?_)
                  clear hK K hHeld
                  have hHeld := hHeld2
                  clear hHeld2
                  try simp only [Act.put, List.setIfInBounds_toArray, List.set_cons_zero, List.set_cons_succ]
                  refine wpAnyH_tk (i := 16) (v := ?_) rfl (by kernel_rfl) (by kernel_rfl) (by kernel_rfl) (fun _ _ _ h => h) (Or.inl ⟨by rfl, ?_⟩) hHeld ?_
                  rotate_left
                  · intro w hSw
                    try dsimp only at hSw
                    go_simp
                    try with_reducible rfl
                  try simp only [Act.put, List.setIfInBounds_toArray, List.set_cons_zero, List.set_cons_succ]
                  refine wpAnyH_tk (i := 17) (v := ?_) rfl (by kernel_rfl) (by kernel_rfl) (by kernel_rfl) (fun _ _ _ h => h) (Or.inl ⟨by rfl, ?_⟩) hHeld ?_
                  rotate_left
                  · intro w hSw
                    try dsimp only at hSw
                    go_simp
                    try with_reducible rfl
                  try simp only [Act.put, List.setIfInBounds_toArray, List.set_cons_zero, List.set_cons_succ]
                  refine wpAnyH_tk (i := 18) (v := ?_) rfl (by kernel_rfl) (by kernel_rfl) (by kernel_rfl) (fun _ _ _ h => h) (Or.inl ⟨by rfl, ?_⟩) hHeld ?_
                  rotate_left
                  · intro w hSw
                    try dsimp only at hSw
                    go_simp
                    try with_reducible rfl
                  try simp only [Act.put, List.setIfInBounds_toArray, List.set_cons_zero, List.set_cons_succ]
                  refine wpAnyH_only (i := 20) rfl (by kernel_rfl) (fun K hK => ?_)
                  rw [if_pos (by rfl)]
                  refine wp_store_row 72 _ _ rfl p3 (wagg u) rfl rfl 72 _ ((unhide HL11).var (List.Mem.head _)) Try.size72 rfl (wagg_one _) ?_
                  have HLE := hide (Hall.setr (c' := wagg u) (unhide HL11))
                  refine hK.out _ _ (⟨(unhide HLE).c0, (unhide HLE).v0⟩) (fun hHeld2 => ?_)
                  clear hK K hHeld
                  have hHeld := hHeld2
                  clear hHeld2
                  simp only [Act.put]
                  refine wpAnyH_tk (i := 21) (v := ?_) rfl (by kernel_rfl) (by kernel_rfl) (by kernel_rfl) (fun _ _ _ h => h) (Or.inl ⟨by rfl, ?_⟩) hHeld ?_
                  rotate_left
                  · intro w hSw
                    try dsimp only at hSw
                    go_simp
                    try with_reducible rfl
                  try simp only [Act.put, List.setIfInBounds_toArray, List.set_cons_zero, List.set_cons_succ]
                  refine wpAnyH_done (by kernel_rfl) ?_ _
                  clear hHeld
                  have A1 := hide ((unhide HLE).var (List.Mem.head _))
                  have A2 := hide ((unhide HLE).var (p := p) (List.Mem.tail _ (List.Mem.tail _ (List.Mem.tail _ (List.Mem.head _)))))
                  have heq := eq66 u
                  generalize World.setRow _ _ _ = W12 at HLE A1 A2 ⊢
                  go_wp2_with (first | (refine wpList_load66 (by rfl) _ rfl p3 rfl u (unhide A1) ?_) | (refine wpList_load66 (by rfl) _ rfl p rfl u (unhide A2) ?_))
                  exact ⟨⟨k + 1, by omega, by go_num, h3, u, hal_drop (hal_drop (hal_drop (hal_close (unhide HSD) (unhide HI3) (unhide HLE)))), unhide HI3, unhide HN3, unhide HU⟩, by simp [intOf]; omega⟩
              · go_simp
                have HLA := hide ((unhide HLD).new (wagg (fun _ => dv)) 72)
                have SS := And.intro (unhide HLA).c0 (unhide HLA).v0
                rw [zeros_eq] at HLA SS
                refine hK.out _ _ (⟨SS.1, SS.2⟩) (fun hHeld2 => ?_)
                clear hK K hHeld
                have hHeld := hHeld2
                clear hHeld2
                try simp only [Act.put, List.setIfInBounds_toArray, List.set_cons_zero, List.set_cons_succ]
                clear SS
                generalize hp3 : WD.heap.size = p3 at HLA ⊢
                clear hp3
                refine wpAnyH_only (i := 14) rfl (by kernel_rfl) (fun K hK => ?_)
                go_simp
                refine (h_last (unhide HLA)).mono ?_
                rintro e w' ⟨rfl, hw'⟩
                subst w'
                go_wp2_with fail
                refine hK.out _ _ (hHeld) (fun hHeld2 => ?_)
                clear hK K hHeld
                have hHeld := hHeld2
                clear hHeld2
                try simp only [Act.put, List.setIfInBounds_toArray, List.set_cons_zero, List.set_cons_succ]
                refine wpAnyH_only (i := 15) rfl (by kernel_rfl) (fun K hK => ?_)
                go_simp
                refine (h_sheet (shk_last' (unhide HI3)) u (unhide HU) (unhide HLA)).mono ?_
                rintro e w11 ⟨rfl, HL11⟩
                go_wp2_with fail
                refine hK.out _ _ (⟨(unhide HL11).c0, (unhide HL11).v0⟩) (fun hHeld2 => ?_)
                clear hK K hHeld
                have hHeld := hHeld2
                clear hHeld2
                try simp only [Act.put, List.setIfInBounds_toArray, List.set_cons_zero, List.set_cons_succ]
                refine wpAnyH_tk (i := 16) (v := ?_) rfl (by kernel_rfl) (by kernel_rfl) (by kernel_rfl) (fun _ _ _ h => h) (Or.inl ⟨by rfl, ?_⟩) hHeld ?_
                rotate_left
                · intro w hSw
                  try dsimp only at hSw
                  go_simp
                  try with_reducible rfl
                try simp only [Act.put, List.setIfInBounds_toArray, List.set_cons_zero, List.set_cons_succ]
                refine wpAnyH_tk (i := 17) (v := ?_) rfl (by kernel_rfl) (by kernel_rfl) (by kernel_rfl) (fun _ _ _ h => h) (Or.inl ⟨by rfl, ?_⟩) hHeld ?_
                rotate_left
                · intro w hSw
                  try dsimp only at hSw
                  go_simp
                  try with_reducible rfl
                try simp only [Act.put, List.setIfInBounds_toArray, List.set_cons_zero, List.set_cons_succ]
                refine wpAnyH_tk (i := 18) (v := ?_) rfl (by kernel_rfl) (by kernel_rfl) (by kernel_rfl) (fun _ _ _ h => h) (Or.inl ⟨by rfl, ?_⟩) hHeld ?_
                rotate_left
                · intro w hSw
                  try dsimp only at hSw
                  go_simp
                  try with_reducible rfl
                try simp only [Act.put, List.setIfInBounds_toArray, List.set_cons_zero, List.set_cons_succ]
                refine wpAnyH_only (i := 20) rfl (by kernel_rfl) (fun K hK => ?_)
                rw [if_pos (by rfl)]
                refine wp_store_row 72 _ _ rfl p3 (wagg u) rfl rfl 72 _ ((unhide HL11).var (List.Mem.head _)) Try.size72 rfl (wagg_one _) ?_
                have HLE := hide (Hall.setr (c' := wagg u) (unhide HL11))
                refine hK.out _ _ (⟨(unhide HLE).c0, (unhide HLE).v0⟩) (fun hHeld2 => ?_)
                clear hK K hHeld
                have hHeld := hHeld2
                clear hHeld2
                simp only [Act.put]
                refine wpAnyH_tk (i := 21) (v := ?_) rfl (by kernel_rfl) (by kernel_rfl) (by kernel_rfl) (fun _ _ _ h => h) (Or.inl ⟨by rfl, ?_⟩) hHeld ?_
                rotate_left
                · intro w hSw
                  try dsimp only at hSw
                  go_simp
                  try with_reducible rfl
                try simp only [Act.put, List.setIfInBounds_toArray, List.set_cons_zero, List.set_cons_succ]
                refine wpAnyH_done (by kernel_rfl) ?_ _
                clear hHeld
                have A1 := hide ((unhide HLE).var (List.Mem.head _))
                have A2 := hide ((unhide HLE).var (p := p) (List.Mem.tail _ (List.Mem.tail _ (List.Mem.tail _ (List.Mem.head _)))))
                have heq := eq66 u
                generalize World.setRow _ _ _ = W12 at HLE A1 A2 ⊢
                go_wp2_with (first | (refine wpList_load66 (by rfl) _ rfl p3 rfl u (unhide A1) ?_) | (refine wpList_load66 (by rfl) _ rfl p rfl u (unhide A2) ?_))
                exact ⟨⟨k + 1, by omega, by go_num, h3, u, hal_drop (hal_drop (hal_drop (hal_close (unhide HSD) (unhide HI3) (unhide HLE)))), unhide HI3, unhide HN3, unhide HU⟩, by simp [intOf]; omega⟩
          · have hcb : (c == 0) = false := beq_eq_false_iff_ne.2 hc0
            go_wp2_with fail
            refine (hal_do xc (Nat.zero_le _) (unhide HY6')).mono ?_
            rintro e w7 ⟨a7, cap7, rfl, HY7⟩
            rw [unhide HC5]
            rw [unhide HC5] at HY7
            dsimp only [List.length_nil]
            try dsimp only at HY7
            clear HY6' HC5
            generalize hdo (sit (sit h 0 (some ⟨md, h.n, [], []⟩)) 0 (some ⟨md, h.n, [], dpw md [] xk true xb⟩)) xc = h3 at *
            generalize (hev (sit (sit h 0 (some ⟨md, h.n, [], []⟩)) 0 (some ⟨md, h.n, [], dpw md [] xk true xb⟩)) xc).c = code at *
            generalize (hev (sit (sit h 0 (some ⟨md, h.n, [], []⟩)) 0 (some ⟨md, h.n, [], dpw md [] xk true xb⟩)) xc).n = num at *
            obtain ⟨hn3, hA⟩ := unhide HAR
            have HN3 := hide hn3
            clear hn3 HAR
            rcases hA with ⟨-, rfl, rfl, hsh⟩ | ⟨hx, -⟩ | ⟨hx, -⟩
            rotate_left
            · exact absurd hx hc0
            · exact absurd hx hc0
            have HSH := hide hsh
            clear hsh
            have HZ8 := hide (hal_var (unhide HY7) #[.int .i64 0, .int .i64 0, .bool false, .string ⟨#[]⟩, .slice a7 0 cap7] 34)
            clear HY7
            go_wp2_with fail
            generalize w7.alloc (.cells #[.int .i64 0, .int .i64 0, .bool false, .string ⟨#[]⟩, .slice a7 0 cap7] 34) = W8 at HZ8 ⊢
            generalize w7.heap.size = pe at HZ8 ⊢
            obtain ⟨u, hu⟩ : ∃ u, v = u := ⟨_, rfl⟩
            rw [hu] at HZ8
            have HU := hide (show wagg (shw h3.f h3.n h3.n 8) = wagg u by rw [unhide HSH, unhide HW, hu])
            clear hu
            obtain ⟨vb, tb, gb, sd, hsd, -, hl⟩ := hal_open (unhide HZ8)
            have HSD := hide hsd
            have HLD := hide (hl.kp0 (Kp.refl [] _).drew)
            clear hl hsd HZ8
            have c0 := (unhide HLD).c0
            have v0 := (unhide HLD).v0
            refine wp_region_held_drew (S := fun w' => w'.cell? ⟨hb, 0, none⟩ = some (.pointer (some ⟨vb, 0, none⟩)) ∧ w'.cell? ⟨vb, 0, none⟩ = some (.pointer (some ⟨tb, 0, none⟩))) (by kernel_rfl) ⟨c0, v0⟩ (fun hHeld => ?_)
            clear c0 v0
            generalize World.drew _ = WD at HLD hHeld ⊢
            refine wpAnyH_tk (i := 0) (v := ?_) rfl (by kernel_rfl) (by kernel_rfl) (by kernel_rfl) (fun _ _ _ h => h) (Or.inl ⟨by rfl, ?_⟩) hHeld ?_
            rotate_left
            · intro w hSw
              try dsimp only at hSw
              go_simp
              try with_reducible rfl
            try simp only [Act.put, List.setIfInBounds_toArray, List.set_cons_zero, List.set_cons_succ]
            refine wpAnyH_tk (i := 1) (v := ?_) rfl (by kernel_rfl) (by kernel_rfl) (by kernel_rfl) (fun _ _ _ h => h) (Or.inl ⟨by rfl, ?_⟩) hHeld ?_
            rotate_left
            · intro w hSw
              try dsimp only at hSw
              go_simp
              try with_reducible rfl
            try simp only [Act.put, List.setIfInBounds_toArray, List.set_cons_zero, List.set_cons_succ]
            refine wpAnyH_tk (i := 2) (v := ?_) rfl (by kernel_rfl) (by kernel_rfl) (by kernel_rfl) (fun _ _ _ h => h) (Or.inl ⟨by rfl, ?_⟩) hHeld ?_
            rotate_left
            · intro w hSw
              try dsimp only at hSw
              go_simp
              try with_reducible rfl
            try simp only [Act.put, List.setIfInBounds_toArray, List.set_cons_zero, List.set_cons_succ]
            refine wpAnyH_tk (i := 3) (v := ?_) rfl (by kernel_rfl) (by kernel_rfl) (by kernel_rfl) (fun _ _ _ h => h) (Or.inl ⟨by rfl, ?_⟩) hHeld ?_
            rotate_left
            · intro w hSw
              try dsimp only at hSw
              go_simp
              try with_reducible rfl
            try simp only [Act.put, List.setIfInBounds_toArray, List.set_cons_zero, List.set_cons_succ]
            refine wpAnyH_tk (i := 4) (v := ?_) rfl (by kernel_rfl) (by kernel_rfl) (by kernel_rfl) (fun _ _ _ h => h) (Or.inl ⟨by rfl, ?_⟩) hHeld ?_
            rotate_left
            · intro w hSw
              try dsimp only at hSw
              go_simp
              try with_reducible rfl
            try simp only [Act.put, List.setIfInBounds_toArray, List.set_cons_zero, List.set_cons_succ]
            refine wpAnyH_tk (i := 5) (v := ?_) rfl (by kernel_rfl) (by kernel_rfl) (by kernel_rfl) (fun _ _ _ h => h) (Or.inl ⟨by rfl, ?_⟩) hHeld ?_
            rotate_left
            · intro w hSw
              try dsimp only at hSw
              go_simp
              try with_reducible rfl
            try simp only [Act.put, List.setIfInBounds_toArray, List.set_cons_zero, List.set_cons_succ]
            refine wpAnyH_tk (i := 6) (v := ?_) rfl (by kernel_rfl) (by kernel_rfl) (by kernel_rfl) (fun _ _ _ h => h) (Or.inl ⟨by rfl, ?_⟩) hHeld ?_
            rotate_left
            · intro w hSw
              try dsimp only at hSw
              go_simp
              try with_reducible rfl
            try simp only [Act.put, List.setIfInBounds_toArray, List.set_cons_zero, List.set_cons_succ]
            refine wpAnyH_tk (i := 7) (v := ?_) rfl (by kernel_rfl) (by kernel_rfl) (by kernel_rfl) (fun _ _ _ h => h) (Or.inl ⟨by rfl, ?_⟩) hHeld ?_
            rotate_left
            · intro w hSw
              try dsimp only at hSw
              go_simp
              try with_reducible rfl
            try simp only [Act.put, List.setIfInBounds_toArray, List.set_cons_zero, List.set_cons_succ]
            refine wpAnyH_tk (i := 8) (v := ?_) rfl (by kernel_rfl) (by kernel_rfl) (by kernel_rfl) (fun _ _ _ h => h) (Or.inl ⟨by rfl, ?_⟩) hHeld ?_
            rotate_left
            · intro w hSw
              try dsimp only at hSw
              go_simp
              try with_reducible rfl
            try simp only [Act.put, List.setIfInBounds_toArray, List.set_cons_zero, List.set_cons_succ]
            refine wpAnyH_tk (i := 9) (v := ?_) rfl (by kernel_rfl) (by kernel_rfl) (by kernel_rfl) (fun _ _ _ h => h) (Or.inl ⟨by rfl, ?_⟩) hHeld ?_
            rotate_left
            · intro w hSw
              try dsimp only at hSw
              go_simp
              try with_reducible rfl
            try simp only [Act.put, List.setIfInBounds_toArray, List.set_cons_zero, List.set_cons_succ]
            refine wpAnyH_tk (i := 10) (v := ?_) rfl (by kernel_rfl) (by kernel_rfl) (by kernel_rfl) (fun _ _ _ h => h) (Or.inl ⟨by rfl, ?_⟩) hHeld ?_
            rotate_left
            · intro w hSw
              try dsimp only at hSw
              go_simp
              try with_reducible rfl
            try simp only [Act.put, List.setIfInBounds_toArray, List.set_cons_zero, List.set_cons_succ]
            refine wpAnyH_tk (i := 11) (v := ?_) rfl (by kernel_rfl) (by kernel_rfl) (by kernel_rfl) (fun _ _ _ h => h) (Or.inl ⟨by rfl, ?_⟩) hHeld ?_
            rotate_left
            · intro w hSw
              try dsimp only at hSw
              go_simp
              try with_reducible rfl
            try simp only [Act.put, List.setIfInBounds_toArray, List.set_cons_zero, List.set_cons_succ]
            refine wpAnyH_tk (i := 12) (v := ?_) rfl (by kernel_rfl) (by kernel_rfl) (by kernel_rfl) (fun _ _ _ h => h) (Or.inl ⟨by rfl, ?_⟩) hHeld ?_
            rotate_left
            · intro w hSw
              try dsimp only at hSw
              go_simp
              try with_reducible rfl
            try simp only [Act.put, List.setIfInBounds_toArray, List.set_cons_zero, List.set_cons_succ]
            refine wpAnyH_tk (i := 13) (v := ?_) rfl (by kernel_rfl) (by kernel_rfl) (by kernel_rfl) (fun _ _ _ h => h) (Or.inl ⟨by rfl, ?_⟩) hHeld ?_
            rotate_left
            · intro w hSw
              try dsimp only at hSw
              go_simp
              try with_reducible rfl
            try simp only [Act.put, List.setIfInBounds_toArray, List.set_cons_zero, List.set_cons_succ]
            refine wpAnyH_two (i := 14) (j := 19) rfl rfl (by kernel_rfl) (fun K hK => ?_) (fun K hK => ?_)
            · go_simp
              refine (h_last (unhide HLD)).mono ?_
              rintro e w' ⟨rfl, hw'⟩
              subst w'
              go_wp2_with fail
              refine hK.out _ _ (hHeld) (fun hHeld2 => ?_)
              clear hK K hHeld
              have hHeld := hHeld2
              clear hHeld2
              try simp only [Act.put, List.setIfInBounds_toArray, List.set_cons_zero, List.set_cons_succ]
              refine wpAnyH_two (i := 15) (j := 19) rfl rfl (by kernel_rfl) (fun K hK => ?_) (fun K hK => ?_)
              · go_simp
                refine (h_sheet (shk_last' (unhide HI3)) u (unhide HU) (unhide HLD)).mono ?_
                rintro e w11 ⟨rfl, HL11⟩
                go_wp2_with fail
                refine hK.out _ _ (⟨(unhide HL11).c0, (unhide HL11).v0⟩) (fun hHeld2 => ?_)
                clear hK K hHeld
                have hHeld := hHeld2
                clear hHeld2
                try simp only [Act.put, List.setIfInBounds_toArray, List.set_cons_zero, List.set_cons_succ]
                refine wpAnyH_tk (i := 16) (v := ?_) rfl (by kernel_rfl) (by kernel_rfl) (by kernel_rfl) (fun _ _ _ h => h) (Or.inl ⟨by rfl, ?_⟩) hHeld ?_
                rotate_left
                · intro w hSw
                  try dsimp only at hSw
                  go_simp
                  try with_reducible rfl
                try simp only [Act.put, List.setIfInBounds_toArray, List.set_cons_zero, List.set_cons_succ]
                refine wpAnyH_tk (i := 17) (v := ?_) rfl (by kernel_rfl) (by kernel_rfl) (by kernel_rfl) (fun _ _ _ h => h) (Or.inl ⟨by rfl, ?_⟩) hHeld ?_
                rotate_left
                · intro w hSw
                  try dsimp only at hSw
                  go_simp
                  try with_reducible rfl
                try simp only [Act.put, List.setIfInBounds_toArray, List.set_cons_zero, List.set_cons_succ]
                refine wpAnyH_tk (i := 18) (v := ?_) rfl (by kernel_rfl) (by kernel_rfl) (by kernel_rfl) (fun _ _ _ h => h) (Or.inl ⟨by rfl, ?_⟩) hHeld ?_
                rotate_left
                · intro w hSw
                  try dsimp only at hSw
                  go_simp
                  try with_reducible rfl
                try simp only [Act.put, List.setIfInBounds_toArray, List.set_cons_zero, List.set_cons_succ]
                refine wpAnyH_only (i := 19) rfl (by kernel_rfl) (fun K hK => ?_)
                go_simp
                have HLA := hide ((unhide HL11).new (wagg (fun _ => dv)) 72)
                have SS := And.intro (unhide HLA).c0 (unhide HLA).v0
                rw [zeros_eq] at HLA SS
                refine hK.out _ _ (⟨SS.1, SS.2⟩) (fun hHeld2 => ?_)
                clear hK K hHeld
                have hHeld := hHeld2
                clear hHeld2
                try simp only [Act.put, List.setIfInBounds_toArray, List.set_cons_zero, List.set_cons_succ]
                clear SS
                generalize hp3 : w11.heap.size = p3 at HLA ⊢
                clear hp3
                refine wpAnyH_only (i := 20) rfl (by kernel_rfl) (fun K hK => ?_)
                rw [if_pos (by rfl)]
                refine wp_store_row 72 _ _ rfl p3 (wagg u) rfl rfl 72 _ ((unhide HLA).var (List.Mem.head _)) Try.size72 rfl (wagg_one _) ?_
                have HLE := hide (Hall.setr (c' := wagg u) (unhide HLA))
                refine hK.out _ _ (⟨(unhide HLE).c0, (unhide HLE).v0⟩) (fun hHeld2 => ?_)
                clear hK K hHeld
                have hHeld := hHeld2
                clear hHeld2
                simp only [Act.put]
                refine wpAnyH_tk (i := 21) (v := ?_) rfl (by kernel_rfl) (by kernel_rfl) (by kernel_rfl) (fun _ _ _ h => h) (Or.inl ⟨by rfl, ?_⟩) hHeld ?_
                rotate_left
                · intro w hSw
                  try dsimp only at hSw
                  go_simp
                  try with_reducible rfl
                try simp only [Act.put, List.setIfInBounds_toArray, List.set_cons_zero, List.set_cons_succ]
                refine wpAnyH_done (by kernel_rfl) ?_ _
                clear hHeld
                have A1 := hide ((unhide HLE).var (List.Mem.head _))
                have A2 := hide ((unhide HLE).var (p := p) (List.Mem.tail _ (List.Mem.tail _ (List.Mem.tail _ (List.Mem.head _)))))
                have heq := eq66 u
                generalize World.setRow _ _ _ = W12 at HLE A1 A2 ⊢
                go_wp2_with (first | (refine wpList_load66 (by rfl) _ rfl p3 rfl u (unhide A1) ?_) | (refine wpList_load66 (by rfl) _ rfl p rfl u (unhide A2) ?_))
                exact ⟨⟨k + 1, by omega, by go_num, h3, u, hal_drop (hal_drop (hal_drop (hal_close (unhide HSD) (unhide HI3) (unhide HLE)))), unhide HI3, unhide HN3, unhide HU⟩, by simp [intOf]; omega⟩
              · go_simp
                have HLA := hide ((unhide HLD).new (wagg (fun _ => dv)) 72)
                have SS := And.intro (unhide HLA).c0 (unhide HLA).v0
                rw [zeros_eq] at HLA SS
                refine hK.out _ _ (⟨SS.1, SS.2⟩) (fun hHeld2 => ?_)
                clear hK K hHeld
                have hHeld := hHeld2
                clear hHeld2
                try simp only [Act.put, List.setIfInBounds_toArray, List.set_cons_zero, List.set_cons_succ]
                clear SS
                generalize hp3 : WD.heap.size = p3 at HLA ⊢
                clear hp3
                refine wpAnyH_only (i := 15) rfl (by kernel_rfl) (fun K hK => ?_)
                go_simp
                refine (h_sheet (shk_last' (unhide HI3)) u (unhide HU) (unhide HLA)).mono ?_
                rintro e w11 ⟨rfl, HL11⟩
                go_wp2_with fail
                refine hK.out _ _ (⟨(unhide HL11).c0, (unhide HL11).v0⟩) (fun hHeld2 => ?_)
                clear hK K hHeld
                have hHeld := hHeld2
                clear hHeld2
                try simp only [Act.put, List.setIfInBounds_toArray, List.set_cons_zero, List.set_cons_succ]
                refine wpAnyH_tk (i := 16) (v := ?_) rfl (by kernel_rfl) (by kernel_rfl) (by kernel_rfl) (fun _ _ _ h => h) (Or.inl ⟨by rfl, ?_⟩) hHeld ?_
                rotate_left
                · intro w hSw
                  try dsimp only at hSw
                  go_simp
                  try with_reducible rfl
                try simp only [Act.put, List.setIfInBounds_toArray, List.set_cons_zero, List.set_cons_succ]
                refine wpAnyH_tk (i := 17) (v := ?_) rfl (by kernel_rfl) (by kernel_rfl) (by kernel_rfl) (fun _ _ _ h => h) (Or.inl ⟨by rfl, ?_⟩) hHeld ?_
                rotate_left
                · intro w hSw
                  try dsimp only at hSw
                  go_simp
                  try with_reducible rfl
                try simp only [Act.put, List.setIfInBounds_toArray, List.set_cons_zero, List.set_cons_succ]
                refine wpAnyH_tk (i := 18) (v := ?_) rfl (by kernel_rfl) (by kernel_rfl) (by kernel_rfl) (fun _ _ _ h => h) (Or.inl ⟨by rfl, ?_⟩) hHeld ?_
                rotate_left
                · intro w hSw
                  try dsimp only at hSw
                  go_simp
                  try with_reducible rfl
                try simp only [Act.put, List.setIfInBounds_toArray, List.set_cons_zero, List.set_cons_succ]
                refine wpAnyH_only (i := 20) rfl (by kernel_rfl) (fun K hK => ?_)
                rw [if_pos (by rfl)]
                refine wp_store_row 72 _ _ rfl p3 (wagg u) rfl rfl 72 _ ((unhide HL11).var (List.Mem.head _)) Try.size72 rfl (wagg_one _) ?_
                have HLE := hide (Hall.setr (c' := wagg u) (unhide HL11))
                refine hK.out _ _ (⟨(unhide HLE).c0, (unhide HLE).v0⟩) (fun hHeld2 => ?_)
                clear hK K hHeld
                have hHeld := hHeld2
                clear hHeld2
                simp only [Act.put]
                refine wpAnyH_tk (i := 21) (v := ?_) rfl (by kernel_rfl) (by kernel_rfl) (by kernel_rfl) (fun _ _ _ h => h) (Or.inl ⟨by rfl, ?_⟩) hHeld ?_
                rotate_left
                · intro w hSw
                  try dsimp only at hSw
                  go_simp
                  try with_reducible rfl
                try simp only [Act.put, List.setIfInBounds_toArray, List.set_cons_zero, List.set_cons_succ]
                refine wpAnyH_done (by kernel_rfl) ?_ _
                clear hHeld
                have A1 := hide ((unhide HLE).var (List.Mem.head _))
                have A2 := hide ((unhide HLE).var (p := p) (List.Mem.tail _ (List.Mem.tail _ (List.Mem.tail _ (List.Mem.head _)))))
                have heq := eq66 u
                generalize World.setRow _ _ _ = W12 at HLE A1 A2 ⊢
                go_wp2_with (first | (refine wpList_load66 (by rfl) _ rfl p3 rfl u (unhide A1) ?_) | (refine wpList_load66 (by rfl) _ rfl p rfl u (unhide A2) ?_))
                exact ⟨⟨k + 1, by omega, by go_num, h3, u, hal_drop (hal_drop (hal_drop (hal_close (unhide HSD) (unhide HI3) (unhide HLE)))), unhide HI3, unhide HN3, unhide HU⟩, by simp [intOf]; omega⟩
            · go_simp
              have HLA := hide ((unhide HLD).new (wagg (fun _ => dv)) 72)
              have SS := And.intro (unhide HLA).c0 (unhide HLA).v0
              rw [zeros_eq] at HLA SS
              refine hK.out _ _ (⟨SS.1, SS.2⟩) (fun hHeld2 => ?_)
              clear hK K hHeld
              have hHeld := hHeld2
              clear hHeld2
              try simp only [Act.put, List.setIfInBounds_toArray, List.set_cons_zero, List.set_cons_succ]
              clear SS
              generalize hp3 : WD.heap.size = p3 at HLA ⊢
              clear hp3
              refine wpAnyH_only (i := 14) rfl (by kernel_rfl) (fun K hK => ?_)
              go_simp
              refine (h_last (unhide HLA)).mono ?_
              rintro e w' ⟨rfl, hw'⟩
              subst w'
              go_wp2_with fail
              refine hK.out _ _ (hHeld) (fun hHeld2 => ?_)
              clear hK K hHeld
              have hHeld := hHeld2
              clear hHeld2
              try simp only [Act.put, List.setIfInBounds_toArray, List.set_cons_zero, List.set_cons_succ]
              refine wpAnyH_only (i := 15) rfl (by kernel_rfl) (fun K hK => ?_)
              go_simp
              refine (h_sheet (shk_last' (unhide HI3)) u (unhide HU) (unhide HLA)).mono ?_
              rintro e w11 ⟨rfl, HL11⟩
              go_wp2_with fail
              refine hK.out _ _ (⟨(unhide HL11).c0, (unhide HL11).v0⟩) (fun hHeld2 => ?_)
              clear hK K hHeld
              have hHeld := hHeld2
              clear hHeld2
              try simp only [Act.put, List.setIfInBounds_toArray, List.set_cons_zero, List.set_cons_succ]
              refine wpAnyH_tk (i := 16) (v := ?_) rfl (by kernel_rfl) (by kernel_rfl) (by kernel_rfl) (fun _ _ _ h => h) (Or.inl ⟨by rfl, ?_⟩) hHeld ?_
              rotate_left
              · intro w hSw
                try dsimp only at hSw
                go_simp
                try with_reducible rfl
              try simp only [Act.put, List.setIfInBounds_toArray, List.set_cons_zero, List.set_cons_succ]
              refine wpAnyH_tk (i := 17) (v := ?_) rfl (by kernel_rfl) (by kernel_rfl) (by kernel_rfl) (fun _ _ _ h => h) (Or.inl ⟨by rfl, ?_⟩) hHeld ?_
              rotate_left
              · intro w hSw
                try dsimp only at hSw
                go_simp
                try with_reducible rfl
              try simp only [Act.put, List.setIfInBounds_toArray, List.set_cons_zero, List.set_cons_succ]
              refine wpAnyH_tk (i := 18) (v := ?_) rfl (by kernel_rfl) (by kernel_rfl) (by kernel_rfl) (fun _ _ _ h => h) (Or.inl ⟨by rfl, ?_⟩) hHeld ?_
              rotate_left
              · intro w hSw
                try dsimp only at hSw
                go_simp
                try with_reducible rfl
              try simp only [Act.put, List.setIfInBounds_toArray, List.set_cons_zero, List.set_cons_succ]
              refine wpAnyH_only (i := 20) rfl (by kernel_rfl) (fun K hK => ?_)
              rw [if_pos (by rfl)]
              refine wp_store_row 72 _ _ rfl p3 (wagg u) rfl rfl 72 _ ((unhide HL11).var (List.Mem.head _)) Try.size72 rfl (wagg_one _) ?_
              have HLE := hide (Hall.setr (c' := wagg u) (unhide HL11))
              refine hK.out _ _ (⟨(unhide HLE).c0, (unhide HLE).v0⟩) (fun hHeld2 => ?_)
              clear hK K hHeld
              have hHeld := hHeld2
              clear hHeld2
              simp only [Act.put]
              refine wpAnyH_tk (i := 21) (v := ?_) rfl (by kernel_rfl) (by kernel_rfl) (by kernel_rfl) (fun _ _ _ h => h) (Or.inl ⟨by rfl, ?_⟩) hHeld ?_
              rotate_left
              · intro w hSw
                try dsimp only at hSw
                go_simp
                try with_reducible rfl
              try simp only [Act.put, List.setIfInBounds_toArray, List.set_cons_zero, List.set_cons_succ]
              refine wpAnyH_done (by kernel_rfl) ?_ _
              clear hHeld
              have A1 := hide ((unhide HLE).var (List.Mem.head _))
              have A2 := hide ((unhide HLE).var (p := p) (List.Mem.tail _ (List.Mem.tail _ (List.Mem.tail _ (List.Mem.head _)))))
              have heq := eq66 u
              generalize World.setRow _ _ _ = W12 at HLE A1 A2 ⊢
              go_wp2_with (first | (refine wpList_load66 (by rfl) _ rfl p3 rfl u (unhide A1) ?_) | (refine wpList_load66 (by rfl) _ rfl p rfl u (unhide A2) ?_))
              exact ⟨⟨k + 1, by omega, by go_num, h3, u, hal_drop (hal_drop (hal_drop (hal_close (unhide HSD) (unhide HI3) (unhide HLE)))), unhide HI3, unhide HN3, unhide HU⟩, by simp [intOf]; omega⟩
        · have k3b : (xd == 3) = false := beq_eq_false_iff_ne.2 k3
          by_cases k4 : xd = 4
          · subst k4
            have hfd := ev_code
            obtain ⟨hz, hi, hn, hw⟩ := unhide HA
            have HI0 := hide hi
            have HN := hide hn
            have HW := hide hw
            obtain ⟨md, hmd⟩ : ∃ md : Int, 1 + (k : Int) % 2 = md := ⟨_, rfl⟩
            have hm12 : md = 1 ∨ md = 2 := by omega
            have hB := al_begin (h := h) (hn 0) hm12
            have hP := al_drop (h := sit h 0 (some ⟨md, h.n, [], []⟩)) sit_get (x := ⟨4, 0, xm, xa, xk, xt, xp, xb⟩) rfl rfl
            have hC := al_commit (h := sit (sit h 0 (some ⟨md, h.n, [], []⟩)) 0 (some ⟨md, h.n, [], dpw md [] xk false ⟨#[]⟩⟩)) sit_get
            have hA := al_round hi hn (md := md) xk false ⟨#[]⟩ (h3 := hdo (sit (sit h 0 (some ⟨md, h.n, [], []⟩)) 0 (some ⟨md, h.n, [], dpw md [] xk false ⟨#[]⟩⟩)) xc) (c := dpc md xk false ⟨#[]⟩) (num := (hev (sit (sit h 0 (some ⟨md, h.n, [], []⟩)) 0 (some ⟨md, h.n, [], dpw md [] xk false ⟨#[]⟩⟩)) xc).n) (code := (hev (sit (sit h 0 (some ⟨md, h.n, [], []⟩)) 0 (some ⟨md, h.n, [], dpw md [] xk false ⟨#[]⟩⟩)) xc).c) (by rw [hC.1]; rfl) rfl (by rw [hC.2]; rfl) (by rw [hC.2]; rfl)
            have hi3 : HInv (hdo (sit (sit h 0 (some ⟨md, h.n, [], []⟩)) 0 (some ⟨md, h.n, [], dpw md [] xk false ⟨#[]⟩⟩)) xc) := by have z := ((hi.step (Go.Proofs.Ytehhpmfeaeabgac.xb md)).step ⟨4, 0, xm, xa, xk, xt, xp, xb⟩).step xc; rw [hB.1, hP.1] at z; exact z
            have hC5 : hev (sit (sit h 0 (some ⟨md, h.n, [], []⟩)) 0 (some ⟨md, h.n, [], dpw md [] xk false ⟨#[]⟩⟩)) xc = ⟨(hev (sit (sit h 0 (some ⟨md, h.n, [], []⟩)) 0 (some ⟨md, h.n, [], dpw md [] xk false ⟨#[]⟩⟩)) xc).c, (hev (sit (sit h 0 (some ⟨md, h.n, [], []⟩)) 0 (some ⟨md, h.n, [], dpw md [] xk false ⟨#[]⟩⟩)) xc).n, false, ⟨#[]⟩, []⟩ := by rw [hC.2]; rfl
            have HB := hide hB
            have HP := hide hP
            have HAR := hide hA
            have HI3 := hide hi3
            have HC5 := hide hC5
            have HMD := hide hmd
            clear hz hi hn hw hB hP hC hA hi3 hC5 hmd
            go_wp2_with fail
            rw [unhide HMD]
            refine (hal_do (Go.Proofs.Ytehhpmfeaeabgac.xb md) (Nat.zero_le _) (unhide HZ4)).mono ?_
            rintro e w5 ⟨a5, cap5, rfl, HY5⟩
            rw [(unhide HB).2]
            rw [(unhide HB).1, (unhide HB).2] at HY5
            have HY5' := hide (hal_drop (unhide HY5))
            clear HZ4 HY5 HI
            generalize wr.heap.size = q at HY5' ⊢
            dsimp only [evc, List.length_nil]
            have hq := zoo_varm (p := q) (unhide HY5') (List.Mem.tail _ (List.Mem.head _))
            have x0 : w5.cell? ⟨q, 0, none⟩ = some (.int .i64 4) := cell_of_block hq rfl
            have x1 : w5.cell? ⟨q, 1, none⟩ = some (.int .i64 0) := cell_of_block hq rfl
            have x2 : w5.cell? ⟨q, 2, none⟩ = some (.int .i64 xm) := cell_of_block hq rfl
            have x3 : w5.cell? ⟨q, 3, none⟩ = some (.int .i64 xa) := cell_of_block hq rfl
            have x4 : w5.cell? ⟨q, 4, none⟩ = some (.int .i64 xk) := cell_of_block hq rfl
            have x5 : w5.cell? ⟨q, 5, none⟩ = some (.int .i64 xt) := cell_of_block hq rfl
            have x6 : w5.cell? ⟨q, 6, none⟩ = some (.int .i64 xp) := cell_of_block hq rfl
            have x7 : w5.cell? ⟨q, 7, none⟩ = some (.string xb) := cell_of_block hq rfl
            clear hq q0 q1 q2 q3 q4 q5 q6 q7
            go_wp2_with fail
            refine (hal_do ⟨4, 0, xm, xa, xk, xt, xp, xb⟩ hsz (unhide HY5')).mono ?_
            rintro e w6 ⟨a6, cap6, rfl, HY6⟩
            rw [(unhide HP).2]
            rw [(unhide HP).1, (unhide HP).2] at HY6
            have HY6' := hide (hal_drop (unhide HY6))
            clear HY5' HY6 x0 x1 x2 x3 x4 x5 x6 x7 HB HP
            dsimp only [evc, List.length_nil]
            try dsimp only at HY6'
            generalize hcc : dpc md xk false ⟨#[]⟩ = c at *
            clear hcc
            by_cases hc0 : c = 0
            · subst hc0
              go_wp2_with fail
              refine (hal_do xc (Nat.zero_le _) (unhide HY6')).mono ?_
              rintro e w7 ⟨a7, cap7, rfl, HY7⟩
              rw [unhide HC5]
              rw [unhide HC5] at HY7
              dsimp only [List.length_nil]
              try dsimp only at HY7
              clear HY6' HC5
              generalize hdo (sit (sit h 0 (some ⟨md, h.n, [], []⟩)) 0 (some ⟨md, h.n, [], dpw md [] xk false ⟨#[]⟩⟩)) xc = h3 at *
              generalize (hev (sit (sit h 0 (some ⟨md, h.n, [], []⟩)) 0 (some ⟨md, h.n, [], dpw md [] xk false ⟨#[]⟩⟩)) xc).c = code at *
              generalize (hev (sit (sit h 0 (some ⟨md, h.n, [], []⟩)) 0 (some ⟨md, h.n, [], dpw md [] xk false ⟨#[]⟩⟩)) xc).n = num at *
              obtain ⟨hn3, hA⟩ := unhide HAR
              have HN3 := hide hn3
              clear hn3 HAR
              rcases hA with ⟨hx, -⟩ | ⟨-, rfl⟩ | ⟨-, rfl, rfl, j, hj, rfl, hsh⟩
              · exact (hx (by first | trivial | rfl)).elim
              · have HZ8 := hide (hal_var (unhide HY7) #[.int .i64 9, .int .i64 num, .bool false, .string ⟨#[]⟩, .slice a7 0 cap7] 34)
                go_wp2_with fail
                go_ret
                exact ⟨by trivial, ((unhide HK1).trans0 (unhide HZ8).kp).below (Nat.le_refl _) (by simp)⟩
              · have HSH := hide hsh
                clear hsh
                have HZ8 := hide (hal_var (unhide HY7) #[.int .i64 0, .int .i64 ((h.n : Int) + 1), .bool false, .string ⟨#[]⟩, .slice a7 0 cap7] 34)
                have hpos : (0 : Int) < (h.n : Int) + 1 := by omega
                have hq := zoo_varm (p := q) (unhide HY7) (List.Mem.tail _ (List.Mem.tail _ (List.Mem.head _)))
                have x4 : w7.cell? ⟨q, 4, none⟩ = some (.int .i64 (j : Int)) := cell_of_block hq rfl
                have ql := lt_of_block hq
                clear hq HY7
                go_wp2_with fail
                generalize w7.alloc (.cells #[.int .i64 0, .int .i64 ((h.n : Int) + 1), .bool false, .string ⟨#[]⟩, .slice a7 0 cap7] 34) = W8 at HZ8 ⊢
                generalize w7.heap.size = pe at HZ8 ⊢
                refine (key12 (j : Int) _).mono ?_
                rintro e w' ⟨rfl, hw'⟩
                subst w'
                rw [show keyB (j : Int) = true by simp [keyB]; omega]
                have hq := zoo_varm (p := q) (unhide HZ8) (List.Mem.tail _ (List.Mem.tail _ (List.Mem.head _)))
                have x0 : W8.cell? ⟨q, 0, none⟩ = some (.int .i64 4) := cell_of_block hq rfl
                have x4' : W8.cell? ⟨q, 4, none⟩ = some (.int .i64 (j : Int)) := cell_of_block hq rfl
                clear hq
                have hqp : q ≠ p := zoo_ne2 (l1 := [_, _]) (unhide HZ8)
                obtain ⟨⟨y0, hy0⟩, ⟨y1, hy1⟩, g0, g1, HZ9⟩ := zoo_setwL (l1 := [_, _, _]) (unhide HZ8) hj false ⟨#[]⟩
                have j0 : (0 : Int) ≤ (j : Int) := by omega
                have j8 : (j : Int) < 8 := by omega
                clear x4 ql
                go_wp2_with fail
                clear x0 x4' hy0 hy1 g0 g1 HZ8
                generalize (W8.setCell ⟨p, j * 2, none⟩ (.bool false)).setCell ⟨p, j * 2 + 1, none⟩ (.string ⟨#[]⟩) = W9 at HZ9 ⊢
                obtain ⟨u, hu⟩ : ∃ u, upd v j ⟨0, false, ⟨#[]⟩⟩ = u := ⟨_, rfl⟩
                rw [hu] at HZ9
                have HU := hide (show wagg (shw h3.f h3.n h3.n 8) = wagg u by rw [unhide HSH, wagg_upd (unhide HW) hj _, hu])
                clear hu
                obtain ⟨vb, tb, gb, sd, hsd, -, hl⟩ := hal_open (unhide HZ9)
                have HSD := hide hsd
                have HLD := hide (hl.kp0 (Kp.refl [] _).drew)
                clear hl hsd HZ9
                have c0 := (unhide HLD).c0
                have v0 := (unhide HLD).v0
                skip
                refine wp_region_held_drew (S := fun w' => w'.cell? ⟨hb, 0, none⟩ = some (.pointer (some ⟨vb, 0, none⟩)) ∧ w'.cell? ⟨vb, 0, none⟩ = some (.pointer (some ⟨tb, 0, none⟩))) (by kernel_rfl) ⟨c0, v0⟩ (fun hHeld => ?_)
                clear c0 v0
                generalize World.drew _ = WD at HLD hHeld ⊢
                refine wpAnyH_tk (i := 0) (v := ?_) rfl (by kernel_rfl) (by kernel_rfl) (by kernel_rfl) (fun _ _ _ h => h) (Or.inl ⟨by rfl, ?_⟩) hHeld ?_
                rotate_left
                · intro w hSw
                  try dsimp only at hSw
                  go_simp
                  try with_reducible rfl
                try simp only [Act.put, List.setIfInBounds_toArray, List.set_cons_zero, List.set_cons_succ]
                refine wpAnyH_tk (i := 1) (v := ?_) rfl (by kernel_rfl) (by kernel_rfl) (by kernel_rfl) (fun _ _ _ h => h) (Or.inl ⟨by rfl, ?_⟩) hHeld ?_
                rotate_left
                · intro w hSw
                  try dsimp only at hSw
                  go_simp
                  try with_reducible rfl
                try simp only [Act.put, List.setIfInBounds_toArray, List.set_cons_zero, List.set_cons_succ]
                refine wpAnyH_tk (i := 2) (v := ?_) rfl (by kernel_rfl) (by kernel_rfl) (by kernel_rfl) (fun _ _ _ h => h) (Or.inl ⟨by rfl, ?_⟩) hHeld ?_
                rotate_left
                · intro w hSw
                  try dsimp only at hSw
                  go_simp
                  try with_reducible rfl
                try simp only [Act.put, List.setIfInBounds_toArray, List.set_cons_zero, List.set_cons_succ]
                refine wpAnyH_tk (i := 3) (v := ?_) rfl (by kernel_rfl) (by kernel_rfl) (by kernel_rfl) (fun _ _ _ h => h) (Or.inl ⟨by rfl, ?_⟩) hHeld ?_
                rotate_left
                · intro w hSw
                  try dsimp only at hSw
                  go_simp
                  try with_reducible rfl
                try simp only [Act.put, List.setIfInBounds_toArray, List.set_cons_zero, List.set_cons_succ]
                refine wpAnyH_tk (i := 4) (v := ?_) rfl (by kernel_rfl) (by kernel_rfl) (by kernel_rfl) (fun _ _ _ h => h) (Or.inl ⟨by rfl, ?_⟩) hHeld ?_
                rotate_left
                · intro w hSw
                  try dsimp only at hSw
                  go_simp
                  try with_reducible rfl
                try simp only [Act.put, List.setIfInBounds_toArray, List.set_cons_zero, List.set_cons_succ]
                refine wpAnyH_tk (i := 5) (v := ?_) rfl (by kernel_rfl) (by kernel_rfl) (by kernel_rfl) (fun _ _ _ h => h) (Or.inl ⟨by rfl, ?_⟩) hHeld ?_
                rotate_left
                · intro w hSw
                  try dsimp only at hSw
                  go_simp
                  try with_reducible rfl
                try simp only [Act.put, List.setIfInBounds_toArray, List.set_cons_zero, List.set_cons_succ]
                refine wpAnyH_tk (i := 6) (v := ?_) rfl (by kernel_rfl) (by kernel_rfl) (by kernel_rfl) (fun _ _ _ h => h) (Or.inl ⟨by rfl, ?_⟩) hHeld ?_
                rotate_left
                · intro w hSw
                  try dsimp only at hSw
                  go_simp
                  try with_reducible rfl
                try simp only [Act.put, List.setIfInBounds_toArray, List.set_cons_zero, List.set_cons_succ]
                refine wpAnyH_tk (i := 7) (v := ?_) rfl (by kernel_rfl) (by kernel_rfl) (by kernel_rfl) (fun _ _ _ h => h) (Or.inl ⟨by rfl, ?_⟩) hHeld ?_
                rotate_left
                · intro w hSw
                  try dsimp only at hSw
                  go_simp
                  try with_reducible rfl
                try simp only [Act.put, List.setIfInBounds_toArray, List.set_cons_zero, List.set_cons_succ]
                refine wpAnyH_tk (i := 8) (v := ?_) rfl (by kernel_rfl) (by kernel_rfl) (by kernel_rfl) (fun _ _ _ h => h) (Or.inl ⟨by rfl, ?_⟩) hHeld ?_
                rotate_left
                · intro w hSw
                  try dsimp only at hSw
                  go_simp
                  try with_reducible rfl
                try simp only [Act.put, List.setIfInBounds_toArray, List.set_cons_zero, List.set_cons_succ]
                refine wpAnyH_tk (i := 9) (v := ?_) rfl (by kernel_rfl) (by kernel_rfl) (by kernel_rfl) (fun _ _ _ h => h) (Or.inl ⟨by rfl, ?_⟩) hHeld ?_
                rotate_left
                · intro w hSw
                  try dsimp only at hSw
                  go_simp
                  try with_reducible rfl
                try simp only [Act.put, List.setIfInBounds_toArray, List.set_cons_zero, List.set_cons_succ]
                refine wpAnyH_tk (i := 10) (v := ?_) rfl (by kernel_rfl) (by kernel_rfl) (by kernel_rfl) (fun _ _ _ h => h) (Or.inl ⟨by rfl, ?_⟩) hHeld ?_
                rotate_left
                · intro w hSw
                  try dsimp only at hSw
                  go_simp
                  try with_reducible rfl
                try simp only [Act.put, List.setIfInBounds_toArray, List.set_cons_zero, List.set_cons_succ]
                refine wpAnyH_tk (i := 11) (v := ?_) rfl (by kernel_rfl) (by kernel_rfl) (by kernel_rfl) (fun _ _ _ h => h) (Or.inl ⟨by rfl, ?_⟩) hHeld ?_
                rotate_left
                · intro w hSw
                  try dsimp only at hSw
                  go_simp
                  try with_reducible rfl
                try simp only [Act.put, List.setIfInBounds_toArray, List.set_cons_zero, List.set_cons_succ]
                refine wpAnyH_tk (i := 12) (v := ?_) rfl (by kernel_rfl) (by kernel_rfl) (by kernel_rfl) (fun _ _ _ h => h) (Or.inl ⟨by rfl, ?_⟩) hHeld ?_
                rotate_left
                · intro w hSw
                  try dsimp only at hSw
                  go_simp
                  try with_reducible rfl
                try simp only [Act.put, List.setIfInBounds_toArray, List.set_cons_zero, List.set_cons_succ]
                refine wpAnyH_tk (i := 13) (v := ?_) rfl (by kernel_rfl) (by kernel_rfl) (by kernel_rfl) (fun _ _ _ h => h) (Or.inl ⟨by rfl, ?_⟩) hHeld ?_
                rotate_left
                · intro w hSw
                  try dsimp only at hSw
                  go_simp
                  try with_reducible rfl
                try simp only [Act.put, List.setIfInBounds_toArray, List.set_cons_zero, List.set_cons_succ]
                refine wpAnyH_two (i := 14) (j := 19) rfl rfl (by kernel_rfl) (fun K hK => ?_) (fun K hK => ?_)
                · go_simp
                  refine (h_last (unhide HLD)).mono ?_
                  rintro e w' ⟨rfl, hw'⟩
                  subst w'
                  go_wp2_with fail
                  refine hK.out _ _ (hHeld) (fun hHeld2 => ?_)
                  clear hK K hHeld
                  have hHeld := hHeld2
                  clear hHeld2
                  try simp only [Act.put, List.setIfInBounds_toArray, List.set_cons_zero, List.set_cons_succ]
                  refine wpAnyH_two (i := 15) (j := 19) rfl rfl (by kernel_rfl) (fun K hK => ?_) (fun K hK => ?_)
                  · go_simp
                    refine (h_sheet (shk_last' (unhide HI3)) u (unhide HU) (unhide HLD)).mono ?_
                    rintro e w11 ⟨rfl, HL11⟩
                    go_wp2_with fail
                    refine hK.out _ _ (⟨(unhide HL11).c0, (unhide HL11).v0⟩) (fun hHeld2 => ?_)
                    clear hK K hHeld
                    have hHeld := hHeld2
                    clear hHeld2
                    try simp only [Act.put, List.setIfInBounds_toArray, List.set_cons_zero, List.set_cons_succ]
                    refine wpAnyH_tk (i := 16) (v := ?_) rfl (by kernel_rfl) (by kernel_rfl) (by kernel_rfl) (fun _ _ _ h => h) (Or.inl ⟨by rfl, ?_⟩) hHeld ?_
                    rotate_left
                    · intro w hSw
                      try dsimp only at hSw
                      go_simp
                      try with_reducible rfl
                    try simp only [Act.put, List.setIfInBounds_toArray, List.set_cons_zero, List.set_cons_succ]
                    refine wpAnyH_tk (i := 17) (v := ?_) rfl (by kernel_rfl) (by kernel_rfl) (by kernel_rfl) (fun _ _ _ h => h) (Or.inl ⟨by rfl, ?_⟩) hHeld ?_
                    rotate_left
                    · intro w hSw
                      try dsimp only at hSw
                      go_simp
                      try with_reducible rfl
                    try simp only [Act.put, List.setIfInBounds_toArray, List.set_cons_zero, List.set_cons_succ]
                    refine wpAnyH_tk (i := 18) (v := ?_) rfl (by kernel_rfl) (by kernel_rfl) (by kernel_rfl) (fun _ _ _ h => h) (Or.inl ⟨by rfl, ?_⟩) hHeld ?_
                    rotate_left
                    · intro w hSw
                      try dsimp only at hSw
                      go_simp
                      try with_reducible rfl
                    try simp only [Act.put, List.setIfInBounds_toArray, List.set_cons_zero, List.set_cons_succ]
                    refine wpAnyH_only (i := 19) rfl (by kernel_rfl) (fun K hK => ?_)
                    go_simp
                    have HLA := hide ((unhide HL11).new (wagg (fun _ => dv)) 72)
                    have SS := And.intro (unhide HLA).c0 (unhide HLA).v0
                    rw [zeros_eq] at HLA SS
                    refine hK.out _ _ (⟨SS.1, SS.2⟩) (fun hHeld2 => ?_)
                    clear hK K hHeld
                    have hHeld := hHeld2
                    clear hHeld2
                    try simp only [Act.put, List.setIfInBounds_toArray, List.set_cons_zero, List.set_cons_succ]
                    clear SS
                    generalize hp3 : w11.heap.size = p3 at HLA ⊢
                    clear hp3
                    refine wpAnyH_only (i := 20) rfl (by kernel_rfl) (fun K hK => ?_)
                    rw [if_pos (by rfl)]
                    refine wp_store_row 72 _ _ rfl p3 (wagg u) rfl rfl 72 _ ((unhide HLA).var (List.Mem.head _)) Try.size72 rfl (wagg_one _) ?_
                    have HLE := hide (Hall.setr (c' := wagg u) (unhide HLA))
                    refine hK.out _ _ (⟨(unhide HLE).c0, (unhide HLE).v0⟩) (fun hHeld2 => ?_)
                    clear hK K hHeld
                    have hHeld := hHeld2
                    clear hHeld2
                    simp only [Act.put]
                    refine wpAnyH_tk (i := 21) (v := ?_) rfl (by kernel_rfl) (by kernel_rfl) (by kernel_rfl) (fun _ _ _ h => h) (Or.inl ⟨by rfl, ?_⟩) hHeld ?_
                    rotate_left
                    · intro w hSw
                      try dsimp only at hSw
                      go_simp
                      try with_reducible rfl
                    try simp only [Act.put, List.setIfInBounds_toArray, List.set_cons_zero, List.set_cons_succ]
                    refine wpAnyH_done (by kernel_rfl) ?_ _
                    clear hHeld
                    have A1 := hide ((unhide HLE).var (List.Mem.head _))
                    have A2 := hide ((unhide HLE).var (p := p) (List.Mem.tail _ (List.Mem.tail _ (List.Mem.tail _ (List.Mem.head _)))))
                    have heq := eq66 u
                    generalize World.setRow _ _ _ = W12 at HLE A1 A2 ⊢
                    go_wp2_with (first | (refine wpList_load66 (by rfl) _ rfl p3 rfl u (unhide A1) ?_) | (refine wpList_load66 (by rfl) _ rfl p rfl u (unhide A2) ?_))
                    exact ⟨⟨k + 1, by omega, by go_num, h3, u, hal_drop (hal_drop (hal_drop (hal_close (unhide HSD) (unhide HI3) (unhide HLE)))), unhide HI3, unhide HN3, unhide HU⟩, by simp [intOf]; omega⟩
                  · go_simp
                    have HLA := hide ((unhide HLD).new (wagg (fun _ => dv)) 72)
                    have SS := And.intro (unhide HLA).c0 (unhide HLA).v0
                    rw [zeros_eq] at HLA SS
                    refine hK.out _ _ (⟨SS.1, SS.2⟩) (fun hHeld2 => ?_)
                    clear hK K hHeld
                    have hHeld := hHeld2
                    clear hHeld2
                    try simp only [Act.put, List.setIfInBounds_toArray, List.set_cons_zero, List.set_cons_succ]
                    clear SS
                    generalize hp3 : WD.heap.size = p3 at HLA ⊢
                    clear hp3
                    refine wpAnyH_only (i := 15) rfl (by kernel_rfl) (fun K hK => ?_)
                    go_simp
                    refine (h_sheet (shk_last' (unhide HI3)) u (unhide HU) (unhide HLA)).mono ?_
                    rintro e w11 ⟨rfl, HL11⟩
                    go_wp2_with fail
                    refine hK.out _ _ (⟨(unhide HL11).c0, (unhide HL11).v0⟩) (fun hHeld2 => ?_)
                    clear hK K hHeld
                    have hHeld := hHeld2
                    clear hHeld2
                    try simp only [Act.put, List.setIfInBounds_toArray, List.set_cons_zero, List.set_cons_succ]
                    refine wpAnyH_tk (i := 16) (v := ?_) rfl (by kernel_rfl) (by kernel_rfl) (by kernel_rfl) (fun _ _ _ h => h) (Or.inl ⟨by rfl, ?_⟩) hHeld ?_
                    rotate_left
                    · intro w hSw
                      try dsimp only at hSw
                      go_simp
                      try with_reducible rfl
                    try simp only [Act.put, List.setIfInBounds_toArray, List.set_cons_zero, List.set_cons_succ]
                    refine wpAnyH_tk (i := 17) (v := ?_) rfl (by kernel_rfl) (by kernel_rfl) (by kernel_rfl) (fun _ _ _ h => h) (Or.inl ⟨by rfl, ?_⟩) hHeld ?_
                    rotate_left
                    · intro w hSw
                      try dsimp only at hSw
                      go_simp
                      try with_reducible rfl
                    try simp only [Act.put, List.setIfInBounds_toArray, List.set_cons_zero, List.set_cons_succ]
                    refine wpAnyH_tk (i := 18) (v := ?_) rfl (by kernel_rfl) (by kernel_rfl) (by kernel_rfl) (fun _ _ _ h => h) (Or.inl ⟨by rfl, ?_⟩) hHeld ?_
                    rotate_left
                    · intro w hSw
                      try dsimp only at hSw
                      go_simp
                      try with_reducible rfl
                    try simp only [Act.put, List.setIfInBounds_toArray, List.set_cons_zero, List.set_cons_succ]
                    refine wpAnyH_only (i := 20) rfl (by kernel_rfl) (fun K hK => ?_)
                    rw [if_pos (by rfl)]
                    refine wp_store_row 72 _ _ rfl p3 (wagg u) rfl rfl 72 _ ((unhide HL11).var (List.Mem.head _)) Try.size72 rfl (wagg_one _) ?_
                    have HLE := hide (Hall.setr (c' := wagg u) (unhide HL11))
                    refine hK.out _ _ (⟨(unhide HLE).c0, (unhide HLE).v0⟩) (fun hHeld2 => ?_)
                    clear hK K hHeld
                    have hHeld := hHeld2
                    clear hHeld2
                    simp only [Act.put]
                    refine wpAnyH_tk (i := 21) (v := ?_) rfl (by kernel_rfl) (by kernel_rfl) (by kernel_rfl) (fun _ _ _ h => h) (Or.inl ⟨by rfl, ?_⟩) hHeld ?_
                    rotate_left
                    · intro w hSw
                      try dsimp only at hSw
                      go_simp
                      try with_reducible rfl
                    try simp only [Act.put, List.setIfInBounds_toArray, List.set_cons_zero, List.set_cons_succ]
                    refine wpAnyH_done (by kernel_rfl) ?_ _
                    clear hHeld
                    have A1 := hide ((unhide HLE).var (List.Mem.head _))
                    have A2 := hide ((unhide HLE).var (p := p) (List.Mem.tail _ (List.Mem.tail _ (List.Mem.tail _ (List.Mem.head _)))))
                    have heq := eq66 u
                    generalize World.setRow _ _ _ = W12 at HLE A1 A2 ⊢
                    go_wp2_with (first | (refine wpList_load66 (by rfl) _ rfl p3 rfl u (unhide A1) ?_) | (refine wpList_load66 (by rfl) _ rfl p rfl u (unhide A2) ?_))
                    exact ⟨⟨k + 1, by omega, by go_num, h3, u, hal_drop (hal_drop (hal_drop (hal_close (unhide HSD) (unhide HI3) (unhide HLE)))), unhide HI3, unhide HN3, unhide HU⟩, by simp [intOf]; omega⟩
                · go_simp
                  have HLA := hide ((unhide HLD).new (wagg (fun _ => dv)) 72)
                  have SS := And.intro (unhide HLA).c0 (unhide HLA).v0
                  rw [zeros_eq] at HLA SS
                  refine hK.out _ _ (⟨SS.1, SS.2⟩) (fun hHeld2 => ?_)
                  clear hK K hHeld
                  have hHeld := hHeld2
                  clear hHeld2
                  try simp only [Act.put, List.setIfInBounds_toArray, List.set_cons_zero, List.set_cons_succ]
                  clear SS
                  generalize hp3 : WD.heap.size = p3 at HLA ⊢
                  clear hp3
                  refine wpAnyH_only (i := 14) rfl (by kernel_rfl) (fun K hK => ?_)
                  go_simp
                  refine (h_last (unhide HLA)).mono ?_
                  rintro e w' ⟨rfl, hw'⟩
                  subst w'
                  go_wp2_with fail
                  refine hK.out _ _ (hHeld) (fun hHeld2 => ?_)
                  clear hK K hHeld
                  have hHeld := hHeld2
                  clear hHeld2
                  try simp only [Act.put, List.setIfInBounds_toArray, List.set_cons_zero, List.set_cons_succ]
                  refine wpAnyH_only (i := 15) rfl (by kernel_rfl) (fun K hK => ?_)
                  go_simp
                  refine (h_sheet (shk_last' (unhide HI3)) u (unhide HU) (unhide HLA)).mono ?_
                  rintro e w11 ⟨rfl, HL11⟩
                  go_wp2_with fail
                  refine hK.out _ _ (⟨(unhide HL11).c0, (unhide HL11).v0⟩) (fun hHeld2 => ?_)
                  clear hK K hHeld
                  have hHeld := hHeld2
                  clear hHeld2
                  try simp only [Act.put, List.setIfInBounds_toArray, List.set_cons_zero, List.set_cons_succ]
                  refine wpAnyH_tk (i := 16) (v := ?_) rfl (by kernel_rfl) (by kernel_rfl) (by kernel_rfl) (fun _ _ _ h => h) (Or.inl ⟨by rfl, ?_⟩) hHeld ?_
                  rotate_left
                  · intro w hSw
                    try dsimp only at hSw
                    go_simp
                    try with_reducible rfl
                  try simp only [Act.put, List.setIfInBounds_toArray, List.set_cons_zero, List.set_cons_succ]
                  refine wpAnyH_tk (i := 17) (v := ?_) rfl (by kernel_rfl) (by kernel_rfl) (by kernel_rfl) (fun _ _ _ h => h) (Or.inl ⟨by rfl, ?_⟩) hHeld ?_
                  rotate_left
                  · intro w hSw
                    try dsimp only at hSw
                    go_simp
                    try with_reducible rfl
                  try simp only [Act.put, List.setIfInBounds_toArray, List.set_cons_zero, List.set_cons_succ]
                  refine wpAnyH_tk (i := 18) (v := ?_) rfl (by kernel_rfl) (by kernel_rfl) (by kernel_rfl) (fun _ _ _ h => h) (Or.inl ⟨by rfl, ?_⟩) hHeld ?_
                  rotate_left
                  · intro w hSw
                    try dsimp only at hSw
                    go_simp
                    try with_reducible rfl
                  try simp only [Act.put, List.setIfInBounds_toArray, List.set_cons_zero, List.set_cons_succ]
                  refine wpAnyH_only (i := 20) rfl (by kernel_rfl) (fun K hK => ?_)
                  rw [if_pos (by rfl)]
                  refine wp_store_row 72 _ _ rfl p3 (wagg u) rfl rfl 72 _ ((unhide HL11).var (List.Mem.head _)) Try.size72 rfl (wagg_one _) ?_
                  have HLE := hide (Hall.setr (c' := wagg u) (unhide HL11))
                  refine hK.out _ _ (⟨(unhide HLE).c0, (unhide HLE).v0⟩) (fun hHeld2 => ?_)
                  clear hK K hHeld
                  have hHeld := hHeld2
                  clear hHeld2
                  simp only [Act.put]
                  refine wpAnyH_tk (i := 21) (v := ?_) rfl (by kernel_rfl) (by kernel_rfl) (by kernel_rfl) (fun _ _ _ h => h) (Or.inl ⟨by rfl, ?_⟩) hHeld ?_
                  rotate_left
                  · intro w hSw
                    try dsimp only at hSw
                    go_simp
                    try with_reducible rfl
                  try simp only [Act.put, List.setIfInBounds_toArray, List.set_cons_zero, List.set_cons_succ]
                  refine wpAnyH_done (by kernel_rfl) ?_ _
                  clear hHeld
                  have A1 := hide ((unhide HLE).var (List.Mem.head _))
                  have A2 := hide ((unhide HLE).var (p := p) (List.Mem.tail _ (List.Mem.tail _ (List.Mem.tail _ (List.Mem.head _)))))
                  have heq := eq66 u
                  generalize World.setRow _ _ _ = W12 at HLE A1 A2 ⊢
                  go_wp2_with (first | (refine wpList_load66 (by rfl) _ rfl p3 rfl u (unhide A1) ?_) | (refine wpList_load66 (by rfl) _ rfl p rfl u (unhide A2) ?_))
                  exact ⟨⟨k + 1, by omega, by go_num, h3, u, hal_drop (hal_drop (hal_drop (hal_close (unhide HSD) (unhide HI3) (unhide HLE)))), unhide HI3, unhide HN3, unhide HU⟩, by simp [intOf]; omega⟩
            · have hcb : (c == 0) = false := beq_eq_false_iff_ne.2 hc0
              go_wp2_with fail
              refine (hal_do xc (Nat.zero_le _) (unhide HY6')).mono ?_
              rintro e w7 ⟨a7, cap7, rfl, HY7⟩
              rw [unhide HC5]
              rw [unhide HC5] at HY7
              dsimp only [List.length_nil]
              try dsimp only at HY7
              clear HY6' HC5
              generalize hdo (sit (sit h 0 (some ⟨md, h.n, [], []⟩)) 0 (some ⟨md, h.n, [], dpw md [] xk false ⟨#[]⟩⟩)) xc = h3 at *
              generalize (hev (sit (sit h 0 (some ⟨md, h.n, [], []⟩)) 0 (some ⟨md, h.n, [], dpw md [] xk false ⟨#[]⟩⟩)) xc).c = code at *
              generalize (hev (sit (sit h 0 (some ⟨md, h.n, [], []⟩)) 0 (some ⟨md, h.n, [], dpw md [] xk false ⟨#[]⟩⟩)) xc).n = num at *
              obtain ⟨hn3, hA⟩ := unhide HAR
              have HN3 := hide hn3
              clear hn3 HAR
              rcases hA with ⟨-, rfl, rfl, hsh⟩ | ⟨hx, -⟩ | ⟨hx, -⟩
              rotate_left
              · exact absurd hx hc0
              · exact absurd hx hc0
              have HSH := hide hsh
              clear hsh
              have HZ8 := hide (hal_var (unhide HY7) #[.int .i64 0, .int .i64 0, .bool false, .string ⟨#[]⟩, .slice a7 0 cap7] 34)
              clear HY7
              go_wp2_with fail
              generalize w7.alloc (.cells #[.int .i64 0, .int .i64 0, .bool false, .string ⟨#[]⟩, .slice a7 0 cap7] 34) = W8 at HZ8 ⊢
              generalize w7.heap.size = pe at HZ8 ⊢
              obtain ⟨u, hu⟩ : ∃ u, v = u := ⟨_, rfl⟩
              rw [hu] at HZ8
              have HU := hide (show wagg (shw h3.f h3.n h3.n 8) = wagg u by rw [unhide HSH, unhide HW, hu])
              clear hu
              obtain ⟨vb, tb, gb, sd, hsd, -, hl⟩ := hal_open (unhide HZ8)
              have HSD := hide hsd
              have HLD := hide (hl.kp0 (Kp.refl [] _).drew)
              clear hl hsd HZ8
              have c0 := (unhide HLD).c0
              have v0 := (unhide HLD).v0
              refine wp_region_held_drew (S := fun w' => w'.cell? ⟨hb, 0, none⟩ = some (.pointer (some ⟨vb, 0, none⟩)) ∧ w'.cell? ⟨vb, 0, none⟩ = some (.pointer (some ⟨tb, 0, none⟩))) (by kernel_rfl) ⟨c0, v0⟩ (fun hHeld => ?_)
              clear c0 v0
              generalize World.drew _ = WD at HLD hHeld ⊢
              refine wpAnyH_tk (i := 0) (v := ?_) rfl (by kernel_rfl) (by kernel_rfl) (by kernel_rfl) (fun _ _ _ h => h) (Or.inl ⟨by rfl, ?_⟩) hHeld ?_
              rotate_left
              · intro w hSw
                try dsimp only at hSw
                go_simp
                try with_reducible rfl
              try simp only [Act.put, List.setIfInBounds_toArray, List.set_cons_zero, List.set_cons_succ]
              refine wpAnyH_tk (i := 1) (v := ?_) rfl (by kernel_rfl) (by kernel_rfl) (by kernel_rfl) (fun _ _ _ h => h) (Or.inl ⟨by rfl, ?_⟩) hHeld ?_
              rotate_left
              · intro w hSw
                try dsimp only at hSw
                go_simp
                try with_reducible rfl
              try simp only [Act.put, List.setIfInBounds_toArray, List.set_cons_zero, List.set_cons_succ]
              refine wpAnyH_tk (i := 2) (v := ?_) rfl (by kernel_rfl) (by kernel_rfl) (by kernel_rfl) (fun _ _ _ h => h) (Or.inl ⟨by rfl, ?_⟩) hHeld ?_
              rotate_left
              · intro w hSw
                try dsimp only at hSw
                go_simp
                try with_reducible rfl
              try simp only [Act.put, List.setIfInBounds_toArray, List.set_cons_zero, List.set_cons_succ]
              refine wpAnyH_tk (i := 3) (v := ?_) rfl (by kernel_rfl) (by kernel_rfl) (by kernel_rfl) (fun _ _ _ h => h) (Or.inl ⟨by rfl, ?_⟩) hHeld ?_
              rotate_left
              · intro w hSw
                try dsimp only at hSw
                go_simp
                try with_reducible rfl
              try simp only [Act.put, List.setIfInBounds_toArray, List.set_cons_zero, List.set_cons_succ]
              refine wpAnyH_tk (i := 4) (v := ?_) rfl (by kernel_rfl) (by kernel_rfl) (by kernel_rfl) (fun _ _ _ h => h) (Or.inl ⟨by rfl, ?_⟩) hHeld ?_
              rotate_left
              · intro w hSw
                try dsimp only at hSw
                go_simp
                try with_reducible rfl
              try simp only [Act.put, List.setIfInBounds_toArray, List.set_cons_zero, List.set_cons_succ]
              refine wpAnyH_tk (i := 5) (v := ?_) rfl (by kernel_rfl) (by kernel_rfl) (by kernel_rfl) (fun _ _ _ h => h) (Or.inl ⟨by rfl, ?_⟩) hHeld ?_
              rotate_left
              · intro w hSw
                try dsimp only at hSw
                go_simp
                try with_reducible rfl
              try simp only [Act.put, List.setIfInBounds_toArray, List.set_cons_zero, List.set_cons_succ]
              refine wpAnyH_tk (i := 6) (v := ?_) rfl (by kernel_rfl) (by kernel_rfl) (by kernel_rfl) (fun _ _ _ h => h) (Or.inl ⟨by rfl, ?_⟩) hHeld ?_
              rotate_left
              · intro w hSw
                try dsimp only at hSw
                go_simp
                try with_reducible rfl
              try simp only [Act.put, List.setIfInBounds_toArray, List.set_cons_zero, List.set_cons_succ]
              refine wpAnyH_tk (i := 7) (v := ?_) rfl (by kernel_rfl) (by kernel_rfl) (by kernel_rfl) (fun _ _ _ h => h) (Or.inl ⟨by rfl, ?_⟩) hHeld ?_
              rotate_left
              · intro w hSw
                try dsimp only at hSw
                go_simp
                try with_reducible rfl
              try simp only [Act.put, List.setIfInBounds_toArray, List.set_cons_zero, List.set_cons_succ]
              refine wpAnyH_tk (i := 8) (v := ?_) rfl (by kernel_rfl) (by kernel_rfl) (by kernel_rfl) (fun _ _ _ h => h) (Or.inl ⟨by rfl, ?_⟩) hHeld ?_
              rotate_left
              · intro w hSw
                try dsimp only at hSw
                go_simp
                try with_reducible rfl
              try simp only [Act.put, List.setIfInBounds_toArray, List.set_cons_zero, List.set_cons_succ]
              refine wpAnyH_tk (i := 9) (v := ?_) rfl (by kernel_rfl) (by kernel_rfl) (by kernel_rfl) (fun _ _ _ h => h) (Or.inl ⟨by rfl, ?_⟩) hHeld ?_
              rotate_left
              · intro w hSw
                try dsimp only at hSw
                go_simp
                try with_reducible rfl
              try simp only [Act.put, List.setIfInBounds_toArray, List.set_cons_zero, List.set_cons_succ]
              refine wpAnyH_tk (i := 10) (v := ?_) rfl (by kernel_rfl) (by kernel_rfl) (by kernel_rfl) (fun _ _ _ h => h) (Or.inl ⟨by rfl, ?_⟩) hHeld ?_
              rotate_left
              · intro w hSw
                try dsimp only at hSw
                go_simp
                try with_reducible rfl
              try simp only [Act.put, List.setIfInBounds_toArray, List.set_cons_zero, List.set_cons_succ]
              refine wpAnyH_tk (i := 11) (v := ?_) rfl (by kernel_rfl) (by kernel_rfl) (by kernel_rfl) (fun _ _ _ h => h) (Or.inl ⟨by rfl, ?_⟩) hHeld ?_
              rotate_left
              · intro w hSw
                try dsimp only at hSw
                go_simp
                try with_reducible rfl
              try simp only [Act.put, List.setIfInBounds_toArray, List.set_cons_zero, List.set_cons_succ]
              refine wpAnyH_tk (i := 12) (v := ?_) rfl (by kernel_rfl) (by kernel_rfl) (by kernel_rfl) (fun _ _ _ h => h) (Or.inl ⟨by rfl, ?_⟩) hHeld ?_
              rotate_left
              · intro w hSw
                try dsimp only at hSw
                go_simp
                try with_reducible rfl
              try simp only [Act.put, List.setIfInBounds_toArray, List.set_cons_zero, List.set_cons_succ]
              refine wpAnyH_tk (i := 13) (v := ?_) rfl (by kernel_rfl) (by kernel_rfl) (by kernel_rfl) (fun _ _ _ h => h) (Or.inl ⟨by rfl, ?_⟩) hHeld ?_
              rotate_left
              · intro w hSw
                try dsimp only at hSw
                go_simp
                try with_reducible rfl
              try simp only [Act.put, List.setIfInBounds_toArray, List.set_cons_zero, List.set_cons_succ]
              refine wpAnyH_two (i := 14) (j := 19) rfl rfl (by kernel_rfl) (fun K hK => ?_) (fun K hK => ?_)
              · go_simp
                refine (h_last (unhide HLD)).mono ?_
                rintro e w' ⟨rfl, hw'⟩
                subst w'
                go_wp2_with fail
                refine hK.out _ _ (hHeld) (fun hHeld2 => ?_)
                clear hK K hHeld
                have hHeld := hHeld2
                clear hHeld2
                try simp only [Act.put, List.setIfInBounds_toArray, List.set_cons_zero, List.set_cons_succ]
                refine wpAnyH_two (i := 15) (j := 19) rfl rfl (by kernel_rfl) (fun K hK => ?_) (fun K hK => ?_)
                · go_simp
                  refine (h_sheet (shk_last' (unhide HI3)) u (unhide HU) (unhide HLD)).mono ?_
                  rintro e w11 ⟨rfl, HL11⟩
                  go_wp2_with fail
                  refine hK.out _ _ (⟨(unhide HL11).c0, (unhide HL11).v0⟩) (fun hHeld2 => ?_)
                  clear hK K hHeld
                  have hHeld := hHeld2
                  clear hHeld2
                  try simp only [Act.put, List.setIfInBounds_toArray, List.set_cons_zero, List.set_cons_succ]
                  refine wpAnyH_tk (i := 16) (v := ?_) rfl (by kernel_rfl) (by kernel_rfl) (by kernel_rfl) (fun _ _ _ h => h) (Or.inl ⟨by rfl, ?_⟩) hHeld ?_
                  rotate_left
                  · intro w hSw
                    try dsimp only at hSw
                    go_simp
                    try with_reducible rfl
                  try simp only [Act.put, List.setIfInBounds_toArray, List.set_cons_zero, List.set_cons_succ]
                  refine wpAnyH_tk (i := 17) (v := ?_) rfl (by kernel_rfl) (by kernel_rfl) (by kernel_rfl) (fun _ _ _ h => h) (Or.inl ⟨by rfl, ?_⟩) hHeld ?_
                  rotate_left
                  · intro w hSw
                    try dsimp only at hSw
                    go_simp
                    try with_reducible rfl
                  try simp only [Act.put, List.setIfInBounds_toArray, List.set_cons_zero, List.set_cons_succ]
                  refine wpAnyH_tk (i := 18) (v := ?_) rfl (by kernel_rfl) (by kernel_rfl) (by kernel_rfl) (fun _ _ _ h => h) (Or.inl ⟨by rfl, ?_⟩) hHeld ?_
                  rotate_left
                  · intro w hSw
                    try dsimp only at hSw
                    go_simp
                    try with_reducible rfl
                  try simp only [Act.put, List.setIfInBounds_toArray, List.set_cons_zero, List.set_cons_succ]
                  refine wpAnyH_only (i := 19) rfl (by kernel_rfl) (fun K hK => ?_)
                  go_simp
                  have HLA := hide ((unhide HL11).new (wagg (fun _ => dv)) 72)
                  have SS := And.intro (unhide HLA).c0 (unhide HLA).v0
                  rw [zeros_eq] at HLA SS
                  refine hK.out _ _ (⟨SS.1, SS.2⟩) (fun hHeld2 => ?_)
                  clear hK K hHeld
                  have hHeld := hHeld2
                  clear hHeld2
                  try simp only [Act.put, List.setIfInBounds_toArray, List.set_cons_zero, List.set_cons_succ]
                  clear SS
                  generalize hp3 : w11.heap.size = p3 at HLA ⊢
                  clear hp3
                  refine wpAnyH_only (i := 20) rfl (by kernel_rfl) (fun K hK => ?_)
                  rw [if_pos (by rfl)]
                  refine wp_store_row 72 _ _ rfl p3 (wagg u) rfl rfl 72 _ ((unhide HLA).var (List.Mem.head _)) Try.size72 rfl (wagg_one _) ?_
                  have HLE := hide (Hall.setr (c' := wagg u) (unhide HLA))
                  refine hK.out _ _ (⟨(unhide HLE).c0, (unhide HLE).v0⟩) (fun hHeld2 => ?_)
                  clear hK K hHeld
                  have hHeld := hHeld2
                  clear hHeld2
                  simp only [Act.put]
                  refine wpAnyH_tk (i := 21) (v := ?_) rfl (by kernel_rfl) (by kernel_rfl) (by kernel_rfl) (fun _ _ _ h => h) (Or.inl ⟨by rfl, ?_⟩) hHeld ?_
                  rotate_left
                  · intro w hSw
                    try dsimp only at hSw
                    go_simp
                    try with_reducible rfl
                  try simp only [Act.put, List.setIfInBounds_toArray, List.set_cons_zero, List.set_cons_succ]
                  refine wpAnyH_done (by kernel_rfl) ?_ _
                  clear hHeld
                  have A1 := hide ((unhide HLE).var (List.Mem.head _))
                  have A2 := hide ((unhide HLE).var (p := p) (List.Mem.tail _ (List.Mem.tail _ (List.Mem.tail _ (List.Mem.head _)))))
                  have heq := eq66 u
                  generalize World.setRow _ _ _ = W12 at HLE A1 A2 ⊢
                  go_wp2_with (first | (refine wpList_load66 (by rfl) _ rfl p3 rfl u (unhide A1) ?_) | (refine wpList_load66 (by rfl) _ rfl p rfl u (unhide A2) ?_))
                  exact ⟨⟨k + 1, by omega, by go_num, h3, u, hal_drop (hal_drop (hal_drop (hal_close (unhide HSD) (unhide HI3) (unhide HLE)))), unhide HI3, unhide HN3, unhide HU⟩, by simp [intOf]; omega⟩
                · go_simp
                  have HLA := hide ((unhide HLD).new (wagg (fun _ => dv)) 72)
                  have SS := And.intro (unhide HLA).c0 (unhide HLA).v0
                  rw [zeros_eq] at HLA SS
                  refine hK.out _ _ (⟨SS.1, SS.2⟩) (fun hHeld2 => ?_)
                  clear hK K hHeld
                  have hHeld := hHeld2
                  clear hHeld2
                  try simp only [Act.put, List.setIfInBounds_toArray, List.set_cons_zero, List.set_cons_succ]
                  clear SS
                  generalize hp3 : WD.heap.size = p3 at HLA ⊢
                  clear hp3
                  refine wpAnyH_only (i := 15) rfl (by kernel_rfl) (fun K hK => ?_)
                  go_simp
                  refine (h_sheet (shk_last' (unhide HI3)) u (unhide HU) (unhide HLA)).mono ?_
                  rintro e w11 ⟨rfl, HL11⟩
                  go_wp2_with fail
                  refine hK.out _ _ (⟨(unhide HL11).c0, (unhide HL11).v0⟩) (fun hHeld2 => ?_)
                  clear hK K hHeld
                  have hHeld := hHeld2
                  clear hHeld2
                  try simp only [Act.put, List.setIfInBounds_toArray, List.set_cons_zero, List.set_cons_succ]
                  refine wpAnyH_tk (i := 16) (v := ?_) rfl (by kernel_rfl) (by kernel_rfl) (by kernel_rfl) (fun _ _ _ h => h) (Or.inl ⟨by rfl, ?_⟩) hHeld ?_
                  rotate_left
                  · intro w hSw
                    try dsimp only at hSw
                    go_simp
                    try with_reducible rfl
                  try simp only [Act.put, List.setIfInBounds_toArray, List.set_cons_zero, List.set_cons_succ]
                  refine wpAnyH_tk (i := 17) (v := ?_) rfl (by kernel_rfl) (by kernel_rfl) (by kernel_rfl) (fun _ _ _ h => h) (Or.inl ⟨by rfl, ?_⟩) hHeld ?_
                  rotate_left
                  · intro w hSw
                    try dsimp only at hSw
                    go_simp
                    try with_reducible rfl
                  try simp only [Act.put, List.setIfInBounds_toArray, List.set_cons_zero, List.set_cons_succ]
                  refine wpAnyH_tk (i := 18) (v := ?_) rfl (by kernel_rfl) (by kernel_rfl) (by kernel_rfl) (fun _ _ _ h => h) (Or.inl ⟨by rfl, ?_⟩) hHeld ?_
                  rotate_left
                  · intro w hSw
                    try dsimp only at hSw
                    go_simp
                    try with_reducible rfl
                  try simp only [Act.put, List.setIfInBounds_toArray, List.set_cons_zero, List.set_cons_succ]
                  refine wpAnyH_only (i := 20) rfl (by kernel_rfl) (fun K hK => ?_)
                  rw [if_pos (by rfl)]
                  refine wp_store_row 72 _ _ rfl p3 (wagg u) rfl rfl 72 _ ((unhide HL11).var (List.Mem.head _)) Try.size72 rfl (wagg_one _) ?_
                  have HLE := hide (Hall.setr (c' := wagg u) (unhide HL11))
                  refine hK.out _ _ (⟨(unhide HLE).c0, (unhide HLE).v0⟩) (fun hHeld2 => ?_)
                  clear hK K hHeld
                  have hHeld := hHeld2
                  clear hHeld2
                  simp only [Act.put]
                  refine wpAnyH_tk (i := 21) (v := ?_) rfl (by kernel_rfl) (by kernel_rfl) (by kernel_rfl) (fun _ _ _ h => h) (Or.inl ⟨by rfl, ?_⟩) hHeld ?_
                  rotate_left
                  · intro w hSw
                    try dsimp only at hSw
                    go_simp
                    try with_reducible rfl
                  try simp only [Act.put, List.setIfInBounds_toArray, List.set_cons_zero, List.set_cons_succ]
                  refine wpAnyH_done (by kernel_rfl) ?_ _
                  clear hHeld
                  have A1 := hide ((unhide HLE).var (List.Mem.head _))
                  have A2 := hide ((unhide HLE).var (p := p) (List.Mem.tail _ (List.Mem.tail _ (List.Mem.tail _ (List.Mem.head _)))))
                  have heq := eq66 u
                  generalize World.setRow _ _ _ = W12 at HLE A1 A2 ⊢
                  go_wp2_with (first | (refine wpList_load66 (by rfl) _ rfl p3 rfl u (unhide A1) ?_) | (refine wpList_load66 (by rfl) _ rfl p rfl u (unhide A2) ?_))
                  exact ⟨⟨k + 1, by omega, by go_num, h3, u, hal_drop (hal_drop (hal_drop (hal_close (unhide HSD) (unhide HI3) (unhide HLE)))), unhide HI3, unhide HN3, unhide HU⟩, by simp [intOf]; omega⟩
              · go_simp
                have HLA := hide ((unhide HLD).new (wagg (fun _ => dv)) 72)
                have SS := And.intro (unhide HLA).c0 (unhide HLA).v0
                rw [zeros_eq] at HLA SS
                refine hK.out _ _ (⟨SS.1, SS.2⟩) (fun hHeld2 => ?_)
                clear hK K hHeld
                have hHeld := hHeld2
                clear hHeld2
                try simp only [Act.put, List.setIfInBounds_toArray, List.set_cons_zero, List.set_cons_succ]
                clear SS
                generalize hp3 : WD.heap.size = p3 at HLA ⊢
                clear hp3
                refine wpAnyH_only (i := 14) rfl (by kernel_rfl) (fun K hK => ?_)
                go_simp
                refine (h_last (unhide HLA)).mono ?_
                rintro e w' ⟨rfl, hw'⟩
                subst w'
                go_wp2_with fail
                refine hK.out _ _ (hHeld) (fun hHeld2 => ?_)
                clear hK K hHeld
                have hHeld := hHeld2
                clear hHeld2
                try simp only [Act.put, List.setIfInBounds_toArray, List.set_cons_zero, List.set_cons_succ]
                refine wpAnyH_only (i := 15) rfl (by kernel_rfl) (fun K hK => ?_)
                go_simp
                refine (h_sheet (shk_last' (unhide HI3)) u (unhide HU) (unhide HLA)).mono ?_
                rintro e w11 ⟨rfl, HL11⟩
                go_wp2_with fail
                refine hK.out _ _ (⟨(unhide HL11).c0, (unhide HL11).v0⟩) (fun hHeld2 => ?_)
                clear hK K hHeld
                have hHeld := hHeld2
                clear hHeld2
                try simp only [Act.put, List.setIfInBounds_toArray, List.set_cons_zero, List.set_cons_succ]
                refine wpAnyH_tk (i := 16) (v := ?_) rfl (by kernel_rfl) (by kernel_rfl) (by kernel_rfl) (fun _ _ _ h => h) (Or.inl ⟨by rfl, ?_⟩) hHeld ?_
                rotate_left
                · intro w hSw
                  try dsimp only at hSw
                  go_simp
                  try with_reducible rfl
                try simp only [Act.put, List.setIfInBounds_toArray, List.set_cons_zero, List.set_cons_succ]
                refine wpAnyH_tk (i := 17) (v := ?_) rfl (by kernel_rfl) (by kernel_rfl) (by kernel_rfl) (fun _ _ _ h => h) (Or.inl ⟨by rfl, ?_⟩) hHeld ?_
                rotate_left
                · intro w hSw
                  try dsimp only at hSw
                  go_simp
                  try with_reducible rfl
                try simp only [Act.put, List.setIfInBounds_toArray, List.set_cons_zero, List.set_cons_succ]
                refine wpAnyH_tk (i := 18) (v := ?_) rfl (by kernel_rfl) (by kernel_rfl) (by kernel_rfl) (fun _ _ _ h => h) (Or.inl ⟨by rfl, ?_⟩) hHeld ?_
                rotate_left
                · intro w hSw
                  try dsimp only at hSw
                  go_simp
                  try with_reducible rfl
                try simp only [Act.put, List.setIfInBounds_toArray, List.set_cons_zero, List.set_cons_succ]
                refine wpAnyH_only (i := 20) rfl (by kernel_rfl) (fun K hK => ?_)
                rw [if_pos (by rfl)]
                refine wp_store_row 72 _ _ rfl p3 (wagg u) rfl rfl 72 _ ((unhide HL11).var (List.Mem.head _)) Try.size72 rfl (wagg_one _) ?_
                have HLE := hide (Hall.setr (c' := wagg u) (unhide HL11))
                refine hK.out _ _ (⟨(unhide HLE).c0, (unhide HLE).v0⟩) (fun hHeld2 => ?_)
                clear hK K hHeld
                have hHeld := hHeld2
                clear hHeld2
                simp only [Act.put]
                refine wpAnyH_tk (i := 21) (v := ?_) rfl (by kernel_rfl) (by kernel_rfl) (by kernel_rfl) (fun _ _ _ h => h) (Or.inl ⟨by rfl, ?_⟩) hHeld ?_
                rotate_left
                · intro w hSw
                  try dsimp only at hSw
                  go_simp
                  try with_reducible rfl
                try simp only [Act.put, List.setIfInBounds_toArray, List.set_cons_zero, List.set_cons_succ]
                refine wpAnyH_done (by kernel_rfl) ?_ _
                clear hHeld
                have A1 := hide ((unhide HLE).var (List.Mem.head _))
                have A2 := hide ((unhide HLE).var (p := p) (List.Mem.tail _ (List.Mem.tail _ (List.Mem.tail _ (List.Mem.head _)))))
                have heq := eq66 u
                generalize World.setRow _ _ _ = W12 at HLE A1 A2 ⊢
                go_wp2_with (first | (refine wpList_load66 (by rfl) _ rfl p3 rfl u (unhide A1) ?_) | (refine wpList_load66 (by rfl) _ rfl p rfl u (unhide A2) ?_))
                exact ⟨⟨k + 1, by omega, by go_num, h3, u, hal_drop (hal_drop (hal_drop (hal_close (unhide HSD) (unhide HI3) (unhide HLE)))), unhide HI3, unhide HN3, unhide HU⟩, by simp [intOf]; omega⟩
          · have k4b : (xd == 4) = false := beq_eq_false_iff_ne.2 k4
            have k3c : (xd != 3) = true := by simpa using k3
            have k4c : (xd != 4) = true := by simpa using k4
            have k8c : (xd != 8) = true := by simpa using k8
            go_wp2_with fail
            exact ⟨⟨k + 1, by omega, by go_num, h, v, hal_drop (unhide HZ4), (unhide HA).2⟩, by simp [intOf]; omega⟩
    · have i1 : ¬ (k : Int) < (n1 : Int) := by omega
      go_wp2_with fail
      go_ret
      exact ⟨by trivial, ((unhide HK1).trans0 (unhide HA).1.kp).below (Nat.le_refl _) (by simp)⟩
end Go.Proofs.Ytehhpmfeaeabgac
