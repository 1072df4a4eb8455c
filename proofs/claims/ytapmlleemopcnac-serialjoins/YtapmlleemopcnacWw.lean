/- SerialWorld, walked. -/
import Derived.Test.YtapmlleemopcnacM10
import Derived.BigQuiet
namespace Go.Proofs.Ytapmlleemopcnac
open Go.RowKit Srt
set_option maxRecDepth 20000
attribute [local go_sem ↓] Go.wp_at_zero Go.wp_at_succ

theorem cmw_snoc (v : Nat → Ver) (l : List Dn) (d : Dn) : cmw v (l ++ [d]) = rpw (cmw v l) d.acts := by
  induction l generalizing v with
  | nil => rfl
  | cons x l ih => exact ih _
theorem kf_step {ds : List Dn} {i : Nat} {d : Dn} (h : ds[i]? = some d) (k : Int) : kf Dn.n k (ds.take (i + 1)) = if d.n = k then kf Dn.n k (ds.take i) ++ [d] else kf Dn.n k (ds.take i) := by
  rw [List.take_add_one, h, kf_app]
  by_cases e : d.n = k
  · simp [kf, e]
  · simp [kf, e]
theorem wagg_sm {v u : Nat → Ver} (h : Sm v u) : wagg v = wagg u := by
  simp only [wagg, (h 0 (by omega)).1, (h 0 (by omega)).2, (h 1 (by omega)).1, (h 1 (by omega)).2, (h 2 (by omega)).1, (h 2 (by omega)).2, (h 3 (by omega)).1, (h 3 (by omega)).2, (h 4 (by omega)).1, (h 4 (by omega)).2, (h 5 (by omega)).1, (h 5 (by omega)).2, (h 6 (by omega)).1, (h 6 (by omega)).2, (h 7 (by omega)).1, (h 7 (by omega)).2]
theorem DI.len {cs : List (List Ver)} {ds : List Dn} (h : DI cs ds) : cs.length ≤ ds.length := by
  have h1 := congrArg List.length h.num
  simp only [List.length_map, List.length_range'] at h1
  rw [← h1]
  exact List.length_filter_le _ _
theorem nrun_bkb : ∀ (l : List HStep) (h : HSt) (b : Bk) (i : Nat), BkB i b → BkB (i + l.length) (nrun h b l).2 := by
  intro l
  induction l with
  | nil => intro h b i hb; exact hb
  | cons x l ih =>
    intro h b i hb
    have := ih (hdo h x) (bnote b x (hev h x) h.n) (i + 1) (hb.step x (hev h x) h.n (hev_len h x))
    rw [List.length_cons, show i + (l.length + 1) = i + 1 + l.length by omega]
    exact this
theorem ntd_ok (l : List HStep) (hl : l.length ≤ 1000) : DnsOk (ntd l) := (nrun_bkb l hst0 bk0 0 bkb_new).ok (by omega)
theorem hstl_len (st : Nat → HStep) (n : Nat) : (hstl st n).length = n := by simp [hstl]
theorem vlt_sheet {w0 w : World} {vb tb gb : Nat} {f : Nat → List Ver} {n : Nat} {cs : List (List Ver)} {r : List Thing} {y : Int} (hk : ShK f n y 8) (v : Nat → Ver) (hv : wagg (shw f n y 8) = wagg v) (hz : Zoo w0 w (VltT vb tb gb f n cs [] :: r)) :
    Calls Try.prog 37 #[.pointer (some ⟨tb, 0, none⟩), .int .i64 y] w fun e w' => e = .returned (.tuple #[.agg (wagg v), .bool true]) ∧ Kp [] w w' := by
  obtain ⟨F1, ⟨Ft, Fg, k1⟩, _⟩ := zoo_at0 hz
  refine (sheet44 y w k1.t).mono ?_
  rintro e w' ⟨k, h1, rfl, h2⟩
  have e8 := h1.uniq hk
  subst e8
  exact ⟨by rw [hv]; simp, h2⟩
theorem wpList_load97 {ops : Array Oper} {rest : List Oper} {o : Oper} {a : Act} {w : World} {Q : Exit → Act → World → Prop} (hw : Region.wanted o (yielded ops a.tmps) = true) (x : Operand) (ho : o.op = .load 97 x)
    (g : Nat) (hx : a.eval x = .pointer (some ⟨g, 0, none⟩)) (v : Nat → Ver) (hg : w.heap[g]? = some (.cells (wagg v) 97 (0, 0))) (h : wpList Try.prog ops Q rest (a.put o.dst (.agg (wagg v))) w) : wpList Try.prog ops Q (o :: rest) a w :=
  wpList_step fun K hK => by
    rw [if_pos hw]
    exact wp_load_row 97 x ho g hx 97 (wagg v) (0, 0) _ hg Try.underlying97 rfl Try.size97 (hK _ _ h)
def wrt (x : Ac) : Bool := decide (x.kd = 3) || decide (x.kd = 4)
theorem any_step {l : List Ac} {k : Nat} {x : Ac} (h : l[k]? = some x) : (l.take (k + 1)).any wrt = ((l.take k).any wrt || wrt x) := by
  rw [List.take_add_one, h, List.any_append]
  simp
theorem c2_kp {w w' : World} {p0 p1 : Addr} {x0 x1 : Value} (h : w.cell? p0 = some x0 ∧ w.cell? p1 = some x1) (hk : Kp [] w w') : w'.cell? p0 = some x0 ∧ w'.cell? p1 = some x1 := ⟨hk.cell (by simp) h.1, hk.cell (by simp) h.2⟩
set_option maxHeartbeats 8000000 in
theorem sworld11 (a : Option Addr) (n1 c : Nat) (st : Nat → HStep) (w : World) (h : HSts w a n1 st) :
    Calls Try.prog 11 #[.slice a n1 c] w fun e w' => e = .returned (.bool true) ∧ Below w.heap.size w w' := by
  have HS := hide h
  clear h
  go_enter Try.func11, Try.ntmps11
  go_wp2_with fail
  refine (sbegun w).mono ?_
  rintro e w1 ⟨rfl, hk1⟩
  have HK1 := hide hk1
  clear hk1
  go_wp2_with fail
  refine (gsteps a n1 c st w1 ((unhide HS).kp0 (unhide HK1))).mono ?_
  rintro e w' ⟨q, rfl, hq, hw'⟩
  subst w'
  cases q with
  | true =>
    clear hq
    go_wp2_with fail
    go_ret
    exact ⟨rfl, (unhide HK1).below (Nat.le_refl _) (by simp)⟩
  | false =>
  have h200 := hq rfl
  clear hq
  go_wp2_with fail
  refine (h_new w1).mono ?_
  rintro e w2 ⟨hb, rfl, F, hh, hk⟩
  have HZ0 : Hid (Zoo w1 w2 [HalT hb hs0]) := (zoo_nil (Kp.refl [] w1)).cons hh hk
  clear hh hk
  go_wp2_with fail
  go_loopw [4] (fun i wr => ∃ k : Nat, k ≤ n1 ∧ i = .int .i64 k ∧ ∃ h b, Hid (nrun hst0 bk0 (hstl st k) = (h, b)) ∧ Hid (Zoo w1 wr [HalT hb h])) (fun i _ => n1 - (intOf i).toNat)
  case atStart => exact ⟨0, by omega, rfl, _, _, rfl, HZ0⟩
  case round =>
    obtain ⟨k, hk, rfl, h, b, HR, HI⟩ := hrel
    by_cases hlt : k < n1
    · obtain ⟨lb', lo, rfl, hst⟩ := (unhide HS).2 (by omega)
      obtain ⟨q0, q1, q2, q3, q4, q5, q6, q7, hsz⟩ := (hst k hlt).kp0 ((unhide HK1).trans0 (unhide HI).kp)
      have i0 : (0 : Int) ≤ (k : Int) := by omega
      have i1 : (k : Int) < (n1 : Int) := by omega
      have HR2 : Hid (nrun hst0 bk0 (hstl st (k + 1)) = (hdo h (st k), bnote b (st k) (hev h (st k)) h.n)) := by
        rw [hstl_succ, nrun_app, unhide HR]
        rfl
      clear hst HR
      generalize (st k) = x at *
      have HD := hide (hal_do x hsz (unhide HI))
      obtain ⟨xd, xs, xm, xa, xk, xt, xp, xb⟩ := x
      dsimp only at q0 q1 q2 q3 q4 q5 q6 q7
      go_wp2_with fail
      refine (unhide HD).mono ?_
      rintro e w4 ⟨a4, cap4, rfl, HY⟩
      clear q0 q1 q2 q3 q4 q5 q6 q7 HD
      go_wp2_with fail
      exact ⟨⟨k + 1, by omega, by go_num, _, _, unhide HR2, hal_drop (unhide HY)⟩, by simp [intOf]; omega⟩
    · have i1 : ¬ (k : Int) < (n1 : Int) := by omega
      have e1 : k = n1 := by omega
      have HDI : Hid (DI h.cs (ntd (hstl st n1)) ∧ HInv h ∧ DnsOk (ntd (hstl st n1))) := by
        have r := unhide HR
        rw [e1] at r
        have d1 := ntd_di (hstl st n1)
        have d2 := (ni_new.run (hstl st n1)).hi
        rw [r] at d1 d2
        exact ⟨d1, d2, ntd_ok _ (by rw [hstl_len]; omega)⟩
      have HNT := hide (fun cc => noted a n1 cc st wr ((unhide HS).kp0 ((unhide HK1).trans0 (unhide HI).kp)) (by omega))
      clear e1 HR
      obtain ⟨ds, hds⟩ : ∃ ds, ntd (hstl st n1) = ds := ⟨_, rfl⟩
      rw [hds] at HDI HNT
      clear hds
      go_wp2_with fail
      refine (unhide HNT _).mono ?_
      rintro e w2 ⟨aD, cD, rfl, hd, hk2⟩
      have HD := hide hd
      have HH := hide ((unhide HI).kp0 hk2)
      clear hd hk2 HI HNT
      obtain ⟨m, hm⟩ : ∃ m, ds.length = m := ⟨_, rfl⟩
      rw [hm]
      have HM := hide hm
      have hm1 : m ≤ 1000 := by rw [← hm]; exact (unhide HDI).2.2.1
      clear hm
      obtain ⟨vb, tb, gb, sd, hsd, hi, hl⟩ := hal_open (unhide HH)
      have HC2 := hide (And.intro hl.c0 hl.v0)
      obtain ⟨vS, hvS⟩ : ∃ vS, shw h.f h.n h.n 8 = vS := ⟨_, rfl⟩
      have HLST := hide (fun W (hk : Kp [] w2 W) => h_last (hl.kp0 hk))
      have HSH := hide (fun W (hk : Kp [] w2 W) => vlt_sheet (shk_last' hi) vS (by rw [hvS]) (hl.kp0 hk).vlt)
      have HSM : Hid (Sm vS (wc h.cs)) := by
        have q := wc_shw hi (y := h.n) (fmx_le hi.inv 8 (Nat.le_refl _)).2 (Nat.le_refl _)
        rw [hvS, hi.vi.len, List.take_length] at q
        exact q
      have hNc : h.n = h.cs.length := hi.vi.len
      obtain ⟨N, hN⟩ : ∃ N, h.n = N := ⟨_, rfl⟩
      rw [hN] at HLST HSH hNc
      have hN1 : N ≤ 1000 := by have := (unhide HDI).1.len; have := unhide HM; omega
      have HN := hide hNc
      have HB2 := hide ((unhide HK1).trans0 (unhide HH).kp)
      clear hsd hi hl hvS hN hNc
      have HZ0 := hide ((zoo_nil (Kp.refl [] w2)).box (wagg (fun _ => dv)) 97)
      rw [zeros_eq] at HZ0
      go_wp2_with fail
      generalize w2.heap.size = p6 at *
      go_loopw [7, 8, 9] (fun y _ _ wr => ∃ j : Nat, 1 ≤ j ∧ j ≤ N + 1 ∧ y = .int .i64 j ∧ Hid (∃ v, Zoo w2 wr [BoxT p6 (wagg v) 97] ∧ Sm v (wc (h.cs.take (j - 1))))) (fun y _ _ _ => N + 1 - (intOf y).toNat)
      case atStart => exact ⟨1, Nat.le_refl _, by omega, rfl, fun _ => dv, unhide HZ0, Sm.refl _⟩
      case round =>
        obtain ⟨j, hj1, hj2, rfl, HI⟩ := hrel
        obtain ⟨v, hz, hv⟩ := unhide HI
        have HZ := hide hz
        have HV := hide hv
        clear hz hv HI HZ0
        obtain ⟨c0, v0⟩ := c2_kp (unhide HC2) (unhide HZ).kp
        by_cases hle : j ≤ N
        · have i1 : (j : Int) ≤ (N : Int) := by omega
          have HW : Hid (Sm (cmw v (kf Dn.n (j : Int) ds)) (wc (h.cs.take j)) ∧ (kf Dn.n (j : Int) ds).length = 1) := by
            have q := (unhide HDI).1.world (n := j - 1) (by rw [← unhide HN]; omega) (unhide HV)
            rw [show ((j - 1 : Nat) : Int) + 1 = (j : Int) by omega, show j - 1 + 1 = j by omega] at q
            exact ⟨q.2.1, q.2.2⟩
          clear HV
          go_wp2_with fail
          refine (unhide HLST _ (unhide HZ).kp).mono ?_
          rintro e w5 ⟨rfl, hw5⟩
          subst w5
          clear c0 v0
          go_wp2_with fail
          go_loopw [8, 9] (fun x y wr => ∃ i q : Nat, i ≤ m ∧ q ≤ i ∧ x = .int .i64 q ∧ y = .int .i64 i ∧ Hid (∃ u, Zoo w2 wr [BoxT p6 (wagg u) 97] ∧ q = (kf Dn.n (j : Int) (ds.take i)).length ∧ u = cmw v (kf Dn.n (j : Int) (ds.take i)))) (fun _ y _ => m - (intOf y).toNat)
          case atStart => exact ⟨0, 0, Nat.zero_le _, Nat.le_refl _, rfl, rfl, v, unhide HZ, by simp [kf], by simp [kf, cmw]⟩
          case round =>
            obtain ⟨i, q, hi, hq, rfl, rfl, HI⟩ := hrel
            obtain ⟨u, hz, hq2, hu2⟩ := unhide HI
            have HZ2 := hide hz
            have HQ := hide (And.intro hq2 hu2)
            clear hz hq2 hu2 HI
            by_cases hlt2 : i < m
            · have j1 : (i : Int) < (m : Int) := by omega
              have j0 : (0 : Int) ≤ (i : Int) := by omega
              have hln : i < ds.length := by have := unhide HM; omega
              obtain ⟨g, o, rfl, hbd⟩ := (unhide HD) (by omega)
              obtain ⟨x, hx⟩ : ∃ x, ds[i]? = some x := ⟨_, List.getElem?_eq_getElem hln⟩
              have HKF := hide (kf_step hx (j : Int))
              have hok := (unhide HDI).2.2.2 x (List.mem_of_getElem? hx)
              have hat := hbd i x hx
              obtain ⟨la, lc, z3, hls⟩ := hat.ls
              have q0 := (unhide HZ2).kp.cell (by simp) hat.c0
              have HLS := hide hls
              clear hbd hx hls hat
              obtain ⟨xn, xa, xm, xacts⟩ := x
              dsimp only at q0 z3 HLS hok HKF
              have HOK := hide hok
              clear hok
              obtain ⟨ln, hlen⟩ : ∃ ln, xacts.length = ln := ⟨_, rfl⟩
              rw [hlen] at z3
              have HLX := hide hlen
              clear hlen
              by_cases he : xn = (j : Int)
              · have HZ3 : Hid (w2.cell? ⟨g, o + i * 4 + 3, none⟩ = some (.slice la ln lc)) := z3
                clear z3
                go_wp2_with fail
                refine wp_region_held_drew (S := fun w' => w'.cell? ⟨g, o + i * 4 + 3, none⟩ = some (.slice la ln lc)) (by kernel_rfl) (((unhide HZ2).kp.drew).cell (by simp) (unhide HZ3)) (fun hHeld => ?_)
                have HZD := hide ((unhide HZ2).kp0 ((Kp.refl [] wr).drew))
                generalize World.drew _ = WD at HZD hHeld ⊢
                refine wpAnyH_tk (i := 1) (v := ?_) rfl (by kernel_rfl) (by kernel_rfl) (by kernel_rfl) (fun _ _ _ h => h) (Or.inl ⟨by rfl, ?_⟩) hHeld ?_
                rotate_left
                · intro w hSw
                  try dsimp only at hSw
                  go_simp
                  try with_reducible rfl
                try simp only [Act.put, List.setIfInBounds_toArray, List.set_cons_zero, List.set_cons_succ]
                refine wpAnyH_tk (i := 2) (v := ?_) rfl (by kernel_rfl) (by kernel_rfl) (by kernel_rfl) (fun _ _ _ h => h) (Or.inl ⟨by rfl, ?_⟩) hHeld ?_
                rotate_left
                · intro w hSw
                  try dsimp only at hSw
                  go_simp
                  try with_reducible rfl
                try simp only [Act.put, List.setIfInBounds_toArray, List.set_cons_zero, List.set_cons_succ]
                refine wpAnyH_tk (i := 3) (v := ?_) rfl (by kernel_rfl) (by kernel_rfl) (by kernel_rfl) (fun _ _ _ h => h) (Or.inl ⟨by rfl, ?_⟩) hHeld ?_
                rotate_left
                · intro w hSw
                  try dsimp only at hSw
                  go_simp
                  try with_reducible rfl
                try simp only [Act.put, List.setIfInBounds_toArray, List.set_cons_zero, List.set_cons_succ]
                refine wpAnyH_tk (i := 4) (v := ?_) rfl (by kernel_rfl) (by kernel_rfl) (by kernel_rfl) (fun _ _ _ h => h) (Or.inl ⟨by rfl, ?_⟩) hHeld ?_
                rotate_left
                · intro w hSw
                  try dsimp only at hSw
                  go_simp
                  try with_reducible rfl
                try simp only [Act.put, List.setIfInBounds_toArray, List.set_cons_zero, List.set_cons_succ]
                refine wpAnyH_tk (i := 5) (v := ?_) rfl (by kernel_rfl) (by kernel_rfl) (by kernel_rfl) (fun _ _ _ h => h) (Or.inl ⟨by rfl, ?_⟩) hHeld ?_
                rotate_left
                · intro w hSw
                  try dsimp only at hSw
                  go_simp
                  try with_reducible rfl
                try simp only [Act.put, List.setIfInBounds_toArray, List.set_cons_zero, List.set_cons_succ]
                refine wpAnyH_only (i := 0) rfl (by kernel_rfl) (fun K hK => ?_)
                rw [if_pos (by rfl)]
                refine wp_load_row 97 _ rfl p6 rfl 97 (wagg u) (0, 0) _ (zoo_varm (unhide HZD) (List.Mem.head _)) Try.underlying97 rfl Try.size97 ?_
                refine hK.out _ _ ((unhide HZD).kp.cell (by simp) (unhide HZ3)) (fun hHeld2 => ?_)
                clear hK K hHeld
                have hHeld := hHeld2
                clear hHeld2
                try simp only [Act.put, List.setIfInBounds_toArray, List.set_cons_zero, List.set_cons_succ]
                refine wpAnyH_only (i := 6) rfl (by kernel_rfl) (fun K hK => ?_)
                go_simp
                rw [← unhide HLX]
                refine (replay u la lc xacts _ ((unhide HLS).kp0 (unhide HZD).kp) (unhide HOK)).mono ?_
                rintro e w6 ⟨rfl, hk6⟩
                rw [unhide HLX]
                have HZE := hide ((unhide HZD).kp0 hk6)
                clear hk6 HZD
                go_wp2_with fail
                refine hK.out _ _ ((unhide HZE).kp.cell (by simp) (unhide HZ3)) (fun hHeld2 => ?_)
                clear hK K hHeld
                have hHeld := hHeld2
                clear hHeld2
                try simp only [Act.put, List.setIfInBounds_toArray, List.set_cons_zero, List.set_cons_succ]
                refine wpAnyH_tk (i := 7) (v := ?_) rfl (by kernel_rfl) (by kernel_rfl) (by kernel_rfl) (fun _ _ _ h => h) (Or.inl ⟨by rfl, ?_⟩) hHeld ?_
                rotate_left
                · intro w hSw
                  try dsimp only at hSw
                  go_simp
                  try with_reducible rfl
                try simp only [Act.put, List.setIfInBounds_toArray, List.set_cons_zero, List.set_cons_succ]
                refine wpAnyH_tk (i := 8) (v := ?_) rfl (by kernel_rfl) (by kernel_rfl) (by kernel_rfl) (fun _ _ _ h => h) (Or.inl ⟨by rfl, ?_⟩) hHeld ?_
                rotate_left
                · intro w hSw
                  try dsimp only at hSw
                  go_simp
                  try with_reducible rfl
                try simp only [Act.put, List.setIfInBounds_toArray, List.set_cons_zero, List.set_cons_succ]
                refine wpAnyH_tk (i := 9) (v := ?_) rfl (by kernel_rfl) (by kernel_rfl) (by kernel_rfl) (fun _ _ _ h => h) (Or.inl ⟨by rfl, ?_⟩) hHeld ?_
                rotate_left
                · intro w hSw
                  try dsimp only at hSw
                  go_simp
                  try with_reducible rfl
                try simp only [Act.put, List.setIfInBounds_toArray, List.set_cons_zero, List.set_cons_succ]
                refine wpAnyH_only (i := 10) rfl (by kernel_rfl) (fun K hK => ?_)
                rw [if_pos (by rfl)]
                refine wp_store_row 97 _ _ rfl p6 (wagg (rpw u xacts)) rfl rfl 97 _ (zoo_varm (unhide HZE) (List.Mem.head _)) Try.size97 rfl (wagg_one _) ?_
                have HZF := hide (zoo_setrL (l1 := []) (c' := wagg (rpw u xacts)) (unhide HZE))
                refine hK.out _ _ ((unhide HZF).kp.cell (by simp) (unhide HZ3)) (fun hHeld2 => ?_)
                clear hK K hHeld
                have hHeld := hHeld2
                clear hHeld2
                simp only [Act.put]
                refine wpAnyH_done (by kernel_rfl) ?_ _
                clear hHeld HZE
                generalize World.setRow _ _ _ = W7 at HZF ⊢
                go_wp2_with fail
                refine ⟨⟨i + 1, q + 1, by omega, by omega, by go_num, by go_num, rpw u xacts, unhide HZF, ?_, ?_⟩, by simp [intOf]; omega⟩
                · rw [unhide HKF, if_pos he, List.length_append, ← (unhide HQ).1]; rfl
                · rw [unhide HKF, if_pos he, cmw_snoc, ← (unhide HQ).2]
              · go_wp2_with fail
                refine ⟨⟨i + 1, q, by omega, by omega, rfl, by go_num, u, unhide HZ2, ?_, ?_⟩, by simp [intOf]; omega⟩
                · rw [unhide HKF, if_neg he]; exact (unhide HQ).1
                · rw [unhide HKF, if_neg he]; exact (unhide HQ).2
            · have j1 : ¬ (i : Int) < (m : Int) := by omega
              have hqq := unhide HQ
              rw [List.take_of_length_le (by have := unhide HM; omega), (unhide HW).2] at hqq
              have hq1 : (q : Int) = 1 := by have := hqq.1; omega
              have HU := hide hqq.2
              clear hqq
              go_wp2_with fail
              refine ⟨⟨j + 1, by omega, by omega, by go_num, u, unhide HZ2, ?_⟩, by simp [intOf]; omega⟩
              rw [unhide HU, show j + 1 - 1 = j by omega]
              exact (unhide HW).1
        · have i1 : ¬ (j : Int) ≤ (N : Int) := by omega
          have HVS : Hid (wagg v = wagg vS) := by
            have q := unhide HV
            rw [List.take_of_length_le (by have := unhide HN; omega)] at q
            exact wagg_sm (q.trans (unhide HSM).symm)
          rw [unhide HVS] at HZ
          clear HV HVS
          go_wp2_with fail
          refine (unhide HLST _ (unhide HZ).kp).mono ?_
          rintro e w5 ⟨rfl, hw5⟩
          subst w5
          clear c0 v0
          go_wp2_with fail
          go_loopw [10, 11, 12] (fun y _ _ wr => ∃ i : Nat, i ≤ m ∧ y = .int .i64 i ∧ Hid (Zoo w2 wr [BoxT p6 (wagg vS) 97])) (fun y _ _ _ => m - (intOf y).toNat)
          case atStart => exact ⟨0, Nat.zero_le _, rfl, unhide HZ⟩
          case round =>
            obtain ⟨i, hi, rfl, HZ2⟩ := hrel
            clear HZ
            by_cases hlt2 : i < m
            · have j1 : (i : Int) < (m : Int) := by omega
              have j0 : (0 : Int) ≤ (i : Int) := by omega
              have hln : i < ds.length := by have := unhide HM; omega
              obtain ⟨g, o, rfl, hbd⟩ := (unhide HD) (by omega)
              obtain ⟨x, hx⟩ : ∃ x, ds[i]? = some x := ⟨_, List.getElem?_eq_getElem hln⟩
              have hok := (unhide HDI).2.2.2 x (List.mem_of_getElem? hx)
              have hdo := (unhide HDI).1.ok x (List.mem_of_getElem? hx)
              have hat := hbd i x hx
              obtain ⟨la, lc, z3, hls⟩ := hat.ls
              have q0 := (unhide HZ2).kp.cell (by simp) hat.c0
              have q1 := (unhide HZ2).kp.cell (by simp) hat.c1
              have q3 := (unhide HZ2).kp.cell (by simp) z3
              have HLS := hide (hls.kp0 (unhide HZ2).kp)
              clear hbd hx hls hat z3
              have hwr : x.acts.any wrt = decide (0 < x.n) := hdo.wrote
              have hcm : 0 < x.n → x.at_ < x.n := fun hp => (hdo.com hp).1
              have hlo := hdo.lo
              have hl1 := hok.1
              clear hok hdo
              obtain ⟨xn, xa, xm, xacts⟩ := x
              dsimp only at q0 q1 q3 HLS hwr hcm hlo hl1
              obtain ⟨ln, hlen⟩ : ∃ ln, xacts.length = ln := ⟨_, rfl⟩
              rw [hlen] at q3 hl1
              have HLX := hide hlen
              have HWR := hide hwr
              clear hlen hwr
              go_wp2_with fail
              go_loop [11, 12] (fun x y => ∃ (k : Nat) (b : Bool), k ≤ ln ∧ x = .bool b ∧ y = .int .i64 k ∧ Hid (b = (xacts.take k).any wrt)) (fun _ y => ln - (intOf y).toNat)
              case atStart => exact ⟨0, false, Nat.zero_le _, rfl, rfl, rfl⟩
              case round =>
                obtain ⟨k, b, hk, rfl, rfl, HB⟩ := hrel
                by_cases hlt3 : k < ln
                · have k1 : (k : Int) < (ln : Int) := by omega
                  have k0 : (0 : Int) ≤ (k : Int) := by omega
                  have hln3 : k < xacts.length := by have := unhide HLX; omega
                  obtain ⟨g2, o2, rfl, hb2⟩ := (unhide HLS) (by omega)
                  obtain ⟨y, hy⟩ : ∃ y, xacts[k]? = some y := ⟨_, List.getElem?_eq_getElem hln3⟩
                  have HAN := hide (any_step hy)
                  have c0 := (hb2 k y hy).c0
                  clear hb2 hy
                  rw [← unhide HB] at HAN
                  clear HB
                  unfold wrt at HAN
                  obtain ⟨yd, yk, yt, yth, ys, yl⟩ := y
                  dsimp only at c0 HAN
                  cases b with
                  | true =>
                    go_wp2_with fail
                    refine ⟨⟨k + 1, true, by omega, rfl, by go_num, ?_⟩, by simp [intOf]; omega⟩
                    exact (unhide HAN).symm
                  | false =>
                    by_cases h3 : yd = 3
                    · subst h3
                      go_wp2_with fail
                      refine ⟨⟨k + 1, true, by omega, rfl, by go_num, ?_⟩, by simp [intOf]; omega⟩
                      exact (unhide HAN).symm
                    · by_cases h4 : yd = 4
                      · subst h4
                        go_wp2_with fail
                        refine ⟨⟨k + 1, true, by omega, rfl, by go_num, ?_⟩, by simp [intOf]; omega⟩
                        exact (unhide HAN).symm
                      · have HAN2 : Hid (false = (xacts.take (k + 1)).any wrt) := by
                          have q := unhide HAN
                          simp only [h3, h4, decide_false, Bool.or_false] at q
                          exact q.symm
                        have b3 : (yd == 3) = false := by simpa using h3
                        have b4 : (yd == 4) = false := by simpa using h4
                        go_wp2_with fail
                        refine ⟨⟨k + 1, false, by omega, rfl, by go_num, unhide HAN2⟩, by simp [intOf]; omega⟩
                · have k1 : ¬ (k : Int) < (ln : Int) := by omega
                  have hbb := unhide HB
                  rw [List.take_of_length_le (by have := unhide HLX; omega), unhide HWR] at hbb
                  by_cases h0 : 0 < xn
                  · have h5 := hcm h0
                    have hb1 : b = true := by rw [hbb]; simpa using h0
                    subst hb1
                    clear hbb HB
                    have h6 : decide (xn ≤ xa) = false := by simp; omega
                    have h7 : decide (0 < xn) = true := by simpa using h0
                    go_wp2_with fail
                    go_quiet (fail)
                    go_wp2_with fail
                    exact ⟨⟨i + 1, by omega, by go_num, (unhide HZ2).kp0 ((Kp.refl [] wr).drewN _)⟩, by simp [intOf]; omega⟩
                  · have hb1 : b = false := by rw [hbb]; simpa using h0
                    subst hb1
                    clear hbb HB
                    have h7 : decide (0 < xn) = false := by simpa using h0
                    go_wp2_with fail
                    go_quiet (fail)
                    go_wp2_with fail
                    exact ⟨⟨i + 1, by omega, by go_num, (unhide HZ2).kp0 ((Kp.refl [] wr).drewN _)⟩, by simp [intOf]; omega⟩
            · have j1 : ¬ (i : Int) < (m : Int) := by omega
              obtain ⟨c0, v0⟩ := c2_kp (unhide HC2) (unhide HZ2).kp
              have heq := eq66 vS
              go_wp2_with fail
              refine wp_region_held_drew (S := fun w' => w'.cell? ⟨hb, 0, none⟩ = some (.pointer (some ⟨vb, 0, none⟩)) ∧ w'.cell? ⟨vb, 0, none⟩ = some (.pointer (some ⟨tb, 0, none⟩))) (by kernel_rfl) (c2_kp (unhide HC2) ((unhide HZ2).kp.drew)) (fun hHeld => ?_)
              have HA0 := hide ((unhide HZ2).kp0 ((Kp.refl [] wr).drew))
              clear c0 v0
              generalize World.drew _ = WD at HA0 hHeld ⊢
              refine wpAnyH_tk (i := 0) (v := ?_) rfl (by kernel_rfl) (by kernel_rfl) (by kernel_rfl) (fun _ _ _ h => h) (Or.inl ⟨by rfl, ?_⟩) hHeld ?_
              rotate_left
              · intro w hSw
                try dsimp only at hSw
                go_simp
                try with_reducible rfl
              try simp only [Act.put, List.setIfInBounds_toArray, List.set_cons_zero, List.set_cons_succ]
              refine wpAnyH_tk (i := 1) (v := ?_) rfl (by kernel_rfl) (by kernel_rfl) (by kernel_rfl) (fun _ _ _ h => h) (Or.inl ⟨by rfl, ?_⟩) hHeld ?_
              rotate_left
              · intro w hSw
                try dsimp only at hSw
                go_simp
                try with_reducible rfl
              try simp only [Act.put, List.setIfInBounds_toArray, List.set_cons_zero, List.set_cons_succ]
              refine wpAnyH_tk (i := 2) (v := ?_) rfl (by kernel_rfl) (by kernel_rfl) (by kernel_rfl) (fun _ _ _ h => h) (Or.inl ⟨by rfl, ?_⟩) hHeld ?_
              rotate_left
              · intro w hSw
                try dsimp only at hSw
                go_simp
                try with_reducible rfl
              try simp only [Act.put, List.setIfInBounds_toArray, List.set_cons_zero, List.set_cons_succ]
              refine wpAnyH_tk (i := 3) (v := ?_) rfl (by kernel_rfl) (by kernel_rfl) (by kernel_rfl) (fun _ _ _ h => h) (Or.inl ⟨by rfl, ?_⟩) hHeld ?_
              rotate_left
              · intro w hSw
                try dsimp only at hSw
                go_simp
                try with_reducible rfl
              try simp only [Act.put, List.setIfInBounds_toArray, List.set_cons_zero, List.set_cons_succ]
              refine wpAnyH_tk (i := 4) (v := ?_) rfl (by kernel_rfl) (by kernel_rfl) (by kernel_rfl) (fun _ _ _ h => h) (Or.inl ⟨by rfl, ?_⟩) hHeld ?_
              rotate_left
              · intro w hSw
                try dsimp only at hSw
                go_simp
                try with_reducible rfl
              try simp only [Act.put, List.setIfInBounds_toArray, List.set_cons_zero, List.set_cons_succ]
              refine wpAnyH_tk (i := 5) (v := ?_) rfl (by kernel_rfl) (by kernel_rfl) (by kernel_rfl) (fun _ _ _ h => h) (Or.inl ⟨by rfl, ?_⟩) hHeld ?_
              rotate_left
              · intro w hSw
                try dsimp only at hSw
                go_simp
                try with_reducible rfl
              try simp only [Act.put, List.setIfInBounds_toArray, List.set_cons_zero, List.set_cons_succ]
              refine wpAnyH_tk (i := 6) (v := ?_) rfl (by kernel_rfl) (by kernel_rfl) (by kernel_rfl) (fun _ _ _ h => h) (Or.inl ⟨by rfl, ?_⟩) hHeld ?_
              rotate_left
              · intro w hSw
                try dsimp only at hSw
                go_simp
                try with_reducible rfl
              try simp only [Act.put, List.setIfInBounds_toArray, List.set_cons_zero, List.set_cons_succ]
              refine wpAnyH_tk (i := 7) (v := ?_) rfl (by kernel_rfl) (by kernel_rfl) (by kernel_rfl) (fun _ _ _ h => h) (Or.inl ⟨by rfl, ?_⟩) hHeld ?_
              rotate_left
              · intro w hSw
                try dsimp only at hSw
                go_simp
                try with_reducible rfl
              try simp only [Act.put, List.setIfInBounds_toArray, List.set_cons_zero, List.set_cons_succ]
              refine wpAnyH_tk (i := 8) (v := ?_) rfl (by kernel_rfl) (by kernel_rfl) (by kernel_rfl) (fun _ _ _ h => h) (Or.inl ⟨by rfl, ?_⟩) hHeld ?_
              rotate_left
              · intro w hSw
                try dsimp only at hSw
                go_simp
                try with_reducible rfl
              try simp only [Act.put, List.setIfInBounds_toArray, List.set_cons_zero, List.set_cons_succ]
              refine wpAnyH_tk (i := 9) (v := ?_) rfl (by kernel_rfl) (by kernel_rfl) (by kernel_rfl) (fun _ _ _ h => h) (Or.inl ⟨by rfl, ?_⟩) hHeld ?_
              rotate_left
              · intro w hSw
                try dsimp only at hSw
                go_simp
                try with_reducible rfl
              try simp only [Act.put, List.setIfInBounds_toArray, List.set_cons_zero, List.set_cons_succ]
              refine wpAnyH_tk (i := 10) (v := ?_) rfl (by kernel_rfl) (by kernel_rfl) (by kernel_rfl) (fun _ _ _ h => h) (Or.inl ⟨by rfl, ?_⟩) hHeld ?_
              rotate_left
              · intro w hSw
                try dsimp only at hSw
                go_simp
                try with_reducible rfl
              try simp only [Act.put, List.setIfInBounds_toArray, List.set_cons_zero, List.set_cons_succ]
              refine wpAnyH_tk (i := 11) (v := ?_) rfl (by kernel_rfl) (by kernel_rfl) (by kernel_rfl) (fun _ _ _ h => h) (Or.inl ⟨by rfl, ?_⟩) hHeld ?_
              rotate_left
              · intro w hSw
                try dsimp only at hSw
                go_simp
                try with_reducible rfl
              try simp only [Act.put, List.setIfInBounds_toArray, List.set_cons_zero, List.set_cons_succ]
              refine wpAnyH_tk (i := 12) (v := ?_) rfl (by kernel_rfl) (by kernel_rfl) (by kernel_rfl) (fun _ _ _ h => h) (Or.inl ⟨by rfl, ?_⟩) hHeld ?_
              rotate_left
              · intro w hSw
                try dsimp only at hSw
                go_simp
                try with_reducible rfl
              try simp only [Act.put, List.setIfInBounds_toArray, List.set_cons_zero, List.set_cons_succ]
              refine wpAnyH_tk (i := 13) (v := ?_) rfl (by kernel_rfl) (by kernel_rfl) (by kernel_rfl) (fun _ _ _ h => h) (Or.inl ⟨by rfl, ?_⟩) hHeld ?_
              rotate_left
              · intro w hSw
                try dsimp only at hSw
                go_simp
                try with_reducible rfl
              try simp only [Act.put, List.setIfInBounds_toArray, List.set_cons_zero, List.set_cons_succ]
              refine wpAnyH_two (i := 14) (j := 19) rfl rfl (by kernel_rfl) (fun K hK => ?_) (fun K hK => ?_)
              · go_simp
                refine (unhide HLST _ (unhide HA0).kp).mono ?_
                rintro e w6 ⟨rfl, hw6⟩
                subst w6
                go_wp2_with fail
                refine hK.out _ _ (c2_kp (unhide HC2) (unhide HA0).kp) (fun hHeld2 => ?_)
                clear hK K hHeld
                have hHeld := hHeld2
                clear hHeld2
                try simp only [Act.put, List.setIfInBounds_toArray, List.set_cons_zero, List.set_cons_succ]
                refine wpAnyH_two (i := 15) (j := 19) rfl rfl (by kernel_rfl) (fun K hK => ?_) (fun K hK => ?_)
                · go_simp
                  refine (unhide HSH _ (unhide HA0).kp).mono ?_
                  rintro e w7 ⟨rfl, hk7⟩
                  have HA1 := hide ((unhide HA0).kp0 hk7)
                  clear hk7
                  go_wp2_with fail
                  refine hK.out _ _ (c2_kp (unhide HC2) (unhide HA1).kp) (fun hHeld2 => ?_)
                  clear hK K hHeld
                  have hHeld := hHeld2
                  clear hHeld2
                  try simp only [Act.put, List.setIfInBounds_toArray, List.set_cons_zero, List.set_cons_succ]
                  refine wpAnyH_tk (i := 16) (v := ?_) rfl (by kernel_rfl) (by kernel_rfl) (by kernel_rfl) (fun _ _ _ h => h) (Or.inl ⟨by rfl, ?_⟩) hHeld ?_
                  rotate_left
                  · intro w hSw
                    try dsimp only at hSw
                    go_simp
                    try with_reducible rfl
                  try simp only [Act.put, List.setIfInBounds_toArray, List.set_cons_zero, List.set_cons_succ]
                  refine wpAnyH_tk (i := 17) (v := ?_) rfl (by kernel_rfl) (by kernel_rfl) (by kernel_rfl) (fun _ _ _ h => h) (Or.inl ⟨by rfl, ?_⟩) hHeld ?_
                  rotate_left
                  · intro w hSw
                    try dsimp only at hSw
                    go_simp
                    try with_reducible rfl
                  try simp only [Act.put, List.setIfInBounds_toArray, List.set_cons_zero, List.set_cons_succ]
                  refine wpAnyH_tk (i := 18) (v := ?_) rfl (by kernel_rfl) (by kernel_rfl) (by kernel_rfl) (fun _ _ _ h => h) (Or.inl ⟨by rfl, ?_⟩) hHeld ?_
                  rotate_left
                  · intro w hSw
                    try dsimp only at hSw
                    go_simp
                    try with_reducible rfl
                  try simp only [Act.put, List.setIfInBounds_toArray, List.set_cons_zero, List.set_cons_succ]
                  refine wpAnyH_only (i := 19) rfl (by kernel_rfl) (fun K hK => ?_)
                  go_simp
                  have HA2 := hide ((unhide HA1).box (wagg (fun _ => dv)) 72)
                  rw [zeros_eq] at HA2
                  refine hK.out _ _ (c2_kp (unhide HC2) (unhide HA2).kp) (fun hHeld2 => ?_)
                  clear hK K hHeld
                  have hHeld := hHeld2
                  clear hHeld2
                  try simp only [Act.put, List.setIfInBounds_toArray, List.set_cons_zero, List.set_cons_succ]
                  generalize w7.heap.size = p3 at *
                  refine wpAnyH_only (i := 20) rfl (by kernel_rfl) (fun K hK => ?_)
                  rw [if_pos (by rfl)]
                  refine wp_store_row 72 _ _ rfl p3 (wagg vS) rfl rfl 72 _ (zoo_varm (unhide HA2) (List.Mem.head _)) Try.size72 rfl (wagg_one _) ?_
                  have HZF := hide (zoo_setrL (l1 := []) (c' := wagg vS) (unhide HA2))
                  refine hK.out _ _ (c2_kp (unhide HC2) (unhide HZF).kp) (fun hHeld2 => ?_)
                  clear hK K hHeld
                  have hHeld := hHeld2
                  clear hHeld2
                  simp only [Act.put]
                  refine wpAnyH_tk (i := 21) (v := ?_) rfl (by kernel_rfl) (by kernel_rfl) (by kernel_rfl) (fun _ _ _ h => h) (Or.inl ⟨by rfl, ?_⟩) hHeld ?_
                  rotate_left
                  · intro w hSw
                    try dsimp only at hSw
                    go_simp
                    try with_reducible rfl
                  try simp only [Act.put, List.setIfInBounds_toArray, List.set_cons_zero, List.set_cons_succ]
                  refine wpAnyH_done (by kernel_rfl) ?_ _
                  generalize World.setRow _ _ _ = W9 at HZF ⊢
                  clear hHeld
                  have A1 := hide (zoo_varm (unhide HZF) (List.Mem.head _))
                  have A2 := hide (zoo_varm (unhide HZF) (List.Mem.tail _ (List.Mem.head _)))
                  go_wp2_with (first | (refine wpList_load66 (by rfl) _ rfl p3 rfl vS (unhide A1) ?_) | (refine wpList_load97 (by rfl) _ rfl p6 rfl vS (unhide A2) ?_))
                  go_ret
                  exact ⟨by trivial, ((unhide HB2).trans0 (unhide HZF).kp).below (Nat.le_refl _) (by simp)⟩
                · go_simp
                  have HA1 := hide ((unhide HA0).box (wagg (fun _ => dv)) 72)
                  rw [zeros_eq] at HA1
                  refine hK.out _ _ (c2_kp (unhide HC2) (unhide HA1).kp) (fun hHeld2 => ?_)
                  clear hK K hHeld
                  have hHeld := hHeld2
                  clear hHeld2
                  try simp only [Act.put, List.setIfInBounds_toArray, List.set_cons_zero, List.set_cons_succ]
                  generalize WD.heap.size = p3 at *
                  refine wpAnyH_only (i := 15) rfl (by kernel_rfl) (fun K hK => ?_)
                  go_simp
                  refine (unhide HSH _ (unhide HA1).kp).mono ?_
                  rintro e w7 ⟨rfl, hk7⟩
                  have HA2 := hide ((unhide HA1).kp0 hk7)
                  clear hk7
                  go_wp2_with fail
                  refine hK.out _ _ (c2_kp (unhide HC2) (unhide HA2).kp) (fun hHeld2 => ?_)
                  clear hK K hHeld
                  have hHeld := hHeld2
                  clear hHeld2
                  try simp only [Act.put, List.setIfInBounds_toArray, List.set_cons_zero, List.set_cons_succ]
                  refine wpAnyH_tk (i := 16) (v := ?_) rfl (by kernel_rfl) (by kernel_rfl) (by kernel_rfl) (fun _ _ _ h => h) (Or.inl ⟨by rfl, ?_⟩) hHeld ?_
                  rotate_left
                  · intro w hSw
                    try dsimp only at hSw
                    go_simp
                    try with_reducible rfl
                  try simp only [Act.put, List.setIfInBounds_toArray, List.set_cons_zero, List.set_cons_succ]
                  refine wpAnyH_tk (i := 17) (v := ?_) rfl (by kernel_rfl) (by kernel_rfl) (by kernel_rfl) (fun _ _ _ h => h) (Or.inl ⟨by rfl, ?_⟩) hHeld ?_
                  rotate_left
                  · intro w hSw
                    try dsimp only at hSw
                    go_simp
                    try with_reducible rfl
                  try simp only [Act.put, List.setIfInBounds_toArray, List.set_cons_zero, List.set_cons_succ]
                  refine wpAnyH_tk (i := 18) (v := ?_) rfl (by kernel_rfl) (by kernel_rfl) (by kernel_rfl) (fun _ _ _ h => h) (Or.inl ⟨by rfl, ?_⟩) hHeld ?_
                  rotate_left
                  · intro w hSw
                    try dsimp only at hSw
                    go_simp
                    try with_reducible rfl
                  try simp only [Act.put, List.setIfInBounds_toArray, List.set_cons_zero, List.set_cons_succ]
                  refine wpAnyH_only (i := 20) rfl (by kernel_rfl) (fun K hK => ?_)
                  rw [if_pos (by rfl)]
                  refine wp_store_row 72 _ _ rfl p3 (wagg vS) rfl rfl 72 _ (zoo_varm (unhide HA2) (List.Mem.head _)) Try.size72 rfl (wagg_one _) ?_
                  have HZF := hide (zoo_setrL (l1 := []) (c' := wagg vS) (unhide HA2))
                  refine hK.out _ _ (c2_kp (unhide HC2) (unhide HZF).kp) (fun hHeld2 => ?_)
                  clear hK K hHeld
                  have hHeld := hHeld2
                  clear hHeld2
                  simp only [Act.put]
                  refine wpAnyH_tk (i := 21) (v := ?_) rfl (by kernel_rfl) (by kernel_rfl) (by kernel_rfl) (fun _ _ _ h => h) (Or.inl ⟨by rfl, ?_⟩) hHeld ?_
                  rotate_left
                  · intro w hSw
                    try dsimp only at hSw
                    go_simp
                    try with_reducible rfl
                  try simp only [Act.put, List.setIfInBounds_toArray, List.set_cons_zero, List.set_cons_succ]
                  refine wpAnyH_done (by kernel_rfl) ?_ _
                  generalize World.setRow _ _ _ = W9 at HZF ⊢
                  clear hHeld
                  have A1 := hide (zoo_varm (unhide HZF) (List.Mem.head _))
                  have A2 := hide (zoo_varm (unhide HZF) (List.Mem.tail _ (List.Mem.head _)))
                  go_wp2_with (first | (refine wpList_load66 (by rfl) _ rfl p3 rfl vS (unhide A1) ?_) | (refine wpList_load97 (by rfl) _ rfl p6 rfl vS (unhide A2) ?_))
                  go_ret
                  exact ⟨by trivial, ((unhide HB2).trans0 (unhide HZF).kp).below (Nat.le_refl _) (by simp)⟩
              · go_simp
                have HA1 := hide ((unhide HA0).box (wagg (fun _ => dv)) 72)
                rw [zeros_eq] at HA1
                refine hK.out _ _ (c2_kp (unhide HC2) (unhide HA1).kp) (fun hHeld2 => ?_)
                clear hK K hHeld
                have hHeld := hHeld2
                clear hHeld2
                try simp only [Act.put, List.setIfInBounds_toArray, List.set_cons_zero, List.set_cons_succ]
                generalize WD.heap.size = p3 at *
                refine wpAnyH_only (i := 14) rfl (by kernel_rfl) (fun K hK => ?_)
                go_simp
                refine (unhide HLST _ (unhide HA1).kp).mono ?_
                rintro e w6 ⟨rfl, hw6⟩
                subst w6
                go_wp2_with fail
                refine hK.out _ _ (c2_kp (unhide HC2) (unhide HA1).kp) (fun hHeld2 => ?_)
                clear hK K hHeld
                have hHeld := hHeld2
                clear hHeld2
                try simp only [Act.put, List.setIfInBounds_toArray, List.set_cons_zero, List.set_cons_succ]
                refine wpAnyH_only (i := 15) rfl (by kernel_rfl) (fun K hK => ?_)
                go_simp
                refine (unhide HSH _ (unhide HA1).kp).mono ?_
                rintro e w7 ⟨rfl, hk7⟩
                have HA2 := hide ((unhide HA1).kp0 hk7)
                clear hk7
                go_wp2_with fail
                refine hK.out _ _ (c2_kp (unhide HC2) (unhide HA2).kp) (fun hHeld2 => ?_)
                clear hK K hHeld
                have hHeld := hHeld2
                clear hHeld2
                try simp only [Act.put, List.setIfInBounds_toArray, List.set_cons_zero, List.set_cons_succ]
                refine wpAnyH_tk (i := 16) (v := ?_) rfl (by kernel_rfl) (by kernel_rfl) (by kernel_rfl) (fun _ _ _ h => h) (Or.inl ⟨by rfl, ?_⟩) hHeld ?_
                rotate_left
                · intro w hSw
                  try dsimp only at hSw
                  go_simp
                  try with_reducible rfl
                try simp only [Act.put, List.setIfInBounds_toArray, List.set_cons_zero, List.set_cons_succ]
                refine wpAnyH_tk (i := 17) (v := ?_) rfl (by kernel_rfl) (by kernel_rfl) (by kernel_rfl) (fun _ _ _ h => h) (Or.inl ⟨by rfl, ?_⟩) hHeld ?_
                rotate_left
                · intro w hSw
                  try dsimp only at hSw
                  go_simp
                  try with_reducible rfl
                try simp only [Act.put, List.setIfInBounds_toArray, List.set_cons_zero, List.set_cons_succ]
                refine wpAnyH_tk (i := 18) (v := ?_) rfl (by kernel_rfl) (by kernel_rfl) (by kernel_rfl) (fun _ _ _ h => h) (Or.inl ⟨by rfl, ?_⟩) hHeld ?_
                rotate_left
                · intro w hSw
                  try dsimp only at hSw
                  go_simp
                  try with_reducible rfl
                try simp only [Act.put, List.setIfInBounds_toArray, List.set_cons_zero, List.set_cons_succ]
                refine wpAnyH_only (i := 20) rfl (by kernel_rfl) (fun K hK => ?_)
                rw [if_pos (by rfl)]
                refine wp_store_row 72 _ _ rfl p3 (wagg vS) rfl rfl 72 _ (zoo_varm (unhide HA2) (List.Mem.head _)) Try.size72 rfl (wagg_one _) ?_
                have HZF := hide (zoo_setrL (l1 := []) (c' := wagg vS) (unhide HA2))
                refine hK.out _ _ (c2_kp (unhide HC2) (unhide HZF).kp) (fun hHeld2 => ?_)
                clear hK K hHeld
                have hHeld := hHeld2
                clear hHeld2
                simp only [Act.put]
                refine wpAnyH_tk (i := 21) (v := ?_) rfl (by kernel_rfl) (by kernel_rfl) (by kernel_rfl) (fun _ _ _ h => h) (Or.inl ⟨by rfl, ?_⟩) hHeld ?_
                rotate_left
                · intro w hSw
                  try dsimp only at hSw
                  go_simp
                  try with_reducible rfl
                try simp only [Act.put, List.setIfInBounds_toArray, List.set_cons_zero, List.set_cons_succ]
                refine wpAnyH_done (by kernel_rfl) ?_ _
                generalize World.setRow _ _ _ = W9 at HZF ⊢
                clear hHeld
                have A1 := hide (zoo_varm (unhide HZF) (List.Mem.head _))
                have A2 := hide (zoo_varm (unhide HZF) (List.Mem.tail _ (List.Mem.head _)))
                go_wp2_with (first | (refine wpList_load66 (by rfl) _ rfl p3 rfl vS (unhide A1) ?_) | (refine wpList_load97 (by rfl) _ rfl p6 rfl vS (unhide A2) ?_))
                go_ret
                exact ⟨by trivial, ((unhide HB2).trans0 (unhide HZF).kp).below (Nat.le_refl _) (by simp)⟩
end Go.Proofs.Ytapmlleemopcnac
