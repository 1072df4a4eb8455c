/- HallFirst, walked. -/
import Derived.Test.YtehhpmfeaeabgacHy
namespace Go.Proofs.Ytehhpmfeaeabgac
open Go.RowKit
set_option maxRecDepth 20000
attribute [local go_sem ↓] Go.wp_at_zero Go.wp_at_succ

theorem hal_ev' {w0 w : World} {o P : Thing} {r : List Thing} (hz : Zoo w0 w (o :: P :: r)) (c : Array Value) (T : TypeId) : Zoo w0 (w.alloc (.cells c T)) (o :: BoxT w.heap.size c T :: P :: r) := zoo_swap (hz.box c T)
theorem first_none {h : HSt} (hi : HInv h) (x : HStep) (hn : ∀ j : Nat, j < 5 → x.s = (j : Int) → h.seat j = none) : (hdo h x).n = h.n ∧ (hdo h x).cs = h.cs := by
  rcases hdo_first hi x with q | ⟨s, d, h5, hs, hd, _⟩
  · exact q
  · rw [hn s h5 hs] at hd; cases hd
theorem dat_none {st : Nat → Sd} {seat : Nat → Option Dp} (hs : Sts st seat) {z : Int} (h : dat st z = none) : ∀ j : Nat, j < 5 → z = (j : Int) → seat j = none := fun j h5 e => by
  subst e
  rw [dat_in h5] at h
  rw [← hs j, h]; rfl
theorem first_end {w0 w : World} {hb : Nat} {h : HSt} {aw aa ka : Option Addr} {m cw na ca ck : Nat} {W : List Int} {ats : List Int} {z : Int} {ks : List Kr} (hz : Zoo w0 w (HalT hb h :: RwT 3 aw m cw (icells W) :: RwT 3 aa na ca (icells ats ++ [.int .i64 z]) :: RwT 64 ka na ck (ks.map krv ++ [.slice aw m cw]) :: ks.map krT)) (hm : m = W.length) :
    Zoo w0 w (HalT hb h :: RwT 3 aa na ca (icells (ats ++ [z])) :: RwT 64 ka na ck ((ks ++ [(⟨aw, cw, W⟩ : Kr)]).map krv) :: (ks ++ [(⟨aw, cw, W⟩ : Kr)]).map krT) := by
  subst hm
  rw [List.map_append, List.map_append, icells_append]
  refine hz.perm (List.Perm.cons _ ?_)
  exact List.perm_append_comm (l₁ := [RwT 3 aw W.length cw (icells W)])
theorem krs_at {ks : List Kr} {m : Nat} {k : Kr} (h : ks[m]? = some k) : (ks.map krv)[m]? = some (krv k) := by simp [h]
theorem krs_mem {ks : List Kr} {m : Nat} {k : Kr} (h : ks[m]? = some k) : krT k ∈ ks.map krT := List.mem_map.2 ⟨k, List.mem_of_getElem? h, rfl⟩
set_option maxHeartbeats 4000000 in
theorem hfirst5 (a : Option Addr) (n1 c : Nat) (st : Nat → HStep) (w : World) (h : HSts w a n1 st) :
    Calls Try.prog 5 #[.slice a n1 c] w fun e w' => e = .returned (.bool true) ∧ Below w.heap.size w w' := by
  have HS := hide h
  clear h
  go_enter Try.func5, Try.ntmps5
  go_wp2_with fail
  refine (hbegun w).mono ?_
  rintro e w1 ⟨rfl, hk1⟩
  have HK1 := hide hk1
  clear hk1
  go_wp2_with fail
  refine (gsteps a n1 c st w1 ((unhide HS).kp0 (unhide HK1))).mono ?_
  rintro e w' ⟨q, rfl, hq, hw'⟩
  subst w'
  cases q with
  | true =>
    clear hq
    go_wp2_with fail
    go_ret
    exact ⟨rfl, (unhide HK1).below (Nat.le_refl _) (by simp)⟩
  | false =>
  have h200 := hq rfl
  clear hq
  go_wp2_with fail
  refine (h_new w1).mono ?_
  rintro e w2 ⟨hb, rfl, F, hh, hk⟩
  have HZ0 : Hid (Zoo w1 w2 [HalT hb hs0]) := (zoo_nil (Kp.refl [] w1)).cons hh hk
  clear hh hk
  have HA1 := hide (rw_lit 64 (rw_lit 3 (zoo_swap (rw_nil 3 (unhide HZ0))) (.int .i64 0)) (.slice none 0 0))
  clear HZ0
  rw [show (w2.alloc (.cells #[.int .i64 0] 3)).heap.size = w2.heap.size + 1 by simp] at HA1
  have HA2 := hide (zoo_swap (zoo_in2 (unhide HA1)))
  clear HA1
  go_wp2_with fail
  go_loopw [4, 5, 6] (fun sa sk i wr => ∃ (k : Nat) (h : HSt) (aa : Option Addr) (na ca : Nat) (ats : List Int) (ka : Option Addr) (ck : Nat) (ks : List Kr), k ≤ n1 ∧ sa = .slice aa na ca ∧ sk = .slice ka na ck ∧ i = .int .i64 k ∧ Hid (FiI h na ks) ∧ Hid (Zoo w1 wr (HalT hb h :: RwT 3 aa na ca (icells ats) :: RwT 64 ka na ck (ks.map krv) :: ks.map krT))) (fun _ _ i _ => n1 - (intOf i).toNat)
  case atStart => exact ⟨0, hs0, _, 1, 1, [0], _, 1, [⟨none, 0, []⟩], by omega, rfl, rfl, rfl, ⟨rfl, rfl⟩, HA2⟩
  case round =>
    obtain ⟨k, h, aa, na, ca, ats, ka, ck, ks, hk, rfl, rfl, rfl, HF, HI⟩ := hrel
    obtain ⟨vb0, tb0, gb0, sd0, hsd0, hi, -⟩ := hal_open (unhide HI)
    have HI0 := hide hi
    have hn40 := hi.inv.n40
    have hna : na ≤ 41 := by have := (unhide HF).na; have := hi.inv.n40; omega
    clear hi hsd0 sd0 vb0 tb0 gb0
    by_cases hlt : k < n1
    · obtain ⟨lb', lo, rfl, hst⟩ := (unhide HS).2 (by omega)
      obtain ⟨q0, q1, q2, q3, q4, q5, q6, q7, hsz⟩ := (hst k hlt).kp0 ((unhide HK1).trans0 (unhide HI).kp)
      have i0 : (0 : Int) ≤ (k : Int) := by omega
      have i1 : (k : Int) < (n1 : Int) := by omega
      clear hst
      generalize (st k) = x at *
      have HIN := hide ((unhide HI0).step x)
      have HFS := hide (hdo_first (unhide HI0) x)
      have HFN := hide (fun hn => first_none (unhide HI0) x hn)
      have HDO := hide (fun W r (hz : Zoo w1 W (HalT hb h :: r)) => hal_do x hsz hz)
      generalize hev h x = v at *
      generalize hdo h x = h' at *
      obtain ⟨xd, xs, xm, xa, xk, xt, xp, xb⟩ := x
      dsimp only at q0 q1 q2 q3 q4 q5 q6 q7 hsz
      have HZ4 := hide (zoo_swap ((unhide HI).box #[.int .i64 xd, .int .i64 xs, .int .i64 xm, .int .i64 xa, .int .i64 xk, .int .i64 xt, .int .i64 xp, .string xb] 37))
      go_wp2_with fail
      clear q0 q1 q2 q3 q4 q5 q6 q7 HI
      generalize wr.alloc (.cells #[.int .i64 xd, .int .i64 xs, .int .i64 xm, .int .i64 xa, .int .i64 xk, .int .i64 xt, .int .i64 xp, .string xb] 37) = W4 at HZ4 ⊢
      generalize wr.heap.size = q at HZ4 ⊢
      obtain ⟨vb, tb, gb, sd, hsd, -, hl⟩ := hal_open (unhide HZ4)
      have HL4 := hide hl
      have HSD := hide hsd
      clear hl hsd
      refine (h_deed xs (unhide HL4)).mono ?_
      rintro e w' ⟨rfl, hw'⟩
      subst w'
      cases hdt : dat sd xs with
      | none =>
        have hno := unhide HFN (dat_none (unhide HSD) hdt)
        rw [show sp none = .pointer none from rfl]
        have hq := zoo_varm (p := q) (unhide HZ4) (List.Mem.tail _ (List.Mem.head _))
        have x0 : W4.cell? ⟨q, 0, none⟩ = some (.int .i64 xd) := cell_of_block hq rfl
        have x1 : W4.cell? ⟨q, 1, none⟩ = some (.int .i64 xs) := cell_of_block hq rfl
        have x2 : W4.cell? ⟨q, 2, none⟩ = some (.int .i64 xm) := cell_of_block hq rfl
        have x3 : W4.cell? ⟨q, 3, none⟩ = some (.int .i64 xa) := cell_of_block hq rfl
        have x4 : W4.cell? ⟨q, 4, none⟩ = some (.int .i64 xk) := cell_of_block hq rfl
        have x5 : W4.cell? ⟨q, 5, none⟩ = some (.int .i64 xt) := cell_of_block hq rfl
        have x6 : W4.cell? ⟨q, 6, none⟩ = some (.int .i64 xp) := cell_of_block hq rfl
        have x7 : W4.cell? ⟨q, 7, none⟩ = some (.string xb) := cell_of_block hq rfl
        have ql := lt_of_block hq
        clear hq
        obtain ⟨vb1, tb1, c1, v1, HLA1, -⟩ := hal_view (unhide HZ4) (List.Mem.head _)
        go_wp2_with fail
        refine (unhide HLA1 _ (Kp.refl _ _)).mono ?_
        rintro e w' ⟨rfl, hw'⟩
        subst w'
        go_wp2_with fail
        refine (unhide HDO _ _ (unhide HZ4)).mono ?_
        rintro e w5 ⟨a5, cap5, rfl, HY⟩
        clear x0 x1 x2 x3 x4 x5 x6 x7 ql c1 v1 HLA1 HDO HZ4 HL4
        have HZ6 := hide (hal_ev' (unhide HY) #[.int .i64 v.c, .int .i64 v.n, .bool v.t, .string v.s, .slice a5 v.l.length cap5] 34)
        obtain ⟨vb2, tb2, c2, v2, HLA2, -⟩ := hal_view (unhide HY) (List.Mem.head _)
        have hl2 := lt_of_cell c2
        have vl2 := lt_of_cell v2
        have HLB := hide (fun W (hk : Kp [] w5 W) => unhide HLA2 W hk)
        go_wp2_with fail
        refine (unhide HLB _ ((Kp.refl [] w5).alloc _)).mono ?_
        rintro e w' ⟨rfl, hw'⟩
        subst w'
        rw [hno.1]
        go_wp2_with fail
        exact ⟨⟨k + 1, h', aa, na, ca, ats, ka, ck, ks, by omega, rfl, rfl, by go_num, ⟨by rw [(unhide HF).na, hno.1], by rw [hno.2]; exact (unhide HF).ks⟩, hal_drop (hal_drop (hal_drop (unhide HZ6)))⟩, by simp [intOf]; omega⟩
      | some dd =>
        obtain ⟨D, d⟩ := dd
        rw [show sp (some (D, d)) = .pointer (some ⟨D, 0, none⟩) from rfl]
        obtain ⟨s, D', d', hxs, h5, hsj⟩ : ∃ (j D' : Nat) (d' : Dp), xs = (j : Int) ∧ j < 5 ∧ sd j = some (D', d') := by
          have q : fcode sd xs = 0 := by
            unfold fcode
            unfold dat at hdt
            split at hdt
            · rename_i hs; rw [if_pos hs, hdt]; rfl
            · cases hdt
          exact f_yes q
        subst hxs
        rw [dat_in h5, hsj] at hdt
        simp only [Option.some.injEq, Prod.mk.injEq] at hdt
        obtain ⟨e1, e2⟩ := hdt
        subst e1 e2
        have hseat : h.seat s = some d' := by rw [← unhide HSD s, hsj]; rfl
        obtain ⟨hy1, hy2⟩ := (unhide HI0).known s d' hseat
        have hy0 := (fmx_le (unhide HI0).inv 8 (Nat.le_refl _)).1
        obtain ⟨yn, hyn⟩ : ∃ yn : Nat, d'.y = (yn : Int) := ⟨d'.y.toNat, by omega⟩
        have HYN := hide hyn
        have hyn40 : yn ≤ 40 := by omega
        obtain ⟨WW, hWW⟩ : ∃ WW, wk d'.ws 8 = WW := ⟨_, rfl⟩
        have HWW := hide hWW
        have hwl := wk_len d'.ws 8
        rw [hWW] at hwl
        clear hWW
        go_wp2_with fail
        refine (dat71 _ ((unhide HL4).ded h5 hsj)).mono ?_
        rintro e w' ⟨rfl, hw'⟩
        subst w'
        rw [hyn]
        clear hyn hy0 hy1 hy2
        go_wp2_with fail
        refine (dwrites66 _ ((unhide HL4).ded h5 hsj)).mono ?_
        rintro e w5 ⟨ap, cp, rfl, hop, hk5⟩
        rw [unhide HWW] at hop ⊢
        have HP5 := hide ((unhide HZ4).cons (o := PsT ap cp WW) (F := ob ap) ⟨hop, rfl⟩ hk5)
        have HR5 := hide (rw_nil 3 (unhide HP5))
        clear hop hk5 HL4 HZ4 HP5
        go_wp2_with fail
        go_loopw [9, 12] (fun qq i wr => ∃ (m : Nat) (aw : Option Addr) (cw : Nat), m ≤ WW.length ∧ qq = .slice aw m cw ∧ i = .int .i64 m ∧ Hid (Zoo w1 wr (RwT 3 aw m cw (icells ((kys WW).take m)) :: PsT ap cp WW :: HalT hb h :: BoxT q #[.int .i64 xd, .int .i64 (s : Int), .int .i64 xm, .int .i64 xa, .int .i64 xk, .int .i64 xt, .int .i64 xp, .string xb] 37 :: RwT 3 aa na ca (icells ats) :: RwT 64 ka na ck (ks.map krv) :: ks.map krT))) (fun _ i _ => WW.length - (intOf i).toNat)
        case atStart => exact ⟨0, none, 0, by omega, rfl, rfl, HR5⟩
        case round =>
          obtain ⟨m, aw, cw, hm, rfl, rfl, HL⟩ := hrel
          by_cases hmt : m < WW.length
          · have m1 : (m : Int) < (WW.length : Int) := by omega
            have m0 : (0 : Int) ≤ (m : Int) := by omega
            obtain ⟨pg, po, rfl, hsl⟩ := ps_slo (unhide HL) (List.Mem.tail _ (List.Mem.head _)) (by omega)
            have g0 := hsl.at0 m hmt
            clear hsl
            obtain ⟨in0, hi0, hz0, hz1, hz2⟩ := info_parts Try.info3
            have hB := (unhide HL).kp.size
            have HOW := hide (own_kp0 (rw_own (unhide HL) (List.Mem.head _)) ((Kp.refl [] wr).alloc (.cells #[.int .i64 (va WW m)] 3)))
            have HN := hide (kys_at hmt)
            generalize va WW m = z at *
            generalize hL0 : (kys WW).take m = L0 at HL HOW HN
            clear hL0
            go_wp2_with (at_builtin; refine wpList_append_lies _ rfl _ _ 64 rfl w1.heap.size 3 in0 _ 1 8 Try.underlying64 hi0 hz0 hz1 hz2 rfl (by omega) (.slice aw m cw) m (icells L0) rfl (unhide HOW) ⟨wr.heap.size, 0, none⟩ 1 1 [.int .i64 z] (by rfl) (by rfl) (World.news_of_block (cs := #[.int .i64 z]) (t := 3) (fr := (0, 0)) (heap_alloc_new wr _)) (by simp [Value.oneCell']) (by omega) (by unfold maxLen; omega) (by omega) (by simp; omega) _ rfl ?_; intro g2 cap2 w20 hown hgrow hat hlt2)
            have HL2 := hide (rw_app (l1 := []) ((unhide HL).kp0 ((Kp.refl [] wr).alloc (.cells #[.int .i64 z] 3))) hown hgrow hat)
            rw [show icells L0 ++ [.int .i64 z] = icells (L0 ++ [z]) by rw [icells_append]; rfl] at HL2
            clear hown hgrow hat
            go_wp2_with fail
            exact ⟨⟨m + 1, some ⟨g2, 0, none⟩, cap2, by omega, rfl, by go_num, by rw [unhide HN]; exact HL2⟩, by simp [intOf]; omega⟩
          · have m1 : ¬ (m : Int) < (WW.length : Int) := by omega
            have em : m = WW.length := by omega
            have HL0 := hide (show Zoo w1 wr (HalT hb h :: RwT 3 aw m cw (icells (kys WW)) :: BoxT q #[.int .i64 xd, .int .i64 (s : Int), .int .i64 xm, .int .i64 xa, .int .i64 xk, .int .i64 xt, .int .i64 xp, .string xb] 37 :: RwT 3 aa na ca (icells ats) :: RwT 64 ka na ck (ks.map krv) :: ks.map krT) by have z := unhide HL; rw [em, ← kys_len, List.take_length] at z; rw [em, ← kys_len]; exact zoo_swap (hal_drop z))
            have EM := hide (show m = (kys WW).length by rw [em, kys_len])
            have hm8 : m ≤ 8 := by omega
            clear HL em hm
            have hq := zoo_varm (p := q) (unhide HL0) (List.Mem.tail _ (List.Mem.tail _ (List.Mem.head _)))
            have x0 : wr.cell? ⟨q, 0, none⟩ = some (.int .i64 xd) := cell_of_block hq rfl
            have x1 : wr.cell? ⟨q, 1, none⟩ = some (.int .i64 (s : Int)) := cell_of_block hq rfl
            have x2 : wr.cell? ⟨q, 2, none⟩ = some (.int .i64 xm) := cell_of_block hq rfl
            have x3 : wr.cell? ⟨q, 3, none⟩ = some (.int .i64 xa) := cell_of_block hq rfl
            have x4 : wr.cell? ⟨q, 4, none⟩ = some (.int .i64 xk) := cell_of_block hq rfl
            have x5 : wr.cell? ⟨q, 5, none⟩ = some (.int .i64 xt) := cell_of_block hq rfl
            have x6 : wr.cell? ⟨q, 6, none⟩ = some (.int .i64 xp) := cell_of_block hq rfl
            have x7 : wr.cell? ⟨q, 7, none⟩ = some (.string xb) := cell_of_block hq rfl
            have ql := lt_of_block hq
            clear hq
            obtain ⟨vb1, tb1, c1, v1, HLA1, -⟩ := hal_view (unhide HL0) (List.Mem.head _)
            go_wp2_with fail
            refine (unhide HLA1 _ (Kp.refl _ _)).mono ?_
            rintro e w' ⟨rfl, hw'⟩
            subst w'
            go_wp2_with fail
            refine (unhide HDO _ _ (unhide HL0)).mono ?_
            rintro e w6 ⟨a5, cap5, rfl, HY⟩
            clear x0 x1 x2 x3 x4 x5 x6 x7 ql c1 v1 HLA1 HDO HL0
            have HZ6 := hide (hal_ev' (unhide HY) #[.int .i64 v.c, .int .i64 v.n, .bool v.t, .string v.s, .slice a5 v.l.length cap5] 34)
            obtain ⟨vb2, tb2, c2, v2, HLA2, -⟩ := hal_view (unhide HY) (List.Mem.head _)
            have hl2 := lt_of_cell c2
            have vl2 := lt_of_cell v2
            have HLB := hide (fun W (hk : Kp [] w6 W) => unhide HLA2 W hk)
            have hq := zoo_varm (p := q) (unhide HY) (List.Mem.tail _ (List.Mem.tail _ (List.Mem.tail _ (List.Mem.head _))))
            have x0 : w6.cell? ⟨q, 0, none⟩ = some (.int .i64 xd) := cell_of_block hq rfl
            have ql := lt_of_block hq
            clear hq HY HLA2
            go_wp2_with fail
            refine (unhide HLB _ ((Kp.refl [] w6).alloc _)).mono ?_
            rintro e w' ⟨rfl, hw'⟩
            subst w'
            rcases unhide HFS with hno | ⟨s2, d2, h52, hs2, hd2, hk6, hn2, hvn, hcs2, hdm⟩
            · rw [hno.1]
              go_wp2_with fail
              exact ⟨⟨k + 1, h', aa, na, ca, ats, ka, ck, ks, by omega, rfl, rfl, by go_num, ⟨by rw [(unhide HF).na, hno.1], by rw [hno.2]; exact (unhide HF).ks⟩, hal_drop (hal_drop (hal_drop (hal_drop (unhide HZ6))))⟩, by simp [intOf]; omega⟩
            · have es : s2 = s := by have := hs2; omega
              subst es
              rw [hseat] at hd2
              simp only [Option.some.injEq] at hd2
              subst hd2
              have HDM := hide hdm
              have HCS := hide hcs2
              have HN2 := hide hn2
              rw [hn2]
              have hne : ((((h.n + 1 : Nat) : Int)) == (h.n : Int)) = false := beq_eq_false_iff_ne.2 (by omega)
              clear hdm hcs2 hs2 hseat
              rcases hk6 with k6 | k6
              · subst k6
                rw [hvn] at HZ6 ⊢
                push_cast
                have hne2 : (((h.n : Int) + 1) == (h.n : Int)) = false := beq_eq_false_iff_ne.2 (by omega)
                go_wp2_with fail
                refine (unhide HLB _ ((Kp.refl [] w6).alloc _)).mono ?_
                rintro e w' ⟨rfl, hw'⟩
                subst w'
                rw [hn2]
                push_cast
                go_wp2_with fail
                have HZ7 := hide (Zoo.drop_ (l1 := [_, _]) (hal_drop (hal_drop (unhide HZ6))))
                clear x0 ql c2 v2 hl2 vl2 HLB HZ6
                generalize World.alloc _ _ = W7 at HZ7 ⊢
                go_loopw [15] (fun i wr => ∃ mm : Nat, yn + 1 ≤ mm ∧ i = .int .i64 (mm : Int) ∧ Hid (Zoo w1 wr (HalT hb h' :: RwT 3 aw m cw (icells (kys WW)) :: RwT 3 aa na ca (icells ats) :: RwT 64 ka na ck (ks.map krv) :: ks.map krT))) (fun i _ => na - (intOf i).toNat)
                case atStart => exact ⟨yn + 1, Nat.le_refl _, by go_num, HZ7⟩
                case round =>
                  obtain ⟨mm, hmm, rfl, HL⟩ := hrel
                  by_cases hmn : mm < na
                  · have n1' : (mm : Int) < (na : Int) := by omega
                    have n0 : (0 : Int) ≤ (mm : Int) := by omega
                    obtain ⟨kk, cc, hkk, hcc, hkL⟩ := (unhide HF).at_ (unhide HI0) (m := mm - 1) (by omega)
                    rw [show mm - 1 + 1 = mm by omega] at hkk
                    have HKK := hide hkk
                    have HNOTIN := hide (fun z (hz : z ∈ kys WW) => show decide (z ∈ kk.L) = false from decide_eq_false (by rw [hkL]; exact first_keys (unhide HI0) (unhide HDM) hcc (by rw [unhide HYN]; omega) (by rw [unhide HWW]; exact hz)))
                    have hkl : kk.L.length ≤ 1000 := by rw [hkL, kys_len]; have := pf_len8 ((unhide HI0).li.pf cc (List.mem_of_getElem? hcc)); omega
                    clear hkk hcc hkL
                    go_wp2_with fail
                    go_loopw [16] (fun i wr => ∃ t : Nat, t ≤ m ∧ i = .int .i64 (t : Int) ∧ Hid (Zoo w1 wr (HalT hb h' :: RwT 3 aw m cw (icells (kys WW)) :: RwT 3 aa na ca (icells ats) :: RwT 64 ka na ck (ks.map krv) :: ks.map krT))) (fun i _ => m - (intOf i).toNat)
                    case atStart => exact ⟨0, by omega, rfl, HL⟩
                    case round =>
                      obtain ⟨t, ht, rfl, HL2⟩ := hrel
                      by_cases htm : t < m
                      · have t1 : (t : Int) < (m : Int) := by omega
                        have t0 : (0 : Int) ≤ (t : Int) := by omega
                        have hkt : t < (kys WW).length := by have := unhide EM; omega
                        obtain ⟨g3, rfl, r3⟩ := rw_cell (unhide HL2) (List.Mem.tail _ (List.Mem.head _)) (icells_at hkt)
                        obtain ⟨g4, rfl, r4⟩ := rw_cell (unhide HL2) (List.Mem.tail _ (List.Mem.tail _ (List.Mem.tail _ (List.Mem.head _)))) (krs_at (unhide HKK))
                        have r3' : wr.cell? ⟨g3, 0 + t, none⟩ = some (.int .i64 (ig (kys WW) t)) := by rw [Nat.zero_add]; exact r3
                        have r4' : wr.cell? ⟨g4, 0 + mm, none⟩ = some (krv kk) := by rw [Nat.zero_add]; exact r4
                        rw [show krv kk = .slice kk.a kk.L.length kk.cap from rfl] at r4 r4'
                        have HIN2 := hide (unhide HNOTIN (ig (kys WW) t) (mem_ig.2 ⟨t, hkt, rfl⟩))
                        have HSL := hide (kr_slI (k := kk) (unhide HL2) (List.Mem.tail _ (List.Mem.tail _ (List.Mem.tail _ (List.Mem.tail _ (krs_mem (unhide HKK)))))))
                        generalize ig (kys WW) t = z at *
                        go_wp2_with fail
                        go_quiet ((go_at_call 39; exact Calls.quiet_of_same ((in72 kk.a kk.cap z _ ((unhide HSL).kp0 ((Kp.refl [] _).drewN _)) hkl).mono (fun e w' q => ⟨by rw [q.1, unhide HIN2], q.2⟩))))
                        go_wp2_with fail
                        exact ⟨⟨t + 1, by omega, by go_num, (unhide HL2).kp0 ((Kp.refl [] _).drewN _)⟩, by simp [intOf]; omega⟩
                      · have t1 : ¬ (t : Int) < (m : Int) := by omega
                        go_wp2_with fail
                        exact ⟨⟨mm + 1, by omega, by go_num, HL2⟩, by simp [intOf]; omega⟩
                  · have n1' : ¬ (mm : Int) < (na : Int) := by omega
                    obtain ⟨in0, hi0, hz0, hz1, hz2⟩ := info_parts Try.info3
                    obtain ⟨jn0, ji0, jz0, jz1, jz2⟩ := info_parts Try.info64
                    have hB := (unhide HL).kp.size
                    have HOA := hide (own_kp0 (rw_own (unhide HL) (List.Mem.tail _ (List.Mem.tail _ (List.Mem.head _)))) ((Kp.refl [] wr).alloc (.cells #[.int .i64 (yn : Int)] 3)))
                    go_wp2_with (first | (at_builtin; refine wpList_append_lies _ rfl _ _ 64 rfl w1.heap.size 3 in0 _ 1 8 Try.underlying64 hi0 hz0 hz1 hz2 rfl (by omega) (.slice aa na ca) na (icells ats) rfl (unhide HOA) ⟨wr.heap.size, 0, none⟩ 1 1 [.int .i64 (yn : Int)] (by rfl) (by rfl) (World.news_of_block (cs := #[.int .i64 (yn : Int)]) (t := 3) (fr := (0, 0)) (heap_alloc_new wr _)) (by simp [Value.oneCell']) (by omega) (by unfold maxLen; omega) (by omega) (by simp; omega) _ rfl ?_; intro g8 cap8 w8 hown8 hgrow8 hat8 hlt8; have HL8 := hide (rw_app (l1 := [_, _]) ((unhide HL).kp0 ((Kp.refl [] wr).alloc (.cells #[.int .i64 (yn : Int)] 3))) hown8 hgrow8 hat8); have HOK := hide (own_kp0 (rw_own (unhide HL8) (List.Mem.tail _ (List.Mem.tail _ (List.Mem.tail _ (List.Mem.head _))))) ((Kp.refl [] w8).alloc (.cells #[.slice aw m cw] 64))); have hB8 := (unhide HL8).kp.size; clear hown8 hgrow8 hat8 hlt8) | (at_builtin; refine wpList_append_lies _ rfl _ _ 81 rfl w1.heap.size 64 jn0 _ 1 24 Try.underlying81 ji0 jz0 jz1 jz2 rfl (by omega) (.slice ka na ck) na (ks.map krv) rfl (unhide HOK) ⟨w8.heap.size, 0, none⟩ 1 1 [.slice aw m cw] (by rfl) (by rfl) (World.news_of_block (cs := #[.slice aw m cw]) (t := 64) (fr := (0, 0)) (heap_alloc_new w8 _)) (by simp [Value.oneCell']) (by omega) (by unfold maxLen; omega) (by omega) (by simp; omega) _ rfl ?_; intro g9 cap9 w9 hown9 hgrow9 hat9 hlt9; have HL9 := hide (rw_app (l1 := [_, _, _]) ((unhide HL8).kp0 ((Kp.refl [] w8).alloc (.cells #[.slice aw m cw] 64))) hown9 hgrow9 hat9); clear hown9 hgrow9 hat9 hlt9))
                    have HLX := hide (first_end (unhide HL9) (unhide EM))
                    exact ⟨⟨k + 1, h', _, na + 1, _, ats ++ [(yn : Int)], _, _, ks ++ [⟨aw, cw, kys WW⟩], by omega, rfl, rfl, by go_num, (unhide HF).more (unhide HN2) (unhide HCS) _ (by rw [unhide HWW]), HLX⟩, by simp [intOf]; omega⟩
              · subst k6
                rw [hvn] at HZ6 ⊢
                push_cast
                have hne2 : (((h.n : Int) + 1) == (h.n : Int)) = false := beq_eq_false_iff_ne.2 (by omega)
                go_wp2_with fail
                refine (unhide HLB _ ((Kp.refl [] w6).alloc _)).mono ?_
                rintro e w' ⟨rfl, hw'⟩
                subst w'
                rw [hn2]
                push_cast
                go_wp2_with fail
                have HZ7 := hide (Zoo.drop_ (l1 := [_, _]) (hal_drop (hal_drop (unhide HZ6))))
                clear x0 ql c2 v2 hl2 vl2 HLB HZ6
                generalize World.alloc _ _ = W7 at HZ7 ⊢
                go_loopw [15] (fun i wr => ∃ mm : Nat, yn + 1 ≤ mm ∧ i = .int .i64 (mm : Int) ∧ Hid (Zoo w1 wr (HalT hb h' :: RwT 3 aw m cw (icells (kys WW)) :: RwT 3 aa na ca (icells ats) :: RwT 64 ka na ck (ks.map krv) :: ks.map krT))) (fun i _ => na - (intOf i).toNat)
                case atStart => exact ⟨yn + 1, Nat.le_refl _, by go_num, HZ7⟩
                case round =>
                  obtain ⟨mm, hmm, rfl, HL⟩ := hrel
                  by_cases hmn : mm < na
                  · have n1' : (mm : Int) < (na : Int) := by omega
                    have n0 : (0 : Int) ≤ (mm : Int) := by omega
                    obtain ⟨kk, cc, hkk, hcc, hkL⟩ := (unhide HF).at_ (unhide HI0) (m := mm - 1) (by omega)
                    rw [show mm - 1 + 1 = mm by omega] at hkk
                    have HKK := hide hkk
                    have HNOTIN := hide (fun z (hz : z ∈ kys WW) => show decide (z ∈ kk.L) = false from decide_eq_false (by rw [hkL]; exact first_keys (unhide HI0) (unhide HDM) hcc (by rw [unhide HYN]; omega) (by rw [unhide HWW]; exact hz)))
                    have hkl : kk.L.length ≤ 1000 := by rw [hkL, kys_len]; have := pf_len8 ((unhide HI0).li.pf cc (List.mem_of_getElem? hcc)); omega
                    clear hkk hcc hkL
                    go_wp2_with fail
                    go_loopw [16] (fun i wr => ∃ t : Nat, t ≤ m ∧ i = .int .i64 (t : Int) ∧ Hid (Zoo w1 wr (HalT hb h' :: RwT 3 aw m cw (icells (kys WW)) :: RwT 3 aa na ca (icells ats) :: RwT 64 ka na ck (ks.map krv) :: ks.map krT))) (fun i _ => m - (intOf i).toNat)
                    case atStart => exact ⟨0, by omega, rfl, HL⟩
                    case round =>
                      obtain ⟨t, ht, rfl, HL2⟩ := hrel
                      by_cases htm : t < m
                      · have t1 : (t : Int) < (m : Int) := by omega
                        have t0 : (0 : Int) ≤ (t : Int) := by omega
                        have hkt : t < (kys WW).length := by have := unhide EM; omega
                        obtain ⟨g3, rfl, r3⟩ := rw_cell (unhide HL2) (List.Mem.tail _ (List.Mem.head _)) (icells_at hkt)
                        obtain ⟨g4, rfl, r4⟩ := rw_cell (unhide HL2) (List.Mem.tail _ (List.Mem.tail _ (List.Mem.tail _ (List.Mem.head _)))) (krs_at (unhide HKK))
                        have r3' : wr.cell? ⟨g3, 0 + t, none⟩ = some (.int .i64 (ig (kys WW) t)) := by rw [Nat.zero_add]; exact r3
                        have r4' : wr.cell? ⟨g4, 0 + mm, none⟩ = some (krv kk) := by rw [Nat.zero_add]; exact r4
                        rw [show krv kk = .slice kk.a kk.L.length kk.cap from rfl] at r4 r4'
                        have HIN2 := hide (unhide HNOTIN (ig (kys WW) t) (mem_ig.2 ⟨t, hkt, rfl⟩))
                        have HSL := hide (kr_slI (k := kk) (unhide HL2) (List.Mem.tail _ (List.Mem.tail _ (List.Mem.tail _ (List.Mem.tail _ (krs_mem (unhide HKK)))))))
                        generalize ig (kys WW) t = z at *
                        go_wp2_with fail
                        go_quiet ((go_at_call 39; exact Calls.quiet_of_same ((in72 kk.a kk.cap z _ ((unhide HSL).kp0 ((Kp.refl [] _).drewN _)) hkl).mono (fun e w' q => ⟨by rw [q.1, unhide HIN2], q.2⟩))))
                        go_wp2_with fail
                        exact ⟨⟨t + 1, by omega, by go_num, (unhide HL2).kp0 ((Kp.refl [] _).drewN _)⟩, by simp [intOf]; omega⟩
                      · have t1 : ¬ (t : Int) < (m : Int) := by omega
                        go_wp2_with fail
                        exact ⟨⟨mm + 1, by omega, by go_num, HL2⟩, by simp [intOf]; omega⟩
                  · have n1' : ¬ (mm : Int) < (na : Int) := by omega
                    obtain ⟨in0, hi0, hz0, hz1, hz2⟩ := info_parts Try.info3
                    obtain ⟨jn0, ji0, jz0, jz1, jz2⟩ := info_parts Try.info64
                    have hB := (unhide HL).kp.size
                    have HOA := hide (own_kp0 (rw_own (unhide HL) (List.Mem.tail _ (List.Mem.tail _ (List.Mem.head _)))) ((Kp.refl [] wr).alloc (.cells #[.int .i64 (yn : Int)] 3)))
                    go_wp2_with (first | (at_builtin; refine wpList_append_lies _ rfl _ _ 64 rfl w1.heap.size 3 in0 _ 1 8 Try.underlying64 hi0 hz0 hz1 hz2 rfl (by omega) (.slice aa na ca) na (icells ats) rfl (unhide HOA) ⟨wr.heap.size, 0, none⟩ 1 1 [.int .i64 (yn : Int)] (by rfl) (by rfl) (World.news_of_block (cs := #[.int .i64 (yn : Int)]) (t := 3) (fr := (0, 0)) (heap_alloc_new wr _)) (by simp [Value.oneCell']) (by omega) (by unfold maxLen; omega) (by omega) (by simp; omega) _ rfl ?_; intro g8 cap8 w8 hown8 hgrow8 hat8 hlt8; have HL8 := hide (rw_app (l1 := [_, _]) ((unhide HL).kp0 ((Kp.refl [] wr).alloc (.cells #[.int .i64 (yn : Int)] 3))) hown8 hgrow8 hat8); have HOK := hide (own_kp0 (rw_own (unhide HL8) (List.Mem.tail _ (List.Mem.tail _ (List.Mem.tail _ (List.Mem.head _))))) ((Kp.refl [] w8).alloc (.cells #[.slice aw m cw] 64))); have hB8 := (unhide HL8).kp.size; clear hown8 hgrow8 hat8 hlt8) | (at_builtin; refine wpList_append_lies _ rfl _ _ 81 rfl w1.heap.size 64 jn0 _ 1 24 Try.underlying81 ji0 jz0 jz1 jz2 rfl (by omega) (.slice ka na ck) na (ks.map krv) rfl (unhide HOK) ⟨w8.heap.size, 0, none⟩ 1 1 [.slice aw m cw] (by rfl) (by rfl) (World.news_of_block (cs := #[.slice aw m cw]) (t := 64) (fr := (0, 0)) (heap_alloc_new w8 _)) (by simp [Value.oneCell']) (by omega) (by unfold maxLen; omega) (by omega) (by simp; omega) _ rfl ?_; intro g9 cap9 w9 hown9 hgrow9 hat9 hlt9; have HL9 := hide (rw_app (l1 := [_, _, _]) ((unhide HL8).kp0 ((Kp.refl [] w8).alloc (.cells #[.slice aw m cw] 64))) hown9 hgrow9 hat9); clear hown9 hgrow9 hat9 hlt9))
                    have HLX := hide (first_end (unhide HL9) (unhide EM))
                    exact ⟨⟨k + 1, h', _, na + 1, _, ats ++ [(yn : Int)], _, _, ks ++ [⟨aw, cw, kys WW⟩], by omega, rfl, rfl, by go_num, (unhide HF).more (unhide HN2) (unhide HCS) _ (by rw [unhide HWW]), HLX⟩, by simp [intOf]; omega⟩
    · have i1 : ¬ (k : Int) < (n1 : Int) := by omega
      obtain ⟨vb1, tb1, c1, v1, HLA1, -⟩ := hal_view (unhide HI) (List.Mem.head _)
      go_wp2_with fail
      refine (unhide HLA1 _ (Kp.refl _ _)).mono ?_
      rintro e w' ⟨rfl, hw'⟩
      subst w'
      have hfin : (na : Int) = (h.n : Int) + 1 := by have := (unhide HF).na; omega
      go_wp2_with fail
      go_ret
      exact ⟨by first | trivial | (rw [hfin]; simp), ((unhide HK1).trans0 (unhide HI).kp).below (Nat.le_refl _) (by simp)⟩
end Go.Proofs.Ytehhpmfeaeabgac
