/- The document's Replay of acts, by its contract. -/
import Derived.Test.YtapmlleemopcnacM10
import Derived.BigQuiet
namespace Go.Proofs.Ytapmlleemopcnac
open Go.RowKit
set_option maxRecDepth 20000
attribute [local go_sem ↓] Go.wp_at_zero Go.wp_at_succ

theorem wload_r {w : World} {p : Nat} {v : Nat → Ver} (h : w.heap[p]? = some (.cells (wagg v) 72 (0, 0))) : (loadVar 72 ⟨p, 0, none⟩).run Try.prog w = .ok (.agg (wagg v)) w :=
  run_loadVar_row w p 72 72 (wagg v) (0, 0) _ h Try.underlying72 rfl Try.size72
theorem wl_no {v : Nat → Ver} {j : Nat} {t : Int} {k : Nat} (h : ¬ ((j : Int) ≤ (k : Int) ∧ (k : Int) ≤ t ∧ (v k).t = true)) : wl v j t (k + 1) = wl v j t k := by
  simp only [wl]
  rw [if_neg h]
theorem wl_yes {v : Nat → Ver} {j : Nat} {t : Int} {k : Nat} (h1 : (j : Int) ≤ (k : Int)) (h2 : (k : Int) ≤ t) (h3 : (v k).t = true) : wl v j t (k + 1) = wl v j t k ++ [⟨(k : Int), true, (v k).s⟩] := by
  simp only [wl]
  rw [if_pos ⟨h1, h2, h3⟩, h3]
set_option maxHeartbeats 4000000 in
theorem rreplay (v : Nat → Ver) (a : Option Addr) (c : Nat) (l : List Ac) (w : World) (h : ActsIn w a l) (hok : ActsOk l) :
    Calls Try.prog 89 #[.agg (wagg v), .slice a l.length c] w fun e w' => RyEnd v l w e w' := by
  have hu := Try.underlying32
  have HA := hide h
  have HO := hide hok
  have hm := hok.1
  have H0 := hide (ry_start 72 v w)
  clear h hok
  go_enter Try.func89, Try.ntmps89
  go_wp2_with fail
  generalize w.heap.size + 1 = p at *
  generalize w.heap.size = q at *
  obtain ⟨n, hn⟩ : ∃ n, l.length = n := ⟨_, rfl⟩
  rw [hn]
  rw [hn] at hm
  have HN := hide hn
  clear hn
  go_loopw [6, 7, 8, 9, 10] (fun x y _ _ _ wr => ∃ (k : Nat) (ok : Bool), k ≤ n ∧ x = .bool ok ∧ y = .int .i64 k ∧ Hid (∃ vk, RyI 72 w p q vk wr ∧ rpl vk ok (l.drop k) = (rpw v l, rpo v l))) (fun _ y _ _ _ _ => n - (intOf y).toNat)
  case atStart => exact ⟨0, true, Nat.zero_le _, rfl, rfl, v, unhide H0, rfl⟩
  case round =>
    obtain ⟨k, ok, hk, rfl, rfl, HI⟩ := hrel
    obtain ⟨vk, hry, hrp⟩ := unhide HI
    have HR := hide hry
    have HP := hide hrp
    clear hry hrp HI
    by_cases hlt : k < n
    · have i1 : (k : Int) < (n : Int) := by omega
      have i0 : (0 : Int) ≤ (k : Int) := by omega
      have hln : k < l.length := by have := unhide HN; omega
      obtain ⟨b, o, rfl, hb⟩ := (unhide HA).kp0 (unhide HR).kp (by omega)
      obtain ⟨x, hx⟩ : ∃ x, l[k]? = some x := ⟨_, List.getElem?_eq_getElem hln⟩
      have HX := hide hx
      have hxl : x.l.length ≤ 1000 := (unhide HO).2 x (List.mem_of_getElem? hx)
      have hat := hb k x hx
      obtain ⟨la, lc, z5, hls⟩ := hat.ls
      have q0 := hat.c0
      have q1 := hat.c1
      have q2 : wr.cell? ⟨b, o + k * 6 + 1 + 1, none⟩ = _ := hat.c2
      have q3 : wr.cell? ⟨b, o + k * 6 + 1 + 1 + 1, none⟩ = _ := hat.c3
      have q4 : wr.cell? ⟨b, o + k * 6 + 1 + 1 + 1 + 1, none⟩ = _ := hat.c4
      have q5 : wr.cell? ⟨b, o + k * 6 + 1 + 1 + 1 + 1 + 1, none⟩ = _ := z5
      have HLS := hide hls
      clear hat hb hx hls z5
      obtain ⟨kd, key, to_, xt, xs, xl⟩ := x
      dsimp only at q0 q1 q2 q3 q4 q5 hxl HLS
      obtain ⟨ln, hlen⟩ : ∃ ln, xl.length = ln := ⟨_, rfl⟩
      rw [hlen] at q5
      have HLN := hide hlen
      clear hlen
      have hgq : ¬ wr.heap.size = q := by have := lt_of_block (unhide HR).var; omega
      have HR1 := hide ((unhide HR).kp0 ((Kp.refl [] wr).alloc (.cells #[.int .i64 kd, .int .i64 key, .int .i64 to_, .bool xt, .string xs, .slice la ln lc] 134)))
      have HL1 := hide ((unhide HLS).kp0 ((Kp.refl [] wr).alloc (.cells #[.int .i64 kd, .int .i64 key, .int .i64 to_, .bool xt, .string xs, .slice la ln lc] 134)))
      have HB1 := hide (heap_alloc_new wr (.cells #[.int .i64 kd, .int .i64 key, .int .i64 to_, .bool xt, .string xs, .slice la ln lc] 134))
      go_wp2_with fail
      generalize wr.alloc (.cells #[.int .i64 kd, .int .i64 key, .int .i64 to_, .bool xt, .string xs, .slice la ln lc] 134) = W at *
      generalize wr.heap.size = g at *
      refine (key12 key W).mono ?_
      rintro e w2 ⟨rfl, hw2⟩
      subst w2
      have b0 : W.cell? ⟨g, 0, none⟩ = some (.int .i64 kd) := cell_of_block (unhide HB1) rfl
      have b1 : W.cell? ⟨g, 1, none⟩ = some (.int .i64 key) := cell_of_block (unhide HB1) rfl
      have b2 : W.cell? ⟨g, 2, none⟩ = some (.int .i64 to_) := cell_of_block (unhide HB1) rfl
      have b3 : W.cell? ⟨g, 3, none⟩ = some (.bool xt) := cell_of_block (unhide HB1) rfl
      have b4 : W.cell? ⟨g, 4, none⟩ = some (.string xs) := cell_of_block (unhide HB1) rfl
      have b5 : W.cell? ⟨g, 5, none⟩ = some (.slice la ln lc) := cell_of_block (unhide HB1) rfl
      clear q0 q1 q2 q3 q4 q5 HR HLS HA
      by_cases hkb : keyB key = true
      · rw [hkb]
        have HNX := hide ((rpl_at (unhide HX) vk ok hkb).symm.trans (unhide HP))
        simp only [keyB, decide_eq_true_eq] at hkb
        obtain ⟨j, rfl⟩ : ∃ j : Nat, key = (j : Int) := ⟨key.toNat, by omega⟩
        have j8 : j < 8 := by omega
        have j0 : (0 : Int) ≤ (j : Int) := by omega
        have j8' : (j : Int) < 8 := by omega
        clear hkb
        obtain ⟨r0, r1, f0, f1⟩ := (unhide HR1).cells j8
        by_cases k3 : kd = 3
        · subst k3
          have HR2 := hide ((unhide HR1).set j8 xt xs)
          have ne := hgq
          have w0 : ((W.setCell ⟨q, j * 2, none⟩ (.bool xt)).setCell ⟨q, j * 2 + 1, none⟩ (.string xs)).cell? ⟨g, 0, none⟩ = some (.int .i64 3) := (((Kp.refl [q] W).setCell (.inl (by simp)) _).setCell (.inl (by simp)) _).cell (by simpa using ne) b0
          go_wp2_with fail
          go_quiet (fail)
          go_wp2_with fail
          refine ⟨⟨k + 1, ok, by omega, rfl, by go_num, _, (unhide HR2).kp0 ((Kp.refl [] _).drewN _), ?_⟩, by simp [intOf]; omega⟩
          have z := unhide HNX
          simp only [ado, aso] at z
          simpa using z
        by_cases k4 : kd = 4
        · subst k4
          have HR2 := hide ((unhide HR1).set j8 xt xs)
          have ne := hgq
          have w0 : ((W.setCell ⟨q, j * 2, none⟩ (.bool xt)).setCell ⟨q, j * 2 + 1, none⟩ (.string xs)).cell? ⟨g, 0, none⟩ = some (.int .i64 4) := (((Kp.refl [q] W).setCell (.inl (by simp)) _).setCell (.inl (by simp)) _).cell (by simpa using ne) b0
          go_wp2_with fail
          go_quiet (fail)
          go_wp2_with fail
          refine ⟨⟨k + 1, ok, by omega, rfl, by go_num, _, (unhide HR2).kp0 ((Kp.refl [] _).drewN _), ?_⟩, by simp [intOf]; omega⟩
          have z := unhide HNX
          simp only [ado, aso] at z
          simpa using z
        by_cases k2 : kd = 2
        · subst k2
          have hne := neqVal (vk j).t xt (vk j).s xs
          have hz : rpl vk (ok && decide (xt = (vk j).t ∧ xs = (vk j).s)) (l.drop (k + 1)) = (rpw v l, rpo v l) := by
            have z := unhide HNX
            simp only [ado, aso, Int.toNat_natCast] at z
            simpa using z
          have hbq : (decide (xt = (vk j).t ∧ xs = (vk j).s)) = decide ((vk j).t = xt ∧ (vk j).s = xs) := decide_eq_decide.2 ⟨fun h => ⟨h.1.symm, h.2.symm⟩, fun h => ⟨h.1.symm, h.2.symm⟩⟩
          rw [hbq] at hz
          have HZ := hide hz
          clear hz HNX hbq
          generalize hbb : decide ((vk j).t = xt ∧ (vk j).s = xs) = bb at *
          generalize (vk j).t = vt at *
          generalize (vk j).s = vs at *
          clear hbb
          cases bb with
          | true =>
            go_wp2_with fail
            go_quiet (fail)
            go_wp2_with fail
            refine ⟨⟨k + 1, ok, by omega, rfl, by go_num, _, (unhide HR1).kp0 ((Kp.refl [] W).drewN _), ?_⟩, by simp [intOf]; omega⟩
            have z := unhide HZ
            simpa using z
          | false =>
            go_wp2_with fail
            go_quiet (fail)
            go_wp2_with fail
            refine ⟨⟨k + 1, false, by omega, rfl, by go_num, _, (unhide HR1).kp0 ((Kp.refl [] W).drewN _), ?_⟩, by simp [intOf]; omega⟩
            have z := unhide HZ
            simpa using z
        by_cases k5 : kd = 5
        · subst k5
          have hz : rpl vk (ok && decide (xl = wl vk j to_ 8)) (l.drop (k + 1)) = (rpw v l, rpo v l) := by
            have z := unhide HNX
            simp only [ado, aso] at z
            simpa using z
          have HZ := hide hz
          clear hz HNX r0 r1 f0 f1
          go_wp2_with fail
          go_quiet (fail)
          go_wp2_with fail
          generalize hW2 : W.drewN _ = W2
          have hk2 : Kp [] W W2 := by rw [← hW2]; exact (Kp.refl [] W).drewN _
          have HR2 := hide ((unhide HR1).kp0 hk2)
          have HL2 := hide ((unhide HL1).kp0 hk2)
          have HB2 := hide (And.intro (hk2.cell (by simp) b1) (And.intro (hk2.cell (by simp) b2) (hk2.cell (by simp) b5)))
          clear hW2 hk2 HR1 HL1 HB1 b0 b1 b2 b3 b4 b5
          go_loopw [9, 10] (fun x y wr => ∃ (i : Nat) (a3 : Option Addr) (c3 n3 : Nat), i ≤ 8 ∧ x = .slice a3 n3 c3 ∧ y = .int .i64 i ∧ Hid (n3 = (wl vk j to_ i).length) ∧ Hid (Zoo W2 wr [KwT 79 3 a3 n3 c3 (vcells (wl vk j to_ i))])) (fun _ y _ => 8 - (intOf y).toNat)
          case atStart => exact ⟨0, none, 0, 0, Nat.zero_le _, rfl, rfl, rfl, kw_nil 79 3 (zoo_nil (Kp.refl [] W2))⟩
          case round =>
            obtain ⟨i, a3, c3, n3, hi8, rfl, rfl, HN3, HZ3⟩ := hrel
            have b1 := (unhide HZ3).kp.cell (by simp) (unhide HB2).1
            have b2 := (unhide HZ3).kp.cell (by simp) (unhide HB2).2.1
            have b5 := (unhide HZ3).kp.cell (by simp) (unhide HB2).2.2
            by_cases hlt8 : i < 8
            · have t1 : (i : Int) < 8 := by omega
              have t0 : (0 : Int) ≤ (i : Int) := by omega
              have hn8 : n3 ≤ 8 := by have := unhide HN3; have := wl_len vk j to_ i; omega
              have hBw := Zoo.base (unhide HZ3)
              obtain ⟨c0, c1, -, -⟩ := ((unhide HR2).kp0 (unhide HZ3).kp).cells hlt8
              by_cases h1 : (j : Int) ≤ (i : Int)
              · by_cases h2 : (i : Int) ≤ to_
                · cases hvt : (vk i).t with
                  | true =>
                    have HW1 := hide (wl_yes h1 h2 hvt)
                    rw [hvt] at c0
                    clear hvt
                    generalize hvs : (vk i).s = sv at *
                    clear hvs
                    have HZA := hide ((unhide HZ3).box #[.int .i64 i, .bool true, .string sv] 79)
                    have HBX := hide (Zoo.var (unhide HZA))
                    go_wp2_with (at_builtin; refine wpList_krow (by rfl) (.tmp 74) (.tmp 80) 32 (by rfl) hu Try.info79 rfl (by omega) (kw_row (l1 := [BoxT wr.heap.size #[.int .i64 i, .bool true, .string sv] 79]) (unhide HZA)) (by simp; omega) (.slice (some ⟨wr.heap.size, 0, none⟩) 1 1) [.int .i64 i, .bool true, .string sv] 1 (by rfl) (by rfl) (src_built hu (unhide HBX) rfl (by simp [Value.oneCell'])) (by omega) (n3 + 1) rfl ?_; intro a2 cap2 w3 g1 g2 g3)
                    have HZ4 := hide (Zoo.tail (kw_app (l1 := [BoxT wr.heap.size #[.int .i64 i, .bool true, .string sv] 79]) (unhide HZA) (unhide g1) (unhide g2) (unhide g3)))
                    exact ⟨⟨i + 1, a2, cap2, n3 + 1, by omega, rfl, by go_num, by rw [unhide HW1, List.length_append, unhide HN3]; rfl, by rw [unhide HW1, vcells_append]; exact unhide HZ4⟩, by simp [intOf]; omega⟩
                  | false =>
                    have HNO := hide (show ¬ ((j : Int) ≤ (i : Int) ∧ (i : Int) ≤ to_ ∧ (vk i).t = true) by rw [hvt]; simp)
                    rw [hvt] at c0
                    clear hvt
                    go_wp2_with fail
                    exact ⟨⟨i + 1, a3, c3, n3, by omega, rfl, by go_num, by rw [wl_no (unhide HNO)]; exact unhide HN3, by rw [wl_no (unhide HNO)]; exact unhide HZ3⟩, by simp [intOf]; omega⟩
                · have HNO := hide (show ¬ ((j : Int) ≤ (i : Int) ∧ (i : Int) ≤ to_ ∧ (vk i).t = true) from fun q => h2 q.2.1)
                  go_wp2_with fail
                  exact ⟨⟨i + 1, a3, c3, n3, by omega, rfl, by go_num, by rw [wl_no (unhide HNO)]; exact unhide HN3, by rw [wl_no (unhide HNO)]; exact unhide HZ3⟩, by simp [intOf]; omega⟩
              · have HNO := hide (show ¬ ((j : Int) ≤ (i : Int) ∧ (i : Int) ≤ to_ ∧ (vk i).t = true) from fun q => h1 q.1)
                go_wp2_with fail
                exact ⟨⟨i + 1, a3, c3, n3, by omega, rfl, by go_num, by rw [wl_no (unhide HNO)]; exact unhide HN3, by rw [wl_no (unhide HNO)]; exact unhide HZ3⟩, by simp [intOf]; omega⟩
            · have t1 : ¬ (i : Int) < 8 := by omega
              have e8 : i = 8 := by omega
              cases ok with
              | false =>
                go_wp2_with fail
                refine ⟨⟨k + 1, false, by omega, rfl, by go_num, _, (unhide HR2).kp0 (unhide HZ3).kp, ?_⟩, by simp [intOf]; omega⟩
                have z := unhide HZ
                simpa using z
              | true =>
                have HSP := hide (samep14 (vs := wl vk j to_ i) (us := xl) a3 la c3 lc wr (slo_krow (kw_row (l1 := []) (unhide HZ3))) ((unhide HL2).kp0 (unhide HZ3).kp) (by have := wl_len vk j to_ i; omega))
                rw [← unhide HN3, unhide HLN] at HSP
                go_wp2_with fail
                refine (unhide HSP).mono ?_
                rintro e w4 ⟨bb, rfl, hbb, m4, hw4⟩
                subst w4
                have HBB := hide hbb
                clear hbb HSP
                go_wp2_with fail
                refine ⟨⟨k + 1, bb, by omega, rfl, by go_num, _, (unhide HR2).kp0 ((unhide HZ3).kp.drewN m4), ?_⟩, by simp [intOf]; omega⟩
                have z := unhide HZ
                have e : decide (xl = wl vk j to_ 8) = bb := by
                  have hb9 := unhide HBB
                  rw [e8] at hb9
                  cases hb : bb with
                  | true => exact decide_eq_true (hb9.1 hb).symm
                  | false => exact decide_eq_false (fun q => by have := hb9.2 q.symm; rw [hb] at this; cases this)
                rw [e] at z
                simpa using z
        · have e2 : (kd == 2) = false := by simpa using k2
          have e3 : (kd == 3) = false := by simpa using k3
          have e4 : (kd == 4) = false := by simpa using k4
          have e5 : (kd == 5) = false := by simpa using k5
          go_wp2_with fail
          go_quiet (fail)
          go_wp2_with fail
          refine ⟨⟨k + 1, ok, by omega, rfl, by go_num, _, (unhide HR1).kp0 ((Kp.refl [] W).drewN _), ?_⟩, by simp [intOf]; omega⟩
          have z := unhide HNX
          simp only [ado, aso] at z
          simpa [k2, k3, k4, k5] using z
      · have hkf : keyB key = false := by simpa using hkb
        rw [hkf]
        have HNX := hide ((rpl_bad (unhide HX) vk ok hkb).symm.trans (unhide HP))
        clear hkb hkf
        go_wp2_with (first | (refine wpList_load_row rfl 72 _ rfl q rfl 72 _ (0, 0) _ (unhide HR1).var Try.underlying72 rfl Try.size72 ?_) | (refine wpList_store_row rfl 72 _ _ rfl p (wagg vk) rfl rfl 72 _ (unhide HR1).res Try.size72 rfl (wagg_one _) ?_))
        obtain ⟨z1, z2⟩ := (unhide HR1).fin
        have hld := wload_r z1
        refine bodyPost_ret (v := .tuple #[.agg (wagg vk), .bool false]) (by rw [results_cell_tmp Try.results89]; simp [asAddr, Result.andThen, hld]) rfl ?_
        have z := unhide HNX
        simp only [Prod.mk.injEq] at z
        exact ⟨by rw [← z.1, ← z.2], z2⟩
    · have i1 : ¬ (k : Int) < (n : Int) := by omega
      go_wp2_with (first | (refine wpList_load_row rfl 72 _ rfl q rfl 72 _ (0, 0) _ (unhide HR).var Try.underlying72 rfl Try.size72 ?_) | (refine wpList_store_row rfl 72 _ _ rfl p (wagg vk) rfl rfl 72 _ (unhide HR).res Try.size72 rfl (wagg_one _) ?_))
      obtain ⟨z1, z2⟩ := (unhide HR).fin
      have hld := wload_r z1
      refine bodyPost_ret (v := .tuple #[.agg (wagg vk), .bool ok]) (by rw [results_cell_tmp Try.results89]; simp [asAddr, Result.andThen, hld]) rfl ?_
      have z := unhide HP
      rw [List.drop_eq_nil_of_le (by have := unhide HN; omega)] at z
      simp only [rpl, Prod.mk.injEq] at z
      exact ⟨by rw [← z.1, ← z.2], z2⟩
end Go.Proofs.Ytapmlleemopcnac
