/- Put, Reads and Writes of the document's deed, by their contracts. -/
import Derived.Test.YtainekjcdmabbaaG2
namespace Go.Proofs.Ytainekjcdmabbaa
open Go.RowKit
set_option maxRecDepth 20000
attribute [local go_sem ↓] Go.wp_at_zero Go.wp_at_succ

theorem far_drew {W w2 : World} {o : Obj} {ob : Option Nat} {b i : Nat} {v : Value} (hg : (W.alloc o).drew.grownBy w2 ob) (hne : some b ≠ ob)
    (q0 : W.cell? ⟨b, i, none⟩ = some v) (q1 : W.frozen? ⟨b, i, none⟩ = false) : w2.cell? ⟨b, i, none⟩ = some v ∧ w2.frozen? ⟨b, i, none⟩ = false := by
  have hb := World.block_lt_of_cell? W _ q0
  refine ⟨?_, ?_⟩
  · rw [hg.cell_far _ (by simp; exact Nat.lt_succ_of_lt hb) hne]
    simp only [World.cell?_drew]
    rw [World.cell?_alloc_lt _ _ _ hb]; exact q0
  · rw [hg.frozen_far _ (by simp; exact Nat.lt_succ_of_lt hb) hne]
    simp only [World.frozen?_drew]
    rw [World.frozen?_alloc_old _ _ _ (Nat.ne_of_lt hb)]; exact q1

set_option maxHeartbeats 2000000 in
theorem wput58 {B wb : Nat} {H : List Nat} {md y : Int} {rs : List Int} {ws : List Ver} (k : Int) (t : Bool) (s : ByteArray) (w : World) (hw : Wrk B w wb H md y rs ws) (hs : s.size ≤ maxLen) (hwl : ws.length ≤ 900) :
    Calls Try.prog 58 #[.pointer (some ⟨wb, 0, none⟩), .int .i64 k, .agg #[.bool t, .string s]] w fun e w' => WgEnd B w wb H md y rs (dpw md ws k t s) (.int .i64 (dpc md k t s)) e w' := by
  obtain ⟨in0, hi0, hz0, hz1, hz2⟩ := info_parts Try.info72
  have HW := hide hw
  obtain ⟨ra, rc, wa, wc, h⟩ := hw
  have hlt := lt_of_block h.box
  have qm := h.c0
  have HL := hide h
  clear h
  by_cases hk : keyB k = true
  · by_cases hm : md = 3
    · have hc : dpc md k t s = 3 := by unfold dpc; rw [if_pos hk, if_pos hm]
      rw [dpw_not (by rw [hc]; decide), hc]
      clear hc
      subst hm
      go_enter Try.func58, Try.ntmps58
      go_wp2_with fail
      refine (key12 _ _).mono ?_
      rintro e w' ⟨rfl, rfl⟩
      rw [hk]
      clear hk
      go_wp2_with fail
      go_ret
      exact wgEnd_kp rfl (unhide HW) ((Kp.refl [] w).alloc _)
    · have hc : dpc md k t s = chk t s := by unfold dpc; rw [if_pos hk, if_neg hm]
      have em : (md == 3) = false := beq_eq_false_iff_ne.2 hm
      by_cases h0 : chk t s = 0
      · rw [dpw_yes (by rw [hc]; exact h0), hc, h0]
        have H0 := hide h0
        clear hc h0 hm
        go_enter Try.func58, Try.ntmps58
        go_wp2_with fail
        refine (key12 _ _).mono ?_
        rintro e w' ⟨rfl, rfl⟩
        rw [hk]
        clear hk
        go_wp2_with fail
        refine (fault14 t s _ hs).mono ?_
        rintro e w1 ⟨rfl, hkp⟩
        rw [unhide H0]
        have b0 : w1.cell? ⟨w.heap.size, 0, none⟩ = some (.bool t) := hkp.cell (by simp) (by simp)
        have b1 : w1.cell? ⟨w.heap.size, 1, none⟩ = some (.string s) := hkp.cell (by simp) (by simp)
        have hkp1 := ((Kp.refl [] w).alloc (.cells #[.bool t, .string s] 24)).trans0 hkp
        have h1 := (unhide HL).kp0 hkp1
        have c3 := h1.c3
        have f3 : w1.frozen? ⟨wb, 3, none⟩ = false := frozen_of_block 3 h1.box
        have hl1 := lt_of_block h1.box
        have hBb := (h1.lo wb h1.bH).1
        have hRl : w.heap.size < w1.heap.size := by have := hkp.size; simp at this; omega
        have HO := hide (own_kp0 h1.wo (((Kp.refl [] w1).alloc (.cells #[.int .i64 k, .bool t, .string s] 72)).drew))
        have HL1 := hide h1
        have HK1 := hide hkp1
        clear h1 hkp hkp1 qm em
        go_wp2_with fail
        go_region_law (refine step_append_lies _ (by rfl) _ _ 49 (by rfl) B 72 in0 _ 3 32 Try.underlying49 hi0 hz0 hz1 hz2 rfl (by omega) (.slice wa ws.length wc) ws.length (vcells ws) (by rfl) (unhide HO) ⟨w1.heap.size, 0, none⟩ 1 1 [.int .i64 k, .bool t, .string s] (by rfl) (by rfl) (World.news_of_block (cs := #[.int .i64 k, .bool t, .string s]) (t := 72) (fr := (0, 0)) (heap_alloc_new w1 _)) (by simp [Value.oneCell']) (by omega) (by unfold maxLen; omega) (by omega) (by simp; omega) (w1.heap.size + 1) (by simp) ?_; intro gg cap2 w2 hown1 hgrow hat hlt2; obtain ⟨r0, r1⟩ := far_drew hgrow (fun e => ((unhide HL1).ab wb e.symm).1 rfl) c3 f3; have HO1 := hide hown1; have HG1 := hide hgrow; have HA1 := hide hat; clear hown1 hgrow hat)
        all_goals
          go_wp2
          go_ret
          obtain ⟨z1, z2, z3⟩ := wrk_write ((unhide HL1).kp0 (((Kp.refl [] w1).alloc (.cells #[.int .i64 k, .bool t, .string s] 72)).drew)) (unhide HO1) (unhide HG1) (by rcases unhide HA1 with e | e; exact .inl e; exact .inr (by simpa using e)) hlt2
          have hkw := (((unhide HK1).alloc (.cells #[.int .i64 k, .bool t, .string s] 72)).drew)
          refine ⟨rfl, gg :: H, ⟨_, _, _, _, z1⟩, (hkw.mono (T := H) (by simp)).trans z2 (fun x hx => .inl hx), fun x hx => ?_⟩
          have hsz := hkw.size
          rcases List.mem_cons.1 hx with e | e
          · subst e
            rcases z3 with q | q
            · exact .inl q
            · right; omega
          · exact .inl e
      · rw [dpw_not (by rw [hc]; exact h0), hc]
        clear hc hm
        go_enter Try.func58, Try.ntmps58
        go_wp2_with fail
        refine (key12 _ _).mono ?_
        rintro e w' ⟨rfl, rfl⟩
        rw [hk]
        clear hk
        go_wp2_with fail
        refine (fault14 t s _ hs).mono ?_
        rintro e w1 ⟨rfl, hkp⟩
        have HK1 := hide (((Kp.refl [] w).alloc (.cells #[.bool t, .string s] 24)).trans0 hkp)
        clear hkp qm em
        generalize hcc : chk t s = c at *
        have HCC := hide hcc
        clear hcc
        go_wp2_with fail
        go_ret
        exact wgEnd_kp (ret_int (unhide HCC).symm) (unhide HW) (unhide HK1)
  · have hk2 : keyB k = false := by simpa using hk
    have hc : dpc md k t s = 1 := by unfold dpc; rw [if_neg hk]
    rw [dpw_not (by rw [hc]; decide), hc]
    clear hc hk
    go_enter Try.func58, Try.ntmps58
    go_wp2_with fail
    refine (key12 _ _).mono ?_
    rintro e w' ⟨rfl, rfl⟩
    rw [hk2]
    clear hk2
    go_wp2_with fail
    go_ret
    exact wgEnd_kp rfl (unhide HW) ((Kp.refl [] w).alloc _)

set_option maxHeartbeats 1000000 in
theorem wreads65 {B wb : Nat} {H : List Nat} {md y : Int} {rs : List Int} {ws : List Ver} (w : World) (h : Wrk B w wb H md y rs ws) (hrl : rs.length ≤ 900) : Calls Try.prog 65 #[.pointer (some ⟨wb, 0, none⟩)] w fun e w' => IntsEnd (rk rs 8) w e w' := by
  obtain ⟨in0, hi0, hz0, hz1, hz2⟩ := info_parts Try.info3
  obtain ⟨ra, rc, wa, wc, h⟩ := h
  have HW := hide h
  have H0 : Hid (RdI w (rk rs 0) none 0 w) := ⟨World.ownsRow_nil _ _ _ _, Kp.refl _ _⟩
  clear h
  go_enter Try.func65, Try.ntmps65
  go_wp2_with fail
  go_loopw [3, 4] (fun s i wr => ∃ (k : Nat) (a : Option Addr) (cap : Nat), k ≤ 8 ∧ s = .slice a (rk rs k).length cap ∧ i = .int .i64 k ∧ Hid (RdI w (rk rs k) a cap wr)) (fun _ i _ => 8 - (intOf i).toNat)
  case atStart => exact ⟨0, none, 0, by omega, rfl, rfl, H0⟩
  case round =>
    obtain ⟨k, a, cap, hk, rfl, rfl, HL⟩ := hrel
    by_cases hlt8 : k < 8
    · have i1 : (k : Int) < 8 := by omega
      have hwr := (unhide HW).kp0 (unhide HL).kp
      have q2 := hwr.c2
      have HS := hide hwr.rsl
      clear hwr
      have hal := rk_len rs k
      by_cases hr : (k : Int) ∈ rs
      · have HN := hide (rk_yes hr)
        have hd : decide ((k : Int) ∈ rs) = true := by simp [hr]
        clear hr
        generalize rk rs k = L at *
        have hOW := hide (own_kp0 (unhide HL).own ((Kp.refl [] wr).alloc (.cells #[.int .i64 k] 3)))
        have hwl := (unhide HL).kp.size
        go_wp2_with fail
        refine (in72 ra rc k _ (unhide HS) (by omega)).mono ?_
        rintro e w' ⟨rfl, hw'⟩
        subst w'
        rw [hd]
        clear hd
        go_wp2_with (at_builtin; refine wpList_append_lies _ rfl _ _ 85 rfl w.heap.size 3 in0 _ 1 8 Try.underlying85 hi0 hz0 hz1 hz2 rfl (by omega) (.slice a L.length cap) L.length (icells L) rfl (unhide hOW) ⟨wr.heap.size, 0, none⟩ 1 1 [.int .i64 k] (by rfl) (by rfl) (World.news_of_block (cs := #[.int .i64 k]) (t := 3) (fr := (0, 0)) (heap_alloc_new wr _)) (by simp [Value.oneCell']) (by omega) (by unfold maxLen; omega) (by omega) (by simp; omega) _ rfl ?_; intro g2 cap2 w2 hown hgrow hat hlt2)
        have HL2 := hide ((unhide HL).more ((Kp.refl [] wr).alloc _) hown hgrow)
        clear hown hgrow hat
        go_wp2_with fail
        exact ⟨⟨k + 1, some ⟨g2, 0, none⟩, cap2, by omega, by rw [unhide HN]; simp, by go_num, by rw [unhide HN]; exact HL2⟩, by simp [intOf]; omega⟩
      · have HN := hide (rk_no hr)
        have hd : decide ((k : Int) ∈ rs) = false := by simp [hr]
        clear hr
        go_wp2_with fail
        refine (in72 ra rc k _ (unhide HS) (by omega)).mono ?_
        rintro e w' ⟨rfl, hw'⟩
        subst w'
        rw [hd]
        clear hd
        go_wp2_with fail
        exact ⟨⟨k + 1, a, cap, by omega, by rw [unhide HN], by go_num, by rw [unhide HN]; exact HL⟩, by simp [intOf]; omega⟩
    · have e : k = 8 := by omega
      subst e
      go_wp2_with fail
      go_ret
      exact ⟨a, cap, rfl, (unhide HL).own, (unhide HL).kp⟩

set_option maxHeartbeats 1000000 in
theorem wwrites67 {B wb : Nat} {H : List Nat} {md y : Int} {rs : List Int} {ws : List Ver} (w : World) (h : Wrk B w wb H md y rs ws) (hwl : ws.length ≤ 900) : Calls Try.prog 67 #[.pointer (some ⟨wb, 0, none⟩)] w fun e w' => PrsEnd (wk ws 8) w e w' := by
  obtain ⟨in0, hi0, hz0, hz1, hz2⟩ := info_parts Try.info72
  have HW := hide h
  have H0 : Hid (WrtI w (wk ws 0) none 0 w) := ⟨World.ownsRow_nil _ _ _ _, Kp.refl _ _⟩
  clear h
  go_enter Try.func67, Try.ntmps67
  go_wp2_with fail
  go_loopw [3, 4] (fun s i wr => ∃ (k : Nat) (a : Option Addr) (cap : Nat), k ≤ 8 ∧ s = .slice a (wk ws k).length cap ∧ i = .int .i64 k ∧ Hid (WrtI w (wk ws k) a cap wr)) (fun _ i _ => 8 - (intOf i).toNat)
  case atStart => exact ⟨0, none, 0, by omega, rfl, rfl, H0⟩
  case round =>
    obtain ⟨k, a, cap, hk, rfl, rfl, HL⟩ := hrel
    by_cases hlt8 : k < 8
    · have i1 : (k : Int) < 8 := by omega
      have hal := wk_len ws k
      go_wp2_with fail
      refine (wlast81 k _ ((unhide HW).kp0 (unhide HL).kp) (by omega)).mono ?_
      rintro e w1 ⟨rfl, hkp⟩
      have HK1 := hide hkp
      clear hkp
      cases hv : lwr ws k with
      | some v =>
        have HN := hide (wk_yes hv)
        simp only [Option.isSome_some, Option.getD_some]
        clear hv
        generalize wk ws k = L at *
        have hOW := hide (own_kp0 (unhide HL).own (((unhide HK1).alloc (.cells #[.bool v.t, .string v.s] 24)).alloc (.cells #[.int .i64 k, .bool v.t, .string v.s] 72)))
        have hwl := ((unhide HL).kp.trans0 (unhide HK1)).size
        go_wp2_with (at_builtin; refine wpList_append_lies _ rfl _ _ 49 rfl w.heap.size 72 in0 _ 3 32 Try.underlying49 hi0 hz0 hz1 hz2 rfl (by omega) (.slice a L.length cap) L.length (vcells L) rfl (unhide hOW) ⟨w1.heap.size + 1, 0, none⟩ 1 1 [.int .i64 k, .bool v.t, .string v.s] (by rfl) (by rfl) (World.news_of_block (cs := #[.int .i64 k, .bool v.t, .string v.s]) (t := 72) (fr := (0, 0)) (by have := heap_alloc_new (w1.alloc (.cells #[.bool v.t, .string v.s] 24)) (.cells #[.int .i64 k, .bool v.t, .string v.s] 72); simpa using this)) (by simp [Value.oneCell']) (by omega) (by unfold maxLen; omega) (by omega) (by simp; omega) _ rfl ?_; intro g2 cap2 w2 hown hgrow hat hlt2)
        have HL2 := hide ((unhide HL).more (((unhide HK1).alloc _).alloc _) hown hgrow)
        clear hown hgrow hat
        go_wp2_with fail
        exact ⟨⟨k + 1, some ⟨g2, 0, none⟩, cap2, by omega, by rw [unhide HN]; simp, by go_num, by rw [unhide HN]; exact HL2⟩, by simp [intOf]; omega⟩
      | none =>
        have HN := hide (wk_no hv)
        simp only [Option.isSome_none, Option.getD_none]
        clear hv
        have HL2 := hide ((unhide HL).skip ((unhide HK1).alloc (.cells #[.bool dv.t, .string dv.s] 24)))
        go_wp2_with fail
        exact ⟨⟨k + 1, a, cap, by omega, by rw [unhide HN], by go_num, by rw [unhide HN]; exact HL2⟩, by simp [intOf]; omega⟩
    · have e : k = 8 := by omega
      subst e
      go_wp2_with fail
      go_ret
      exact ⟨a, cap, rfl, (unhide HL).own, (unhide HL).kp⟩
end Go.Proofs.Ytainekjcdmabbaa
