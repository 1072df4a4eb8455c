/- Put of a chain, by its contract. -/
import Derived.Test.YtfcfoabdangfhabC2
import Derived.Deep.RegionLaw
namespace Go.Proofs.Ytfcfoabdangfhab
open Go.RowKit
set_option maxRecDepth 20000
attribute [local go_sem ↓] Go.wp_at_zero Go.wp_at_succ

theorem heap_setCell_box {w : World} {b : Nat} {v u : Value} {t : TypeId} (h : w.heap[b]? = some (.cells #[u] t (0, 0))) : (w.setCell ⟨b, 0, none⟩ v).heap[b]? = some (.cells #[v] t (0, 0)) := by
  simp only [World.setCell, Array.getElem?_modify, h, if_true, Option.map_some]
  simp

theorem chn_put {B b g cap : Nat} {vs : List Ver} {w wx w2 : World} (h : Chn B w b g cap vs) (hk : Kp [] w wx) {x : Int} {t : Bool} {s : ByteArray} {g' cap' : Nat}
    (hown : w2.ownsRow B 96 3 (.slice (some ⟨g', 0, none⟩) (vs.length + 1) cap') (vs.length + 1) (vcells vs ++ [.int .i64 x, .bool t, .string s]))
    (hg : wx.grownBy w2 (some g)) (hat : g = g' ∨ g' = wx.heap.size) :
    Chn B (w2.setCell ⟨b, 0, none⟩ (.slice (some ⟨g', 0, none⟩) (vs.length + 1) cap')) b g' cap' (vs ++ [⟨x, t, s⟩]) ∧ Kp [b, g] w (w2.setCell ⟨b, 0, none⟩ (.slice (some ⟨g', 0, none⟩) (vs.length + 1) cap')) := by
  have hx := h.kp hk (by simp) (by simp)
  have hne : b ≠ g' := by
    rcases hat with e | e
    · rw [← e]; exact h.ne
    · have := hx.blt; omega
  have hb2 : w2.heap[b]? = some (.cells #[.slice (some ⟨g, 0, none⟩) vs.length cap] 98 (0, 0)) := by
    rw [hg.block b hx.blt (by simp; exact h.ne)]; exact hx.box
  have hk2 : Kp [b, g] w w2 := ((hk.mono (T := [b, g]) (by simp)).grown hg (fun k hk => by left; simp at hk; simp [hk]))
  refine ⟨⟨?_, ?_, hne, h.hb, by simp⟩, hk2.setCell (.inl (by simp)) _⟩
  · rw [List.length_append]
    refine ⟨by rw [vcells_length]; simp, ?_⟩
    rcases hown.2 with ⟨e, _⟩ | ⟨g2, c2, cur, e, q1, q2, q3, q4, q5, q6⟩
    · simp at e
    · refine .inr ⟨g2, c2, cur, ?_, q1, ?_, q3, q4, q5, ?_⟩
      · exact e
      · simp only [Value.slice.injEq, Option.some.injEq, Addr.mk.injEq, and_true, true_and] at e
        obtain ⟨rfl, rfl⟩ := e
        rw [Below.heap_setCell _ _ _ _ (by simpa using hne.symm)]; exact q2
      · rw [vcells_append]; exact q6
  · rw [List.length_append]; exact heap_setCell_box hb2

theorem put_facts {B b g cap : Nat} {vs : List Ver} {w w1 : World} {x y : Value} (h : Chn B w b g cap vs) (hk : Kp [] (w.alloc (.cells #[x, y] 38)) w1) :
    w1.cell? ⟨b, 0, none⟩ = some (.slice (some ⟨g, 0, none⟩) vs.length cap) ∧ w1.frozen? ⟨b, 0, none⟩ = false ∧ w1.cell? ⟨w.heap.size, 0, none⟩ = some x ∧ w1.cell? ⟨w.heap.size, 1, none⟩ = some y := by
  have h2 := h.kp (((Kp.refl [] w).alloc _).trans0 hk) (by simp) (by simp)
  exact ⟨h2.cell, h2.frozen, hk.cell (by simp) (by simp), hk.cell (by simp) (by simp)⟩

theorem far_facts {W w2 : World} {o : Obj} {b g n cap : Nat} {v : Value} (hg : (W.alloc o).drew.grownBy w2 (Value.slice (some ⟨g, 0, none⟩) n cap).ownBlock) (hne : b ≠ g)
    (q0 : W.cell? ⟨b, 0, none⟩ = some v) (q1 : W.frozen? ⟨b, 0, none⟩ = false) : w2.cell? ⟨b, 0, none⟩ = some v ∧ w2.frozen? ⟨b, 0, none⟩ = false := by
  have hb := World.block_lt_of_cell? W _ q0
  have hn : some b ≠ (Value.slice (some ⟨g, 0, none⟩) n cap).ownBlock := by simp [Value.ownBlock, hne]
  refine ⟨?_, ?_⟩
  · rw [hg.cell_far _ (by simp; exact Nat.lt_succ_of_lt hb) hn]
    simp only [World.cell?_drew]
    rw [World.cell?_alloc_lt _ _ _ hb]; exact q0
  · rw [hg.frozen_far _ (by simp; exact Nat.lt_succ_of_lt hb) hn]
    simp only [World.frozen?_drew]
    rw [World.frozen?_alloc_old _ _ _ (Nat.ne_of_lt hb)]; exact q1

set_option maxHeartbeats 400000 in
theorem put21 {B b g cap : Nat} {vs : List Ver} (x : Int) (t : Bool) (s : ByteArray) (w : World) (h : Chn B w b g cap vs) (hm : vs.length ≤ 900) (hs : s.size ≤ maxLen) (hB : B ≤ w.heap.size) :
    Calls Try.prog 56 #[.pointer (some ⟨b, 0, none⟩), .int .i64 x, .agg #[.bool t, .string s]] w fun e w' => e = .returned (.int .i64 (pcode vs x t s)) ∧ ∃ g' cap', Chn B w' b g' cap' (pvers vs x t s) ∧ (g' = g ∨ w.heap.size ≤ g') ∧ Kp [b, g] w w' := by
  obtain ⟨i0, hi0, hz0, hz1, hz2⟩ := info_parts Try.info96
  have hb := h.blt
  have HC := hide h
  have hlt := h.hg.2
  clear h
  by_cases hc : chk t s = 0
  · by_cases hl : x ≤ va vs (vs.length - 1)
    · have hp : pcode vs x t s = 5 := by unfold pcode; rw [if_pos hc, if_pos hl]
      have hv : pvers vs x t s = vs := by unfold pvers; rw [if_neg (by rw [hp]; decide)]
      rw [hp, hv]
      clear hp hv
      go_enter Try.func56, Try.ntmps56
      go_wp2_with fail
      refine (check13 t s _ hs).mono ?_
      rintro e w1 ⟨rfl, hk⟩
      rw [hc]
      have HK := hide hk
      have HCC := hide hc
      clear hc hk
      go_wp2_with fail
      have h1 := (unhide HC).kp (((Kp.refl [] w).alloc _).trans0 (unhide HK)) (by simp) (by simp)
      refine (last15 _ h1 (by omega)).mono ?_
      rintro e w2 ⟨rfl, m, rfl⟩
      clear h1
      go_wp2
      go_ret
      have h1 := (unhide HC).kp ((((Kp.refl [] w).alloc _).trans0 (unhide HK)).drewN m) (by simp) (by simp)
      exact ⟨rfl, g, cap, h1, .inl rfl, ((((Kp.refl [] w).alloc _).trans0 (unhide HK)).drewN m).mono (by simp)⟩
    · have hp : pcode vs x t s = 0 := by unfold pcode; rw [if_pos hc, if_neg hl]
      have hv : pvers vs x t s = vs ++ [⟨x, t, s⟩] := by unfold pvers; rw [if_pos hp]
      rw [hp, hv]
      clear hp hv
      go_enter Try.func56, Try.ntmps56
      go_wp2_with fail
      refine (check13 t s _ hs).mono ?_
      rintro e w1 ⟨rfl, hk⟩
      rw [hc]
      have HK := hide hk
      have HCC := hide hc
      clear hc hk
      go_wp2_with fail
      have h1 := (unhide HC).kp (((Kp.refl [] w).alloc _).trans0 (unhide HK)) (by simp) (by simp)
      refine (last15 _ h1 (by omega)).mono ?_
      rintro e w2 ⟨rfl, m, rfl⟩
      have HK2 := hide ((unhide HK).drewN m)
      obtain ⟨q0, q1, q2, q3⟩ := put_facts (unhide HC) (unhide HK2)
      have hb1 : b < (w1.drewN m).heap.size := h1.blt
      have hp1 : w.heap.size < (w1.drewN m).heap.size := by have := (unhide HK2).size; simp at this; simp; omega
      have HO := hide (h1.drewN m).own
      clear h1
      generalize w1.drewN m = W at *
      clear HK
      go_wp2_with fail
      go_region_law (refine step_append_lies _ (by rfl) _ _ 58 (by rfl) B 96 i0 _ 3 32 Try.underlying58 hi0 hz0 hz1 hz2 rfl (by omega) (.slice (some ⟨g, 0, none⟩) vs.length cap) vs.length (vcells vs) (by rfl) (((unhide HO).alloc _).drew) ⟨W.heap.size, 0, none⟩ 1 1 [.int .i64 x, .bool t, .string s] (by rfl) (by rfl) (World.news_of_block (cs := #[.int .i64 x, .bool t, .string s]) (t := 96) (fr := (0, 0)) (heap_alloc_new W _)) (by simp [Value.oneCell']) (by omega) (by unfold maxLen; omega) (by omega) (by simp; omega) (W.heap.size + 1) (by simp) ?_; intro gg cap2 w2 hown1 hgrow hat hlt2; obtain ⟨r0, r1⟩ := far_facts hgrow (unhide HC).ne q0 q1; have HO1 := hide hown1; have HG1 := hide hgrow; have HA1 := hide hat; clear hown1 hgrow hat)
      all_goals
        go_wp2
        go_ret
        obtain ⟨z1, z2⟩ := chn_put (unhide HC) ((((Kp.refl [] w).alloc _).trans0 (unhide HK2)).alloc _).drew (unhide HO1) (unhide HG1) (by rcases unhide HA1 with e | e; exact .inl (by simpa [Value.ownBlock] using e); exact .inr (by simpa using e))
        refine ⟨rfl, gg, cap2, z1, ?_, z2⟩
        rcases unhide HA1 with e | e
        · exact .inl (by simpa [Value.ownBlock] using e.symm)
        · right; omega
  · have hp : pcode vs x t s = chk t s := by unfold pcode; rw [if_neg hc]
    have hv : pvers vs x t s = vs := by unfold pvers; rw [if_neg (by rw [hp]; exact hc)]
    rw [hp, hv]
    clear hp hv
    generalize hq : chk t s = q at *
    have HQ := hide hq
    clear hq
    go_enter Try.func56, Try.ntmps56
    go_wp2_with fail
    refine (check13 t s _ hs).mono ?_
    rintro e w1 ⟨rfl, hk⟩
    rw [unhide HQ]
    have HK := hide hk
    clear hk
    go_wp2
    go_ret
    have h1 := (unhide HC).kp (((Kp.refl [] w).alloc _).trans0 (unhide HK)) (by simp) (by simp)
    exact ⟨rfl, g, cap, h1, .inl rfl, (((Kp.refl [] w).alloc _).trans0 (unhide HK)).mono (by simp)⟩
end Go.Proofs.Ytfcfoabdangfhab
