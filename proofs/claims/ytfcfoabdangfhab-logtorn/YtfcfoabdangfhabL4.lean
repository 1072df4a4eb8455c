/- Put and Clear of a line that lies at a place of a greater box, by their contracts. -/
import Derived.Test.YtfcfoabdangfhabL3
namespace Go.Proofs.Ytfcfoabdangfhab
open Go.RowKit
set_option maxRecDepth 20000
attribute [local go_sem ↓] Go.wp_at_zero Go.wp_at_succ

theorem set_same {cs : Array Value} {i : Nat} {v : Value} (h : cs[i]? = some v) : cs.setIfInBounds i v = cs := by
  have hi : i < cs.size := (Array.getElem?_eq_some_iff.1 h).1
  apply Array.ext_getElem?
  intro j
  rw [Array.getElem?_setIfInBounds]
  split
  · rename_i e; subst e; rw [h]
  · rfl
theorem set_at {cs : Array Value} {i : Nat} {v : Value} (u : Value) (h : cs[i]? = some v) : (cs.setIfInBounds i u)[i]? = some u := by
  have hi : i < cs.size := (Array.getElem?_eq_some_iff.1 h).1
  rw [Array.getElem?_setIfInBounds, if_pos rfl, if_pos hi]
theorem heap_set_at {w : World} {b : Nat} {cs : Array Value} {t : TypeId} (i : Nat) (v : Value) (h : w.heap[b]? = some (.cells cs t (0, 0))) : (w.setCell ⟨b, i, none⟩ v).heap[b]? = some (.cells (cs.setIfInBounds i v) t (0, 0)) := by
  simp only [World.setCell, Array.getElem?_modify, h, if_true, Option.map_some]
  simp

/-- A line's memory: the place i of the box r holds the slice of its versions. -/
structure LinX (B : Nat) (w : World) (r : Nat) (cs : Array Value) (ty : TypeId) (i g o cap : Nat) (vs : List Ver) : Prop where
  box : w.heap[r]? = some (.cells cs ty (0, 0))
  here : cs[i]? = some (.slice (some ⟨g, o, none⟩) vs.length cap)
  sla : SlA w g o vs
  ne : r ≠ g
  hr : B ≤ r
  hg : B ≤ g
  pos : 0 < vs.length
  cap : vs.length ≤ cap

section
variable {B : Nat} {w : World} {r : Nat} {cs : Array Value} {ty : TypeId} {i g o cap : Nat} {vs : List Ver}
theorem LinX.rlt (h : LinX B w r cs ty i g o cap vs) : r < w.heap.size := (Array.getElem?_eq_some_iff.1 h.box).1
theorem LinX.glt (h : LinX B w r cs ty i g o cap vs) : g < w.heap.size := h.sla.lt h.pos
theorem LinX.cell (h : LinX B w r cs ty i g o cap vs) : w.cell? ⟨r, i, none⟩ = some (.slice (some ⟨g, o, none⟩) vs.length cap) := by
  rw [cell_of_row w r i _ _ _ h.box]; exact h.here
theorem LinX.frozen (h : LinX B w r cs ty i g o cap vs) : w.frozen? ⟨r, i, none⟩ = false := by simp [World.frozen?, h.box]
theorem LinX.kp {S : List Nat} {w' : World} (h : LinX B w r cs ty i g o cap vs) (hk : Kp S w w') (hr : r ∉ S) (hg : g ∉ S) : LinX B w' r cs ty i g o cap vs :=
  ⟨by rw [hk.block r h.rlt hr]; exact h.box, h.here, h.sla.kp hk hg, h.ne, h.hr, h.hg, h.pos, h.cap⟩
end

theorem lputx_facts {B r i g o cap : Nat} {cs : Array Value} {ty : TypeId} {vs : List Ver} {w w1 : World} {x y : Value} (h : LinX B w r cs ty i g o cap vs) (hk : Kp [] (w.alloc (.cells #[x, y] 38)) w1) :
    w1.cell? ⟨r, i, none⟩ = some (.slice (some ⟨g, o, none⟩) vs.length cap) ∧ w1.frozen? ⟨r, i, none⟩ = false ∧ w1.cell? ⟨w.heap.size, 0, none⟩ = some x ∧ w1.cell? ⟨w.heap.size, 1, none⟩ = some y := by
  have h2 := h.kp (((Kp.refl [] w).alloc _).trans0 hk) (by simp) (by simp)
  exact ⟨h2.cell, h2.frozen, hk.cell (by simp) (by simp), hk.cell (by simp) (by simp)⟩

theorem far3_facts {wc w4 : World} {b i g n cap : Nat} {v : Value} (hg : wc.grownBy w4 (Value.slice (some ⟨g, 0, none⟩) n cap).ownBlock) (hne : b ≠ g)
    (q0 : wc.cell? ⟨b, i, none⟩ = some v) (q1 : wc.frozen? ⟨b, i, none⟩ = false) : w4.cell? ⟨b, i, none⟩ = some v ∧ w4.frozen? ⟨b, i, none⟩ = false := by
  have hb := World.block_lt_of_cell? wc _ q0
  have hn : some b ≠ (Value.slice (some ⟨g, 0, none⟩) n cap).ownBlock := by simp [Value.ownBlock, hne]
  exact ⟨by rw [hg.cell_far _ hb hn]; exact q0, by rw [hg.frozen_far _ hb hn]; exact q1⟩

theorem linx_put {B r i g o cap : Nat} {cs : Array Value} {ty : TypeId} {vs : List Ver} {w2 wc w4 : World} (h : LinX B w2 r cs ty i g o cap vs) (hk : Kp [] w2 wc) {x : Int} {t : Bool} {s : ByteArray} {g1 cap1 g2 cap2 : Nat}
    (hown : w4.ownsRow B 96 3 (.slice (some ⟨g2, 0, none⟩) (vs.length + 1) cap2) (vs.length + 1) (vcells vs ++ [.int .i64 x, .bool t, .string s]))
    (hg : wc.grownBy w4 (Value.slice (some ⟨g1, 0, none⟩) vs.length cap1).ownBlock) (hg1 : w2.heap.size ≤ g1) (hat : (Value.slice (some ⟨g1, 0, none⟩) vs.length cap1).ownBlock = some g2 ∨ g2 = wc.heap.size) :
    w4.cell? ⟨r, i, none⟩ = some (.slice (some ⟨g, o, none⟩) vs.length cap) ∧ w4.frozen? ⟨r, i, none⟩ = false ∧ w2.heap.size ≤ g2 ∧
      Hid (LinX B (w4.setCell ⟨r, i, none⟩ (.slice (some ⟨g2, 0, none⟩) (vs.length + 1) cap2)) r (cs.setIfInBounds i (.slice (some ⟨g2, 0, none⟩) (vs.length + 1) cap2)) ty i g2 0 cap2 (vs ++ [⟨x, t, s⟩])) ∧ Hid (Kp [r] w2 (w4.setCell ⟨r, i, none⟩ (.slice (some ⟨g2, 0, none⟩) (vs.length + 1) cap2))) := by
  have hrl := h.rlt
  have hc := h.kp hk (by simp) (by simp)
  have hg2 : w2.heap.size ≤ g2 := by
    rcases hat with e | e
    · have : g1 = g2 := by simpa [Value.ownBlock] using e
      omega
    · have := hk.size; omega
  obtain ⟨f0, f1⟩ := far3_facts hg (show r ≠ g1 by omega) hc.cell hc.frozen
  have hb4 : w4.heap[r]? = some (.cells cs ty (0, 0)) := by
    rw [hg.block r hc.rlt (by simp [Value.ownBlock]; omega)]; exact hc.box
  have hk4 : Kp [r] w2 w4 := (hk.mono (T := [r]) (by simp)).grown hg (fun k hk => by right; have : g1 = k := by simpa [Value.ownBlock] using hk
                                                                                     omega)
  have hcap : vs.length + 1 ≤ cap2 := by
    rcases hown.2 with ⟨e, _⟩ | ⟨g3, c3, cur, e, q1, q2, q3, q4, q5, q6⟩
    · simp at e
    · simp only [Value.slice.injEq, Option.some.injEq, Addr.mk.injEq, and_true, true_and] at e
      obtain ⟨rfl, rfl⟩ := e
      exact q3
  have hv : vcells vs ++ [.int .i64 x, .bool t, .string s] = vcells (vs ++ [⟨x, t, s⟩]) := by rw [vcells_append]; rfl
  have hl : vs.length + 1 = (vs ++ [(⟨x, t, s⟩ : Ver)]).length := by simp
  have hB2 := (hown.lt g2 rfl).1
  rw [hv, hl] at hown
  have hs := sla_own hown
  rw [hl] at hcap ⊢
  refine ⟨f0, f1, hg2, ⟨heap_set_at i _ hb4, set_at _ h.here, ?_, by omega, h.hr, hB2, by simp, hcap⟩, hk4.setCell (.inl (by simp)) _⟩
  intro j u hu
  rw [World.cell?_setCell_other _ _ _ _ (by intro e; have := congrArg Addr.block e; simp at this; omega)]
  exact hs j u hu

set_option maxHeartbeats 1000000 in
theorem lputx26 {B r i g o cap : Nat} {cs : Array Value} {ty : TypeId} {vs : List Ver} (x : Int) (t : Bool) (s : ByteArray) (w : World) (h : LinX B w r cs ty i g o cap vs) (hm : vs.length ≤ 900) (hs : s.size ≤ maxLen) (hB : B ≤ w.heap.size) :
    Calls Try.prog 52 #[.pointer (some ⟨r, i, none⟩), .int .i64 x, .agg #[.bool t, .string s]] w fun e w' => e = .returned (.int .i64 (pcode vs x t s)) ∧ ∃ g' o' cap', LinX B w' r (cs.setIfInBounds i (.slice (some ⟨g', o', none⟩) (pvers vs x t s).length cap')) ty i g' o' cap' (pvers vs x t s) ∧ (g' = g ∨ w.heap.size ≤ g') ∧ Kp [r] w w' := by
  obtain ⟨i0, hi0, hz0, hz1, hz2⟩ := info_parts Try.info96
  have hrl := h.rlt
  have hp0 := h.pos
  have HC := hide h
  clear h
  by_cases hc : chk t s = 0
  · by_cases hl : x ≤ va vs (vs.length - 1)
    · have hp : pcode vs x t s = 5 := by unfold pcode; rw [if_pos hc, if_pos hl]
      have hv : pvers vs x t s = vs := by unfold pvers; rw [if_neg (by rw [hp]; decide)]
      rw [hp, hv]
      clear hp hv
      go_enter Try.func52, Try.ntmps52
      go_wp2_with fail
      refine (fault14 t s _ hs).mono ?_
      rintro e w1 ⟨rfl, hk⟩
      rw [hc]
      obtain ⟨q0, q1, q2, q3⟩ := lputx_facts (unhide HC) hk
      have HK := hide hk
      have HCC := hide hc
      clear hc hk
      go_wp2_with fail
      have h1 := (unhide HC).kp (((Kp.refl [] w).alloc _).trans0 (unhide HK)) (by simp) (by simp)
      refine (llast16 g o cap _ h1.sla hp0 (by omega)).mono ?_
      rintro e w2 ⟨rfl, rfl⟩
      have H1 := hide h1
      clear h1
      go_wp2
      go_ret
      exact ⟨rfl, g, o, cap, by rw [set_same (unhide H1).here]; exact unhide H1, .inl rfl, (((Kp.refl [] w).alloc _).trans0 (unhide HK)).mono (by simp)⟩
    · have hp : pcode vs x t s = 0 := by unfold pcode; rw [if_pos hc, if_neg hl]
      have hv : pvers vs x t s = vs ++ [⟨x, t, s⟩] := by unfold pvers; rw [if_pos hp]
      rw [hp, hv]
      clear hp hv
      go_enter Try.func52, Try.ntmps52
      go_wp2_with fail
      refine (fault14 t s _ hs).mono ?_
      rintro e w1 ⟨rfl, hk⟩
      rw [hc]
      obtain ⟨q0, q1, q2, q3⟩ := lputx_facts (unhide HC) hk
      have HK := hide hk
      have HCC := hide hc
      clear hc hk
      go_wp2_with fail
      have h1 := (unhide HC).kp (((Kp.refl [] w).alloc _).trans0 (unhide HK)) (by simp) (by simp)
      refine (llast16 g o cap _ h1.sla hp0 (by omega)).mono ?_
      rintro e w2 ⟨rfl, rfl⟩
      have hr1 := h1.rlt
      have hp1 : w.heap.size < w2.heap.size := by have := (unhide HK).size; simp at this; omega
      have N0 := hide (h1.sla.kp (Kp.refl [] w2).drew (by simp)).news
      have N1 := hide (h1.sla.kp ((Kp.refl [] w2).alloc (.cells #[.int .i64 x, .bool t, .string s] 96)).drew (by simp)).news
      have H1 := hide h1
      clear h1
      go_wp2_with fail
      go_region_law (first | (refine step_append_lies _ (by rfl) _ _ 59 (by rfl) B 96 i0 _ 3 32 Try.underlying59 hi0 hz0 hz1 hz2 rfl (by omega) (.slice none 0 0) 0 [] (by rfl) (World.ownsRow_nil _ _ _ _) ⟨g, o, none⟩ vs.length cap (vcells vs) (by rfl) (vcells_length vs) (by first | exact unhide N0 | exact unhide N1) (vcells_one vs) hp0 (by unfold maxLen; omega) (by omega) (by simp; omega) _ rfl ?_; intro g1 cap1 w3 hown1 hgrow1 hat1 hlt1; have hk3 : Kp [] w2 w3 := (by first | exact kp_none (Kp.refl [] w2).drew hgrow1 | exact kp_none ((Kp.refl [] w2).alloc _).drew hgrow1); have c0 := hk3.cell (p := ⟨r, i, none⟩) (by simp) q0; have c1 : w3.frozen? ⟨r, i, none⟩ = false := (by rw [hk3.frozen hr1 (by simp)]; exact q1); have c2 := hk3.cell (p := ⟨w.heap.size, 0, none⟩) (by simp) q2; have c3 := hk3.cell (p := ⟨w.heap.size, 1, none⟩) (by simp) q3; simp only [Nat.zero_add, List.nil_append] at hown1; have hg1 : w2.heap.size ≤ g1 := (by rcases hat1 with e | e; simp [Value.ownBlock] at e; simp at e; omega); have hr3 := Nat.lt_of_lt_of_le hr1 hk3.size; have HO1 := hide hown1; have HG1 := hide hgrow1; have HA1 := hide hat1; have HK3 := hide hk3; clear hown1 hgrow1 hat1 hk3) | (refine step_append_lies _ (by rfl) _ _ 59 (by rfl) B 96 i0 _ 3 32 Try.underlying59 hi0 hz0 hz1 hz2 rfl (by omega) (.slice (some ⟨g1, 0, none⟩) vs.length cap1) vs.length (vcells vs) (by rfl) ((unhide HO1).alloc _) ⟨w3.heap.size, 0, none⟩ 1 1 [.int .i64 x, .bool t, .string s] (by rfl) (by rfl) (World.news_of_block (cs := #[.int .i64 x, .bool t, .string s]) (t := 96) (fr := (0, 0)) (heap_alloc_new w3 _)) (by simp [Value.oneCell']) (by omega) (by unfold maxLen; omega) (by omega) (by simp; omega) _ rfl ?_; intro g2 cap2 w4 hown2 hgrow2 hat2 hlt2; obtain ⟨f0, f1, f2, F3, F4⟩ := linx_put (unhide H1) ((unhide HK3).alloc _) hown2 hgrow2 hg1 hat2; clear hown2 hgrow2 hat2) | (refine step_append_lies _ (by rfl) _ _ 59 (by rfl) B 96 i0 _ 3 32 Try.underlying59 hi0 hz0 hz1 hz2 rfl (by omega) (.slice (some ⟨g1, 0, none⟩) vs.length cap1) vs.length (vcells vs) (by rfl) (unhide HO1) ⟨w2.heap.size, 0, none⟩ 1 1 [.int .i64 x, .bool t, .string s] (by rfl) (by rfl) (World.news_of_block (cs := #[.int .i64 x, .bool t, .string s]) (t := 96) (fr := (0, 0)) (block_none (wc := (w2.alloc (.cells #[.int .i64 x, .bool t, .string s] 96)).drew) (heap_alloc_new w2 _) (unhide HG1))) (by simp [Value.oneCell']) (by omega) (by unfold maxLen; omega) (by omega) (by omega) _ rfl ?_; intro g2 cap2 w4 hown2 hgrow2 hat2 hlt2; obtain ⟨f0, f1, f2, F3, F4⟩ := linx_put (unhide H1) (unhide HK3) hown2 hgrow2 hg1 hat2; clear hown2 hgrow2 hat2))
      all_goals
        go_wp2
        go_ret
        exact ⟨rfl, g2, 0, cap2, by simpa using unhide F3, .inr (by omega), ((((Kp.refl [] w).alloc _).trans0 (unhide HK)).mono (by simp)).trans (unhide F4) (by simp)⟩
  · have hp : pcode vs x t s = chk t s := by unfold pcode; rw [if_neg hc]
    have hv : pvers vs x t s = vs := by unfold pvers; rw [if_neg (by rw [hp]; exact hc)]
    rw [hp, hv]
    clear hp hv
    generalize hq : chk t s = q at *
    have HQ := hide hq
    clear hq
    go_enter Try.func52, Try.ntmps52
    go_wp2_with fail
    refine (fault14 t s _ hs).mono ?_
    rintro e w1 ⟨rfl, hk⟩
    rw [unhide HQ]
    have HK := hide hk
    clear hk
    go_wp2
    go_ret
    have h1 := (unhide HC).kp (((Kp.refl [] w).alloc _).trans0 (unhide HK)) (by simp) (by simp)
    exact ⟨rfl, g, o, cap, by rw [set_same h1.here]; exact h1, .inl rfl, (((Kp.refl [] w).alloc _).trans0 (unhide HK)).mono (by simp)⟩
end Go.Proofs.Ytfcfoabdangfhab
