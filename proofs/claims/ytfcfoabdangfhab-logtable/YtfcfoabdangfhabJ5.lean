/- Put and Tear of the document's roll, by their contracts. -/
import Derived.Test.YtfcfoabdangfhabJ4
import Derived.Test.YtfcfoabdangfhabT4
namespace Go.Proofs.Ytfcfoabdangfhab
open Go.RowKit
set_option maxRecDepth 20000
attribute [local go_sem ↓] Go.wp_at_zero Go.wp_at_succ

theorem Try.info22 : (Try.prog.info? 22).map (fun i => (i.zero, i.size, i.bytes)) = some (some (.slice none 0 0), 1, 24) := by kernel_rfl

/-- 'append(own, w...)' of no pairs and pairs. -/
theorem run_pairs_nil {w : World} {a2 : Option Addr} {ps : List Ver} (h : SlO w a2 ps) (hm : ps.length ≤ 1000) (c2 : Nat) (ty : TypeId) :
    ∃ a' c' w', (Builtin.append_ #[22, 22] ty #[.slice none 0 0, .slice a2 ps.length c2]).run Try.prog w = .ok (.slice a' ps.length c') w' ∧ SlO w' a' ps ∧ (∀ x ∈ ob a', w.heap.size ≤ x ∧ x < w'.heap.size) ∧ Kp [] w w' := by
  obtain ⟨i0, hi0, hz0, hz1, hz2⟩ := info_parts Try.info40
  by_cases hp : 0 < ps.length
  · obtain ⟨g, o, rfl, hs⟩ := h hp
    obtain ⟨g', cap', w', hr, h2, h3, h4, h5⟩ := run_append_lies (P := Try.prog) w 22 ty w.heap.size 40 i0 _ 3 32 Try.underlying22 hi0 hz0 hz1 hz2 rfl (by omega) (.slice none 0 0) 0 [] (World.ownsRow_nil _ _ _ _) ⟨g, o, none⟩ ps.length c2 (vcells ps) (vcells_length ps) hs.news (vcells_one ps) hp (by unfold maxLen; omega) (by omega) (Nat.le_refl _) _ rfl
    rw [Nat.zero_add] at hr
    rw [Nat.zero_add, List.nil_append] at h2
    refine ⟨_, _, w', hr, slo_own h2 rfl, fun x hx => ?_, (Kp.refl [] w).grown h3 (fun k hk => by simp [Value.ownBlock] at hk)⟩
    have e : x = g' := by simpa [ob] using hx
    subst e
    exact h2.lt x rfl
  · have e : ps = [] := List.eq_nil_of_length_eq_zero (by omega)
    subst e
    have hsrc : Src Try.prog i0.size 22 (.slice a2 0 c2) 0 [] w := by
      cases a2 with
      | none => exact Src.ofNil w Try.underlying22 c2
      | some ad => exact Src.ofSlice w Try.underlying22 ad 0 c2 [] (by simp) (by simp) (by simp)
    have hr := run_append_nothing (P := Try.prog) w 22 22 ty 40 i0 Try.underlying22 hi0 none 0 0 (Nat.le_refl _) (.slice a2 0 c2) hsrc
    exact ⟨none, 0, w, hr, fun h => by simp at h, by simp [ob], Kp.refl _ _⟩

theorem step_pairs_nil {ops : Array Oper} {o : Oper} {ac : Act} {w : World} {K : Act → World → Prop} {Q : Exit → Act → World → Prop} {E : Prop} (hgd : o.guard = none) (s x : Operand)
    (ho : o.op = .call { callee := .builtin .append, args := #[s, x], argTypes := #[22, 22] }) {a2 : Option Addr} {ps : List Ver} (c2 : Nat) (h : SlO w a2 ps) (hm : ps.length ≤ 1000)
    (hs : ac.eval s = .slice none 0 0) (hx : ac.eval x = .slice a2 ps.length c2)
    (k : ∀ a' c' w', Hid (SlO w' a' ps) → Hid (∀ x ∈ ob a', w.heap.size ≤ x ∧ x < w'.heap.size) → Hid (Kp [] w w') → K (ac.put o.dst (.slice a' ps.length c')) w') :
    if Region.wanted o (yielded ops ac.tmps) = true then Oper.wp Try.prog o ac w K Q else E := by
  have hw : Region.wanted o (yielded ops ac.tmps) = true := by simp [Region.wanted, hgd]
  obtain ⟨a', c', w', hr, h1, h2, h3⟩ := run_pairs_nil h hm c2 o.type
  rw [if_pos hw]
  unfold Oper.wp execOp
  simp only [ho, resolve, invoke, builtin, Sem.run_bind, Sem.run_pure, Result.andThen_ok, List.map_toArray, List.map_cons, List.map_nil, hs, hx, hr]
  exact k a' c' w' h1 h2 h3

/-- 'append(r.L, l)'. -/
theorem run_appe {B : Nat} {w : World} {a : Option Addr} {cap : Nat} {xs : List El} (h : OwnE B w a cap xs) (hB : B ≤ w.heap.size) (e : El) (b : Nat) (hb : w.heap[b]? = some (.cells #[.slice e.a e.ps.length e.c] 22 (0, 0))) (hm : xs.length ≤ 1000) (ty : TypeId) :
    ∃ a' cap' w', (Builtin.append_ #[48, 48] ty #[.slice a xs.length cap, .slice (some ⟨b, 0, none⟩) 1 1]).run Try.prog w = .ok (.slice a' (xs.length + 1) cap') w' ∧
      OwnE B w' a' cap' (xs ++ [e]) ∧ Kp (ob a) w w' ∧ (∀ x ∈ ob a', x ∈ ob a ∨ w.heap.size ≤ x) := by
  obtain ⟨i0, hi0, hz0, hz1, hz2⟩ := info_parts Try.info22
  obtain ⟨g', cap', w', hr, h2, h3, h4, h5⟩ := run_append_lies (P := Try.prog) w 48 ty B 22 i0 _ 1 24 Try.underlying48 hi0 hz0 hz1 hz2 rfl (by omega) (.slice a xs.length cap) xs.length (ecells xs) h ⟨b, 0, none⟩ 1 1 [.slice e.a e.ps.length e.c] rfl (World.news_of_block hb) (by simp [Value.oneCell']) (by omega) (by unfold maxLen; omega) (by omega) hB _ rfl
  refine ⟨_, _, w', hr, ?_, (Kp.refl (ob a) w).grown h3 (fun k hk => .inl (h.own_block k hk)), fun x hx => ?_⟩
  · unfold OwnE
    rw [ecells_append, List.length_append]
    exact h2
  · have e2 : x = g' := by simpa [ob] using hx
    subst e2
    rcases h4 with q | q
    · exact .inl (h.own_block x q)
    · exact .inr (by omega)
theorem step_appe {ops : Array Oper} {o : Oper} {ac : Act} {w : World} {K : Act → World → Prop} {Q : Exit → Act → World → Prop} {E : Prop} (hgd : o.guard = none) (s x : Operand)
    (ho : o.op = .call { callee := .builtin .append, args := #[s, x], argTypes := #[48, 48] }) {B : Nat} {a : Option Addr} {cap : Nat} {xs : List El} (h : OwnE B w a cap xs) (hB : B ≤ w.heap.size) (e : El) (b : Nat) (hb : w.heap[b]? = some (.cells #[.slice e.a e.ps.length e.c] 22 (0, 0))) (hm : xs.length ≤ 1000)
    (hs : ac.eval s = .slice a xs.length cap) (hx : ac.eval x = .slice (some ⟨b, 0, none⟩) 1 1)
    (k : ∀ a' cap' w', Hid (OwnE B w' a' cap' (xs ++ [e])) → Hid (Kp (ob a) w w') → Hid (∀ x ∈ ob a', x ∈ ob a ∨ w.heap.size ≤ x) → K (ac.put o.dst (.slice a' (xs.length + 1) cap')) w') :
    if Region.wanted o (yielded ops ac.tmps) = true then Oper.wp Try.prog o ac w K Q else E := by
  have hw : Region.wanted o (yielded ops ac.tmps) = true := by simp [Region.wanted, hgd]
  obtain ⟨a', c', w', hr, h1, h2, h3⟩ := run_appe h hB e b hb hm o.type
  rw [if_pos hw]
  unfold Oper.wp execOp
  simp only [ho, resolve, invoke, builtin, Sem.run_bind, Sem.run_pure, Result.andThen_ok, List.map_toArray, List.map_cons, List.map_nil, hs, hx, hr]
  exact k a' c' w' h1 h2 h3

/-- What a call that changes a roll leaves. -/
def RlTo (B : Nat) (w : World) (rb : Nat) (G : List Nat) (cs : List (List Ver)) (torn : List UInt8) (w' : World) : Prop := ∃ G', Rl B w' rb G' cs torn ∧ Kp G w w' ∧ ∀ x, x ∈ G' → x ∈ G ∨ w.heap.size ≤ x
theorem rlTo_same {B : Nat} {w w' : World} {rb : Nat} {G : List Nat} {cs : List (List Ver)} {torn : List UInt8} (h : Rl B w rb G cs torn) (hk : Kp [] w w') : RlTo B w rb G cs torn w' :=
  ⟨G, h.kp0 hk, hk.mono (fun x hx => by simp at hx), fun x hx => .inl hx⟩
theorem RlTo.trans {B : Nat} {w w1 w2 : World} {rb : Nat} {G : List Nat} {cs cs' : List (List Ver)} {torn torn' : List UInt8} (h : RlTo B w rb G cs torn w1) (k : ∀ G', Rl B w1 rb G' cs torn → RlTo B w1 rb G' cs' torn' w2) : RlTo B w rb G cs' torn' w2 := by
  obtain ⟨G1, h1, h2, h3⟩ := h
  obtain ⟨G2, k1, k2, k3⟩ := k G1 h1
  refine ⟨G2, k1, h2.trans k2 h3, fun x hx => ?_⟩
  rcases k3 x hx with e | e
  · exact h3 x e
  · exact .inr (Nat.le_trans h2.size e)

section
variable {B : Nat} {w W w4 : World} {rb : Nat} {G : List Nat} {aL a' : Option Addr} {capL cap' : Nat} {xs : List El} {aT : Option Addr} {cT : Nat}
theorem RlL.far (h : RlL B w rb G aL capL xs aT cT []) (hW : Kp [] w W) (hk : Kp (ob aL) W w4) :
    w4.heap[rb]? = some (.cells #[.slice aL xs.length capL, .slice aT ([] : List UInt8).length cT] 50 (0, 0)) := by
  rw [hk.block rb (Nat.lt_of_lt_of_le (h.lo rb h.rG).2 hW.size) h.ne, hW.block rb (h.lo rb h.rG).2 (by simp)]
  exact h.box
theorem RlL.far_cells (h : RlL B w rb G aL capL xs aT cT []) (hW : Kp [] w W) (hk : Kp (ob aL) W w4) : w4.cell? ⟨rb, 0, none⟩ = some (.slice aL xs.length capL) ∧ w4.frozen? ⟨rb, 0, none⟩ = false ∧ rb < w4.heap.size := by
  have hb := h.far hW hk
  exact ⟨cell_of_block hb rfl, frozen_of_block _ hb, lt_of_block hb⟩

theorem RlL.put (h : RlL B w rb G aL capL xs aT cT []) (hW : Kp [] w W) (e : El) (he : SlO W e.a e.ps) (hen : ∀ x ∈ ob e.a, w.heap.size ≤ x ∧ x < W.heap.size) (hk : Kp (ob aL) W w4) (ho : OwnE B w4 a' cap' (xs ++ [e])) (hn : ∀ x ∈ ob a', x ∈ ob aL ∨ W.heap.size ≤ x)
    (hc : lcode (cps xs) e.ps = 0) : RlTo B w rb G (cps xs ++ [e.ps]) [] (w4.setCell ⟨rb, 0, none⟩ (.slice a' (xs.length + 1) cap')) := by
  obtain ⟨rfl, rfl⟩ := h.tn rfl
  have hgl := (h.lo rb h.rG).2
  have hWs := hW.size
  have hk3 : Kp [rb] w4 (w4.setCell ⟨rb, 0, none⟩ (.slice a' (xs.length + 1) cap')) := (Kp.refl [rb] w4).setCell (.inl (by simp)) _
  have hne : rb ∉ ob a' := fun hm => by
    rcases hn rb hm with q | q
    · exact h.ne q
    · omega
  have hKG : Kp G w (w4.setCell ⟨rb, 0, none⟩ (.slice a' (xs.length + 1) cap')) := by
    have k1 : Kp G w w4 := (hW.mono (fun x hx => by simp at hx)).trans hk (fun x hx => .inl (h.aG x hx))
    exact k1.trans hk3 (fun x hx => .inl (by rw [List.mem_singleton.1 hx]; exact h.rG))
  refine ⟨G ++ ob e.a ++ ob a', ⟨a', cap', xs ++ [e], none, 0, ⟨?_, ?_, fun e0 he0 => ?_, byt_nil _ _, fun _ => ⟨rfl, rfl⟩, by simp [ob], hne, by simp [h.rG], fun x hx => by simp [hx], fun x hx => ?_, ?_, by simp, Nat.le_trans h.hB hKG.size⟩, ?_⟩, hKG, fun x hx => ?_⟩
  · rw [heap_setCell_at 0 _ (h.far hW hk)]
    simp
  · exact ho.kp hk3 (fun x hx q => hne (by rw [← List.mem_singleton.1 q]; exact hx))
  · rcases List.mem_append.1 he0 with q | q
    · obtain ⟨s1, s2⟩ := h.els e0 q
      refine ⟨((s1.kp0 hW).kp hk (fun x hx => (s2 x hx).2.2)).kp hk3 (fun x hx q2 => (s2 x hx).2.1 (List.mem_singleton.1 q2)), fun x hx => ⟨by simp [(s2 x hx).1], (s2 x hx).2.1, fun q2 => ?_⟩⟩
      rcases hn x q2 with q3 | q3
      · exact (s2 x hx).2.2 q3
      · have := (h.lo x (s2 x hx).1).2; omega
    · rw [List.mem_singleton.1 q]
      have haL : ∀ x ∈ ob e.a, x ∉ ob aL := fun x hx q2 => by
        have h1 := (hen x hx).1
        have h2 := (h.lo x (h.aG x q2)).2
        omega
      have hrb : ∀ x ∈ ob e.a, x ≠ rb := fun x hx q2 => by
        have h1 := (hen x hx).1
        omega
      refine ⟨(he.kp hk haL).kp hk3 (fun x hx q2 => hrb x hx (List.mem_singleton.1 q2)), fun x hx => ⟨by simp [hx], hrb x hx, fun q2 => ?_⟩⟩
      rcases hn x q2 with q3 | q3
      · exact haL x hx q3
      · have := (hen x hx).2; omega
  · have hs4 : W.heap.size ≤ (w4.setCell ⟨rb, 0, none⟩ (.slice a' (xs.length + 1) cap')).heap.size := Nat.le_trans hk.size hk3.size
    rcases List.mem_append.1 hx with q | q
    · rcases List.mem_append.1 q with q | q
      · exact ⟨(h.lo x q).1, Nat.lt_of_lt_of_le (h.lo x q).2 hKG.size⟩
      · have h1 := hen x q
        have := h.hB
        exact ⟨by omega, by omega⟩
    · have h1 := ho.lo x q
      exact ⟨h1.1, Nat.lt_of_lt_of_le h1.2 hk3.size⟩
  · rw [cps_append]
    exact h.inv.snoc hc
  · rw [cps_append]; rfl
  · rcases List.mem_append.1 hx with q | q
    · rcases List.mem_append.1 q with q | q
      · exact .inl q
      · exact .inr (hen x q).1
    · rcases hn x q with q3 | q3
      · exact .inl (h.aG x q3)
      · exact .inr (by omega)
end

set_option maxHeartbeats 2000000 in
theorem rput42 {B rb : Nat} {G : List Nat} {cs : List (List Ver)} (a2 : Option Addr) (c : Nat) (ps : List Ver) (w : World) (h : Rl B w rb G cs []) (hp : Prs w a2 ps) (hm : ps.length ≤ 1000) :
    Calls Try.prog 42 #[.pointer (some ⟨rb, 0, none⟩), .slice a2 ps.length c] w fun e w' => e = .returned (.int .i64 (lcode cs ps)) ∧ RlTo B w rb G (lput cs ps) [] w' := by
  have hinv := h.inv
  have hn40 := hinv.n40
  have hb3000 := hinv.b3000
  have HS := hide (fun w' (hk : Kp [] w w') => rlTo_same h hk)
  have HBY := hide (fun w' (hk : Kp [] w w') => rbytes24 w' (h.kp0 hk))
  obtain ⟨aL, capL, xs, aT, cT, h, e⟩ := h
  have hlen : cs.length = xs.length := by rw [e, cps_length]
  have HP := hide hp
  have HF := hide (pfault37 a2 c ps w hp hm)
  have HB := hide h
  have HE := hide e
  clear h hp e hinv
  by_cases hpf : pf (-1) ps = 0
  · have hel := enc_le hpf
    have HBO := hide (fun w' (hk : Kp [] w w') => bytesOf11 a2 c ps w' ((unhide HP).kp0 hk) hpf)
    have HPF := hide hpf
    by_cases h40 : 40 ≤ cs.length
    · have hc := lcode_full (cs := cs) hpf (.inl h40)
      rw [hc, show lput cs ps = cs by unfold lput; rw [hc]; simp]
      rw [hlen] at h40
      clear hc hpf
      go_enter Try.func42, Try.ntmps42
      go_wp2_with fail
      refine (unhide HF).mono ?_
      rintro e w1 ⟨rfl, hk1⟩
      rw [unhide HPF]
      have r0 : w1.cell? ⟨rb, 0, none⟩ = some (.slice aL xs.length capL) := hk1.cell (by simp) (unhide HB).c0
      have HK := hide hk1
      clear hk1
      generalize xs.length = C at *
      go_wp2_with fail
      go_ret
      exact ⟨rfl, unhide HS _ (unhide HK)⟩
    · by_cases hfull : 3000 < (lb cs).length + (enc ps).length
      · have hc := lcode_full (cs := cs) hpf (.inr hfull)
        rw [hc, show lput cs ps = cs by unfold lput; rw [hc]; simp]
        rw [hlen] at h40
        clear hc hpf
        go_enter Try.func42, Try.ntmps42
        go_wp2_with fail
        refine (unhide HF).mono ?_
        rintro e w1 ⟨rfl, hk1⟩
        rw [unhide HPF]
        have r0 : w1.cell? ⟨rb, 0, none⟩ = some (.slice aL xs.length capL) := hk1.cell (by simp) (unhide HB).c0
        have HK := hide hk1
        clear hk1
        generalize xs.length = C at *
        have f1 : ¬ (40 : Int) ≤ (C : Int) := by omega
        go_wp2_with fail
        refine (unhide HBY _ (unhide HK)).mono ?_
        rintro e w2 ⟨a3, n3, c3, rfl, hn3, hc3, hb3, hk3⟩
        have HK2 := hide ((unhide HK).trans0 hk3)
        rw [List.append_nil] at hn3
        rw [← hn3] at hfull hb3000
        clear hn3 hc3 hb3 hk3
        go_wp2_with fail
        refine (unhide HBO _ (unhide HK2)).mono ?_
        rintro e w3 ⟨g4, c4, n4, rfl, hn4, hr4⟩
        have HK3 := hide ((unhide HK2).trans0 hr4.kp)
        rw [← hn4] at hfull hel
        clear hn4 hr4
        have f2 : (3000 : Int) < (n3 : Int) + (n4 : Int) := by omega
        go_wp2_with fail
        go_ret
        exact ⟨rfl, unhide HS _ (unhide HK3)⟩
      · have hc := lcode_ok (cs := cs) hpf (fun q => q.elim h40 hfull)
        rw [hc, show lput cs ps = cs ++ [ps] by unfold lput; rw [hc]; simp]
        rw [hlen] at h40
        have HC := hide hc
        clear hc hpf
        go_enter Try.func42, Try.ntmps42
        go_wp2_with fail
        refine (unhide HF).mono ?_
        rintro e w1 ⟨rfl, hk1⟩
        rw [unhide HPF]
        have r0 : w1.cell? ⟨rb, 0, none⟩ = some (.slice aL xs.length capL) := hk1.cell (by simp) (unhide HB).c0
        have HK := hide hk1
        clear hk1
        obtain ⟨C, hC⟩ : ∃ C, xs.length = C := ⟨_, rfl⟩
        rw [hC] at h40 r0
        have f1 : ¬ (40 : Int) ≤ (C : Int) := by omega
        have HCC := hide hC
        clear hC hlen
        go_wp2_with fail
        refine (unhide HBY _ (unhide HK)).mono ?_
        rintro e w2 ⟨a3, n3, c3, rfl, hn3, hc3, hb3, hk3⟩
        have HK2 := hide ((unhide HK).trans0 hk3)
        rw [List.append_nil] at hn3
        rw [← hn3] at hfull hb3000
        clear hn3 hc3 hb3 hk3
        go_wp2_with fail
        refine (unhide HBO _ (unhide HK2)).mono ?_
        rintro e w3 ⟨g4, c4, n4, rfl, hn4, hr4⟩
        have HK3 := hide ((unhide HK2).trans0 hr4.kp)
        rw [← hn4] at hfull hel
        clear hn4 hr4 r0
        have f2 : ¬ (3000 : Int) < (n3 : Int) + (n4 : Int) := by omega
        have r0 : w3.cell? ⟨rb, 0, none⟩ = some (.slice aL C capL) := by rw [← unhide HCC]; exact (unhide HK3).cell (by simp) (unhide HB).c0
        have hB3 : B ≤ w3.heap.size := Nat.le_trans (unhide HB).hB (unhide HK3).size
        go_wp2_with fail
        go_region_law (first | (refine step_pairs_nil (by rfl) (.tmp 33) (.tmp 34) (by rfl) c (((unhide HP).kp0 (unhide HK3)).kp0 (Kp.refl [] _).drew).mem (by omega) (by rfl) (by rfl) ?_; intro a5 c5 w5 hs5 hx5 hk5; obtain ⟨t0, t1, t2⟩ := (unhide HB).far_cells (((unhide HK3).drew).trans0 (unhide hk5)) (Kp.refl _ _); rw [unhide HCC] at t0) | (refine step_appe (by rfl) (.tmp 32) (.tmp 36) (by rfl) (xs := xs) (((((unhide HB).own.kp0 (unhide HK3)).kp0 (Kp.refl [] _).drew).kp0 (unhide hk5)).kp0 ((Kp.refl [] _).alloc _)) (by have := (unhide hk5).size; simp at this; simp; omega) ⟨a5, c5, ps⟩ w5.heap.size (heap_alloc_new w5 _) (by have := unhide HCC; omega) (by rw [unhide HCC]; rfl) (by rfl) ?_; intro a6 c6 w6 ho6 hk6 hx6; obtain ⟨u0, u1, u2⟩ := (unhide HB).far_cells ((((unhide HK3).drew).trans0 (unhide hk5)).alloc _) (unhide hk6); rw [unhide HCC] at u0; rw [unhide HCC]))
        all_goals
          go_wp2_with fail
          go_ret
          refine ⟨rfl, ?_⟩
          have hput := (unhide HB).put ((((unhide HK3).drew).trans0 (unhide hk5)).alloc _) ⟨a5, c5, ps⟩ ((unhide hs5).kp0 ((Kp.refl [] _).alloc _)) (fun x hx => by have h1 := unhide hx5 x hx; have h2 := (unhide HK3).size; simp at h1; simp; omega) (unhide hk6) (unhide ho6) (unhide hx6) (by rw [← unhide HE]; exact unhide HC)
          rw [← unhide HE, unhide HCC] at hput
          exact hput
  · have hc := lcode_bad (cs := cs) hpf
    rw [hc, show lput cs ps = cs by unfold lput; rw [hc, if_neg hpf]]
    clear hc HB HE hlen HBY HP
    generalize pf (-1) ps = z at *
    go_enter Try.func42, Try.ntmps42
    go_wp2_with fail
    refine (unhide HF).mono ?_
    rintro e w1 ⟨rfl, hk1⟩
    have HK := hide (unhide HS _ hk1)
    clear hk1 HS HF
    go_wp2_with fail
    go_ret
    exact ⟨rfl, unhide HK⟩
end Go.Proofs.Ytfcfoabdangfhab
