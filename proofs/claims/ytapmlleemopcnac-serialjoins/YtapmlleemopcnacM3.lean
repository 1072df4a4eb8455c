/- J5, J3, J8, Ra, Rb, Rc, Q6, Q7, J6, D1, D2: bound together for a claim. -/
import Derived.Test.YtapmlleemopcnacM2
import Derived.Deep.MidRow
/- Put and Tear of the document's roll, by their contracts. -/
namespace Go.Proofs.Ytapmlleemopcnac
open Go.RowKit
set_option maxRecDepth 20000
attribute [local go_sem ↓] Go.wp_at_zero Go.wp_at_succ

theorem Try.info32 : (Try.prog.info? 32).map (fun i => (i.zero, i.size, i.bytes)) = some (some (.slice none 0 0), 1, 24) := by kernel_rfl

/-- 'append(own, w...)' of no pairs and pairs. -/
theorem run_pairs_nil {w : World} {a2 : Option Addr} {ps : List Ver} (h : SlO w a2 ps) (hm : ps.length ≤ 1000) (c2 : Nat) (ty : TypeId) :
    ∃ a' c' w', (Builtin.append_ #[32, 32] ty #[.slice none 0 0, .slice a2 ps.length c2]).run Try.prog w = .ok (.slice a' ps.length c') w' ∧ SlO w' a' ps ∧ (∀ x ∈ ob a', w.heap.size ≤ x ∧ x < w'.heap.size) ∧ Kp [] w w' := by
  obtain ⟨i0, hi0, hz0, hz1, hz2⟩ := info_parts Try.info79
  by_cases hp : 0 < ps.length
  · obtain ⟨g, o, rfl, hs⟩ := h hp
    obtain ⟨g', cap', w', hr, h2, h3, h4, h5⟩ := run_append_lies (P := Try.prog) w 32 ty w.heap.size 79 i0 _ 3 32 Try.underlying32 hi0 hz0 hz1 hz2 rfl (by omega) (.slice none 0 0) 0 [] (World.ownsRow_nil _ _ _ _) ⟨g, o, none⟩ ps.length c2 (vcells ps) (vcells_length ps) hs.news (vcells_one ps) hp (by unfold maxLen; omega) (by omega) (Nat.le_refl _) _ rfl
    rw [Nat.zero_add] at hr
    rw [Nat.zero_add, List.nil_append] at h2
    refine ⟨_, _, w', hr, slo_own h2 rfl, fun x hx => ?_, (Kp.refl [] w).grown h3 (fun k hk => by simp [Value.ownBlock] at hk)⟩
    have e : x = g' := by simpa [ob] using hx
    subst e
    exact h2.lt x rfl
  · have e : ps = [] := List.eq_nil_of_length_eq_zero (by omega)
    subst e
    have hsrc : Src Try.prog i0.size 32 (.slice a2 0 c2) 0 [] w := by
      cases a2 with
      | none => exact Src.ofNil w Try.underlying32 c2
      | some ad => exact Src.ofSlice w Try.underlying32 ad 0 c2 [] (by simp) (by simp) (by simp)
    have hr := run_append_nothing (P := Try.prog) w 32 32 ty 79 i0 Try.underlying32 hi0 none 0 0 (Nat.le_refl _) (.slice a2 0 c2) hsrc
    exact ⟨none, 0, w, hr, fun h => by simp at h, by simp [ob], Kp.refl _ _⟩

theorem step_pairs_nil {ops : Array Oper} {o : Oper} {ac : Act} {w : World} {K : Act → World → Prop} {Q : Exit → Act → World → Prop} {E : Prop} (hgd : o.guard = none) (s x : Operand)
    (ho : o.op = .call { callee := .builtin .append, args := #[s, x], argTypes := #[32, 32] }) {a2 : Option Addr} {ps : List Ver} (c2 : Nat) (h : SlO w a2 ps) (hm : ps.length ≤ 1000)
    (hs : ac.eval s = .slice none 0 0) (hx : ac.eval x = .slice a2 ps.length c2)
    (k : ∀ a' c' w', Hid (SlO w' a' ps) → Hid (∀ x ∈ ob a', w.heap.size ≤ x ∧ x < w'.heap.size) → Hid (Kp [] w w') → K (ac.put o.dst (.slice a' ps.length c')) w') :
    if Region.wanted o (yielded ops ac.tmps) = true then Oper.wp Try.prog o ac w K Q else E := by
  have hw : Region.wanted o (yielded ops ac.tmps) = true := by simp [Region.wanted, hgd]
  obtain ⟨a', c', w', hr, h1, h2, h3⟩ := run_pairs_nil h hm c2 o.type
  rw [if_pos hw]
  unfold Oper.wp execOp
  simp only [ho, resolve, invoke, builtin, Sem.run_bind, Sem.run_pure, Result.andThen_ok, List.map_toArray, List.map_cons, List.map_nil, hs, hx, hr]
  exact k a' c' w' h1 h2 h3

/-- 'append(r.L, l)'. -/
theorem run_appe {B : Nat} {w : World} {a : Option Addr} {cap : Nat} {xs : List El} (h : OwnE B w a cap xs) (hB : B ≤ w.heap.size) (e : El) (b : Nat) (hb : w.heap[b]? = some (.cells #[.slice e.a e.ps.length e.c] 32 (0, 0))) (hm : xs.length ≤ 1000) (ty : TypeId) :
    ∃ a' cap' w', (Builtin.append_ #[54, 54] ty #[.slice a xs.length cap, .slice (some ⟨b, 0, none⟩) 1 1]).run Try.prog w = .ok (.slice a' (xs.length + 1) cap') w' ∧
      OwnE B w' a' cap' (xs ++ [e]) ∧ Kp (ob a) w w' ∧ (∀ x ∈ ob a', x ∈ ob a ∨ w.heap.size ≤ x) := by
  obtain ⟨i0, hi0, hz0, hz1, hz2⟩ := info_parts Try.info32
  obtain ⟨g', cap', w', hr, h2, h3, h4, h5⟩ := run_append_lies (P := Try.prog) w 54 ty B 32 i0 _ 1 24 Try.underlying54 hi0 hz0 hz1 hz2 rfl (by omega) (.slice a xs.length cap) xs.length (ecells xs) h ⟨b, 0, none⟩ 1 1 [.slice e.a e.ps.length e.c] rfl (World.news_of_block hb) (by simp [Value.oneCell']) (by omega) (by unfold maxLen; omega) (by omega) hB _ rfl
  refine ⟨_, _, w', hr, ?_, (Kp.refl (ob a) w).grown h3 (fun k hk => .inl (h.own_block k hk)), fun x hx => ?_⟩
  · unfold OwnE
    rw [ecells_append, List.length_append]
    exact h2
  · have e2 : x = g' := by simpa [ob] using hx
    subst e2
    rcases h4 with q | q
    · exact .inl (h.own_block x q)
    · exact .inr (by omega)
theorem step_appe {ops : Array Oper} {o : Oper} {ac : Act} {w : World} {K : Act → World → Prop} {Q : Exit → Act → World → Prop} {E : Prop} (hgd : o.guard = none) (s x : Operand)
    (ho : o.op = .call { callee := .builtin .append, args := #[s, x], argTypes := #[54, 54] }) {B : Nat} {a : Option Addr} {cap : Nat} {xs : List El} (h : OwnE B w a cap xs) (hB : B ≤ w.heap.size) (e : El) (b : Nat) (hb : w.heap[b]? = some (.cells #[.slice e.a e.ps.length e.c] 32 (0, 0))) (hm : xs.length ≤ 1000)
    (hs : ac.eval s = .slice a xs.length cap) (hx : ac.eval x = .slice (some ⟨b, 0, none⟩) 1 1)
    (k : ∀ a' cap' w', Hid (OwnE B w' a' cap' (xs ++ [e])) → Hid (Kp (ob a) w w') → Hid (∀ x ∈ ob a', x ∈ ob a ∨ w.heap.size ≤ x) → K (ac.put o.dst (.slice a' (xs.length + 1) cap')) w') :
    if Region.wanted o (yielded ops ac.tmps) = true then Oper.wp Try.prog o ac w K Q else E := by
  have hw : Region.wanted o (yielded ops ac.tmps) = true := by simp [Region.wanted, hgd]
  obtain ⟨a', c', w', hr, h1, h2, h3⟩ := run_appe h hB e b hb hm o.type
  rw [if_pos hw]
  unfold Oper.wp execOp
  simp only [ho, resolve, invoke, builtin, Sem.run_bind, Sem.run_pure, Result.andThen_ok, List.map_toArray, List.map_cons, List.map_nil, hs, hx, hr]
  exact k a' c' w' h1 h2 h3

/-- What a call that changes a roll leaves. -/
def RlTo (B : Nat) (w : World) (rb : Nat) (G : List Nat) (cs : List (List Ver)) (torn : List UInt8) (w' : World) : Prop := ∃ G', Rl B w' rb G' cs torn ∧ Kp G w w' ∧ ∀ x, x ∈ G' → x ∈ G ∨ w.heap.size ≤ x
theorem rlTo_same {B : Nat} {w w' : World} {rb : Nat} {G : List Nat} {cs : List (List Ver)} {torn : List UInt8} (h : Rl B w rb G cs torn) (hk : Kp [] w w') : RlTo B w rb G cs torn w' :=
  ⟨G, h.kp0 hk, hk.mono (fun x hx => by simp at hx), fun x hx => .inl hx⟩
theorem RlTo.trans {B : Nat} {w w1 w2 : World} {rb : Nat} {G : List Nat} {cs cs' : List (List Ver)} {torn torn' : List UInt8} (h : RlTo B w rb G cs torn w1) (k : ∀ G', Rl B w1 rb G' cs torn → RlTo B w1 rb G' cs' torn' w2) : RlTo B w rb G cs' torn' w2 := by
  obtain ⟨G1, h1, h2, h3⟩ := h
  obtain ⟨G2, k1, k2, k3⟩ := k G1 h1
  refine ⟨G2, k1, h2.trans k2 h3, fun x hx => ?_⟩
  rcases k3 x hx with e | e
  · exact h3 x e
  · exact .inr (Nat.le_trans h2.size e)

section
variable {B : Nat} {w W w4 : World} {rb : Nat} {G : List Nat} {aL a' : Option Addr} {capL cap' : Nat} {xs : List El} {aT : Option Addr} {cT : Nat}
theorem RlL.far (h : RlL B w rb G aL capL xs aT cT []) (hW : Kp [] w W) (hk : Kp (ob aL) W w4) :
    w4.heap[rb]? = some (.cells #[.slice aL xs.length capL, .slice aT ([] : List UInt8).length cT] 57 (0, 0)) := by
  rw [hk.block rb (Nat.lt_of_lt_of_le (h.lo rb h.rG).2 hW.size) h.ne, hW.block rb (h.lo rb h.rG).2 (by simp)]
  exact h.box
theorem RlL.far_cells (h : RlL B w rb G aL capL xs aT cT []) (hW : Kp [] w W) (hk : Kp (ob aL) W w4) : w4.cell? ⟨rb, 0, none⟩ = some (.slice aL xs.length capL) ∧ w4.frozen? ⟨rb, 0, none⟩ = false ∧ rb < w4.heap.size := by
  have hb := h.far hW hk
  exact ⟨cell_of_block hb rfl, frozen_of_block _ hb, lt_of_block hb⟩

theorem RlL.put (h : RlL B w rb G aL capL xs aT cT []) (hW : Kp [] w W) (e : El) (he : SlO W e.a e.ps) (hen : ∀ x ∈ ob e.a, w.heap.size ≤ x ∧ x < W.heap.size) (hk : Kp (ob aL) W w4) (ho : OwnE B w4 a' cap' (xs ++ [e])) (hn : ∀ x ∈ ob a', x ∈ ob aL ∨ W.heap.size ≤ x)
    (hc : lcode (cps xs) e.ps = 0) : RlTo B w rb G (cps xs ++ [e.ps]) [] (w4.setCell ⟨rb, 0, none⟩ (.slice a' (xs.length + 1) cap')) := by
  obtain ⟨rfl, rfl⟩ := h.tn rfl
  have hgl := (h.lo rb h.rG).2
  have hWs := hW.size
  have hk3 : Kp [rb] w4 (w4.setCell ⟨rb, 0, none⟩ (.slice a' (xs.length + 1) cap')) := (Kp.refl [rb] w4).setCell (.inl (by simp)) _
  have hne : rb ∉ ob a' := fun hm => by
    rcases hn rb hm with q | q
    · exact h.ne q
    · omega
  have hKG : Kp G w (w4.setCell ⟨rb, 0, none⟩ (.slice a' (xs.length + 1) cap')) := by
    have k1 : Kp G w w4 := (hW.mono (fun x hx => by simp at hx)).trans hk (fun x hx => .inl (h.aG x hx))
    exact k1.trans hk3 (fun x hx => .inl (by rw [List.mem_singleton.1 hx]; exact h.rG))
  refine ⟨G ++ ob e.a ++ ob a', ⟨a', cap', xs ++ [e], none, 0, ⟨?_, ?_, fun e0 he0 => ?_, byt_nil _ _, fun _ => ⟨rfl, rfl⟩, by simp [ob], hne, by simp [h.rG], fun x hx => by simp [hx], fun x hx => ?_, ?_, by simp, Nat.le_trans h.hB hKG.size⟩, ?_⟩, hKG, fun x hx => ?_⟩
  · rw [heap_setCell_at 0 _ (h.far hW hk)]
    simp
  · exact ho.kp hk3 (fun x hx q => hne (by rw [← List.mem_singleton.1 q]; exact hx))
  · rcases List.mem_append.1 he0 with q | q
    · obtain ⟨s1, s2⟩ := h.els e0 q
      refine ⟨((s1.kp0 hW).kp hk (fun x hx => (s2 x hx).2.2)).kp hk3 (fun x hx q2 => (s2 x hx).2.1 (List.mem_singleton.1 q2)), fun x hx => ⟨by simp [(s2 x hx).1], (s2 x hx).2.1, fun q2 => ?_⟩⟩
      rcases hn x q2 with q3 | q3
      · exact (s2 x hx).2.2 q3
      · have := (h.lo x (s2 x hx).1).2; omega
    · rw [List.mem_singleton.1 q]
      have haL : ∀ x ∈ ob e.a, x ∉ ob aL := fun x hx q2 => by
        have h1 := (hen x hx).1
        have h2 := (h.lo x (h.aG x q2)).2
        omega
      have hrb : ∀ x ∈ ob e.a, x ≠ rb := fun x hx q2 => by
        have h1 := (hen x hx).1
        omega
      refine ⟨(he.kp hk haL).kp hk3 (fun x hx q2 => hrb x hx (List.mem_singleton.1 q2)), fun x hx => ⟨by simp [hx], hrb x hx, fun q2 => ?_⟩⟩
      rcases hn x q2 with q3 | q3
      · exact haL x hx q3
      · have := (hen x hx).2; omega
  · have hs4 : W.heap.size ≤ (w4.setCell ⟨rb, 0, none⟩ (.slice a' (xs.length + 1) cap')).heap.size := Nat.le_trans hk.size hk3.size
    rcases List.mem_append.1 hx with q | q
    · rcases List.mem_append.1 q with q | q
      · exact ⟨(h.lo x q).1, Nat.lt_of_lt_of_le (h.lo x q).2 hKG.size⟩
      · have h1 := hen x q
        have := h.hB
        exact ⟨by omega, by omega⟩
    · have h1 := ho.lo x q
      exact ⟨h1.1, Nat.lt_of_lt_of_le h1.2 hk3.size⟩
  · rw [cps_append]
    exact h.inv.snoc hc
  · rw [cps_append]; rfl
  · rcases List.mem_append.1 hx with q | q
    · rcases List.mem_append.1 q with q | q
      · exact .inl q
      · exact .inr (hen x q).1
    · rcases hn x q with q3 | q3
      · exact .inl (h.aG x q3)
      · exact .inr (by omega)
end

set_option maxHeartbeats 2000000 in
theorem rput42 {B rb : Nat} {G : List Nat} {cs : List (List Ver)} (a2 : Option Addr) (c : Nat) (ps : List Ver) (w : World) (h : Rl B w rb G cs []) (hp : Prs w a2 ps) (hm : ps.length ≤ 1000) :
    Calls Try.prog 111 #[.pointer (some ⟨rb, 0, none⟩), .slice a2 ps.length c] w fun e w' => e = .returned (.int .i64 (lcode cs ps)) ∧ RlTo B w rb G (lput cs ps) [] w' := by
  have hinv := h.inv
  have hn40 := hinv.n40
  have hb3000 := hinv.b3000
  have HS := hide (fun w' (hk : Kp [] w w') => rlTo_same h hk)
  have HBY := hide (fun w' (hk : Kp [] w w') => rbytes24 w' (h.kp0 hk))
  obtain ⟨aL, capL, xs, aT, cT, h, e⟩ := h
  have hlen : cs.length = xs.length := by rw [e, cps_length]
  have HP := hide hp
  have HF := hide (pfault37 a2 c ps w hp hm)
  have HB := hide h
  have HE := hide e
  clear h hp e hinv
  by_cases hpf : pf (-1) ps = 0
  · have hel := enc_le hpf
    have HBO := hide (fun w' (hk : Kp [] w w') => bytesOf11 a2 c ps w' ((unhide HP).kp0 hk) hpf)
    have HPF := hide hpf
    by_cases h40 : 40 ≤ cs.length
    · have hc := lcode_full (cs := cs) hpf (.inl h40)
      rw [hc, show lput cs ps = cs by unfold lput; rw [hc]; simp]
      rw [hlen] at h40
      clear hc hpf
      go_enter Try.func111, Try.ntmps111
      go_wp2_with fail
      refine (unhide HF).mono ?_
      rintro e w1 ⟨rfl, hk1⟩
      rw [unhide HPF]
      have r0 : w1.cell? ⟨rb, 0, none⟩ = some (.slice aL xs.length capL) := hk1.cell (by simp) (unhide HB).c0
      have HK := hide hk1
      clear hk1
      generalize xs.length = C at *
      go_wp2_with fail
      go_ret
      exact ⟨rfl, unhide HS _ (unhide HK)⟩
    · by_cases hfull : 3000 < (lb cs).length + (enc ps).length
      · have hc := lcode_full (cs := cs) hpf (.inr hfull)
        rw [hc, show lput cs ps = cs by unfold lput; rw [hc]; simp]
        rw [hlen] at h40
        clear hc hpf
        go_enter Try.func111, Try.ntmps111
        go_wp2_with fail
        refine (unhide HF).mono ?_
        rintro e w1 ⟨rfl, hk1⟩
        rw [unhide HPF]
        have r0 : w1.cell? ⟨rb, 0, none⟩ = some (.slice aL xs.length capL) := hk1.cell (by simp) (unhide HB).c0
        have HK := hide hk1
        clear hk1
        generalize xs.length = C at *
        have f1 : ¬ (40 : Int) ≤ (C : Int) := by omega
        go_wp2_with fail
        refine (unhide HBY _ (unhide HK)).mono ?_
        rintro e w2 ⟨a3, n3, c3, rfl, hn3, hc3, hb3, hk3⟩
        have HK2 := hide ((unhide HK).trans0 hk3)
        rw [List.append_nil] at hn3
        rw [← hn3] at hfull hb3000
        clear hn3 hc3 hb3 hk3
        go_wp2_with fail
        refine (unhide HBO _ (unhide HK2)).mono ?_
        rintro e w3 ⟨g4, c4, n4, rfl, hn4, hr4⟩
        have HK3 := hide ((unhide HK2).trans0 hr4.kp)
        rw [← hn4] at hfull hel
        clear hn4 hr4
        have f2 : (3000 : Int) < (n3 : Int) + (n4 : Int) := by omega
        go_wp2_with fail
        go_ret
        exact ⟨rfl, unhide HS _ (unhide HK3)⟩
      · have hc := lcode_ok (cs := cs) hpf (fun q => q.elim h40 hfull)
        rw [hc, show lput cs ps = cs ++ [ps] by unfold lput; rw [hc]; simp]
        rw [hlen] at h40
        have HC := hide hc
        clear hc hpf
        go_enter Try.func111, Try.ntmps111
        go_wp2_with fail
        refine (unhide HF).mono ?_
        rintro e w1 ⟨rfl, hk1⟩
        rw [unhide HPF]
        have r0 : w1.cell? ⟨rb, 0, none⟩ = some (.slice aL xs.length capL) := hk1.cell (by simp) (unhide HB).c0
        have HK := hide hk1
        clear hk1
        obtain ⟨C, hC⟩ : ∃ C, xs.length = C := ⟨_, rfl⟩
        rw [hC] at h40 r0
        have f1 : ¬ (40 : Int) ≤ (C : Int) := by omega
        have HCC := hide hC
        clear hC hlen
        go_wp2_with fail
        refine (unhide HBY _ (unhide HK)).mono ?_
        rintro e w2 ⟨a3, n3, c3, rfl, hn3, hc3, hb3, hk3⟩
        have HK2 := hide ((unhide HK).trans0 hk3)
        rw [List.append_nil] at hn3
        rw [← hn3] at hfull hb3000
        clear hn3 hc3 hb3 hk3
        go_wp2_with fail
        refine (unhide HBO _ (unhide HK2)).mono ?_
        rintro e w3 ⟨g4, c4, n4, rfl, hn4, hr4⟩
        have HK3 := hide ((unhide HK2).trans0 hr4.kp)
        rw [← hn4] at hfull hel
        clear hn4 hr4 r0
        have f2 : ¬ (3000 : Int) < (n3 : Int) + (n4 : Int) := by omega
        have r0 : w3.cell? ⟨rb, 0, none⟩ = some (.slice aL C capL) := by rw [← unhide HCC]; exact (unhide HK3).cell (by simp) (unhide HB).c0
        have hB3 : B ≤ w3.heap.size := Nat.le_trans (unhide HB).hB (unhide HK3).size
        go_wp2_with fail
        go_region_law (first | (refine step_pairs_nil (by rfl) (.tmp 33) (.tmp 34) (by rfl) c (((unhide HP).kp0 (unhide HK3)).kp0 (Kp.refl [] _).drew).mem (by omega) (by rfl) (by rfl) ?_; intro a5 c5 w5 hs5 hx5 hk5; obtain ⟨t0, t1, t2⟩ := (unhide HB).far_cells (((unhide HK3).drew).trans0 (unhide hk5)) (Kp.refl _ _); rw [unhide HCC] at t0) | (refine step_appe (by rfl) (.tmp 32) (.tmp 36) (by rfl) (xs := xs) (((((unhide HB).own.kp0 (unhide HK3)).kp0 (Kp.refl [] _).drew).kp0 (unhide hk5)).kp0 ((Kp.refl [] _).alloc _)) (by have := (unhide hk5).size; simp at this; simp; omega) ⟨a5, c5, ps⟩ w5.heap.size (heap_alloc_new w5 _) (by have := unhide HCC; omega) (by rw [unhide HCC]; rfl) (by rfl) ?_; intro a6 c6 w6 ho6 hk6 hx6; obtain ⟨u0, u1, u2⟩ := (unhide HB).far_cells ((((unhide HK3).drew).trans0 (unhide hk5)).alloc _) (unhide hk6); rw [unhide HCC] at u0; rw [unhide HCC]))
        all_goals
          go_wp2_with fail
          go_ret
          refine ⟨rfl, ?_⟩
          have hput := (unhide HB).put ((((unhide HK3).drew).trans0 (unhide hk5)).alloc _) ⟨a5, c5, ps⟩ ((unhide hs5).kp0 ((Kp.refl [] _).alloc _)) (fun x hx => by have h1 := unhide hx5 x hx; have h2 := (unhide HK3).size; simp at h1; simp; omega) (unhide hk6) (unhide ho6) (unhide hx6) (by rw [← unhide HE]; exact unhide HC)
          rw [← unhide HE, unhide HCC] at hput
          exact hput
  · have hc := lcode_bad (cs := cs) hpf
    rw [hc, show lput cs ps = cs by unfold lput; rw [hc, if_neg hpf]]
    clear hc HB HE hlen HBY HP
    generalize pf (-1) ps = z at *
    go_enter Try.func111, Try.ntmps111
    go_wp2_with fail
    refine (unhide HF).mono ?_
    rintro e w1 ⟨rfl, hk1⟩
    have HK := hide (unhide HS _ hk1)
    clear hk1 HS HF
    go_wp2_with fail
    go_ret
    exact ⟨rfl, unhide HK⟩
end Go.Proofs.Ytapmlleemopcnac

/- Tear and Put of a log, by their contracts. -/
namespace Go.Proofs.Ytapmlleemopcnac
open Go.RowKit
set_option maxRecDepth 20000
attribute [local go_sem ↓] Go.wp_at_zero Go.wp_at_succ

/-- What a call that changes a log leaves. -/
def LgTo (B : Nat) (w : World) (gb : Nat) (F : List Nat) (cs : List (List Ver)) (torn : List UInt8) (w' : World) : Prop := ∃ F', Lg B w' gb F' cs torn ∧ Kp F w w' ∧ ∀ x, x ∈ F' → x ∈ F ∨ w.heap.size ≤ x
theorem lgTo_same {B : Nat} {w w' : World} {gb : Nat} {F : List Nat} {cs : List (List Ver)} {torn : List UInt8} (h : Lg B w gb F cs torn) (hk : Kp [] w w') : LgTo B w gb F cs torn w' :=
  ⟨F, h.kp0 hk, hk.mono (fun x hx => by simp at hx), fun x hx => .inl hx⟩

section
variable {B : Nat} {w W w2 : World} {gb : Nat} {F : List Nat} {a a' : Option Addr} {cap cap' N : Nat} {cs : List (List Ver)} {bs : List UInt8}
theorem LgL.far (h : LgL B w gb F a cap cs []) (hW : Kp [] w W) (hk : Kp (ob a) W w2) :
    w2.heap[gb]? = some (.cells #[.slice a (lb cs ++ []).length cap, .int .i64 (lb cs).length, .int .i64 cs.length] 168 (0, 0)) := by
  rw [hk.block gb (Nat.lt_of_lt_of_le (h.lo gb h.gF).2 hW.size) h.ne, hW.block gb (h.lo gb h.gF).2 (by simp)]
  exact h.box
theorem LgL.far_cells (h : LgL B w gb F a cap cs []) (hW : Kp [] w W) (hk : Kp (ob a) W w2) :
    w2.cell? ⟨gb, 0, none⟩ = some (.slice a (lb cs).length cap) ∧ w2.frozen? ⟨gb, 0, none⟩ = false ∧ w2.cell? ⟨gb, 1, none⟩ = some (.int .i64 (lb cs).length) ∧ w2.frozen? ⟨gb, 1, none⟩ = false ∧ w2.cell? ⟨gb, 2, none⟩ = some (.int .i64 cs.length) ∧ w2.frozen? ⟨gb, 2, none⟩ = false := by
  have hb := h.far hW hk
  rw [List.append_nil] at hb
  exact ⟨cell_of_block hb rfl, frozen_of_block _ hb, cell_of_block hb rfl, frozen_of_block _ hb, cell_of_block hb rfl, frozen_of_block _ hb⟩

/-- The box with other cells: a log again. -/
theorem LgL.turn (h : LgL B w gb F a cap cs []) (hW : Kp [] w W) (hk : Kp (ob a) W w2) (ho : OwnU B w2 a' cap' bs) (hn : ∀ x ∈ ob a', x ∈ ob a ∨ W.heap.size ≤ x)
    {W3 : World} (hk3 : Kp [gb] w2 W3) {cs' : List (List Ver)} {torn : List UInt8} (hbs : bs = lb cs' ++ torn) (hb : W3.heap[gb]? = some (.cells #[.slice a' bs.length cap', .int .i64 (lb cs').length, .int .i64 cs'.length] 168 (0, 0)))
    (hi : LInv cs') (ht : torn.length ≤ 114) : LgTo B w gb F cs' torn W3 := by
  subst hbs
  have hgl := (h.lo gb h.gF).2
  have hne : gb ∉ ob a' := fun hm => by
    rcases hn gb hm with e | e
    · exact h.ne e
    · have := hW.size; omega
  have hKF : Kp F w W3 := by
    have k1 : Kp F w w2 := (hW.mono (fun x hx => by simp at hx)).trans hk (fun x hx => .inl (h.aF x hx))
    exact k1.trans hk3 (fun x hx => .inl (by rw [List.mem_singleton.1 hx]; exact h.gF))
  have ho3 : OwnU B W3 a' cap' (lb cs' ++ torn) := ho.kp hk3 (fun x hx e => hne (by rw [← List.mem_singleton.1 e]; exact hx))
  refine ⟨F ++ ob a', ⟨a', cap', hb, ho3, hne, by simp [h.gF], fun x hx => by simp [hx], fun x hx => ?_, hi, ht, Nat.le_trans h.hB hKF.size⟩, hKF, fun x hx => ?_⟩
  · rcases List.mem_append.1 hx with e | e
    · exact ⟨(h.lo x e).1, Nat.lt_of_lt_of_le (h.lo x e).2 hKF.size⟩
    · exact ho3.lo x e
  · rcases List.mem_append.1 hx with e | e
    · exact .inl e
    · rcases hn x e with e2 | e2
      · exact .inl (h.aF x e2)
      · exact .inr (Nat.le_trans hW.size e2)

theorem LgL.tear_cut (h : LgL B w gb F a cap cs []) (hW : Kp [] w W) (hk : Kp (ob a) W w2) {t : List UInt8} (ho : OwnU B w2 a' cap' (lb cs ++ t)) (hn : ∀ x ∈ ob a', x ∈ ob a ∨ W.heap.size ≤ x) (hN : N = (lb cs ++ t).length) (ht : t.length ≤ 114) :
    LgTo B w gb F cs t (w2.setCell ⟨gb, 0, none⟩ (.slice a' N cap')) := by
  subst hN
  refine h.turn hW hk ho hn ((Kp.refl [gb] w2).setCell (.inl (by simp)) _) rfl ?_ h.inv ht
  rw [heap_setCell_at 0 _ (h.far hW hk)]
  rfl
theorem LgL.tear_all (h : LgL B w gb F a cap cs []) (hW : Kp [] w W) (hk : Kp (ob a) W w2) {ps : List Ver} (hc : lcode cs ps = 0) (ho : OwnU B w2 a' cap' (lb cs ++ enc ps)) (hn : ∀ x ∈ ob a', x ∈ ob a ∨ W.heap.size ≤ x) (hN : N = (lb cs ++ enc ps).length)
    {x y : Int} (hx : x = ((lb cs).length + (enc ps).length : Nat)) (hy : y = (cs.length + 1 : Nat)) :
    LgTo B w gb F (cs ++ [ps]) [] (((w2.setCell ⟨gb, 0, none⟩ (.slice a' N cap')).setCell ⟨gb, 1, none⟩ (.int .i64 x)).setCell ⟨gb, 2, none⟩ (.int .i64 y)) := by
  subst hN hx hy
  refine h.turn hW hk ho hn ((((Kp.refl [gb] w2).setCell (.inl (by simp)) _).setCell (.inl (by simp)) _).setCell (.inl (by simp)) _) (cs' := cs ++ [ps]) (torn := []) (by rw [lb_snoc, List.append_nil]) ?_ (h.inv.snoc hc) (by simp)
  rw [heap_setCell_at 2 _ (heap_setCell_at 1 _ (heap_setCell_at 0 _ (h.far hW hk)))]
  rw [lb_snoc]
  simp
end

theorem byt_srcn {w : World} {a : Option Addr} {bs : List UInt8} (h : Byt w a bs) {n c : Nat} (hn : n = bs.length) : Src Try.prog 1 55 (.slice a n c) bs.length (bcells bs) w := by
  subst hn
  exact h.src c

set_option maxHeartbeats 2000000 in
theorem ltear30 {B gb : Nat} {F : List Nat} {cs : List (List Ver)} (a2 : Option Addr) (c : Nat) (ps : List Ver) (keep : Int) (w : World) (h : Lg B w gb F cs []) (hp : Prs w a2 ps) (hm : ps.length ≤ 1000) :
    Calls Try.prog 142 #[.pointer (some ⟨gb, 0, none⟩), .slice a2 ps.length c, .int .i64 keep] w fun e w' => e = .returned (.int .i64 (lcode cs ps)) ∧ LgTo B w gb F (ltear cs ps keep) (ltorn cs ps keep) w' := by
  have hinv := h.inv
  have hn40 := hinv.n40
  have hb3000 := hinv.b3000
  have HS := hide (fun w' (hk : Kp [] w w') => lgTo_same h hk)
  obtain ⟨a, cap, h⟩ := h
  by_cases hpf : pf (-1) ps = 0
  · have hel := enc_le hpf
    have HE := hide (encode_ok a2 c ps w hp hpf)
    by_cases hf : 40 ≤ cs.length ∨ 3000 < (lb cs).length + (enc ps).length
    · have hc := lcode_full hpf hf
      obtain ⟨e1, e2⟩ := ltear_code (cs := cs) (ps := ps) keep (by rw [hc]; simp)
      rw [hc, e1, e2]
      have HB := hide h
      clear h hp hpf hc e1 e2
      by_cases h40 : 40 ≤ cs.length
      · clear hf
        go_enter Try.func142, Try.ntmps142
        go_wp2_with fail
        refine (unhide HE).mono ?_
        rintro e w1 ⟨gx, cx, nx, rfl, hn, hr⟩
        have r2 : w1.cell? ⟨gb, 2, none⟩ = some (.int .i64 cs.length) := hr.kp.cell (by simp) (unhide HB).c2
        have HK := hide hr.kp
        clear hn hr
        generalize cs.length = C at *
        go_wp2_with fail
        go_ret
        exact ⟨rfl, unhide HS _ (unhide HK)⟩
      · have hfull : 3000 < (lb cs).length + (enc ps).length := hf.resolve_left h40
        clear hf
        go_enter Try.func142, Try.ntmps142
        go_wp2_with fail
        refine (unhide HE).mono ?_
        rintro e w1 ⟨gx, cx, nx, rfl, hn, hr⟩
        have r2 : w1.cell? ⟨gb, 2, none⟩ = some (.int .i64 cs.length) := hr.kp.cell (by simp) (unhide HB).c2
        have r1 : w1.cell? ⟨gb, 1, none⟩ = some (.int .i64 (lb cs).length) := hr.kp.cell (by simp) (unhide HB).c1
        have HK := hide hr.kp
        rw [← hn] at hfull hel
        clear hn hr
        have HC := hide HB
        clear HB
        have HS2 : Hid (LgTo B w gb F cs [] w1) := unhide HS _ (unhide HK)
        clear HS HC
        generalize cs.length = C at *
        generalize (lb cs).length = L at *
        have f1 : ¬ (40 : Int) ≤ (C : Int) := by omega
        have f2 : (3000 : Int) < (L : Int) + (nx : Int) := by omega
        go_wp2_with fail
        go_ret
        exact ⟨rfl, HS2⟩
    · have hc := lcode_ok hpf hf
      rw [hc]
      have h40 : ¬ 40 ≤ cs.length := fun q => hf (.inl q)
      have hroom : ¬ 3000 < (lb cs).length + (enc ps).length := fun q => hf (.inr q)
      have HC := hide hc
      have HB := hide h
      by_cases hk : ((enc ps).length : Int) ≤ keep
      · obtain ⟨e1, e2⟩ := ltear_all hc hk
        rw [e1, e2]
        clear h hp hpf hc e1 e2 hf
        go_enter Try.func142, Try.ntmps142
        go_wp2_with fail
        refine (unhide HE).mono ?_
        rintro e w1 ⟨gx, cx, nx, rfl, hn, hr⟩
        have r0 : w1.cell? ⟨gb, 0, none⟩ = some (.slice a (lb cs).length cap) := hr.kp.cell (by simp) (by have := (unhide HB).c0; rwa [List.append_nil] at this)
        have r1 : w1.cell? ⟨gb, 1, none⟩ = some (.int .i64 (lb cs).length) := hr.kp.cell (by simp) (unhide HB).c1
        have r2 : w1.cell? ⟨gb, 2, none⟩ = some (.int .i64 cs.length) := hr.kp.cell (by simp) (unhide HB).c2
        have hO : OwnU B w1 a cap (lb cs) := by have := (unhide HB).own.kp0 hr.kp; rwa [List.append_nil] at this
        have hsl := own_part hO (lb cs).length (lb cs).length (Nat.le_refl _) _ rfl
        have hsx := own_part hr.ownU nx nx (by omega) _ rfl
        have HO := hide hO
        have HR := hide hr
        have HK := hide hr.kp
        rw [← hn] at hroom hel hk
        have HN := hide hn
        have hB1 : B ≤ w1.heap.size := Nat.le_trans (unhide HB).hB hr.kp.size
        clear hn hr hO
        obtain ⟨C, hC⟩ : ∃ C, cs.length = C := ⟨_, rfl⟩
        obtain ⟨L, hL⟩ : ∃ L, (lb cs).length = L := ⟨_, rfl⟩
        rw [hC] at hn40 h40 r2
        rw [hL] at hb3000 hroom r0 r1 hsl
        have f1 : ¬ (40 : Int) ≤ (C : Int) := by omega
        have f2 : ¬ (3000 : Int) < (L : Int) + (nx : Int) := by omega
        have m0 : ¬ keep < 0 := by omega
        have HCC := hide hC
        have HLL := hide hL
        clear hC hL
        rcases Int.lt_or_eq_of_le hk with hk2 | hk2
        case' inr => subst hk2
        all_goals
         go_wp2_with fail
         go_region_law (refine step_appx (by rfl) (.tmp 47) (.tmp 50) 55 (by rfl) ((unhide HO).kp0 (Kp.refl [] _).drew) (by simpa using hB1) L (unhide HLL).symm (.slice (some ⟨gx, 0, none⟩) nx cx) (enc ps) (by rfl) (by rfl) (byt_srcn ((unhide HR).byt.kp0 (Kp.refl [] _).drew) (unhide HN)) (by have := unhide HLL; have := unhide HN; omega) ?_; intro a3 c3 n3 w3 hn3 ho3 hk3 hx3; obtain ⟨s0, s1, s2, s3, s4, s5⟩ := (unhide HB).far_cells ((unhide HK).trans0 (Kp.refl [] _).drew) (unhide hk3); rw [unhide HLL] at s0 s2; rw [unhide HCC] at s4)
         all_goals
          go_wp2_with fail
          go_ret
          exact ⟨rfl, (unhide HB).tear_all ((unhide HK).trans0 (Kp.refl [] _).drew) (unhide hk3) (unhide HC) (unhide ho3) (unhide hx3) (unhide hn3) (by have := unhide HLL; have := unhide HN; omega) (by have := unhide HCC; omega)⟩
      · obtain ⟨e1, e2⟩ := ltear_cut hc hk
        rw [e1, e2]
        clear h hp hpf hc e1 e2 hf
        by_cases hneg : keep < 0
        · rw [show keep.toNat = 0 by omega]
          go_enter Try.func142, Try.ntmps142
          go_wp2_with fail
          refine (unhide HE).mono ?_
          rintro e w1 ⟨gx, cx, nx, rfl, hn, hr⟩
          have r0 : w1.cell? ⟨gb, 0, none⟩ = some (.slice a (lb cs).length cap) := hr.kp.cell (by simp) (by have := (unhide HB).c0; rwa [List.append_nil] at this)
          have r1 : w1.cell? ⟨gb, 1, none⟩ = some (.int .i64 (lb cs).length) := hr.kp.cell (by simp) (unhide HB).c1
          have r2 : w1.cell? ⟨gb, 2, none⟩ = some (.int .i64 cs.length) := hr.kp.cell (by simp) (unhide HB).c2
          have hO : OwnU B w1 a cap (lb cs) := by have := (unhide HB).own.kp0 hr.kp; rwa [List.append_nil] at this
          have hsl := own_part hO (lb cs).length (lb cs).length (Nat.le_refl _) _ rfl
          have hsx := own_part hr.ownU 0 nx (by omega) (0) (by omega)
          have HO := hide hO
          have HR := hide ((hr.ownU.take 0 (by omega)).byt)
          have HK := hide hr.kp
          have hlt : ((enc ps).take 0).length = 0 := by simp
          rw [← hn] at hroom hel hk
          have HT := hide hlt
          have hB1 : B ≤ w1.heap.size := Nat.le_trans (unhide HB).hB hr.kp.size
          clear hn hr hO hlt
          obtain ⟨C, hC⟩ : ∃ C, cs.length = C := ⟨_, rfl⟩
          obtain ⟨L, hL⟩ : ∃ L, (lb cs).length = L := ⟨_, rfl⟩
          rw [hC] at hn40 h40 r2
          rw [hL] at hb3000 hroom r0 r1 hsl
          have f1 : ¬ (40 : Int) ≤ (C : Int) := by omega
          have f2 : ¬ (3000 : Int) < (L : Int) + (nx : Int) := by omega
          have m1 : ¬ (nx : Int) < 0 := by omega
          have m2 : ¬ (0 : Int) = (nx : Int) := by omega
          have HCC := hide hC
          have HLL := hide hL
          clear hC hL
          go_wp2_with fail
          go_region_law (refine step_appx (by rfl) (.tmp 47) (.tmp 50) 55 (by rfl) ((unhide HO).kp0 (Kp.refl [] _).drew) (by simpa using hB1) L (unhide HLL).symm (.slice (some ⟨gx, 0, none⟩) 0 cx) ((enc ps).take 0) (by rfl) (by rfl) (byt_srcn ((unhide HR).kp0 (Kp.refl [] _).drew) (unhide HT).symm) (by have := unhide HLL; have := unhide HT; omega) ?_; intro a3 c3 n3 w3 hn3 ho3 hk3 hx3; obtain ⟨s0, s1, s2, s3, s4, s5⟩ := (unhide HB).far_cells ((unhide HK).trans0 (Kp.refl [] _).drew) (unhide hk3); rw [unhide HLL] at s0 s2; rw [unhide HCC] at s4)
          all_goals
           go_wp2_with fail
           go_ret
           exact ⟨rfl, (unhide HB).tear_cut ((unhide HK).trans0 (Kp.refl [] _).drew) (unhide hk3) (unhide ho3) (unhide hx3) (unhide hn3) (by have := unhide HT; omega)⟩
        · obtain ⟨k, rfl⟩ : ∃ k : Nat, keep = (k : Int) := ⟨keep.toNat, by omega⟩
          rw [Int.toNat_natCast]
          go_enter Try.func142, Try.ntmps142
          go_wp2_with fail
          refine (unhide HE).mono ?_
          rintro e w1 ⟨gx, cx, nx, rfl, hn, hr⟩
          have r0 : w1.cell? ⟨gb, 0, none⟩ = some (.slice a (lb cs).length cap) := hr.kp.cell (by simp) (by have := (unhide HB).c0; rwa [List.append_nil] at this)
          have r1 : w1.cell? ⟨gb, 1, none⟩ = some (.int .i64 (lb cs).length) := hr.kp.cell (by simp) (unhide HB).c1
          have r2 : w1.cell? ⟨gb, 2, none⟩ = some (.int .i64 cs.length) := hr.kp.cell (by simp) (unhide HB).c2
          have hO : OwnU B w1 a cap (lb cs) := by have := (unhide HB).own.kp0 hr.kp; rwa [List.append_nil] at this
          have hsl := own_part hO (lb cs).length (lb cs).length (Nat.le_refl _) _ rfl
          have hsx := own_part hr.ownU k nx (by omega) ((k : Int)) (by omega)
          have HO := hide hO
          have HR := hide ((hr.ownU.take k (by omega)).byt)
          have HK := hide hr.kp
          have hlt : ((enc ps).take k).length = k := by simp; omega
          rw [← hn] at hroom hel hk
          have HT := hide hlt
          have hB1 : B ≤ w1.heap.size := Nat.le_trans (unhide HB).hB hr.kp.size
          clear hn hr hO hlt
          obtain ⟨C, hC⟩ : ∃ C, cs.length = C := ⟨_, rfl⟩
          obtain ⟨L, hL⟩ : ∃ L, (lb cs).length = L := ⟨_, rfl⟩
          rw [hC] at hn40 h40 r2
          rw [hL] at hb3000 hroom r0 r1 hsl
          have f1 : ¬ (40 : Int) ≤ (C : Int) := by omega
          have f2 : ¬ (3000 : Int) < (L : Int) + (nx : Int) := by omega
          have m1 : ¬ (nx : Int) < (k : Int) := by omega
          have m2 : ¬ ((k : Int) : Int) = (nx : Int) := by omega
          have HCC := hide hC
          have HLL := hide hL
          clear hC hL
          go_wp2_with fail
          go_region_law (refine step_appx (by rfl) (.tmp 47) (.tmp 50) 55 (by rfl) ((unhide HO).kp0 (Kp.refl [] _).drew) (by simpa using hB1) L (unhide HLL).symm (.slice (some ⟨gx, 0, none⟩) k cx) ((enc ps).take k) (by rfl) (by rfl) (byt_srcn ((unhide HR).kp0 (Kp.refl [] _).drew) (unhide HT).symm) (by have := unhide HLL; have := unhide HT; omega) ?_; intro a3 c3 n3 w3 hn3 ho3 hk3 hx3; obtain ⟨s0, s1, s2, s3, s4, s5⟩ := (unhide HB).far_cells ((unhide HK).trans0 (Kp.refl [] _).drew) (unhide hk3); rw [unhide HLL] at s0 s2; rw [unhide HCC] at s4)
          all_goals
           go_wp2_with fail
           go_ret
           exact ⟨rfl, (unhide HB).tear_cut ((unhide HK).trans0 (Kp.refl [] _).drew) (unhide hk3) (unhide ho3) (unhide hx3) (unhide hn3) (by have := unhide HT; omega)⟩
  · have hc := lcode_bad (cs := cs) hpf
    obtain ⟨e1, e2⟩ := ltear_code (cs := cs) (ps := ps) keep (by rw [hc]; exact hpf)
    rw [hc, e1, e2]
    have HE := hide (encode_bad a2 c ps w hp hm hpf)
    clear h hp hc e1 e2
    generalize pf (-1) ps = z at *
    go_enter Try.func142, Try.ntmps142
    go_wp2_with fail
    refine (unhide HE).mono ?_
    rintro e w1 ⟨rfl, hk1⟩
    have HK := hide (unhide HS _ hk1)
    clear hk1 HS HE
    go_wp2_with fail
    go_ret
    exact ⟨rfl, unhide HK⟩

set_option maxHeartbeats 400000 in
theorem lput31 {B gb : Nat} {F : List Nat} {cs : List (List Ver)} (a2 : Option Addr) (c : Nat) (ps : List Ver) (w : World) (h : Lg B w gb F cs []) (hp : Prs w a2 ps) (hm : ps.length ≤ 1000) :
    Calls Try.prog 128 #[.pointer (some ⟨gb, 0, none⟩), .slice a2 ps.length c] w fun e w' => e = .returned (.int .i64 (lcode cs ps)) ∧ LgTo B w gb F (lput cs ps) [] w' := by
  have ht := ltear30 a2 c ps 9223372036854775807 w h hp hm
  rw [lput_is.1, lput_is.2] at ht
  have HT := hide ht
  clear h hp ht
  generalize lput cs ps = cs' at *
  generalize lcode cs ps = z at *
  go_enter Try.func128, Try.ntmps128
  go_wp2_with fail
  refine (unhide HT).mono ?_
  rintro e w1 ⟨rfl, h1⟩
  have H1 := hide h1
  clear h1
  go_wp2_with fail
  go_ret
  exact ⟨rfl, unhide H1⟩
end Go.Proofs.Ytapmlleemopcnac

/- Tear of the document's roll, by its contract. -/
namespace Go.Proofs.Ytapmlleemopcnac
open Go.RowKit
set_option maxRecDepth 20000
attribute [local go_sem ↓] Go.wp_at_zero Go.wp_at_succ

theorem LInv.take {cs : List (List Ver)} (h : LInv cs) (k : Nat) : LInv (cs.take k) :=
  ⟨fun c hc => h.pf c (List.mem_of_mem_take hc), by have := h.n40; simp; omega, by have := h.b3000; have := lb_take_le cs k; omega⟩
theorem cps_take (xs : List El) (k : Nat) : cps (xs.take k) = (cps xs).take k := by simp [cps, List.map_take]

theorem elem_sl : Try.prog.elem 54 = 32 := by simp [Program.elem, Try.underlying54]
theorem size_sl (W : World) : (sizeOf 32).run Try.prog W = .ok 1 W := by
  obtain ⟨i0, hi0, hz0, hz1, hz2⟩ := info_parts Try.info32
  simp [sizeOf, typeInfo, hi0, hz1]
theorem under_sl : Try.prog.underlying 54 = some (.slice (Try.prog.elem 54)) := by rw [elem_sl]; exact Try.underlying54
theorem own_partE {B : Nat} {w : World} {a : Option Addr} {cap : Nat} {xs : List El} (h : OwnE B w a cap xs) (k n : Nat) (hk : k ≤ xs.length) (x : Int) (hx : x = k) (W : World) :
    (Instr.slice 54 (.slice a n cap) none (some (.int .i64 x)) none).run Try.prog W = .ok (.slice a k cap) W := by
  subst hx
  have hc := h.le
  rw [run_slice_h W 54 a n cap under_sl .i64 _ (by omega) (by omega), elem_sl, size_sl]
  rcases h.cases with ⟨rfl, rfl, rfl⟩ | ⟨g, rfl, _⟩
  · simp [Result.andThen, sliced]
  · simp [Result.andThen, sliced, addr_add]

theorem Prs.kpG {S : List Nat} {w w' : World} {a : Option Addr} {ps : List Ver} (h : Prs w a ps) (hk : Kp S w w') (hS : 0 < ps.length → ∀ g o, a = some ⟨g, o, none⟩ → g ∉ S) : Prs w' a ps :=
  ⟨h.len, h.str, fun hp => by
    obtain ⟨g, o, e, hs⟩ := h.mem hp
    exact ⟨g, o, e, hs.kp hk (hS hp g o e)⟩⟩

theorem RlTo.trans_at {B : Nat} {w w1 w2 : World} {rb : Nat} {G G1 : List Nat} {cs' : List (List Ver)} {torn' : List UInt8} (h2 : Kp G w w1) (h3 : ∀ x, x ∈ G1 → x ∈ G ∨ w.heap.size ≤ x) (k : RlTo B w1 rb G1 cs' torn' w2) : RlTo B w rb G cs' torn' w2 := by
  obtain ⟨G2, k1, k2, k3⟩ := k
  refine ⟨G2, k1, h2.trans k2 h3, fun x hx => ?_⟩
  rcases k3 x hx with e | e
  · exact h3 x e
  · exact .inr (Nat.le_trans h2.size e)

section
variable {B : Nat} {w W w4 : World} {rb : Nat} {G : List Nat} {aL a' : Option Addr} {capL cap' : Nat} {xs : List El} {aT : Option Addr} {cT : Nat}
theorem RlL.pop (h : RlL B w rb G aL capL xs aT cT []) (hW : Kp [] w W) (k : Nat) (hk : k ≤ xs.length) : RlTo B w rb G (cps (xs.take k)) [] (W.setCell ⟨rb, 0, none⟩ (.slice aL k capL)) := by
  obtain ⟨rfl, rfl⟩ := h.tn rfl
  have hW1 := h.kp hW (fun _ _ => by simp)
  have hk3 : Kp [rb] W (W.setCell ⟨rb, 0, none⟩ (.slice aL k capL)) := (Kp.refl [rb] W).setCell (.inl (by simp)) _
  have hKG : Kp G w (W.setCell ⟨rb, 0, none⟩ (.slice aL k capL)) := (hW.mono (fun x hx => by simp at hx)).trans hk3 (fun x hx => .inl (by rw [List.mem_singleton.1 hx]; exact h.rG))
  have hl : (xs.take k).length = k := by simp; omega
  refine ⟨G, ⟨aL, capL, xs.take k, none, 0, ⟨?_, ?_, fun e he => ?_, byt_nil _ _, fun _ => ⟨rfl, rfl⟩, by simp [ob], h.ne, h.rG, h.aG, fun x hx => ⟨(h.lo x hx).1, Nat.lt_of_lt_of_le (h.lo x hx).2 hKG.size⟩, ?_, by simp, Nat.le_trans h.hB hKG.size⟩, rfl⟩, hKG, fun x hx => .inl hx⟩
  · rw [heap_setCell_at 0 _ hW1.box, hl]; rfl
  · exact (hW1.own.take k hk).kp hk3 (fun x hx q => h.ne (by rw [← List.mem_singleton.1 q]; exact hx))
  · have he2 := List.mem_of_mem_take he
    exact ⟨(hW1.els e he2).1.kp hk3 (fun x hx q => ((h.els e he2).2 x hx).2.1 (List.mem_singleton.1 q)), (h.els e he2).2⟩
  · rw [cps_take]; exact h.inv.take k

theorem RlL.torn (h : RlL B w rb G aL capL xs aT cT []) (hW : Kp [] w W) (hk : Kp [] W w4) {a3 : Option Addr} {c3 N : Nat} {t : List UInt8} (ho : OwnU B w4 a3 c3 t) (hn : ∀ x ∈ ob a3, W.heap.size ≤ x) (hN : N = t.length) (ht : t ≠ []) (htl : t.length ≤ 114) :
    RlTo B w rb G (cps xs) t (w4.setCell ⟨rb, 1, none⟩ (.slice a3 N c3)) := by
  subst hN
  have hWs := hW.size
  have hW1 := (h.kp hW (fun _ _ => by simp)).kp hk (fun _ _ => by simp)
  have hk3 : Kp [rb] w4 (w4.setCell ⟨rb, 1, none⟩ (.slice a3 t.length c3)) := (Kp.refl [rb] w4).setCell (.inl (by simp)) _
  have hKG : Kp G w (w4.setCell ⟨rb, 1, none⟩ (.slice a3 t.length c3)) := ((hW.trans0 hk).mono (fun x hx => by simp at hx)).trans hk3 (fun x hx => .inl (by rw [List.mem_singleton.1 hx]; exact h.rG))
  have hrb : ∀ x ∈ ob a3, x ≠ rb := fun x hx q => by
    have h1 := hn x hx
    have h2 := (h.lo rb h.rG).2
    omega
  refine ⟨G ++ ob a3, ⟨aL, capL, xs, a3, c3, ⟨?_, ?_, fun e he => ?_, ?_, fun q => absurd q ht, fun x hx => ⟨by simp [hx], hrb x hx⟩, h.ne, by simp [h.rG], fun x hx => by simp [h.aG x hx], fun x hx => ?_, h.inv, htl, Nat.le_trans h.hB hKG.size⟩, rfl⟩, hKG, fun x hx => ?_⟩
  · rw [heap_setCell_at 1 _ hW1.box]; rfl
  · exact hW1.own.kp hk3 (fun x hx q => h.ne (by rw [← List.mem_singleton.1 q]; exact hx))
  · exact ⟨(hW1.els e he).1.kp hk3 (fun x hx q => ((h.els e he).2 x hx).2.1 (List.mem_singleton.1 q)), fun x hx => ⟨by simp [((h.els e he).2 x hx).1], ((h.els e he).2 x hx).2⟩⟩
  · exact ho.byt.kpo hk3 (fun x hx q => hrb x hx (List.mem_singleton.1 q))
  · rcases List.mem_append.1 hx with q | q
    · exact ⟨(h.lo x q).1, Nat.lt_of_lt_of_le (h.lo x q).2 hKG.size⟩
    · exact ⟨(ho.lo x q).1, Nat.lt_of_lt_of_le (ho.lo x q).2 hk3.size⟩
  · rcases List.mem_append.1 hx with q | q
    · exact .inl q
    · exact .inr (Nat.le_trans hWs (hn x q))
end

set_option maxHeartbeats 2000000 in
theorem rtear43 {B rb : Nat} {G : List Nat} {cs : List (List Ver)} (a2 : Option Addr) (c : Nat) (ps : List Ver) (keep : Int) (w : World) (h : Rl B w rb G cs []) (hp : Prs w a2 ps) (hpG : 0 < ps.length → ∀ g o, a2 = some ⟨g, o, none⟩ → g ∉ G) (hm : ps.length ≤ 1000) :
    Calls Try.prog 67 #[.pointer (some ⟨rb, 0, none⟩), .slice a2 ps.length c, .int .i64 keep] w fun e w' => e = .returned (.int .i64 (lcode cs ps)) ∧ RlTo B w rb G (ltear cs ps keep) (ltorn cs ps keep) w' := by
  have HU := hide (rput42 a2 c ps w h hp hm)
  have hn40 := h.inv.n40
  have HG := hide (fun w' (hk : Kp G w w') => hp.kpG hk hpG)
  clear h hp hpG
  by_cases hc : lcode cs ps = 0
  · obtain ⟨hpf, hc40, hroom⟩ := lcode_zero hc
    have hel := enc_le hpf
    have HC := hide hc
    have HPF := hide hpf
    rw [show lput cs ps = cs ++ [ps] by unfold lput; rw [hc]; simp] at HU
    by_cases hk : ((enc ps).length : Int) ≤ keep
    · obtain ⟨e1, e2⟩ := ltear_all hc hk
      rw [e1, e2]
      rw [hc] at HU ⊢
      clear e1 e2 hpf
      go_enter Try.func67, Try.ntmps67
      go_wp2_with fail
      refine (unhide HU).mono ?_
      rintro e w1 ⟨rfl, h1⟩
      have H1 := hide h1
      obtain ⟨G1, _, hkG, _⟩ := h1
      have HPR := hide (unhide HG _ hkG)
      clear hkG
      go_wp2_with fail
      refine (bytesOf11 a2 c ps w1 (unhide HPR) (unhide HPF)).mono ?_
      rintro e w2 ⟨gx, cx, nx, rfl, hn, hr⟩
      rw [← hn] at hk hel
      have HK := hide hr.kp
      clear hn hr
      go_wp2_with fail
      go_ret
      exact ⟨rfl, (unhide H1).trans (fun G' h' => rlTo_same h' (unhide HK))⟩
    · obtain ⟨e1, e2⟩ := ltear_cut hc hk
      rw [e1, e2]
      rw [hc] at HU ⊢
      clear e1 e2 hpf
      by_cases hk0 : keep ≤ 0
      · rw [show keep.toNat = 0 by omega]
        go_enter Try.func67, Try.ntmps67
        go_wp2_with fail
        refine (unhide HU).mono ?_
        rintro e w1 ⟨rfl, h1⟩
        have H1 := hide h1
        obtain ⟨G1, hR1, hkG, hG1⟩ := h1
        have HPR := hide (unhide HG _ hkG)
        have HKG := hide hkG
        have HG1 := hide hG1
        obtain ⟨aL, capL, xs, aT, cT, hL, he⟩ := hR1
        have HE := hide he
        have HL := hide hL
        obtain ⟨C, hC⟩ : ∃ C, xs.length = C + 1 := ⟨cs.length, by have := congrArg List.length he; rw [cps_length] at this; simp at this; omega⟩
        have hC2 : C = cs.length := by have := congrArg List.length he; rw [cps_length] at this; simp at this; omega
        have HC1 := hide hC
        have HC2 := hide hC2
        have hC40 : C ≤ 40 := by omega
        clear hkG hG1 he hL
        go_wp2_with fail
        refine (bytesOf11 a2 c ps w1 (unhide HPR) (unhide HPF)).mono ?_
        rintro e w2 ⟨gx, cx, nx, rfl, hn, hr⟩
        rw [← hn] at hk hel
        have HK := hide hr.kp
        have r0 : w2.cell? ⟨rb, 0, none⟩ = some (.slice aL (C + 1) capL) := by rw [← hC]; exact hr.kp.cell (by simp) (unhide HL).c0
        have r1 : w2.frozen? ⟨rb, 0, none⟩ = false := by rw [hr.kp.frozen ((unhide HL).lo rb (unhide HL).rG).2 (by simp)]; exact (unhide HL).fz 0
        have hsl := own_partE (unhide HL).own C (C + 1) (by omega) (C : Int) rfl
        have hk' : ¬ keep > 0 := by omega
        clear hn hr hC hC2
        go_wp2_with fail
        go_region
        all_goals
          go_wp2_with fail
          go_ret
          refine ⟨rfl, RlTo.trans_at (unhide HKG) (unhide HG1) ?_⟩
          have := (unhide HL).pop ((unhide HK).drew) C (by have := unhide HC1; omega)
          rw [cps_take, ← unhide HE, unhide HC2, List.take_left] at this
          rw [List.take_zero, unhide HC2]
          exact this
      · obtain ⟨k, rfl⟩ : ∃ k : Nat, keep = (k : Int) := ⟨keep.toNat, by omega⟩
        rw [Int.toNat_natCast]
        go_enter Try.func67, Try.ntmps67
        go_wp2_with fail
        refine (unhide HU).mono ?_
        rintro e w1 ⟨rfl, h1⟩
        have H1 := hide h1
        obtain ⟨G1, hR1, hkG, hG1⟩ := h1
        have HPR := hide (unhide HG _ hkG)
        have HKG := hide hkG
        have HG1 := hide hG1
        obtain ⟨aL, capL, xs, aT, cT, hL, he⟩ := hR1
        have HE := hide he
        have HT := hide (hL.tn rfl)
        have HL := hide hL
        obtain ⟨C, hC⟩ : ∃ C, xs.length = C + 1 := ⟨cs.length, by have := congrArg List.length he; rw [cps_length] at this; simp at this; omega⟩
        have hC2 : C = cs.length := by have := congrArg List.length he; rw [cps_length] at this; simp at this; omega
        have HC1 := hide hC
        have HC2 := hide hC2
        have hC40 : C ≤ 40 := by omega
        clear hkG hG1 he hL
        go_wp2_with fail
        refine (bytesOf11 a2 c ps w1 (unhide HPR) (unhide HPF)).mono ?_
        rintro e w2 ⟨gx, cx, nx, rfl, hn, hr⟩
        rw [← hn] at hk hel
        have HK := hide hr.kp
        have r0 : w2.cell? ⟨rb, 0, none⟩ = some (.slice aL (C + 1) capL) := by rw [← hC]; exact hr.kp.cell (by simp) (unhide HL).c0
        have r1 : w2.frozen? ⟨rb, 0, none⟩ = false := by rw [hr.kp.frozen ((unhide HL).lo rb (unhide HL).rG).2 (by simp)]; exact (unhide HL).fz 0
        have hsl := own_partE (unhide HL).own C (C + 1) (by omega) (C : Int) rfl
        have hkn : k < nx := by omega
        have hkp : 0 < k := by omega
        have s0 : w2.cell? ⟨rb, 1, none⟩ = some (.slice none 0 0) := by have h1 := (unhide HL).c1; rw [(unhide HT).1, (unhide HT).2] at h1; exact hr.kp.cell (by simp) h1
        have s1 : w2.frozen? ⟨rb, 1, none⟩ = false := by rw [hr.kp.frozen ((unhide HL).lo rb (unhide HL).rG).2 (by simp)]; exact (unhide HL).fz 1
        have hsx := own_part hr.ownU k nx (by omega) (k : Int) rfl
        have HX := hide ((hr.ownU.take k (by omega)).byt)
        have hlt : ((enc ps).take k).length = k := by simp; omega
        have HLT := hide hlt
        have hgx : rb ≠ gx := by have h1 := hr.lt; have h2 := ((unhide HL).lo rb (unhide HL).rG).2; omega
        clear hlt
        clear hn hr hC hC2
        go_wp2_with fail
        go_region
        all_goals
          go_wp2_with fail
          obtain ⟨W7, hW8⟩ : ∃ W7, (w2.setCell ⟨rb, 0, none⟩ (.slice aL C capL)).drew = W7 := ⟨_, rfl⟩
          have hW7 : w2.drew.setCell ⟨rb, 0, none⟩ (.slice aL C capL) = W7 := hW8
          have H7 := hide ((unhide HL).pop ((unhide HK).drew) C (by have := unhide HC1; omega))
          have HX7 : Hid (Byt W7 (some ⟨gx, 0, none⟩) ((enc ps).take k)) := by
            rw [← hW7]
            exact (unhide HX).kpo ((Kp.refl [rb] w2).drew.setCell (.inl (by simp)) _) (fun x hx q => hgx (by simp [ob] at hx q; omega))
          have hcs7 : cps (xs.take C) = cs := by rw [cps_take, ← unhide HE, unhide HC2, List.take_left]
          rw [hcs7, hW7] at H7
          rw [hW8]
          obtain ⟨G7, hR7, hkG7, hG7⟩ := unhide H7
          obtain ⟨aL7, capL7, xs7, aT7, cT7, hL7, he7⟩ := hR7
          obtain ⟨rfl, rfl⟩ := hL7.tn rfl
          have y0 : W7.cell? ⟨rb, 1, none⟩ = some (.slice none 0 0) := hL7.c1
          have y1 := hL7.fz 1
          have hB7 := hL7.hB
          have HKG7 := hide hkG7
          have HG7 := hide hG7
          have HL7 := hide hL7
          have HE7 := hide he7
          clear hcs7 hW7 hW8 hkG7 hG7 hL7 he7 H7 r0 r1 s0 s1 hsl
          go_region_law (refine step_appx (by rfl) (.tmp 41) (.tmp 44) 55 (by rfl) (ownU_nil B _) (by simpa using hB7) 0 rfl (.slice (some ⟨gx, 0, none⟩) k cx) ((enc ps).take k) (by rfl) (by rfl) (byt_srcn ((unhide HX7).kp0 (Kp.refl [] _).drew) (unhide HLT).symm) (by have := unhide HLT; simp only [List.length_nil]; omega) ?_; intro a3 c3 n3 w3 hn3 ho3 hk3 hx3; have z0 : w3.cell? ⟨rb, 1, none⟩ = some (.slice none 0 0) := (((Kp.refl [] W7).drew).trans0 (unhide hk3)).cell (by simp) y0; have z1 : w3.frozen? ⟨rb, 1, none⟩ = false := (by rw [(((Kp.refl [] W7).drew).trans0 (unhide hk3)).frozen ((unhide HL7).lo rb (unhide HL7).rG).2 (by simp)]; exact y1))
          all_goals
            go_wp2_with fail
            go_ret
            refine ⟨rfl, RlTo.trans_at (unhide HKG) (unhide HG1) (RlTo.trans_at (unhide HKG7) (unhide HG7) ?_)⟩
            rw [unhide HE7]
            exact (unhide HL7).torn (Kp.refl [] W7).drew (unhide hk3) (unhide ho3) (fun x hx => (unhide hx3 x hx).resolve_left (by simp [ob])) (unhide hn3) (fun q => by have h1 := unhide HLT; rw [q] at h1; simp at h1; omega) (by have := unhide HLT; omega)
  · obtain ⟨e1, e2⟩ := ltear_code keep hc
    rw [e1, e2]
    rw [show lput cs ps = cs by unfold lput; rw [if_neg hc]] at HU
    generalize lcode cs ps = z at *
    clear e1 e2
    go_enter Try.func67, Try.ntmps67
    go_wp2_with fail
    refine (unhide HU).mono ?_
    rintro e w1 ⟨rfl, h1⟩
    have H1 := hide h1
    clear h1 HU HG
    go_wp2_with fail
    go_ret
    exact ⟨rfl, unhide H1⟩
end Go.Proofs.Ytapmlleemopcnac

/- The document's roll of commits, at a place of a greater box: its memory; Mend and Bytes, by their contracts. -/
namespace Go.Proofs.Ytapmlleemopcnac
open Go.RowKit
set_option maxRecDepth 20000
attribute [local go_sem ↓] Go.wp_at_zero Go.wp_at_succ

/-- A roll's memory: the box rb holds, from place o on, the commits and what is torn; bx: all its cells; G: all blocks that are the roll's own, the box among them. -/
structure RxL (B : Nat) (w : World) (rb o : Nat) (bx : Array Value) (T : TypeId) (G : List Nat) (aL : Option Addr) (capL : Nat) (xs : List El) (aT : Option Addr) (cT : Nat) (torn : List UInt8) : Prop where
  box : w.heap[rb]? = some (.cells bx T (0, 0))
  b0 : bx[o]? = some (.slice aL xs.length capL)
  b1 : bx[o + 1]? = some (.slice aT torn.length cT)
  own : OwnE B w aL capL xs
  els : ∀ e ∈ xs, SlO w e.a e.ps ∧ ∀ x ∈ ob e.a, x ∈ G ∧ x ≠ rb ∧ x ∉ ob aL
  tb : Byt w aT torn
  tn : torn = [] → aT = none ∧ cT = 0
  tG : ∀ x ∈ ob aT, x ∈ G ∧ x ≠ rb
  ne : rb ∉ ob aL
  rG : rb ∈ G
  aG : ∀ x ∈ ob aL, x ∈ G
  lo : ∀ x ∈ G, B ≤ x ∧ x < w.heap.size
  inv : LInv (cps xs)
  tl : torn.length ≤ 114
  hB : B ≤ w.heap.size
def Rx (B : Nat) (w : World) (rb o : Nat) (bx : Array Value) (T : TypeId) (G : List Nat) (cs : List (List Ver)) (torn : List UInt8) : Prop := ∃ aL capL xs aT cT, RxL B w rb o bx T G aL capL xs aT cT torn ∧ cs = cps xs
/-- All cells but the two at o are as they were. -/
def SameB (o : Nat) (bx bx' : Array Value) : Prop := bx'.size = bx.size ∧ ∀ i, i ≠ o → i ≠ o + 1 → bx'[i]? = bx[i]?
theorem sameB_refl (o : Nat) (bx : Array Value) : SameB o bx bx := ⟨rfl, fun _ _ _ => rfl⟩
theorem SameB.trans {o : Nat} {a b c : Array Value} (h : SameB o a b) (k : SameB o b c) : SameB o a c := ⟨k.1.trans h.1, fun i h1 h2 => (k.2 i h1 h2).trans (h.2 i h1 h2)⟩
theorem sameB_set (o : Nat) (bx : Array Value) (i : Nat) (v : Value) (hi : i = o ∨ i = o + 1) : SameB o bx (bx.setIfInBounds i v) := ⟨by simp, fun j h1 h2 => by rw [Array.getElem?_setIfInBounds_ne (by omega)]⟩
theorem set_here {bx : Array Value} {i : Nat} {u : Value} (h : bx[i]? = some u) (v : Value) : (bx.setIfInBounds i v)[i]? = some v := by
  have hl : i < bx.size := (Array.getElem?_eq_some_iff.1 h).1
  simp [hl]
theorem set_there {bx : Array Value} {i j : Nat} {u : Value} (h : bx[j]? = some u) (hn : i ≠ j) (v : Value) : (bx.setIfInBounds i v)[j]? = some u := by
  rw [Array.getElem?_setIfInBounds_ne hn]; exact h

section
variable {B : Nat} {w w' : World} {rb o : Nat} {bx : Array Value} {T : TypeId} {G S : List Nat} {aL : Option Addr} {capL : Nat} {xs : List El} {aT : Option Addr} {cT : Nat} {torn : List UInt8} {cs : List (List Ver)}
theorem RxL.kp (h : RxL B w rb o bx T G aL capL xs aT cT torn) (hk : Kp S w w') (hS : ∀ x, x ∈ G → x ∉ S) : RxL B w' rb o bx T G aL capL xs aT cT torn :=
  ⟨by rw [hk.block rb (h.lo rb h.rG).2 (hS _ h.rG)]; exact h.box, h.b0, h.b1, h.own.kp hk (fun x hx => hS x (h.aG x hx)), fun e he => ⟨(h.els e he).1.kp hk (fun x hx => hS x ((h.els e he).2 x hx).1), (h.els e he).2⟩, h.tb.kpo hk (fun x hx => hS x (h.tG x hx).1), h.tn, h.tG, h.ne, h.rG, h.aG, fun x hx => ⟨(h.lo x hx).1, Nat.lt_of_lt_of_le (h.lo x hx).2 hk.size⟩, h.inv, h.tl, Nat.le_trans h.hB hk.size⟩
theorem Rx.kp (h : Rx B w rb o bx T G cs torn) (hk : Kp S w w') (hS : ∀ x, x ∈ G → x ∉ S) : Rx B w' rb o bx T G cs torn := by
  obtain ⟨aL, capL, xs, aT, cT, h, e⟩ := h
  exact ⟨aL, capL, xs, aT, cT, h.kp hk hS, e⟩
theorem Rx.kp0 (h : Rx B w rb o bx T G cs torn) (hk : Kp [] w w') : Rx B w' rb o bx T G cs torn := h.kp hk (fun _ _ => by simp)
theorem Rx.lo (h : Rx B w rb o bx T G cs torn) : ∀ x, x ∈ G → B ≤ x ∧ x < w.heap.size := by
  obtain ⟨aL, capL, xs, aT, cT, h, e⟩ := h
  exact h.lo
theorem Rx.inv (h : Rx B w rb o bx T G cs torn) : LInv cs := by
  obtain ⟨aL, capL, xs, aT, cT, h, e⟩ := h
  subst e
  exact h.inv
theorem Rx.base {C : Nat} (h : Rx B w rb o bx T G cs torn) (hC : C ≤ B) : Rx C w rb o bx T G cs torn := by
  obtain ⟨aL, capL, xs, aT, cT, h, e⟩ := h
  exact ⟨aL, capL, xs, aT, cT, ⟨h.box, h.b0, h.b1, h.own.base hC, h.els, h.tb, h.tn, h.tG, h.ne, h.rG, h.aG, fun x hx => ⟨Nat.le_trans hC (h.lo x hx).1, (h.lo x hx).2⟩, h.inv, h.tl, Nat.le_trans hC h.hB⟩, e⟩
theorem RxL.c0 (h : RxL B w rb o bx T G aL capL xs aT cT torn) : w.cell? ⟨rb, o, none⟩ = some (.slice aL xs.length capL) := cell_of_block h.box h.b0
theorem RxL.c1 (h : RxL B w rb o bx T G aL capL xs aT cT torn) : w.cell? ⟨rb, o + 1, none⟩ = some (.slice aT torn.length cT) := cell_of_block h.box h.b1
theorem RxL.fz (h : RxL B w rb o bx T G aL capL xs aT cT torn) (i : Nat) : w.frozen? ⟨rb, i, none⟩ = false := frozen_of_block i h.box
end

/-- What a call that changes a roll leaves. -/
def RxTo (B : Nat) (w : World) (rb o : Nat) (bx : Array Value) (T : TypeId) (G : List Nat) (cs : List (List Ver)) (torn : List UInt8) (w' : World) : Prop := ∃ G' bx', Rx B w' rb o bx' T G' cs torn ∧ SameB o bx bx' ∧ Kp G w w' ∧ ∀ x, x ∈ G' → x ∈ G ∨ w.heap.size ≤ x
theorem rxTo_same {B : Nat} {w w' : World} {rb o : Nat} {bx : Array Value} {T : TypeId} {G : List Nat} {cs : List (List Ver)} {torn : List UInt8} (h : Rx B w rb o bx T G cs torn) (hk : Kp [] w w') : RxTo B w rb o bx T G cs torn w' :=
  ⟨G, bx, h.kp0 hk, sameB_refl _ _, hk.mono (fun x hx => by simp at hx), fun x hx => .inl hx⟩
theorem RxTo.trans_at {B : Nat} {w w1 w2 : World} {rb o : Nat} {bx bx1 : Array Value} {T : TypeId} {G G1 : List Nat} {cs' : List (List Ver)} {torn' : List UInt8} (hb : SameB o bx bx1) (h2 : Kp G w w1) (h3 : ∀ x, x ∈ G1 → x ∈ G ∨ w.heap.size ≤ x) (k : RxTo B w1 rb o bx1 T G1 cs' torn' w2) : RxTo B w rb o bx T G cs' torn' w2 := by
  obtain ⟨G2, bx2, k1, kb, k2, k3⟩ := k
  refine ⟨G2, bx2, k1, hb.trans kb, h2.trans k2 h3, fun x hx => ?_⟩
  rcases k3 x hx with e | e
  · exact h3 x e
  · exact .inr (Nat.le_trans h2.size e)

theorem RxL.mend {B : Nat} {w : World} {rb o : Nat} {bx : Array Value} {T : TypeId} {G : List Nat} {aL : Option Addr} {capL : Nat} {xs : List El} {aT : Option Addr} {cT : Nat} {torn : List UInt8} (h : RxL B w rb o bx T G aL capL xs aT cT torn) :
    RxTo B w rb o bx T G (cps xs) [] (w.setCell ⟨rb, o + 1, none⟩ (.slice none 0 0)) := by
  have hk : Kp [rb] w (w.setCell ⟨rb, o + 1, none⟩ (.slice none 0 0)) := (Kp.refl [rb] w).setCell (.inl (by simp)) _
  refine ⟨G, bx.setIfInBounds (o + 1) (.slice none 0 0), ⟨aL, capL, xs, none, 0, ⟨?_, set_there h.b0 (by omega) _, set_here h.b1 _, ?_, fun e he => ⟨?_, (h.els e he).2⟩, byt_nil _ _, fun _ => ⟨rfl, rfl⟩, by simp [ob], h.ne, h.rG, h.aG, fun x hx => ⟨(h.lo x hx).1, Nat.lt_of_lt_of_le (h.lo x hx).2 hk.size⟩, h.inv, by simp, Nat.le_trans h.hB hk.size⟩, rfl⟩, sameB_set _ _ _ _ (.inr rfl), hk.mono (fun x hx => .inl (by rw [List.mem_singleton.1 hx]; exact h.rG)), fun x hx => .inl hx⟩
  · exact heap_setCell_at (o + 1) _ h.box
  · exact h.own.kp hk (fun x hx e => h.ne (by rw [← List.mem_singleton.1 e]; exact hx))
  · exact (h.els e he).1.kp hk (fun x hx e2 => ((h.els e he).2 x hx).2.1 (List.mem_singleton.1 e2))

set_option maxHeartbeats 400000 in
theorem rxmend {B rb o : Nat} {bx : Array Value} {T : TypeId} {G : List Nat} {cs : List (List Ver)} {torn : List UInt8} (w : World) (h : Rx B w rb o bx T G cs torn) :
    Calls Try.prog 107 #[.pointer (some ⟨rb, o, none⟩)] w fun e w' => e = .returned (.int .i64 torn.length) ∧ RxTo B w rb o bx T G cs [] w' := by
  obtain ⟨aL, capL, xs, aT, cT, h, e⟩ := h
  have q1 := h.c1
  have f1 := h.fz (o + 1)
  have HM := hide h.mend
  have hT := h.tl
  have HE := hide e
  clear h e
  generalize torn.length = t at *
  go_enter Try.func107, Try.ntmps107
  go_wp2_with fail
  go_ret
  exact ⟨rfl, by rw [unhide HE]; exact unhide HM⟩


set_option maxHeartbeats 1000000 in
theorem rxbytes {B rb o : Nat} {bx : Array Value} {T : TypeId} {G : List Nat} {cs : List (List Ver)} {torn : List UInt8} (w : World) (h : Rx B w rb o bx T G cs torn) :
    Calls Try.prog 36 #[.pointer (some ⟨rb, o, none⟩)] w fun e w' => BtEnd (lb cs ++ torn) w e w' := by
  obtain ⟨aL, capL, xs, aT, cT, h, e⟩ := h
  have hlen : cs.length = xs.length := by rw [e, cps_length]
  have hn40 := h.inv.n40
  have hb3 := h.inv.b3000
  rw [← e] at hn40 hb3
  have htl := h.tl
  have HI := hide h.inv
  rw [← e] at HI
  have HE := hide e
  have HL := hide h
  have hx40 : xs.length ≤ 40 := by omega
  clear h e
  go_enter Try.func36, Try.ntmps36
  go_wp2_with fail
  go_loopw [3, 4] (fun o i wr => ∃ (k : Nat) (a : Option Addr) (cap n : Nat), k ≤ xs.length ∧ o = .slice a n cap ∧ i = .int .i64 k ∧ Hid (RbI w cs k a cap n wr)) (fun _ i _ => xs.length - (intOf i).toNat)
  case atStart => exact ⟨0, none, 0, 0, by omega, rfl, rfl, ⟨by simp [lb], by simpa [lb] using ownU_nil _ _, Kp.refl _ _⟩⟩
  case round =>
    obtain ⟨k, a, cap, n, hk, rfl, rfl, HR⟩ := hrel
    have q0 : wr.cell? ⟨rb, o, none⟩ = some (.slice aL xs.length capL) := (unhide HR).kp.cell (by simp) (unhide HL).c0
    by_cases hlt : k < xs.length
    · obtain ⟨gL, rfl, hc⟩ := (unhide HL).own.cell hlt
      have q1 : wr.cell? ⟨gL, k, none⟩ = some (.slice (eat xs k).a (eat xs k).ps.length (eat xs k).c) := (unhide HR).kp.cell (by simp) hc
      have q1' : wr.cell? ⟨gL, 0 + k, none⟩ = some (.slice (eat xs k).a (eat xs k).ps.length (eat xs k).c) := by rw [Nat.zero_add]; exact q1
      have i0 : (0 : Int) ≤ (k : Int) := by omega
      have i1 : (k : Int) < (xs.length : Int) := by omega
      have hcs : cs.getD k [] = (eat xs k).ps := by rw [unhide HE, cps_at hlt]
      have hpf : pf (-1) (eat xs k).ps = 0 := by rw [← hcs]; exact (unhide HI).at_ (by omega)
      have hpr := slo_prs (((unhide HL).els _ (eat_mem hlt)).1.kp0 (unhide HR).kp) hpf
      have HB := hide (bytesOf11 (eat xs k).a (eat xs k).c (eat xs k).ps wr hpr hpf)
      have hel := enc_le hpf
      have HC := hide hcs
      have htk := lb_take_le cs k
      clear hc hcs hpf hpr
      go_wp2_with fail
      refine (unhide HB).mono ?_
      rintro e w2 ⟨g2, c2, n2, rfl, hn2, hr2⟩
      have HN2 := hide hn2
      have HR2 := hide hr2
      clear hn2 hr2 q0 q1 q1' HB
      go_wp2_with (at_builtin; refine wpList_appx (by rfl) (.tmp 14) (.tmp 22) 55 rfl ((unhide HR).own.kp0 (unhide HR2).kp) (Nat.le_trans (unhide HR).kp.size (unhide HR2).kp.size) n (unhide HR).len (.slice (some ⟨g2, 0, none⟩) n2 c2) (enc (eat xs k).ps) rfl rfl ((unhide HR2).src (unhide HN2)) (by omega) ?_; intro a3 c3 n3 w3 hn3 ho3 hk3 hx3)
      rw [← unhide HC] at hn3 ho3
      exact ⟨⟨k + 1, a3, c3, n3, by omega, rfl, by go_num, (unhide HR).next (by omega) (unhide HR2).kp (unhide hn3) (unhide ho3) (unhide hk3)⟩, by simp [intOf]; omega⟩
    · have e : k = cs.length := by omega
      have r1 : wr.cell? ⟨rb, o + 1, none⟩ = some (.slice aT torn.length cT) := (unhide HR).kp.cell (by simp) (unhide HL).c1
      have hA : n = (lb cs).length ∧ OwnU w.heap.size wr a cap (lb cs) := by
        have h1 := (unhide HR).len
        have h2 := (unhide HR).own
        rw [e, List.take_length] at h1 h2
        exact ⟨h1, h2⟩
      have HA := hide hA
      clear hA e
      go_wp2_with (at_builtin; refine wpList_appx (by rfl) (.tmp 24) (.tmp 28) 55 rfl (unhide HA).2 (unhide HR).kp.size n (unhide HA).1 (.slice aT torn.length cT) torn rfl rfl (((unhide HL).tb.kp0 (unhide HR).kp).src cT) (by omega) ?_; intro a3 c3 n3 w3 hn3 ho3 hk3 hx3)
      go_ret
      exact ⟨a3, n3, c3, rfl, unhide hn3, by rw [unhide hn3]; exact (unhide ho3).le, (unhide ho3).byt, (unhide HR).kp.trans (unhide hk3) (fun x hx => .inr ((unhide HA).2.lo x hx).1)⟩
end Go.Proofs.Ytapmlleemopcnac

/- Put of the document's roll at a place of a greater box, by its contract. -/
namespace Go.Proofs.Ytapmlleemopcnac
open Go.RowKit
set_option maxRecDepth 20000
attribute [local go_sem ↓] Go.wp_at_zero Go.wp_at_succ

section
variable {B : Nat} {w W w4 : World} {rb o : Nat} {bx : Array Value} {T : TypeId} {G : List Nat} {aL a' : Option Addr} {capL cap' : Nat} {xs : List El} {aT : Option Addr} {cT : Nat}
theorem RxL.far (h : RxL B w rb o bx T G aL capL xs aT cT []) (hW : Kp [] w W) (hk : Kp (ob aL) W w4) :
    w4.heap[rb]? = some (.cells bx T (0, 0)) := by
  rw [hk.block rb (Nat.lt_of_lt_of_le (h.lo rb h.rG).2 hW.size) h.ne, hW.block rb (h.lo rb h.rG).2 (by simp)]
  exact h.box
theorem RxL.far_cells (h : RxL B w rb o bx T G aL capL xs aT cT []) (hW : Kp [] w W) (hk : Kp (ob aL) W w4) : w4.cell? ⟨rb, o, none⟩ = some (.slice aL xs.length capL) ∧ w4.frozen? ⟨rb, o, none⟩ = false ∧ rb < w4.heap.size := by
  have hb := h.far hW hk
  exact ⟨cell_of_block hb h.b0, frozen_of_block _ hb, lt_of_block hb⟩

theorem RxL.put (h : RxL B w rb o bx T G aL capL xs aT cT []) (hW : Kp [] w W) (e : El) (he : SlO W e.a e.ps) (hen : ∀ x ∈ ob e.a, w.heap.size ≤ x ∧ x < W.heap.size) (hk : Kp (ob aL) W w4) (ho : OwnE B w4 a' cap' (xs ++ [e])) (hn : ∀ x ∈ ob a', x ∈ ob aL ∨ W.heap.size ≤ x)
    (hc : lcode (cps xs) e.ps = 0) : RxTo B w rb o bx T G (cps xs ++ [e.ps]) [] (w4.setCell ⟨rb, o, none⟩ (.slice a' (xs.length + 1) cap')) := by
  obtain ⟨rfl, rfl⟩ := h.tn rfl
  have hgl := (h.lo rb h.rG).2
  have hWs := hW.size
  have hk3 : Kp [rb] w4 (w4.setCell ⟨rb, o, none⟩ (.slice a' (xs.length + 1) cap')) := (Kp.refl [rb] w4).setCell (.inl (by simp)) _
  have hne : rb ∉ ob a' := fun hm => by
    rcases hn rb hm with q | q
    · exact h.ne q
    · omega
  have hKG : Kp G w (w4.setCell ⟨rb, o, none⟩ (.slice a' (xs.length + 1) cap')) := by
    have k1 : Kp G w w4 := (hW.mono (fun x hx => by simp at hx)).trans hk (fun x hx => .inl (h.aG x hx))
    exact k1.trans hk3 (fun x hx => .inl (by rw [List.mem_singleton.1 hx]; exact h.rG))
  refine ⟨G ++ ob e.a ++ ob a', bx.setIfInBounds o (.slice a' (xs.length + 1) cap'), ⟨a', cap', xs ++ [e], none, 0, ⟨?_, by rw [set_here h.b0]; simp, set_there h.b1 (by omega) _, ?_, fun e0 he0 => ?_, byt_nil _ _, fun _ => ⟨rfl, rfl⟩, by simp [ob], hne, by simp [h.rG], fun x hx => by simp [hx], fun x hx => ?_, ?_, by simp, Nat.le_trans h.hB hKG.size⟩, ?_⟩, sameB_set _ _ _ _ (.inl rfl), hKG, fun x hx => ?_⟩
  · exact heap_setCell_at o _ (h.far hW hk)
  · exact ho.kp hk3 (fun x hx q => hne (by rw [← List.mem_singleton.1 q]; exact hx))
  · rcases List.mem_append.1 he0 with q | q
    · obtain ⟨s1, s2⟩ := h.els e0 q
      refine ⟨((s1.kp0 hW).kp hk (fun x hx => (s2 x hx).2.2)).kp hk3 (fun x hx q2 => (s2 x hx).2.1 (List.mem_singleton.1 q2)), fun x hx => ⟨by simp [(s2 x hx).1], (s2 x hx).2.1, fun q2 => ?_⟩⟩
      rcases hn x q2 with q3 | q3
      · exact (s2 x hx).2.2 q3
      · have := (h.lo x (s2 x hx).1).2; omega
    · rw [List.mem_singleton.1 q]
      have haL : ∀ x ∈ ob e.a, x ∉ ob aL := fun x hx q2 => by
        have h1 := (hen x hx).1
        have h2 := (h.lo x (h.aG x q2)).2
        omega
      have hrb : ∀ x ∈ ob e.a, x ≠ rb := fun x hx q2 => by
        have h1 := (hen x hx).1
        omega
      refine ⟨(he.kp hk haL).kp hk3 (fun x hx q2 => hrb x hx (List.mem_singleton.1 q2)), fun x hx => ⟨by simp [hx], hrb x hx, fun q2 => ?_⟩⟩
      rcases hn x q2 with q3 | q3
      · exact haL x hx q3
      · have := (hen x hx).2; omega
  · have hs4 : W.heap.size ≤ (w4.setCell ⟨rb, o, none⟩ (.slice a' (xs.length + 1) cap')).heap.size := Nat.le_trans hk.size hk3.size
    rcases List.mem_append.1 hx with q | q
    · rcases List.mem_append.1 q with q | q
      · exact ⟨(h.lo x q).1, Nat.lt_of_lt_of_le (h.lo x q).2 hKG.size⟩
      · have h1 := hen x q
        have := h.hB
        exact ⟨by omega, by omega⟩
    · have h1 := ho.lo x q
      exact ⟨h1.1, Nat.lt_of_lt_of_le h1.2 hk3.size⟩
  · rw [cps_append]
    exact h.inv.snoc hc
  · rw [cps_append]; rfl
  · rcases List.mem_append.1 hx with q | q
    · rcases List.mem_append.1 q with q | q
      · exact .inl q
      · exact .inr (hen x q).1
    · rcases hn x q with q3 | q3
      · exact .inl (h.aG x q3)
      · exact .inr (by omega)
end

set_option maxHeartbeats 2000000 in
theorem rxput {B rb o : Nat} {bx : Array Value} {T : TypeId} {G : List Nat} {cs : List (List Ver)} (a2 : Option Addr) (c : Nat) (ps : List Ver) (w : World) (h : Rx B w rb o bx T G cs []) (hp : Prs w a2 ps) (hm : ps.length ≤ 1000) :
    Calls Try.prog 111 #[.pointer (some ⟨rb, o, none⟩), .slice a2 ps.length c] w fun e w' => e = .returned (.int .i64 (lcode cs ps)) ∧ RxTo B w rb o bx T G (lput cs ps) [] w' := by
  have hinv := h.inv
  have hn40 := hinv.n40
  have hb3000 := hinv.b3000
  have HS := hide (fun w' (hk : Kp [] w w') => rxTo_same h hk)
  have HBY := hide (fun w' (hk : Kp [] w w') => rxbytes w' (h.kp0 hk))
  obtain ⟨aL, capL, xs, aT, cT, h, e⟩ := h
  have hlen : cs.length = xs.length := by rw [e, cps_length]
  have HP := hide hp
  have HF := hide (pfault37 a2 c ps w hp hm)
  have HB := hide h
  have HE := hide e
  clear h hp e hinv
  by_cases hpf : pf (-1) ps = 0
  · have hel := enc_le hpf
    have HBO := hide (fun w' (hk : Kp [] w w') => bytesOf11 a2 c ps w' ((unhide HP).kp0 hk) hpf)
    have HPF := hide hpf
    by_cases h40 : 40 ≤ cs.length
    · have hc := lcode_full (cs := cs) hpf (.inl h40)
      rw [hc, show lput cs ps = cs by unfold lput; rw [hc]; simp]
      rw [hlen] at h40
      clear hc hpf
      go_enter Try.func111, Try.ntmps111
      go_wp2_with fail
      refine (unhide HF).mono ?_
      rintro e w1 ⟨rfl, hk1⟩
      rw [unhide HPF]
      have r0 : w1.cell? ⟨rb, o, none⟩ = some (.slice aL xs.length capL) := hk1.cell (by simp) (unhide HB).c0
      have HK := hide hk1
      clear hk1
      generalize xs.length = C at *
      go_wp2_with fail
      go_ret
      exact ⟨rfl, unhide HS _ (unhide HK)⟩
    · by_cases hfull : 3000 < (lb cs).length + (enc ps).length
      · have hc := lcode_full (cs := cs) hpf (.inr hfull)
        rw [hc, show lput cs ps = cs by unfold lput; rw [hc]; simp]
        rw [hlen] at h40
        clear hc hpf
        go_enter Try.func111, Try.ntmps111
        go_wp2_with fail
        refine (unhide HF).mono ?_
        rintro e w1 ⟨rfl, hk1⟩
        rw [unhide HPF]
        have r0 : w1.cell? ⟨rb, o, none⟩ = some (.slice aL xs.length capL) := hk1.cell (by simp) (unhide HB).c0
        have HK := hide hk1
        clear hk1
        generalize xs.length = C at *
        have f1 : ¬ (40 : Int) ≤ (C : Int) := by omega
        go_wp2_with fail
        refine (unhide HBY _ (unhide HK)).mono ?_
        rintro e w2 ⟨a3, n3, c3, rfl, hn3, hc3, hb3, hk3⟩
        have HK2 := hide ((unhide HK).trans0 hk3)
        rw [List.append_nil] at hn3
        rw [← hn3] at hfull hb3000
        clear hn3 hc3 hb3 hk3
        go_wp2_with fail
        refine (unhide HBO _ (unhide HK2)).mono ?_
        rintro e w3 ⟨g4, c4, n4, rfl, hn4, hr4⟩
        have HK3 := hide ((unhide HK2).trans0 hr4.kp)
        rw [← hn4] at hfull hel
        clear hn4 hr4
        have f2 : (3000 : Int) < (n3 : Int) + (n4 : Int) := by omega
        go_wp2_with fail
        go_ret
        exact ⟨rfl, unhide HS _ (unhide HK3)⟩
      · have hc := lcode_ok (cs := cs) hpf (fun q => q.elim h40 hfull)
        rw [hc, show lput cs ps = cs ++ [ps] by unfold lput; rw [hc]; simp]
        rw [hlen] at h40
        have HC := hide hc
        clear hc hpf
        go_enter Try.func111, Try.ntmps111
        go_wp2_with fail
        refine (unhide HF).mono ?_
        rintro e w1 ⟨rfl, hk1⟩
        rw [unhide HPF]
        have r0 : w1.cell? ⟨rb, o, none⟩ = some (.slice aL xs.length capL) := hk1.cell (by simp) (unhide HB).c0
        have HK := hide hk1
        clear hk1
        obtain ⟨C, hC⟩ : ∃ C, xs.length = C := ⟨_, rfl⟩
        rw [hC] at h40 r0
        have f1 : ¬ (40 : Int) ≤ (C : Int) := by omega
        have HCC := hide hC
        clear hC hlen
        go_wp2_with fail
        refine (unhide HBY _ (unhide HK)).mono ?_
        rintro e w2 ⟨a3, n3, c3, rfl, hn3, hc3, hb3, hk3⟩
        have HK2 := hide ((unhide HK).trans0 hk3)
        rw [List.append_nil] at hn3
        rw [← hn3] at hfull hb3000
        clear hn3 hc3 hb3 hk3
        go_wp2_with fail
        refine (unhide HBO _ (unhide HK2)).mono ?_
        rintro e w3 ⟨g4, c4, n4, rfl, hn4, hr4⟩
        have HK3 := hide ((unhide HK2).trans0 hr4.kp)
        rw [← hn4] at hfull hel
        clear hn4 hr4 r0
        have f2 : ¬ (3000 : Int) < (n3 : Int) + (n4 : Int) := by omega
        have r0 : w3.cell? ⟨rb, o, none⟩ = some (.slice aL C capL) := by rw [← unhide HCC]; exact (unhide HK3).cell (by simp) (unhide HB).c0
        have hB3 : B ≤ w3.heap.size := Nat.le_trans (unhide HB).hB (unhide HK3).size
        go_wp2_with fail
        go_region_law (first | (refine step_pairs_nil (by rfl) (.tmp 33) (.tmp 34) (by rfl) c (((unhide HP).kp0 (unhide HK3)).kp0 (Kp.refl [] _).drew).mem (by omega) (by rfl) (by rfl) ?_; intro a5 c5 w5 hs5 hx5 hk5; obtain ⟨t0, t1, t2⟩ := (unhide HB).far_cells (((unhide HK3).drew).trans0 (unhide hk5)) (Kp.refl _ _); rw [unhide HCC] at t0) | (refine step_appe (by rfl) (.tmp 32) (.tmp 36) (by rfl) (xs := xs) (((((unhide HB).own.kp0 (unhide HK3)).kp0 (Kp.refl [] _).drew).kp0 (unhide hk5)).kp0 ((Kp.refl [] _).alloc _)) (by have := (unhide hk5).size; simp at this; simp; omega) ⟨a5, c5, ps⟩ w5.heap.size (heap_alloc_new w5 _) (by have := unhide HCC; omega) (by rw [unhide HCC]; rfl) (by rfl) ?_; intro a6 c6 w6 ho6 hk6 hx6; obtain ⟨u0, u1, u2⟩ := (unhide HB).far_cells ((((unhide HK3).drew).trans0 (unhide hk5)).alloc _) (unhide hk6); rw [unhide HCC] at u0; rw [unhide HCC]))
        all_goals
          go_wp2_with fail
          go_ret
          refine ⟨rfl, ?_⟩
          have hput := (unhide HB).put ((((unhide HK3).drew).trans0 (unhide hk5)).alloc _) ⟨a5, c5, ps⟩ ((unhide hs5).kp0 ((Kp.refl [] _).alloc _)) (fun x hx => by have h1 := unhide hx5 x hx; have h2 := (unhide HK3).size; simp at h1; simp; omega) (unhide hk6) (unhide ho6) (unhide hx6) (by rw [← unhide HE]; exact unhide HC)
          rw [← unhide HE, unhide HCC] at hput
          exact hput
  · have hc := lcode_bad (cs := cs) hpf
    rw [hc, show lput cs ps = cs by unfold lput; rw [hc, if_neg hpf]]
    clear hc HB HE hlen HBY HP
    generalize pf (-1) ps = z at *
    go_enter Try.func111, Try.ntmps111
    go_wp2_with fail
    refine (unhide HF).mono ?_
    rintro e w1 ⟨rfl, hk1⟩
    have HK := hide (unhide HS _ hk1)
    clear hk1 HS HF
    go_wp2_with fail
    go_ret
    exact ⟨rfl, unhide HK⟩
end Go.Proofs.Ytapmlleemopcnac

/- Tear of the document's roll at a place of a greater box, by its contract. -/
namespace Go.Proofs.Ytapmlleemopcnac
open Go.RowKit
set_option maxRecDepth 20000
attribute [local go_sem ↓] Go.wp_at_zero Go.wp_at_succ

section
variable {B : Nat} {w W w4 : World} {rb o : Nat} {bx : Array Value} {T : TypeId} {G : List Nat} {aL a' : Option Addr} {capL cap' : Nat} {xs : List El} {aT : Option Addr} {cT : Nat}
theorem RxL.pop (h : RxL B w rb o bx T G aL capL xs aT cT []) (hW : Kp [] w W) (k : Nat) (hk : k ≤ xs.length) : RxTo B w rb o bx T G (cps (xs.take k)) [] (W.setCell ⟨rb, o, none⟩ (.slice aL k capL)) := by
  obtain ⟨rfl, rfl⟩ := h.tn rfl
  have hW1 := h.kp hW (fun _ _ => by simp)
  have hk3 : Kp [rb] W (W.setCell ⟨rb, o, none⟩ (.slice aL k capL)) := (Kp.refl [rb] W).setCell (.inl (by simp)) _
  have hKG : Kp G w (W.setCell ⟨rb, o, none⟩ (.slice aL k capL)) := (hW.mono (fun x hx => by simp at hx)).trans hk3 (fun x hx => .inl (by rw [List.mem_singleton.1 hx]; exact h.rG))
  have hl : (xs.take k).length = k := by simp; omega
  refine ⟨G, bx.setIfInBounds o (.slice aL k capL), ⟨aL, capL, xs.take k, none, 0, ⟨?_, by rw [set_here h.b0, hl], set_there h.b1 (by omega) _, ?_, fun e he => ?_, byt_nil _ _, fun _ => ⟨rfl, rfl⟩, by simp [ob], h.ne, h.rG, h.aG, fun x hx => ⟨(h.lo x hx).1, Nat.lt_of_lt_of_le (h.lo x hx).2 hKG.size⟩, ?_, by simp, Nat.le_trans h.hB hKG.size⟩, rfl⟩, sameB_set _ _ _ _ (.inl rfl), hKG, fun x hx => .inl hx⟩
  · exact heap_setCell_at o _ hW1.box
  · exact (hW1.own.take k hk).kp hk3 (fun x hx q => h.ne (by rw [← List.mem_singleton.1 q]; exact hx))
  · have he2 := List.mem_of_mem_take he
    exact ⟨(hW1.els e he2).1.kp hk3 (fun x hx q => ((h.els e he2).2 x hx).2.1 (List.mem_singleton.1 q)), (h.els e he2).2⟩
  · rw [cps_take]; exact h.inv.take k

theorem RxL.torn (h : RxL B w rb o bx T G aL capL xs aT cT []) (hW : Kp [] w W) (hk : Kp [] W w4) {a3 : Option Addr} {c3 N : Nat} {t : List UInt8} (ho : OwnU B w4 a3 c3 t) (hn : ∀ x ∈ ob a3, W.heap.size ≤ x) (hN : N = t.length) (ht : t ≠ []) (htl : t.length ≤ 114) :
    RxTo B w rb o bx T G (cps xs) t (w4.setCell ⟨rb, o + 1, none⟩ (.slice a3 N c3)) := by
  subst hN
  have hWs := hW.size
  have hW1 := (h.kp hW (fun _ _ => by simp)).kp hk (fun _ _ => by simp)
  have hk3 : Kp [rb] w4 (w4.setCell ⟨rb, o + 1, none⟩ (.slice a3 t.length c3)) := (Kp.refl [rb] w4).setCell (.inl (by simp)) _
  have hKG : Kp G w (w4.setCell ⟨rb, o + 1, none⟩ (.slice a3 t.length c3)) := ((hW.trans0 hk).mono (fun x hx => by simp at hx)).trans hk3 (fun x hx => .inl (by rw [List.mem_singleton.1 hx]; exact h.rG))
  have hrb : ∀ x ∈ ob a3, x ≠ rb := fun x hx q => by
    have h1 := hn x hx
    have h2 := (h.lo rb h.rG).2
    omega
  refine ⟨G ++ ob a3, bx.setIfInBounds (o + 1) (.slice a3 t.length c3), ⟨aL, capL, xs, a3, c3, ⟨?_, set_there h.b0 (by omega) _, set_here h.b1 _, ?_, fun e he => ?_, ?_, fun q => absurd q ht, fun x hx => ⟨by simp [hx], hrb x hx⟩, h.ne, by simp [h.rG], fun x hx => by simp [h.aG x hx], fun x hx => ?_, h.inv, htl, Nat.le_trans h.hB hKG.size⟩, rfl⟩, sameB_set _ _ _ _ (.inr rfl), hKG, fun x hx => ?_⟩
  · exact heap_setCell_at (o + 1) _ hW1.box
  · exact hW1.own.kp hk3 (fun x hx q => h.ne (by rw [← List.mem_singleton.1 q]; exact hx))
  · exact ⟨(hW1.els e he).1.kp hk3 (fun x hx q => ((h.els e he).2 x hx).2.1 (List.mem_singleton.1 q)), fun x hx => ⟨by simp [((h.els e he).2 x hx).1], ((h.els e he).2 x hx).2⟩⟩
  · exact ho.byt.kpo hk3 (fun x hx q => hrb x hx (List.mem_singleton.1 q))
  · rcases List.mem_append.1 hx with q | q
    · exact ⟨(h.lo x q).1, Nat.lt_of_lt_of_le (h.lo x q).2 hKG.size⟩
    · exact ⟨(ho.lo x q).1, Nat.lt_of_lt_of_le (ho.lo x q).2 hk3.size⟩
  · rcases List.mem_append.1 hx with q | q
    · exact .inl q
    · exact .inr (Nat.le_trans hWs (hn x q))
end

set_option maxHeartbeats 2000000 in
theorem rxtear {B rb o : Nat} {bx : Array Value} {T : TypeId} {G : List Nat} {cs : List (List Ver)} (a2 : Option Addr) (c : Nat) (ps : List Ver) (keep : Int) (w : World) (h : Rx B w rb o bx T G cs []) (hp : Prs w a2 ps) (hpG : 0 < ps.length → ∀ g o, a2 = some ⟨g, o, none⟩ → g ∉ G) (hm : ps.length ≤ 1000) :
    Calls Try.prog 67 #[.pointer (some ⟨rb, o, none⟩), .slice a2 ps.length c, .int .i64 keep] w fun e w' => e = .returned (.int .i64 (lcode cs ps)) ∧ RxTo B w rb o bx T G (ltear cs ps keep) (ltorn cs ps keep) w' := by
  have HU := hide (rxput a2 c ps w h hp hm)
  have hn40 := h.inv.n40
  have HG := hide (fun w' (hk : Kp G w w') => hp.kpG hk hpG)
  clear h hp hpG
  by_cases hc : lcode cs ps = 0
  · obtain ⟨hpf, hc40, hroom⟩ := lcode_zero hc
    have hel := enc_le hpf
    have HC := hide hc
    have HPF := hide hpf
    rw [show lput cs ps = cs ++ [ps] by unfold lput; rw [hc]; simp] at HU
    by_cases hk : ((enc ps).length : Int) ≤ keep
    · obtain ⟨e1, e2⟩ := ltear_all hc hk
      rw [e1, e2]
      rw [hc] at HU ⊢
      clear e1 e2 hpf
      go_enter Try.func67, Try.ntmps67
      go_wp2_with fail
      refine (unhide HU).mono ?_
      rintro e w1 ⟨rfl, h1⟩
      have H1 := hide h1
      obtain ⟨G1, bx1, hR1, hsb, hkG, hG1⟩ := h1
      have HPR := hide (unhide HG _ hkG)
      have HSB := hide hsb
      have HKG := hide hkG
      have HG1 := hide hG1
      have HR1 := hide hR1
      clear hkG hsb hG1 hR1
      go_wp2_with fail
      refine (bytesOf11 a2 c ps w1 (unhide HPR) (unhide HPF)).mono ?_
      rintro e w2 ⟨gx, cx, nx, rfl, hn, hr⟩
      rw [← hn] at hk hel
      have HK := hide hr.kp
      clear hn hr
      go_wp2_with fail
      go_ret
      exact ⟨rfl, RxTo.trans_at (unhide HSB) (unhide HKG) (unhide HG1) (rxTo_same (unhide HR1) (unhide HK))⟩
    · obtain ⟨e1, e2⟩ := ltear_cut hc hk
      rw [e1, e2]
      rw [hc] at HU ⊢
      clear e1 e2 hpf
      by_cases hk0 : keep ≤ 0
      · rw [show keep.toNat = 0 by omega]
        go_enter Try.func67, Try.ntmps67
        go_wp2_with fail
        refine (unhide HU).mono ?_
        rintro e w1 ⟨rfl, h1⟩
        have H1 := hide h1
        obtain ⟨G1, bx1, hR1, hsb, hkG, hG1⟩ := h1
        have HSB := hide hsb
        clear hsb
        have HPR := hide (unhide HG _ hkG)
        have HKG := hide hkG
        have HG1 := hide hG1
        obtain ⟨aL, capL, xs, aT, cT, hL, he⟩ := hR1
        have HE := hide he
        have HL := hide hL
        obtain ⟨C, hC⟩ : ∃ C, xs.length = C + 1 := ⟨cs.length, by have := congrArg List.length he; rw [cps_length] at this; simp at this; omega⟩
        have hC2 : C = cs.length := by have := congrArg List.length he; rw [cps_length] at this; simp at this; omega
        have HC1 := hide hC
        have HC2 := hide hC2
        have hC40 : C ≤ 40 := by omega
        clear hkG hG1 he hL
        go_wp2_with fail
        refine (bytesOf11 a2 c ps w1 (unhide HPR) (unhide HPF)).mono ?_
        rintro e w2 ⟨gx, cx, nx, rfl, hn, hr⟩
        rw [← hn] at hk hel
        have HK := hide hr.kp
        have r0 : w2.cell? ⟨rb, o, none⟩ = some (.slice aL (C + 1) capL) := by rw [← hC]; exact hr.kp.cell (by simp) (unhide HL).c0
        have r1 : w2.frozen? ⟨rb, o, none⟩ = false := by rw [hr.kp.frozen ((unhide HL).lo rb (unhide HL).rG).2 (by simp)]; exact (unhide HL).fz o
        have hsl := own_partE (unhide HL).own C (C + 1) (by omega) (C : Int) rfl
        have hk' : ¬ keep > 0 := by omega
        clear hn hr hC hC2
        go_wp2_with fail
        go_region
        all_goals
          go_wp2_with fail
          go_ret
          refine ⟨rfl, RxTo.trans_at (unhide HSB) (unhide HKG) (unhide HG1) ?_⟩
          have := (unhide HL).pop ((unhide HK).drew) C (by have := unhide HC1; omega)
          rw [cps_take, ← unhide HE, unhide HC2, List.take_left] at this
          rw [List.take_zero, unhide HC2]
          exact this
      · obtain ⟨k, rfl⟩ : ∃ k : Nat, keep = (k : Int) := ⟨keep.toNat, by omega⟩
        rw [Int.toNat_natCast]
        go_enter Try.func67, Try.ntmps67
        go_wp2_with fail
        refine (unhide HU).mono ?_
        rintro e w1 ⟨rfl, h1⟩
        have H1 := hide h1
        obtain ⟨G1, bx1, hR1, hsb, hkG, hG1⟩ := h1
        have HSB := hide hsb
        clear hsb
        have HPR := hide (unhide HG _ hkG)
        have HKG := hide hkG
        have HG1 := hide hG1
        obtain ⟨aL, capL, xs, aT, cT, hL, he⟩ := hR1
        have HE := hide he
        have HT := hide (hL.tn rfl)
        have HL := hide hL
        obtain ⟨C, hC⟩ : ∃ C, xs.length = C + 1 := ⟨cs.length, by have := congrArg List.length he; rw [cps_length] at this; simp at this; omega⟩
        have hC2 : C = cs.length := by have := congrArg List.length he; rw [cps_length] at this; simp at this; omega
        have HC1 := hide hC
        have HC2 := hide hC2
        have hC40 : C ≤ 40 := by omega
        clear hkG hG1 he hL
        go_wp2_with fail
        refine (bytesOf11 a2 c ps w1 (unhide HPR) (unhide HPF)).mono ?_
        rintro e w2 ⟨gx, cx, nx, rfl, hn, hr⟩
        rw [← hn] at hk hel
        have HK := hide hr.kp
        have r0 : w2.cell? ⟨rb, o, none⟩ = some (.slice aL (C + 1) capL) := by rw [← hC]; exact hr.kp.cell (by simp) (unhide HL).c0
        have r1 : w2.frozen? ⟨rb, o, none⟩ = false := by rw [hr.kp.frozen ((unhide HL).lo rb (unhide HL).rG).2 (by simp)]; exact (unhide HL).fz o
        have hsl := own_partE (unhide HL).own C (C + 1) (by omega) (C : Int) rfl
        have hkn : k < nx := by omega
        have hkp : 0 < k := by omega
        have s0 : w2.cell? ⟨rb, o + 1, none⟩ = some (.slice none 0 0) := by have h1 := (unhide HL).c1; rw [(unhide HT).1, (unhide HT).2] at h1; exact hr.kp.cell (by simp) h1
        have s1 : w2.frozen? ⟨rb, o + 1, none⟩ = false := by rw [hr.kp.frozen ((unhide HL).lo rb (unhide HL).rG).2 (by simp)]; exact (unhide HL).fz (o + 1)
        have hsx := own_part hr.ownU k nx (by omega) (k : Int) rfl
        have HX := hide ((hr.ownU.take k (by omega)).byt)
        have hlt : ((enc ps).take k).length = k := by simp; omega
        have HLT := hide hlt
        have hgx : rb ≠ gx := by have h1 := hr.lt; have h2 := ((unhide HL).lo rb (unhide HL).rG).2; omega
        clear hlt
        clear hn hr hC hC2
        go_wp2_with fail
        go_region
        all_goals
          go_wp2_with fail
          obtain ⟨W7, hW8⟩ : ∃ W7, (w2.setCell ⟨rb, o, none⟩ (.slice aL C capL)).drew = W7 := ⟨_, rfl⟩
          have hW7 : w2.drew.setCell ⟨rb, o, none⟩ (.slice aL C capL) = W7 := hW8
          have H7 := hide ((unhide HL).pop ((unhide HK).drew) C (by have := unhide HC1; omega))
          have HX7 : Hid (Byt W7 (some ⟨gx, 0, none⟩) ((enc ps).take k)) := by
            rw [← hW7]
            exact (unhide HX).kpo ((Kp.refl [rb] w2).drew.setCell (.inl (by simp)) _) (fun x hx q => hgx (by simp [ob] at hx q; omega))
          have hcs7 : cps (xs.take C) = cs := by rw [cps_take, ← unhide HE, unhide HC2, List.take_left]
          rw [hcs7, hW7] at H7
          rw [hW8]
          obtain ⟨G7, bx7, hR7, hsb7, hkG7, hG7⟩ := unhide H7
          obtain ⟨aL7, capL7, xs7, aT7, cT7, hL7, he7⟩ := hR7
          obtain ⟨rfl, rfl⟩ := hL7.tn rfl
          have y0 : W7.cell? ⟨rb, o + 1, none⟩ = some (.slice none 0 0) := hL7.c1
          have y1 := hL7.fz (o + 1)
          have hB7 := hL7.hB
          have HKG7 := hide hkG7
          have HSB7 := hide hsb7
          have HG7 := hide hG7
          have HL7 := hide hL7
          have HE7 := hide he7
          clear hsb7 hcs7 hW7 hW8 hkG7 hG7 hL7 he7 H7 r0 r1 s0 s1 hsl
          go_region_law (refine step_appx (by rfl) (.tmp 41) (.tmp 44) 55 (by rfl) (ownU_nil B _) (by simpa using hB7) 0 rfl (.slice (some ⟨gx, 0, none⟩) k cx) ((enc ps).take k) (by rfl) (by rfl) (byt_srcn ((unhide HX7).kp0 (Kp.refl [] _).drew) (unhide HLT).symm) (by have := unhide HLT; simp only [List.length_nil]; omega) ?_; intro a3 c3 n3 w3 hn3 ho3 hk3 hx3; have z0 : w3.cell? ⟨rb, o + 1, none⟩ = some (.slice none 0 0) := (((Kp.refl [] W7).drew).trans0 (unhide hk3)).cell (by simp) y0; have z1 : w3.frozen? ⟨rb, o + 1, none⟩ = false := (by rw [(((Kp.refl [] W7).drew).trans0 (unhide hk3)).frozen ((unhide HL7).lo rb (unhide HL7).rG).2 (by simp)]; exact y1))
          all_goals
            go_wp2_with fail
            go_ret
            refine ⟨rfl, RxTo.trans_at (unhide HSB) (unhide HKG) (unhide HG1) (RxTo.trans_at (unhide HSB7) (unhide HKG7) (unhide HG7) ?_)⟩
            rw [unhide HE7]
            exact (unhide HL7).torn (Kp.refl [] W7).drew (unhide hk3) (unhide ho3) (fun x hx => (unhide hx3 x hx).resolve_left (by simp [ob])) (unhide hn3) (fun q => by have h1 := unhide HLT; rw [q] at h1; simp at h1; omega) (by have := unhide HLT; omega)
  · obtain ⟨e1, e2⟩ := ltear_code keep hc
    rw [e1, e2]
    rw [show lput cs ps = cs by unfold lput; rw [if_neg hc]] at HU
    generalize lcode cs ps = z at *
    clear e1 e2
    go_enter Try.func67, Try.ntmps67
    go_wp2_with fail
    refine (unhide HU).mono ?_
    rintro e w1 ⟨rfl, h1⟩
    have H1 := hide h1
    clear h1 HU HG
    go_wp2_with fail
    go_ret
    exact ⟨rfl, unhide H1⟩
end Go.Proofs.Ytapmlleemopcnac

/- readPairs, by its contract. -/
namespace Go.Proofs.Ytapmlleemopcnac
open Go.RowKit
set_option maxRecDepth 20000
attribute [local go_sem ↓] Go.wp_at_zero Go.wp_at_succ

theorem rp_step (m : Nat) (bs : List UInt8) : rp (m + 1) bs = if (rd1 bs).2.2 = true then (rp m (bs.drop (rd1 bs).2.1)).map ((rd1 bs).1 :: ·) else none := by
  match bs with
  | [] => simp [rp, rd1]
  | [x] => simp [rp, rd1]
  | k :: l :: r =>
    have e0 : ub (k :: l :: r) 0 = k.toNat := rfl
    have e1 : ub (k :: l :: r) 1 = l.toNat := rfl
    have h2 : ¬ (k :: l :: r).length < 2 := by simp
    have hlen : (k :: l :: r).length = r.length + 2 := rfl
    by_cases hl : l = 255
    · subst hl
      have er : rd1 (k :: 255 :: r) = (⟨k.toNat, false, ByteArray.empty⟩, 2, true) := by unfold rd1; rw [if_neg h2, e0, e1, if_pos (show UInt8.toNat 255 = 255 from rfl)]
      rw [er]
      simp [rp]
    · have hl' : ¬ l.toNat = 255 := fun e => hl (UInt8.toNat_inj.1 (by rw [e]; rfl))
      by_cases hr : r.length < l.toNat
      · have er : rd1 (k :: l :: r) = (dv, 0, false) := by unfold rd1; rw [if_neg h2, e1, if_neg hl', if_pos (by omega)]
        rw [er]
        simp [rp, hl, hr]
      · have ed : (k :: l :: r).drop (2 + l.toNat) = r.drop l.toNat := by rw [show 2 + l.toNat = l.toNat + 1 + 1 by omega]; rfl
        have et : ((k :: l :: r).take (2 + l.toNat)).drop 2 = r.take l.toNat := by rw [show 2 + l.toNat = l.toNat + 1 + 1 by omega]; rfl
        have er : rd1 (k :: l :: r) = (⟨k.toNat, true, ⟨(r.take l.toNat).toArray⟩⟩, 2 + l.toNat, true) := by unfold rd1; rw [if_neg h2, e0, e1, if_neg hl', if_neg (by omega), et]
        rw [er]
        simp only [rp, if_neg hl, if_neg hr, ed]
        simp
theorem rd1_le {bs : List UInt8} (h : (rd1 bs).2.2 = true) : (rd1 bs).2.1 ≤ bs.length := by
  unfold rd1 at h ⊢
  split at h
  · simp at h
  · rename_i h1
    rw [if_neg h1]
    split at h
    · rename_i h3
      rw [if_pos h3]
      simp; omega
    · rename_i h3
      rw [if_neg h3]
      split at h
      · simp at h
      · rename_i h4
        rw [if_neg h4]
        simp; omega

/-- At the head of a round of readPairs. -/
structure RpI (R : Option (List Ver)) (w : World) (m : Nat) (acc : List Ver) (a : Option Addr) (cap : Nat) (ab : Option Addr) (nb cb : Nat) (bs : List UInt8) (wr : World) : Prop where
  goes : (rp m bs).map (acc ++ ·) = R
  own : wr.ownsRow w.heap.size 79 3 (.slice a acc.length cap) acc.length (vcells acc)
  kp : Kp [] w wr
  byt : Byt w ab bs
  len : nb = bs.length
  cap : nb ≤ cb
  small : bs.length ≤ 10000

theorem RpI.fail {R : Option (List Ver)} {w : World} {m : Nat} {acc : List Ver} {a : Option Addr} {cap : Nat} {ab : Option Addr} {nb cb : Nat} {bs : List UInt8} {wr : World} (h : RpI R w (m + 1) acc a cap ab nb cb bs wr) (hr : (rd1 bs).2.2 = false) : R = none := by
  have := h.goes
  rw [rp_step, if_neg (by rw [hr]; decide)] at this
  rw [← this]; rfl
theorem RpI.next {R : Option (List Ver)} {w : World} {m : Nat} {acc : List Ver} {a : Option Addr} {cap : Nat} {ab : Option Addr} {nb cb : Nat} {bs : List UInt8} {wr W w2 : World} (h : RpI R w (m + 1) acc a cap ab nb cb bs wr) (hr : (rd1 bs).2.2 = true) {v : Ver} {sz : Nat} (hv : (rd1 bs).1 = v) (hs : (rd1 bs).2.1 = sz)
    (hw : Kp [] wr W) {g2 cap2 : Nat} (hown : w2.ownsRow w.heap.size 79 3 (.slice (some ⟨g2, 0, none⟩) (acc.length + 1) cap2) (acc.length + 1) (vcells acc ++ [.int .i64 v.a, .bool v.t, .string v.s]))
    (hgrow : W.grownBy w2 (Value.slice a acc.length cap).ownBlock) {ab' : Option Addr} (hb : Byt w ab' (bs.drop sz)) : RpI R w m (acc ++ [v]) (some ⟨g2, 0, none⟩) cap2 ab' (nb - sz) (cb - sz) (bs.drop sz) w2 := by
  subst hv hs
  refine ⟨?_, ?_, (h.kp.trans0 hw).grown hgrow (fun g hg => .inr (own_ge h.own hg)), hb, by rw [h.len]; simp, by have := h.cap; omega, by have := h.small; simp; omega⟩
  · rw [← h.goes, rp_step, if_pos hr, Option.map_map]
    congr 1
    funext x
    simp
  · have hv : vcells acc ++ [.int .i64 (rd1 bs).1.a, .bool (rd1 bs).1.t, .string (rd1 bs).1.s] = vcells (acc ++ [(rd1 bs).1]) := by rw [vcells_append]; rfl
    rw [hv] at hown
    simpa using hown

def RpsEnd (R : Option (List Ver)) (w : World) (e : Ending) (w' : World) : Prop :=
  ∃ a n cap, ∃ q : Bool, e = .returned (.tuple #[.slice a n cap, .bool q]) ∧ (q = true → ∃ ws, R = some ws ∧ n = ws.length ∧ w'.ownsRow w.heap.size 79 3 (.slice a n cap) n (vcells ws)) ∧ (q = false → R = none) ∧ Kp [] w w'
theorem rpsEnd_none {R : Option (List Ver)} {w w' : World} (h : R = none) (hk : Kp [] w w') : RpsEnd R w (.returned (.tuple #[.slice none 0 0, .bool false])) w' := ⟨none, 0, 0, false, rfl, (fun h => by simp at h), fun _ => h, hk⟩
theorem RpI.last {R : Option (List Ver)} {w : World} {acc : List Ver} {a : Option Addr} {cap : Nat} {ab : Option Addr} {nb cb : Nat} {bs : List UInt8} {wr : World} (h : RpI R w 0 acc a cap ab nb cb bs wr) (q : Bool) (hq : q = decide (nb = 0)) : RpsEnd R w (.returned (.tuple #[.slice a acc.length cap, .bool q])) wr := by
  have hg := h.goes
  have hl := h.len
  refine ⟨a, acc.length, cap, q, rfl, fun e => ⟨acc, ?_, rfl, h.own⟩, fun e => ?_, h.kp⟩
  · have e2 : nb = 0 := by subst hq; simpa using e
    have e3 : bs = [] := List.eq_nil_of_length_eq_zero (by omega)
    subst e3
    rw [← hg]; simp [rp]
  · have e2 : ¬ nb = 0 := by subst hq; simpa using e
    have e3 : ¬ bs = [] := fun e => by subst e; simp at hl; omega
    rw [← hg]; simp [rp, e3]

theorem beq0 (n : Nat) : ((n : Int) == 0) = decide (n = 0) := by rw [Bool.eq_iff_iff]; simp

set_option maxHeartbeats 2000000 in
theorem readPairs20 (ab : Option Addr) (n c : Nat) (bs : List UInt8) (m : Nat) (w : World) (h : Byt w ab bs) (hn : n = bs.length) (hc : n ≤ c) (hm : bs.length ≤ 10000) (hm2 : m ≤ 255) :
    Calls Try.prog 138 #[.slice ab n c, .int .i64 m] w fun e w' => RpsEnd (rp m bs) w e w' := by
  obtain ⟨i0, hi0, hz0, hz1, hz2⟩ := info_parts Try.info79
  have H0 : Hid (RpI (rp m bs) w m [] none 0 ab n c bs w) := ⟨by simp, World.ownsRow_nil _ _ _ _, Kp.refl _ _, h, hn, hc, hm⟩
  generalize rp m bs = R at *
  clear h hn hc hm
  go_enter Try.func138, Try.ntmps138
  go_wp2_with fail
  go_loopw [0, 6, 11] (fun b s i wr => ∃ (k : Nat) (acc : List Ver) (a : Option Addr) (cap : Nat) (ab : Option Addr) (nb cb : Nat) (bs : List UInt8), k ≤ m ∧ acc.length ≤ k ∧ b = .slice ab nb cb ∧ s = .slice a acc.length cap ∧ i = .int .i64 k ∧ Hid (RpI R w (m - k) acc a cap ab nb cb bs wr)) (fun _ _ i _ => m - (intOf i).toNat)
  case atStart => exact ⟨0, [], none, 0, ab, n, c, bs, by omega, by simp, rfl, rfl, rfl, H0⟩
  case round =>
    clear H0
    obtain ⟨k, acc, a, cap, ab, nb, cb, bs, hk, hal, rfl, rfl, rfl, HE⟩ := hrel
    by_cases hlt : k < m
    · have i1 : (k : Int) < (m : Int) := by omega
      rw [show m - k = (m - (k + 1)) + 1 by omega] at HE
      go_wp2_with fail
      refine (readPair23 ab nb cb bs wr ((unhide HE).byt.kp0 (unhide HE).kp) (unhide HE).len (unhide HE).cap (unhide HE).small).mono ?_
      rintro e w1 ⟨rfl, hk1⟩
      have HK1 := hide hk1
      clear hk1
      cases hr : (rd1 bs).2.2 with
      | false =>
        have HR := hide ((unhide HE).fail hr)
        clear hr
        have HK2 := hide ((((unhide HE).kp.trans0 (unhide HK1)).alloc (.cells #[.int .i64 (rd1 bs).1.a, .bool (rd1 bs).1.t, .string (rd1 bs).1.s] 79)))
        generalize (rd1 bs).1 = v at *
        generalize (rd1 bs).2.1 = sz at *
        go_wp2_with fail
        go_ret2
        exact rpsEnd_none (unhide HR) (unhide HK2)
      | true =>
        have hle := rd1_le hr
        obtain ⟨ab', hsl, hb'⟩ := part_l (unhide HE).byt (rd1 bs).2.1 cb nb (unhide HE).len hle (by have := (unhide HE).len; have := (unhide HE).cap; omega) (rd1 bs).2.1 rfl
        obtain ⟨v, hv⟩ : ∃ v, (rd1 bs).1 = v := ⟨_, rfl⟩
        obtain ⟨sz, hz⟩ : ∃ sz, (rd1 bs).2.1 = sz := ⟨_, rfl⟩
        rw [hv, hz]
        rw [hz] at hsl hb'
        have HR := hide hr
        have HV := hide hv
        have HZ := hide hz
        have HB := hide hb'
        clear hr hv hz hb' hle
        have hwl := ((unhide HE).kp.trans0 (unhide HK1)).size
        have hOW := hide (own_kp0 (unhide HE).own (((unhide HK1).alloc (.cells #[.int .i64 v.a, .bool v.t, .string v.s] 79)).alloc (.cells #[.int .i64 v.a, .bool v.t, .string v.s] 79)))
        go_wp2_with (at_builtin; refine wpList_append_lies _ rfl _ _ 32 rfl w.heap.size 79 i0 _ 3 32 Try.underlying32 hi0 hz0 hz1 hz2 rfl (by omega) (.slice a acc.length cap) acc.length (vcells acc) rfl (unhide hOW) ⟨w1.heap.size + 1, 0, none⟩ 1 1 [.int .i64 v.a, .bool v.t, .string v.s] (by rfl) (by rfl) (World.news_of_block (cs := #[.int .i64 v.a, .bool v.t, .string v.s]) (t := 79) (fr := (0, 0)) (by have := heap_alloc_new (w1.alloc (.cells #[.int .i64 v.a, .bool v.t, .string v.s] 79)) (.cells #[.int .i64 v.a, .bool v.t, .string v.s] 79); simpa using this)) (by simp [Value.oneCell']) (by omega) (by unfold maxLen; omega) (by omega) (by simp; omega) _ rfl ?_; intro g2 cap2 w2 hown hgrow hat hlt2; have HE2 := hide ((unhide HE).next (unhide HR) (unhide HV) (unhide HZ) (((unhide HK1).alloc _).alloc _) hown hgrow (unhide HB)); clear hown hgrow hat)
        exact ⟨⟨k + 1, _, _, _, _, _, _, _, by omega, by simp; omega, rfl, by simp, by go_num, HE2⟩, by simp [intOf]; omega⟩
    · have e : k = m := by omega
      subst e
      rw [Nat.sub_self] at HE
      go_wp2_with fail
      go_ret2
      exact (unhide HE).last _ (beq0 nb)
end Go.Proofs.Ytapmlleemopcnac

/- Decode, by its contract. -/
namespace Go.Proofs.Ytapmlleemopcnac
open Go.RowKit
set_option maxRecDepth 20000
attribute [local go_sem ↓] Go.wp_at_zero Go.wp_at_succ

/-- What Decode leaves: the pairs lie in memory of their own. -/
def DecEnd (D : List Ver × Nat × Int) (w : World) (e : Ending) (w' : World) : Prop :=
  ∃ a n cap, e = .returned (.tuple #[.slice a n cap, .int .i64 (D.2.1 : Nat), .int .i64 D.2.2]) ∧ n = D.1.length ∧ w'.ownsRow w.heap.size 79 3 (.slice a n cap) n (vcells D.1) ∧ Kp [] w w'
theorem decEnd_code {D : List Ver × Nat × Int} {w w' : World} (c : Int) (h : D = ([], 0, c)) (hk : Kp [] w w') : DecEnd D w (.returned (.tuple #[.slice none 0 0, .int .i64 0, .int .i64 c])) w' := by
  subst h
  exact ⟨none, 0, 0, rfl, rfl, World.ownsRow_nil _ _ _ _, hk⟩
theorem decEnd_mk {D : List Ver × Nat × Int} {w w' : World} (ws : List Ver) (z : Nat) (h : D = (ws, z, 0)) (a : Option Addr) (n cap : Nat) (hn : n = ws.length) (ho : w'.ownsRow w.heap.size 79 3 (.slice a n cap) n (vcells ws)) (hk : Kp [] w w') :
    DecEnd D w (.returned (.tuple #[.slice a n cap, .int .i64 z, .int .i64 0])) w' := by
  subst h
  exact ⟨a, n, cap, rfl, hn, ho, hk⟩

theorem dec_short0 {bs : List UInt8} (h : bs.length = 0) : dec bs = ([], 0, 6) := by unfold dec; rw [if_pos (.inl h)]
theorem dec_short {bs : List UInt8} (h : bs.length < ub bs 0) : dec bs = ([], 0, 6) := by unfold dec; rw [if_pos (.inr h)]
theorem dec_form {bs : List UInt8} (h0 : bs.length ≠ 0) (h : ¬ bs.length < ub bs 0) (h2 : ub bs 0 < 2) : dec bs = ([], 0, 4) := by
  unfold dec
  rw [if_neg (fun q => q.elim h0 h)]
  exact if_pos h2
theorem dec_pairs {bs : List UInt8} (h0 : bs.length ≠ 0) (h : ¬ bs.length < ub bs 0) (h2 : ¬ ub bs 0 < 2) : dec bs = match rp (ub bs 1) ((bs.take (ub bs 0)).drop 2) with
    | none => ([], 0, 4)
    | some ws => if pf (-1) ws = 0 then (ws, ub bs 0, 0) else ([], 0, pf (-1) ws) := by
  unfold dec
  rw [if_neg (fun q => q.elim h0 h)]
  exact if_neg h2

/-- Pairs that readPairs made may be checked. -/
theorem own_prs {B n : Nat} {w : World} {a : Option Addr} {cap : Nat} {ws : List Ver} (h : w.ownsRow B 79 3 (.slice a n cap) n (vcells ws)) (hn : n = ws.length) (hl : ws.length ≤ 1000) (hs : ∀ p ∈ ws, p.s.size ≤ 255) : Prs w a ws := by
  refine ⟨by unfold maxLen; omega, fun k hk => ?_, slo_own h hn⟩
  have : (vb ws k).size ≤ 255 := by
    simp only [vb, List.getD_eq_getElem?_getD, List.getElem?_eq_getElem hk, Option.getD_some]
    exact hs _ (List.getElem_mem hk)
  unfold maxLen; omega

set_option maxHeartbeats 2000000 in
theorem decode12 (a : Option Addr) (n c : Nat) (bs : List UInt8) (w : World) (h : Byt w a bs) (hn : n = bs.length) (hc : n ≤ c) (hm : bs.length ≤ 10000) :
    Calls Try.prog 123 #[.slice a n c] w fun e w' => DecEnd (dec bs) w e w' := by
  by_cases h0 : bs.length = 0
  · have hd := dec_short0 h0
    generalize dec bs = D at *
    have HD := hide hd
    have hn0 : n = 0 := by omega
    subst hn0
    clear h hd hn h0
    go_enter Try.func123, Try.ntmps123
    go_wp2_with fail
    go_ret3
    exact decEnd_code 6 (unhide HD) (Kp.refl _ _)
  · obtain ⟨g, o, rfl, hs⟩ := h (by omega)
    have q0 := hs 0 (by omega)
    have u0 := ub_lt bs 0
    have HB := hide h
    have i0 : (0 : Int) < (n : Int) := by omega
    have j0 : 0 < n := by omega
    have j0' : ¬ n = 0 := by omega
    have j0'' : ¬ (n : Int) = 0 := by omega
    simp only [Nat.add_zero] at q0
    by_cases h1 : bs.length < ub bs 0
    · have hd := dec_short h1
      have k0 : (n : Int) < (ub bs 0 : Nat) := by omega
      generalize dec bs = D at *
      have HD := hide hd
      clear h hd hn h0 h1 hs
      generalize ub bs 0 = x at *
      go_enter Try.func123, Try.ntmps123
      go_wp2_with fail
      go_ret3
      exact decEnd_code 6 (unhide HD) (Kp.refl _ _)
    · have k0 : ¬ (n : Int) < (ub bs 0 : Nat) := by omega
      by_cases h2 : ub bs 0 < 2
      · have hd := dec_form h0 h1 h2
        generalize dec bs = D at *
        have HD := hide hd
        clear h hd hn h0 h1 hs
        generalize ub bs 0 = x at *
        go_enter Try.func123, Try.ntmps123
        go_wp2_with fail
        go_ret3
        exact decEnd_code 4 (unhide HD) (Kp.refl _ _)
      · have hd := dec_pairs h0 h1 h2
        have q1 := hs 1 (by omega)
        have u1 := ub_lt bs 1
        have hwr : IntKind.i64.wrap ((ub bs 1 : Nat) : Int) = ((ub bs 1 : Nat) : Int) := wrap_i64_id _ (by omega) (by omega)
        have i1 : (1 : Int) < (n : Int) := by omega
        have j1 : 1 < n := by omega
        have k2 : ub bs 0 ≤ c := by omega
        obtain ⟨a2, hsl, hb2⟩ := part_lh (unhide HB) 2 (ub bs 0) c n (by omega) (by omega) (by omega) 2 (ub bs 0 : Nat) rfl rfl
        have hl2 : ub bs 0 - 2 = ((bs.take (ub bs 0)).drop 2).length := by simp; omega
        have hrp := fun W (hk : Kp [] w W) => readPairs20 a2 (ub bs 0 - 2) (c - 2) ((bs.take (ub bs 0)).drop 2) (ub bs 1) W (hb2.kp0 hk) hl2 (by omega) (by omega) (by omega)
        generalize dec bs = D at *
        generalize hR : rp (ub bs 1) ((bs.take (ub bs 0)).drop 2) = R at *
        have HR := hide hR
        have HD := hide hd
        have HRP := hide hrp
        clear h hd hn h0 h1 hs hb2 hl2 hrp hR
        generalize ub bs 0 = x at *
        generalize ub bs 1 = y at *
        go_enter Try.func123, Try.ntmps123
        go_wp2_with fail
        go_region_with (go_at_call 138; refine (unhide HRP w.drew (Kp.refl [] w).drew).mono ?_; rintro e w1 ⟨ar, nr, cr, q, rfl, hq1, hq2, hk1⟩; have HQ1 := hide hq1; have HQ2 := hide hq2; have HK1 := hide ((Kp.refl [] w).drew.trans0 hk1); clear hq1 hq2 hk1)
        cases q with
        | false =>
          have hd := unhide HD
          rw [unhide HQ2 rfl] at hd
          have HD2 := hide hd
          clear hd
          go_wp2_with fail
          go_ret3
          exact decEnd_code 4 (unhide HD2) (unhide HK1)
        | true =>
          obtain ⟨ws, hR, hnr, hown⟩ := unhide HQ1 rfl
          have hd := unhide HD
          rw [hR] at hd
          simp only at hd
          obtain ⟨hw1, _, hw3⟩ := rp_back ((unhide HR).trans hR)
          subst hnr
          have hwl : ws.length ≤ 1000 := by omega
          have HO := hide (own_base hown (Nat.le_refl w.heap.size))
          have hpr := own_prs hown rfl hwl hw3
          have hch := tcheck36 ar cr ws w1 hpr hwl
          have HCH := hide hch
          have HD2 := hide hd
          clear hd hR hown hw1 hw3 hpr hch HQ1 HQ2 HR HD HRP
          by_cases hp : pf (-1) ws = 0
          · have hd := unhide HD2
            rw [if_pos hp] at hd
            have HD3 := hide hd
            have HP := hide hp
            clear hd hp HD2
            go_wp2_with fail
            refine (unhide HCH).mono ?_
            rintro e w2 ⟨rfl, hk2⟩
            have HK2 := hide hk2
            clear hk2
            rw [unhide HP]
            go_wp2_with fail
            go_ret3
            exact decEnd_mk ws x (unhide HD3) ar _ cr rfl (own_kp0 (unhide HO) (unhide HK2)) ((unhide HK1).trans0 (unhide HK2))
          · have hd := unhide HD2
            rw [if_neg hp] at hd
            have HD3 := hide hd
            clear hd HD2
            go_wp2_with fail
            refine (unhide HCH).mono ?_
            rintro e w2 ⟨rfl, hk2⟩
            have HK2 := hide ((unhide HK1).trans0 hk2)
            clear hk2 HCH
            generalize pf (-1) ws = z at *
            go_wp2_with fail
            go_ret3
            exact decEnd_code z (unhide HD3) (unhide HK2)
end Go.Proofs.Ytapmlleemopcnac

/- The table of bytes, by its contract. -/
namespace Go.Proofs.Ytapmlleemopcnac
open Go.RowKit
set_option maxRecDepth 20000
attribute [local go_sem ↓] Go.wp_at_zero Go.wp_at_succ

/-- At the head of a round: the commits xs are read. -/
structure TaI (w : World) (bs : List UInt8) (D : List (List Ver)) (tb : Nat) (xs : List (List Ver)) (wr : World) : Prop where
  tbl : ∃ F, Tbl w.heap.size wr tb F (wal0 xs) xs.length
  kp : Kp [] w wr
  n40 : xs.length ≤ 40
  goes : xs ++ dcs (40 - xs.length) (bs.drop (lb xs).length) = D
  ple : (lb xs).length ≤ bs.length

theorem TaI.stop {w : World} {bs : List UInt8} {D xs : List (List Ver)} {tb : Nat} {wr : World} (h : TaI w bs D tb xs wr) (hc : (dec (bs.drop (lb xs).length)).2.2 ≠ 0) : xs = D := by
  have hg := h.goes
  rcases Nat.eq_zero_or_pos (40 - xs.length) with e | e
  · rw [e] at hg; simpa [dcs] using hg
  · obtain ⟨m, hm⟩ := Nat.exists_eq_succ_of_ne_zero (Nat.pos_iff_ne_zero.1 e)
    rw [hm] at hg
    simp only [dcs] at hg
    rw [if_neg hc] at hg
    simpa using hg
theorem TaI.full {w : World} {bs : List UInt8} {D xs : List (List Ver)} {tb : Nat} {wr : World} (h : TaI w bs D tb xs wr) (hc : 40 ≤ xs.length) : xs = D := by
  have hg := h.goes
  rw [show 40 - xs.length = 0 by omega] at hg
  simpa [dcs] using hg
theorem TaI.next {w : World} {bs : List UInt8} {D xs : List (List Ver)} {tb : Nat} {wr w' : World} (h : TaI w bs D tb xs wr) (hc : (dec (bs.drop (lb xs).length)).2.2 = 0) (hn : xs.length < 40)
    (ht : ∃ F, Tbl w.heap.size w' tb F (wst (wal0 xs) xs.length (dec (bs.drop (lb xs).length)).1) (wn xs.length (dec (bs.drop (lb xs).length)).1)) (hk : Kp [] w w') :
    TaI w bs D tb (xs ++ [(dec (bs.drop (lb xs).length)).1]) w' ∧ (lb (xs ++ [(dec (bs.drop (lb xs).length)).1])).length = (lb xs).length + (dec (bs.drop (lb xs).length)).2.1 ∧ 2 ≤ (dec (bs.drop (lb xs).length)).2.1 := by
  obtain ⟨h1, h2, h3, h4⟩ := dec_ok hc
  have hl : (lb (xs ++ [(dec (bs.drop (lb xs).length)).1])).length = (lb xs).length + (dec (bs.drop (lb xs).length)).2.1 := by rw [lb_snoc, List.length_append, ← h4]
  refine ⟨⟨?_, hk, by simp; omega, ?_, ?_⟩, hl, by rw [h4]; exact (enc_le h1).1⟩
  · rw [(wcode_ok h1 hn).2, ← wal0_snoc] at ht
    simpa using ht
  · have hg := h.goes
    rw [show 40 - xs.length = (40 - (xs.length + 1)) + 1 by omega] at hg
    simp only [dcs] at hg
    rw [if_pos hc, List.drop_drop] at hg
    rw [hl, List.length_append, List.append_assoc]
    exact hg
  · rw [hl]
    have := h.ple
    simp only [List.length_drop] at h2
    omega

def TaEnd (D : List (List Ver)) (w : World) (e : Ending) (w' : World) : Prop := ∃ tb F p, e = .returned (.tuple #[.pointer (some ⟨tb, 0, none⟩), .int .i64 (p : Nat)]) ∧ p = (lb D).length ∧ Tbl w.heap.size w' tb F (wal0 D) D.length ∧ Kp [] w w'
theorem TaEnd_mk {D xs : List (List Ver)} {w : World} {tb : Nat} {bs : List UInt8} {wr w' : World} (h : TaI w bs D tb xs wr) (hx : xs = D) (hk : Kp [] wr w') {p : Nat} (hp : p = (lb xs).length) : TaEnd D w (.returned (.tuple #[.pointer (some ⟨tb, 0, none⟩), .int .i64 p])) w' := by
  subst hx
  obtain ⟨F, ht⟩ := h.tbl
  exact ⟨tb, F, p, rfl, hp, ht.kp0 hk, h.kp.trans0 hk⟩

/-- Write of pairs that lie in memory of their own. -/
theorem ta_write {w : World} {bs : List UInt8} {D xs : List (List Ver)} {tb : Nat} {wr W : World} (h : TaI w bs D tb xs wr) (hW : Kp [] wr W) (a : Option Addr) (n c : Nat) (ps : List Ver) (hn : n = ps.length) (ho : W.ownsRow wr.heap.size 79 3 (.slice a n c) n (vcells ps)) (hl : ps.length ≤ 1000) (hs : ∀ p ∈ ps, p.s.size ≤ 255) :
    Calls Try.prog 124 #[.pointer (some ⟨tb, 0, none⟩), .slice a n c] W fun e w' => e = .returned (.tuple #[.int .i64 (wnum xs.length ps), .int .i64 (wcode xs.length ps)]) ∧
      (∃ F, Tbl w.heap.size w' tb F (wst (wal0 xs) xs.length ps) (wn xs.length ps)) ∧ Kp [] w w' := by
  obtain ⟨F, ht⟩ := h.tbl
  have hpr := own_prs ho hn hl hs
  subst hn
  refine (twrite45 a c ps W (ht.kp0 hW) hpr (fun _ g o e hg => ?_) hl).mono ?_
  · have h1 := own_ge (g := g) ho (by subst e; rfl)
    have h2 := (ht.lo g hg).2
    omega
  · rintro e w' ⟨rfl, F', k1, k2, k3⟩
    exact ⟨rfl, ⟨F', k1⟩, (h.kp.trans0 hW).trans k2 (fun x hx => .inr (ht.lo x hx).1)⟩

set_option maxHeartbeats 2000000 in
theorem ltable25 (a : Option Addr) (n c : Nat) (bs : List UInt8) (w : World) (h : Byt w a bs) (hn : n = bs.length) (hc : n ≤ c) (hm : bs.length ≤ 10000) :
    Calls Try.prog 98 #[.slice a n c] w fun e w' => TaEnd (dcs 40 bs) w e w' := by
  have HB := hide h
  have HN := hide hn
  have hn' : n ≤ 10000 := by omega
  have HG : Hid (dcs 40 bs = dcs 40 bs) := rfl
  generalize hD : dcs 40 bs = D at *
  have HD := hide hD
  clear h hD HG hn
  go_enter Try.func98, Try.ntmps98
  go_wp2_with fail
  refine (tnew47 w).mono ?_
  rintro e w1 ⟨rfl, ht, hk⟩
  have H0 : Hid (TaI w bs D w.heap.size [] w1) := ⟨ht, hk, by simp, by simpa [lb] using unhide HD, by simp [lb]⟩
  clear ht hk HD
  generalize w.heap.size = tb at *
  go_wp2_with fail
  go_loopw [5] (fun i wr => ∃ (p : Nat) (xs : List (List Ver)), i = .int .i64 p ∧ p ≤ n ∧ Hid (p = (lb xs).length) ∧ Hid (TaI w bs D tb xs wr)) (fun i _ => n - (intOf i).toNat)
  case atStart => exact ⟨0, [], rfl, by omega, rfl, H0⟩
  case round =>
    clear H0
    obtain ⟨p, xs, rfl, hp, HP, HI⟩ := hrel
    obtain ⟨a2, hsl, hb2⟩ := part_l ((unhide HB).kp0 (unhide HI).kp) p c n (unhide HN) (by have := unhide HN; omega) (by have := unhide HN; omega) p rfl
    have hd := decode12 a2 (n - p) (c - p) (bs.drop p) wr hb2 (by rw [List.length_drop]; have := unhide HN; omega) (by omega) (by simp; omega)
    have HDD := hide hd
    have ip : (p : Int) ≤ (n : Int) := by omega
    clear hb2 hd
    by_cases hcode : (dec (bs.drop p)).2.2 = 0
    · have hok := dec_ok hcode
      have hl8 := @dec_len (bs.drop p)
      have hst := @dec_str (bs.drop p)
      have hle2 : (dec (bs.drop p)).2.1 ≤ n - p := by have := hok.2.1; rw [List.length_drop] at this; have := unhide HN; omega
      by_cases h40 : 40 ≤ xs.length
      · have hw9 := wcode_full hok.1 h40
        have HX := hide ((unhide HI).full h40)
        have HW := hide (fun W hW a n c hn ho => ta_write (unhide HI) (W := W) hW a n c _ hn ho (by omega) hst)
        rw [hw9] at HW
        have hD2 : ∃ z, (dec (bs.drop p)).2.1 = z := ⟨_, rfl⟩
        obtain ⟨z, hz⟩ := hD2
        clear hok hl8 hst hw9
        go_wp2_with fail
        refine (unhide HDD).mono ?_
        rintro e w2 ⟨a3, n3, c3, rfl, hn3, ho3, hk3⟩
        rw [hcode, hz]
        have HWW := hide (unhide HW w2 hk3 a3 n3 c3 hn3 ho3)
        clear hn3 ho3 hk3 HW HDD hsl
        generalize wnum xs.length (dec (bs.drop p)).1 = y at *
        go_wp2_with fail
        refine (unhide HWW).mono ?_
        rintro e w3 ⟨rfl, ⟨F3, ht3⟩, hk3⟩
        have HE : Hid (TaEnd D w (.returned (.tuple #[.pointer (some ⟨tb, 0, none⟩), .int .i64 p])) w3) := by
          have hx := unhide HX
          have e9 : wst (wal0 xs) xs.length (dec (bs.drop p)).1 = wal0 xs ∧ wn xs.length (dec (bs.drop p)).1 = xs.length := by
            have := wcode_full (dec_ok hcode).1 h40
            unfold wst wn
            rw [this]
            simp
          rw [e9.1, e9.2, hx] at ht3
          exact ⟨tb, F3, p, rfl, by rw [← hx]; exact unhide HP, ht3, hk3⟩
        clear ht3 hk3 HWW
        go_wp2_with fail
        go_ret2
        exact unhide HE
      · have hw0 := (wcode_ok hok.1 (by omega : xs.length < 40)).1
        have HW := hide (fun W hW a n c hn ho => ta_write (unhide HI) (W := W) hW a n c _ hn ho (by omega) hst)
        rw [hw0] at HW
        have hD2 : ∃ z, (dec (bs.drop p)).2.1 = z := ⟨_, rfl⟩
        obtain ⟨z, hz⟩ := hD2
        rw [hz] at hle2
        clear hok hl8 hst hw0
        go_wp2_with fail
        refine (unhide HDD).mono ?_
        rintro e w2 ⟨a3, n3, c3, rfl, hn3, ho3, hk3⟩
        rw [hcode, hz]
        have HWW := hide (unhide HW w2 hk3 a3 n3 c3 hn3 ho3)
        clear hn3 ho3 hk3 HW HDD hsl
        generalize wnum xs.length (dec (bs.drop p)).1 = y at *
        go_wp2_with fail
        refine (unhide HWW).mono ?_
        rintro e w3 ⟨rfl, ht3, hk3⟩
        have hpx := unhide HP
        subst hpx
        obtain ⟨j1, j2, j3⟩ := (unhide HI).next hcode (by omega) ht3 hk3
        rw [hz] at j2 j3
        have J1 := hide j1
        have J2 := hide j2
        clear ht3 hk3 HWW j1 j2
        go_wp2_with fail
        exact ⟨⟨_, _, by go_num, by omega, (unhide J2).symm, J1⟩, by simp [intOf]; omega⟩
    · have HX := hide ((unhide HI).stop (by rw [← unhide HP]; exact hcode))
      generalize dec (bs.drop p) = Dd at *
      obtain ⟨d1, d2, d3⟩ := Dd
      simp only at hcode
      go_wp2_with fail
      refine (unhide HDD).mono ?_
      rintro e w2 ⟨a3, n3, c3, rfl, hn3, ho3, hk3⟩
      have HE := hide (TaEnd_mk (unhide HI) (unhide HX) hk3 (unhide HP))
      clear hn3 ho3 hk3 HDD hsl
      go_wp2_with fail
      go_ret2
      exact unhide HE
end Go.Proofs.Ytapmlleemopcnac

/- A deed's memory; New, Mode, At, Get and Put of a deed, by their contracts. -/
namespace Go.Proofs.Ytapmlleemopcnac
open Go.RowKit
set_option maxRecDepth 20000
attribute [local go_sem ↓] Go.wp_at_zero Go.wp_at_succ

/-- A deed's memory: its box. -/
def Ded (w : World) (db : Nat) (md y : Int) (rs : List Int) (ws : List Ver) : Prop := w.heap[db]? = some (.cells (dcells md y (ncell rs ws)) 126 (0, 0))

section
variable {w w' : World} {db : Nat} {md y : Int} {rs : List Int} {ws : List Ver}
theorem Ded.lt (h : Ded w db md y rs ws) : db < w.heap.size := lt_of_block h
theorem Ded.kp {S : List Nat} (h : Ded w db md y rs ws) (hk : Kp S w w') (hS : db ∉ S) : Ded w' db md y rs ws := by
  unfold Ded at h ⊢
  rw [hk.block db (lt_of_block h) hS]; exact h
theorem Ded.kp0 (h : Ded w db md y rs ws) (hk : Kp [] w w') : Ded w' db md y rs ws := h.kp hk (by simp)
theorem Ded.mcell (h : Ded w db md y rs ws) : w.cell? ⟨db, 0, none⟩ = some (.int .i64 md) := cell_of_block h rfl
theorem Ded.ycell (h : Ded w db md y rs ws) : w.cell? ⟨db, 1, none⟩ = some (.int .i64 y) := cell_of_block h rfl
theorem Ded.ncell0 (h : Ded w db md y rs ws) {k : Nat} (hk : k < 8) : w.cell? ⟨db, 2 + k * 4, none⟩ = some (.bool (decide ((k : Int) ∈ rs))) := cell_of_block h (dcells_at (i := 0) _ _ _ hk (by omega))
theorem Ded.ncell1 (h : Ded w db md y rs ws) {k : Nat} (hk : k < 8) : w.cell? ⟨db, 2 + k * 4 + 1, none⟩ = some (.bool (lwr ws k).isSome) := cell_of_block h (dcells_at (i := 1) _ _ _ hk (by omega))
theorem Ded.ncell2 (h : Ded w db md y rs ws) {k : Nat} (hk : k < 8) : w.cell? ⟨db, 2 + k * 4 + 2, none⟩ = some (.bool ((lwr ws k).getD dv).t) := cell_of_block h (dcells_at (i := 2) _ _ _ hk (by omega))
theorem Ded.ncell3 (h : Ded w db md y rs ws) {k : Nat} (hk : k < 8) : w.cell? ⟨db, 2 + k * 4 + 2 + 1, none⟩ = some (.string ((lwr ws k).getD dv).s) := cell_of_block h (dcells_at (i := 3) _ _ _ hk (by omega))
theorem Ded.frozen (h : Ded w db md y rs ws) (i : Nat) : w.frozen? ⟨db, i, none⟩ = false := frozen_of_block i h
theorem Ded.read (h : Ded w db md y rs ws) {k : Nat} (hk : k < 8) : Ded (w.setCell ⟨db, 2 + k * 4, none⟩ (.bool true)) db md y (rs ++ [(k : Int)]) ws := by
  unfold Ded at h ⊢
  rw [heap_setCell_at _ _ h, show 2 + k * 4 = 2 + k * 4 + 0 from rfl, dcells_set _ _ _ hk (by omega)]
  congr 2
  exact dcells_congr (fun j i _ hi => ncell_read j i hi)
theorem Ded.write (h : Ded w db md y rs ws) {k : Nat} (hk : k < 8) (t : Bool) (s : ByteArray) :
    Ded (((w.setCell ⟨db, 2 + k * 4 + 1, none⟩ (.bool true)).setCell ⟨db, 2 + k * 4 + 2, none⟩ (.bool t)).setCell ⟨db, 2 + k * 4 + 2 + 1, none⟩ (.string s)) db md y rs (ws ++ [⟨(k : Int), t, s⟩]) := by
  unfold Ded at h ⊢
  rw [heap_setCell_at _ _ (heap_setCell_at _ _ (heap_setCell_at _ _ h)), show 2 + k * 4 + 2 + 1 = 2 + k * 4 + 3 from rfl, dcells_set _ _ _ hk (by omega), dcells_set _ _ _ hk (by omega), dcells_set _ _ _ hk (by omega)]
  congr 2
  exact dcells_congr (fun j i _ hi => ncell_write t s j i hi)
end

def deedNil : Array Value := dcells 0 0 (ncell [] [])
/-- What New tells. -/
def DnEnd (md y : Int) (w : World) (e : Ending) (w' : World) : Prop :=
  (1 ≤ md ∧ md ≤ 3 ∧ e = .returned (.pointer (some ⟨w.heap.size, 0, none⟩)) ∧ Ded w' w.heap.size md y [] [] ∧ Kp [] w w') ∨ (¬ (1 ≤ md ∧ md ≤ 3) ∧ e = .returned (.pointer none) ∧ w' = w)

theorem ded_new (w : World) (md y : Int) : Ded (w.alloc (.cells #[.int .i64 md, .int .i64 y, .bool false, .bool false, .bool false, .string ⟨#[]⟩, .bool false, .bool false, .bool false, .string ⟨#[]⟩, .bool false, .bool false, .bool false, .string ⟨#[]⟩, .bool false, .bool false, .bool false, .string ⟨#[]⟩, .bool false, .bool false, .bool false, .string ⟨#[]⟩, .bool false, .bool false, .bool false, .string ⟨#[]⟩, .bool false, .bool false, .bool false, .string ⟨#[]⟩, .bool false, .bool false, .bool false, .string ⟨#[]⟩] 126)) w.heap.size md y [] [] := by
  unfold Ded
  rw [heap_alloc_new]
  rfl

set_option maxHeartbeats 400000 in
theorem dnew54 (md y : Int) (w : World) : Calls Try.prog 125 #[.int .i64 md, .int .i64 y] w fun e w' => DnEnd md y w e w' := by
  by_cases h1 : md = 1
  · subst h1
    go_enter Try.func125, Try.ntmps125
    go_wp2
    go_ret
    exact .inl ⟨by omega, by omega, rfl, ded_new w _ _, (Kp.refl [] w).alloc _⟩
  · by_cases h2 : md = 2
    · subst h2
      go_enter Try.func125, Try.ntmps125
      go_wp2
      go_ret
      exact .inl ⟨by omega, by omega, rfl, ded_new w _ _, (Kp.refl [] w).alloc _⟩
    · by_cases h3 : md = 3
      · subst h3
        go_enter Try.func125, Try.ntmps125
        go_wp2
        go_ret
        exact .inl ⟨by omega, by omega, rfl, ded_new w _ _, (Kp.refl [] w).alloc _⟩
      · have e1 : (md == 1) = false := beq_eq_false_iff_ne.2 h1
        have e2 : (md == 2) = false := beq_eq_false_iff_ne.2 h2
        have e3 : (md == 3) = false := beq_eq_false_iff_ne.2 h3
        go_enter Try.func125, Try.ntmps125
        go_wp2
        go_ret
        exact .inr ⟨by omega, rfl, rfl⟩

theorem dmode70 {db : Nat} {md y : Int} {rs : List Int} {ws : List Ver} (w : World) (h : Ded w db md y rs ws) : Calls Try.prog 29 #[.pointer (some ⟨db, 0, none⟩)] w fun e w' => e = .returned (.int .i64 md) ∧ w' = w := by
  have q := h.mcell
  clear h
  go_enter Try.func29, Try.ntmps29
  go_wp2
  go_ret
  exact ⟨rfl, rfl⟩
theorem dat71 {db : Nat} {md y : Int} {rs : List Int} {ws : List Ver} (w : World) (h : Ded w db md y rs ws) : Calls Try.prog 30 #[.pointer (some ⟨db, 0, none⟩)] w fun e w' => e = .returned (.int .i64 y) ∧ w' = w := by
  have q := h.ycell
  clear h
  go_enter Try.func30, Try.ntmps30
  go_wp2
  go_ret
  exact ⟨rfl, rfl⟩

theorem dg_out {f : Nat → List Ver} {n : Nat} {y : Int} {ws : List Ver} {k : Int} (h : keyB k = false) : dg f n y ws k = ⟨1, false, ByteArray.empty⟩ := by unfold dg; rw [if_neg (by simp [h])]
theorem dr_out {f : Nat → List Ver} {n : Nat} {y : Int} {rs : List Int} {ws : List Ver} {k : Int} (h : keyB k = false) : dr f n y rs ws k = rs := by unfold dr; rw [if_neg (by simp [h])]
theorem dg_own {f : Nat → List Ver} {n : Nat} {y : Int} {ws : List Ver} {k : Int} {v : Ver} (h : keyB k = true) (hv : lwr ws k = some v) : dg f n y ws k = ⟨0, v.t, v.s⟩ := by unfold dg; rw [if_pos h, hv]
theorem dr_own {f : Nat → List Ver} {n : Nat} {y : Int} {rs : List Int} {ws : List Ver} {k : Int} {v : Ver} (hv : lwr ws k = some v) : dr f n y rs ws k = rs := by unfold dr; rw [if_neg (by simp [hv])]
theorem dg_tbl {f : Nat → List Ver} {n : Nat} {y : Int} {ws : List Ver} {k : Int} (h : keyB k = true) (hv : lwr ws k = none) : dg f n y ws k = tr f n k y := by unfold dg; rw [if_pos h, hv]
theorem dr_tbl {f : Nat → List Ver} {n : Nat} {y : Int} {rs : List Int} {ws : List Ver} {k : Int} (h : keyB k = true) (hv : lwr ws k = none) (h0 : (tr f n k y).a = 0) : dr f n y rs ws k = rs ++ [k] := by unfold dr; rw [if_pos ⟨h, hv, h0⟩]
theorem dr_code {f : Nat → List Ver} {n : Nat} {y : Int} {rs : List Int} {ws : List Ver} {k : Int} (h0 : ¬ (tr f n k y).a = 0) : dr f n y rs ws k = rs := by unfold dr; rw [if_neg (fun h => h0 h.2.2)]
/-- A code of Read comes with no value. -/
theorem tr_code {f : Nat → List Ver} {n : Nat} {k y : Int} (h : ¬ (tr f n k y).a = 0) : (tr f n k y).t = false ∧ (tr f n k y).s = ByteArray.empty := by
  unfold tr at h ⊢
  split
  · rename_i hc
    rw [if_pos hc] at h
    unfold rd3 at h ⊢
    split
    · exact ⟨rfl, rfl⟩
    · rename_i h1
      rw [if_neg h1] at h
      split
      · exact ⟨rfl, rfl⟩
      · rename_i h2
        rw [if_neg h2] at h
        exact absurd rfl h
  · exact ⟨rfl, rfl⟩

set_option maxHeartbeats 1000000 in
theorem dget55 {B tb n db : Nat} {F : List Nat} {f : Nat → List Ver} {md y : Int} {rs : List Int} {ws : List Ver} (k : Int) (w : World) (h : Tbl B w tb F f n) (hd : Ded w db md y rs ws) :
    Calls Try.prog 101 #[.pointer (some ⟨db, 0, none⟩), .pointer (some ⟨tb, 0, none⟩), .int .i64 k] w fun e w' => e = .returned (.tuple #[.agg #[.bool (dg f n y ws k).t, .string (dg f n y ws k).s], .int .i64 (dg f n y ws k).a]) ∧
      Ded w' db md y (dr f n y rs ws k) ws ∧ Kp [db] w w' := by
  have HT := hide h
  have HD := hide hd
  have hlt := hd.lt
  clear h hd
  by_cases hk : keyB k = true
  · obtain ⟨j, hj, rfl⟩ := keyB_nat hk
    have i0 : (0 : Int) ≤ (j : Int) := by omega
    have i1 : (j : Int) < 8 := by omega
    have q1 := (unhide HD).ncell1 hj
    cases hv : lwr ws j with
    | some v =>
      rw [dg_own hk hv, dr_own hv]
      have q2 := (unhide HD).ncell2 hj
      have q3 := (unhide HD).ncell3 hj
      rw [hv] at q1 q2 q3
      simp only [Option.isSome_some, Option.getD_some] at q1 q2 q3
      clear hv
      go_enter Try.func101, Try.ntmps101
      go_wp2_with fail
      refine (key11 _ _).mono ?_
      rintro e w' ⟨rfl, rfl⟩
      rw [hk]
      clear hk
      go_wp2
      refine bodyPost_ret (v := .tuple #[.agg #[.bool v.t, .string v.s], .int .i64 0]) (by simp [results, Try.results101, go_sem]) rfl ⟨rfl, ?_⟩
      have hkp := (Kp.refl [] w).alloc (.cells #[.bool v.t, .string v.s] 31)
      exact ⟨(unhide HD).kp0 hkp, hkp.mono (by simp)⟩
    | none =>
      rw [dg_tbl hk hv]
      have HV := hide hv
      have qy := (unhide HD).ycell
      have q0 := (unhide HD).ncell0 hj
      rw [hv] at q1
      simp only [Option.isSome_none] at q1
      clear hv
      by_cases h0 : (tr f n j y).a = 0
      · rw [dr_tbl hk (unhide HV) h0, h0]
        have H0 := hide h0
        clear h0
        go_enter Try.func101, Try.ntmps101
        go_wp2_with fail
        refine (key11 _ _).mono ?_
        rintro e w' ⟨rfl, rfl⟩
        rw [hk]
        clear hk
        go_wp2_with fail
        refine (tread32 j y _ ((unhide HT).kp0 ((Kp.refl [] w).alloc _))).mono ?_
        rintro e w1 ⟨rfl, hkp⟩
        have p0 : w1.cell? ⟨w.heap.size, 0, none⟩ = some (.bool false) := hkp.cell (by simp) (by simp)
        have p1 : w1.cell? ⟨w.heap.size, 1, none⟩ = some (.string ⟨#[]⟩) := hkp.cell (by simp) (by simp)
        have p2 : w1.frozen? ⟨w.heap.size, 0, none⟩ = false := by rw [hkp.frozen (by simp) (by simp)]; simp
        have p3 : w1.frozen? ⟨w.heap.size, 1, none⟩ = false := by rw [hkp.frozen (by simp) (by simp)]; simp
        have hkp1 := ((Kp.refl [] w).alloc (.cells #[.bool false, .string ⟨#[]⟩] 31)).trans0 hkp
        have hd1 := (unhide HD).kp0 hkp1
        have r0 := hd1.ncell0 hj
        have r1 := hd1.frozen (2 + j * 4)
        have hlt1 := hd1.lt
        have hsz := hkp1.size
        have hRs : w.heap.size < w1.heap.size := by have := hkp.size; simp at this; omega
        have hne : db ≠ w.heap.size := by omega
        have hne2 : db ≠ w1.heap.size := by omega
        have hne3 : w.heap.size ≠ w1.heap.size := by omega
        have HD1 := hide hd1
        have HK1 := hide hkp1
        clear hkp hkp1 hd1 q0 q1 qy
        rw [unhide H0]
        generalize hvv : tr f n j y = v at *
        have HVV := hide hvv
        clear hvv
        go_wp2
        refine bodyPost_ret (v := .tuple #[.agg #[.bool v.t, .string v.s], .int .i64 0]) (by simp [results, Try.results101, go_sem, p0, p1, hRs]) rfl ⟨by rw [unhide HVV], ?_⟩
        have hB := ((unhide HK1).mono (T := [db]) (by simp)).setCell (p := ⟨db, 2 + j * 4, none⟩) (.inl (by simp)) (.bool true)
        have hC := ((hB.setCell (p := ⟨w.heap.size, 0, none⟩) (.inr (Nat.le_refl _)) (.bool v.t)).setCell (p := ⟨w.heap.size, 1, none⟩) (.inr (Nat.le_refl _)) (.string v.s)).alloc (.cells #[.bool v.t, .string v.s] 31)
        refine ⟨?_, hC⟩
        refine ((unhide HD1).read hj).kp (S := [w.heap.size]) ((((Kp.refl _ _).setCell (.inl (by simp)) _).setCell (.inl (by simp)) _).alloc _) (by simp; omega)
      · obtain ⟨e1, e2⟩ := tr_code h0
        rw [dr_code h0, e1, e2]
        go_enter Try.func101, Try.ntmps101
        go_wp2_with fail
        refine (key11 _ _).mono ?_
        rintro e w' ⟨rfl, rfl⟩
        rw [hk]
        clear hk
        go_wp2_with fail
        refine (tread32 j y _ ((unhide HT).kp0 ((Kp.refl [] w).alloc _))).mono ?_
        rintro e w1 ⟨rfl, hkp⟩
        have p0 : w1.cell? ⟨w.heap.size, 0, none⟩ = some (.bool false) := hkp.cell (by simp) (by simp)
        have p1 : w1.cell? ⟨w.heap.size, 1, none⟩ = some (.string ⟨#[]⟩) := hkp.cell (by simp) (by simp)
        have p2 : w1.frozen? ⟨w.heap.size, 0, none⟩ = false := by rw [hkp.frozen (by simp) (by simp)]; simp
        have p3 : w1.frozen? ⟨w.heap.size, 1, none⟩ = false := by rw [hkp.frozen (by simp) (by simp)]; simp
        have hkp1 := ((Kp.refl [] w).alloc (.cells #[.bool false, .string ⟨#[]⟩] 31)).trans0 hkp
        have hd1 := (unhide HD).kp0 hkp1
        have r0 := hd1.ncell0 hj
        have r1 := hd1.frozen (2 + j * 4)
        have hlt1 := hd1.lt
        have hsz := hkp1.size
        have hRs : w.heap.size < w1.heap.size := by have := hkp.size; simp at this; omega
        have hne : db ≠ w.heap.size := by omega
        have hne2 : db ≠ w1.heap.size := by omega
        have hne3 : w.heap.size ≠ w1.heap.size := by omega
        have HD1 := hide hd1
        have HK1 := hide hkp1
        clear hkp hkp1 hd1 q0 q1 qy
        have HN := hide h0
        rw [e1, e2]
        generalize hvv : (tr f n j y).a = c at *
        have HVV := hide hvv
        clear hvv
        go_wp2
        refine bodyPost_ret (v := .tuple #[.agg #[.bool false, .string ByteArray.empty], .int .i64 c]) (by simp [results, Try.results101, go_sem, p0, p1, hRs]; rfl) rfl ⟨by rw [unhide HVV], ?_⟩
        have hA := ((((unhide HK1).setCell (p := ⟨w.heap.size, 0, none⟩) (.inr (Nat.le_refl _)) (.bool false)).setCell (p := ⟨w.heap.size, 1, none⟩) (.inr (Nat.le_refl _)) (.string ⟨#[]⟩)).alloc (.cells #[.bool false, .string ByteArray.empty] 31))
        exact ⟨(unhide HD).kp0 hA, hA.mono (by simp)⟩
  · have hk2 : keyB k = false := by simpa using hk
    rw [dg_out hk2, dr_out hk2]
    clear hk
    go_enter Try.func101, Try.ntmps101
    go_wp2_with fail
    refine (key11 _ _).mono ?_
    rintro e w' ⟨rfl, rfl⟩
    rw [hk2]
    clear hk2
    go_wp2
    refine bodyPost_ret (v := .tuple #[.agg #[.bool false, .string ByteArray.empty], .int .i64 1]) (by simp [results, Try.results101, go_sem]; rfl) rfl ⟨rfl, ?_⟩
    have hkp := ((Kp.refl [] w).alloc (.cells #[.bool false, .string ⟨#[]⟩] 31))
    first
    | exact ⟨(unhide HD).kp0 hkp, hkp.mono (by simp)⟩
    | (have hkp := ((((Kp.refl [] w).alloc (.cells #[.bool false, .string ⟨#[]⟩] 31)).setCell (p := ⟨w.heap.size, 0, none⟩) (.inr (Nat.le_refl _)) (.bool false)).setCell (p := ⟨w.heap.size, 1, none⟩) (.inr (Nat.le_refl _)) (.string ⟨#[]⟩))
       exact ⟨(unhide HD).kp0 hkp, hkp.mono (by simp)⟩)
end Go.Proofs.Ytapmlleemopcnac

/- Put, Reads and Writes of a deed, by their contracts. -/
namespace Go.Proofs.Ytapmlleemopcnac
open Go.RowKit
set_option maxRecDepth 20000
attribute [local go_sem ↓] Go.wp_at_zero Go.wp_at_succ

theorem Ded.range {w : World} {db : Nat} {md y : Int} {rs : List Int} {ws : List Ver} (h : Ded w db md y rs ws) : w.rangeAt db 2 (nlist (ncell rs ws)) := fun j v hv => cell_of_block h (by rw [dcells_note]; exact hv)
theorem Try.size124 : (Try.prog.info? 124).map (·.size) = some 32 := by kernel_rfl
theorem Try.info123 : (Try.prog.info? 123).map (fun i => (i.zero, i.size, i.bytes)) = some (some (.agg #[.bool false, .bool false, .bool false, .string ByteArray.empty]), 4, 32) := by kernel_rfl
theorem Try.info3 : (Try.prog.info? 3).map (fun i => (i.zero, i.size, i.bytes)) = some (some (.int .i64 0), 1, 8) := by kernel_rfl

theorem run_index_note (w : World) (c : Nat → Nat → Value) {k : Nat} (hk : k < 8) :
    (Instr.index 124 (.agg (nlist c).toArray) (.int .i64 (k : Int))).run Try.prog w = .ok (.agg #[c k 0, c k 1, c k 2, c k 3]) w := by
  have hn : (k : Int) < 8 := by omega
  obtain ⟨i0, hi0, hz0, hz1, hz2⟩ := info_parts Try.info123
  have h1 : (isAgg 123).run Try.prog w = .ok true w := by
    unfold isAgg
    rw [Sem.run_bind, run_underlying Try.underlying123 w]
    rfl
  have hp : (part 123 (nlist c).toArray (k * 4)).run Try.prog w = .ok (.agg #[c k 0, c k 1, c k 2, c k 3]) w := by
    unfold part
    have hp := nlist_take c hk
    simp [Sem.run_bind, h1, sizeOf, typeInfo, hi0, hz1, hp]
  simp [Instr.index, run_underlying Try.underlying124, asIntOf, hk, sizeOf, typeInfo, hi0, hz1, hp]

/-- The notes as a value: what is found at a key. -/
theorem notes_ex (rs : List Int) (ws : List Ver) : ∃ A : Array Value, (nlist (ncell rs ws)).toArray = A ∧ ∀ k : Nat, k < 8 → ∀ w, (Instr.index 124 (.agg A) (.int .i64 (k : Int))).run Try.prog w =
    .ok (.agg #[.bool (decide ((k : Int) ∈ rs)), .bool (lwr ws k).isSome, .bool ((lwr ws k).getD dv).t, .string ((lwr ws k).getD dv).s]) w :=
  ⟨_, rfl, fun _ hk w => run_index_note w (ncell rs ws) hk⟩

def icells (l : List Int) : List Value := l.map (.int .i64)
theorem icells_length (l : List Int) : (icells l).length = l.length := by simp [icells]
theorem icells_append (l m : List Int) : icells (l ++ m) = icells l ++ icells m := by simp [icells]

/-- A list of numbers that a call made: it lies in memory of its own. -/
def IntsEnd (L : List Int) (w : World) (e : Ending) (w' : World) : Prop :=
  ∃ a cap, e = .returned (.slice a L.length cap) ∧ w'.ownsRow w.heap.size 3 1 (.slice a L.length cap) L.length (icells L) ∧ Kp [] w w'
def PrsEnd (L : List Ver) (w : World) (e : Ending) (w' : World) : Prop :=
  ∃ a cap, e = .returned (.slice a L.length cap) ∧ w'.ownsRow w.heap.size 79 3 (.slice a L.length cap) L.length (vcells L) ∧ Kp [] w w'

/-- What stands at the head of a round that gathers. -/
structure RdI (w : World) (L : List Int) (a : Option Addr) (cap : Nat) (wr : World) : Prop where
  own : wr.ownsRow w.heap.size 3 1 (.slice a L.length cap) L.length (icells L)
  kp : Kp [] w wr
structure WrtI (w : World) (L : List Ver) (a : Option Addr) (cap : Nat) (wr : World) : Prop where
  own : wr.ownsRow w.heap.size 79 3 (.slice a L.length cap) L.length (vcells L)
  kp : Kp [] w wr
theorem RdI.skip {w wr w1 : World} {L : List Int} {a : Option Addr} {cap : Nat} (h : RdI w L a cap wr) (hk : Kp [] wr w1) : RdI w L a cap w1 := ⟨own_kp0 h.own hk, h.kp.trans0 hk⟩
theorem WrtI.skip {w wr w1 : World} {L : List Ver} {a : Option Addr} {cap : Nat} (h : WrtI w L a cap wr) (hk : Kp [] wr w1) : WrtI w L a cap w1 := ⟨own_kp0 h.own hk, h.kp.trans0 hk⟩
theorem RdI.more {w wr W w2 : World} {L : List Int} {a : Option Addr} {cap g2 cap2 : Nat} {k : Int} (h : RdI w L a cap wr) (hw : Kp [] wr W) (hown : w2.ownsRow w.heap.size 3 1 (.slice (some ⟨g2, 0, none⟩) (L.length + 1) cap2) (L.length + 1) (icells L ++ [.int .i64 k]))
    (hgrow : W.grownBy w2 (Value.slice a L.length cap).ownBlock) : RdI w (L ++ [k]) (some ⟨g2, 0, none⟩) cap2 w2 := by
  refine ⟨?_, (h.kp.trans0 hw).grown hgrow (fun g hg => .inr (own_ge h.own hg))⟩
  have hv : icells L ++ [.int .i64 k] = icells (L ++ [k]) := by rw [icells_append]; rfl
  rw [hv] at hown
  simpa using hown
theorem WrtI.more {w wr W w2 : World} {L : List Ver} {a : Option Addr} {cap g2 cap2 : Nat} {k : Int} {t : Bool} {s : ByteArray} (h : WrtI w L a cap wr) (hw : Kp [] wr W) (hown : w2.ownsRow w.heap.size 79 3 (.slice (some ⟨g2, 0, none⟩) (L.length + 1) cap2) (L.length + 1) (vcells L ++ [.int .i64 k, .bool t, .string s]))
    (hgrow : W.grownBy w2 (Value.slice a L.length cap).ownBlock) : WrtI w (L ++ [⟨k, t, s⟩]) (some ⟨g2, 0, none⟩) cap2 w2 := by
  refine ⟨?_, (h.kp.trans0 hw).grown hgrow (fun g hg => .inr (own_ge h.own hg))⟩
  have hv : vcells L ++ [.int .i64 k, .bool t, .string s] = vcells (L ++ [⟨k, t, s⟩]) := by rw [vcells_append]; rfl
  rw [hv] at hown
  simpa using hown

theorem rk_yes {rs : List Int} {k : Nat} (h : (k : Int) ∈ rs) : rk rs (k + 1) = rk rs k ++ [(k : Int)] := by simp only [rk]; rw [if_pos h]
theorem rk_no {rs : List Int} {k : Nat} (h : ¬ (k : Int) ∈ rs) : rk rs (k + 1) = rk rs k := by simp only [rk]; rw [if_neg h]
theorem wk_yes {ws : List Ver} {k : Nat} {v : Ver} (h : lwr ws k = some v) : wk ws (k + 1) = wk ws k ++ [⟨(k : Int), v.t, v.s⟩] := by simp only [wk, h]
theorem wk_no {ws : List Ver} {k : Nat} (h : lwr ws k = none) : wk ws (k + 1) = wk ws k := by simp only [wk, h]

set_option maxHeartbeats 1000000 in
theorem dwrites66 {db : Nat} {md y : Int} {rs : List Int} {ws : List Ver} (w : World) (h : Ded w db md y rs ws) : Calls Try.prog 41 #[.pointer (some ⟨db, 0, none⟩)] w fun e w' => PrsEnd (wk ws 8) w e w' := by
  obtain ⟨in0, hi0, hz0, hz1, hz2⟩ := info_parts Try.info79
  have HR := hide h.range
  have H0 : Hid (WrtI w (wk ws 0) none 0 w) := ⟨World.ownsRow_nil _ _ _ _, Kp.refl _ _⟩
  have hlt := h.lt
  clear h
  go_enter Try.func41, Try.ntmps41
  go_wp2_with (refine wpList_load_mid rfl 124 _ rfl db 2 rfl _ _ (unhide HR) Try.underlying124 rfl Try.size124 ?_)
  obtain ⟨A, hA, hAk⟩ := notes_ex rs ws
  rw [hA]
  have HA := hide hAk
  clear hA hAk HR
  go_loopw [3, 10] (fun s i wr => ∃ (k : Nat) (a : Option Addr) (cap : Nat), k ≤ 8 ∧ s = .slice a (wk ws k).length cap ∧ i = .int .i64 k ∧ Hid (WrtI w (wk ws k) a cap wr)) (fun _ i _ => 8 - (intOf i).toNat)
  case atStart => exact ⟨0, none, 0, by omega, rfl, rfl, H0⟩
  case round =>
    obtain ⟨k, a, cap, hk, rfl, rfl, HL⟩ := hrel
    by_cases hlt8 : k < 8
    · have i0 : (0 : Int) ≤ (k : Int) := by omega
      have i1 : (k : Int) < 8 := by omega
      have hx := (unhide HA) k hlt8
      generalize decide ((k : Int) ∈ rs) = b0 at *
      have hal := wk_len ws k
      cases hv : lwr ws k with
      | some v =>
        have HN := hide (wk_yes hv)
        rw [hv] at hx
        simp only [Option.isSome_some, Option.getD_some] at hx
        clear hv
        generalize wk ws k = L at *
        have hOW := hide (own_kp0 (unhide HL).own (((Kp.refl [] wr).alloc (.cells #[.bool b0, .bool true, .bool v.t, .string v.s] 123)).alloc (.cells #[.int .i64 k, .bool v.t, .string v.s] 79)))
        have hwl := (unhide HL).kp.size
        go_wp2_with (at_builtin; refine wpList_append_lies _ rfl _ _ 32 rfl w.heap.size 79 in0 _ 3 32 Try.underlying32 hi0 hz0 hz1 hz2 rfl (by omega) (.slice a L.length cap) L.length (vcells L) rfl (unhide hOW) ⟨wr.heap.size + 1, 0, none⟩ 1 1 [.int .i64 k, .bool v.t, .string v.s] (by rfl) (by rfl) (World.news_of_block (cs := #[.int .i64 k, .bool v.t, .string v.s]) (t := 79) (fr := (0, 0)) (by have := heap_alloc_new (wr.alloc (.cells #[.bool b0, .bool true, .bool v.t, .string v.s] 123)) (.cells #[.int .i64 k, .bool v.t, .string v.s] 79); simpa using this)) (by simp [Value.oneCell']) (by omega) (by unfold maxLen; omega) (by omega) (by simp; omega) _ rfl ?_; intro g2 cap2 w2 hown hgrow hat hlt2)
        have HL2 := hide ((unhide HL).more (((Kp.refl [] wr).alloc _).alloc _) hown hgrow)
        clear hown hgrow hat
        go_wp2_with fail
        exact ⟨⟨k + 1, some ⟨g2, 0, none⟩, cap2, by omega, by rw [unhide HN]; simp, by go_num, by rw [unhide HN]; exact HL2⟩, by simp [intOf]; omega⟩
      | none =>
        have HN := hide (wk_no hv)
        rw [hv] at hx
        simp only [Option.isSome_none, Option.getD_none] at hx
        clear hv
        have HL2 := hide ((unhide HL).skip ((Kp.refl [] wr).alloc (.cells #[.bool b0, .bool false, .bool dv.t, .string dv.s] 123)))
        go_wp2_with fail
        exact ⟨⟨k + 1, a, cap, by omega, by rw [unhide HN], by go_num, by rw [unhide HN]; exact HL2⟩, by simp [intOf]; omega⟩
    · have e : k = 8 := by omega
      subst e
      go_wp2_with fail
      go_ret
      exact ⟨a, cap, rfl, (unhide HL).own, (unhide HL).kp⟩
end Go.Proofs.Ytapmlleemopcnac
