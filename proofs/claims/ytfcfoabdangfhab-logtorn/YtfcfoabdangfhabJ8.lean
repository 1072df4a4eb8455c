/- Tear of the document's roll, by its contract. -/
import Derived.Test.YtfcfoabdangfhabJ5
import Derived.Test.YtfcfoabdangfhabJ3
namespace Go.Proofs.Ytfcfoabdangfhab
open Go.RowKit
set_option maxRecDepth 20000
attribute [local go_sem ↓] Go.wp_at_zero Go.wp_at_succ

theorem LInv.take {cs : List (List Ver)} (h : LInv cs) (k : Nat) : LInv (cs.take k) :=
  ⟨fun c hc => h.pf c (List.mem_of_mem_take hc), by have := h.n40; simp; omega, by have := h.b3000; have := lb_take_le cs k; omega⟩
theorem cps_take (xs : List El) (k : Nat) : cps (xs.take k) = (cps xs).take k := by simp [cps, List.map_take]

theorem elem_sl : Try.prog.elem 48 = 22 := by simp [Program.elem, Try.underlying48]
theorem size_sl (W : World) : (sizeOf 22).run Try.prog W = .ok 1 W := by
  obtain ⟨i0, hi0, hz0, hz1, hz2⟩ := info_parts Try.info22
  simp [sizeOf, typeInfo, hi0, hz1]
theorem under_sl : Try.prog.underlying 48 = some (.slice (Try.prog.elem 48)) := by rw [elem_sl]; exact Try.underlying48
theorem own_partE {B : Nat} {w : World} {a : Option Addr} {cap : Nat} {xs : List El} (h : OwnE B w a cap xs) (k n : Nat) (hk : k ≤ xs.length) (x : Int) (hx : x = k) (W : World) :
    (Instr.slice 48 (.slice a n cap) none (some (.int .i64 x)) none).run Try.prog W = .ok (.slice a k cap) W := by
  subst hx
  have hc := h.le
  rw [run_slice_h W 48 a n cap under_sl .i64 _ (by omega) (by omega), elem_sl, size_sl]
  rcases h.cases with ⟨rfl, rfl, rfl⟩ | ⟨g, rfl, _⟩
  · simp [Result.andThen, sliced]
  · simp [Result.andThen, sliced, addr_add]

theorem Prs.kpG {S : List Nat} {w w' : World} {a : Option Addr} {ps : List Ver} (h : Prs w a ps) (hk : Kp S w w') (hS : 0 < ps.length → ∀ g o, a = some ⟨g, o, none⟩ → g ∉ S) : Prs w' a ps :=
  ⟨h.len, h.str, fun hp => by
    obtain ⟨g, o, e, hs⟩ := h.mem hp
    exact ⟨g, o, e, hs.kp hk (hS hp g o e)⟩⟩

theorem RlTo.trans_at {B : Nat} {w w1 w2 : World} {rb : Nat} {G G1 : List Nat} {cs' : List (List Ver)} {torn' : List UInt8} (h2 : Kp G w w1) (h3 : ∀ x, x ∈ G1 → x ∈ G ∨ w.heap.size ≤ x) (k : RlTo B w1 rb G1 cs' torn' w2) : RlTo B w rb G cs' torn' w2 := by
  obtain ⟨G2, k1, k2, k3⟩ := k
  refine ⟨G2, k1, h2.trans k2 h3, fun x hx => ?_⟩
  rcases k3 x hx with e | e
  · exact h3 x e
  · exact .inr (Nat.le_trans h2.size e)

section
variable {B : Nat} {w W w4 : World} {rb : Nat} {G : List Nat} {aL a' : Option Addr} {capL cap' : Nat} {xs : List El} {aT : Option Addr} {cT : Nat}
theorem RlL.pop (h : RlL B w rb G aL capL xs aT cT []) (hW : Kp [] w W) (k : Nat) (hk : k ≤ xs.length) : RlTo B w rb G (cps (xs.take k)) [] (W.setCell ⟨rb, 0, none⟩ (.slice aL k capL)) := by
  obtain ⟨rfl, rfl⟩ := h.tn rfl
  have hW1 := h.kp hW (fun _ _ => by simp)
  have hk3 : Kp [rb] W (W.setCell ⟨rb, 0, none⟩ (.slice aL k capL)) := (Kp.refl [rb] W).setCell (.inl (by simp)) _
  have hKG : Kp G w (W.setCell ⟨rb, 0, none⟩ (.slice aL k capL)) := (hW.mono (fun x hx => by simp at hx)).trans hk3 (fun x hx => .inl (by rw [List.mem_singleton.1 hx]; exact h.rG))
  have hl : (xs.take k).length = k := by simp; omega
  refine ⟨G, ⟨aL, capL, xs.take k, none, 0, ⟨?_, ?_, fun e he => ?_, byt_nil _ _, fun _ => ⟨rfl, rfl⟩, by simp [ob], h.ne, h.rG, h.aG, fun x hx => ⟨(h.lo x hx).1, Nat.lt_of_lt_of_le (h.lo x hx).2 hKG.size⟩, ?_, by simp, Nat.le_trans h.hB hKG.size⟩, rfl⟩, hKG, fun x hx => .inl hx⟩
  · rw [heap_setCell_at 0 _ hW1.box, hl]; rfl
  · exact (hW1.own.take k hk).kp hk3 (fun x hx q => h.ne (by rw [← List.mem_singleton.1 q]; exact hx))
  · have he2 := List.mem_of_mem_take he
    exact ⟨(hW1.els e he2).1.kp hk3 (fun x hx q => ((h.els e he2).2 x hx).2.1 (List.mem_singleton.1 q)), (h.els e he2).2⟩
  · rw [cps_take]; exact h.inv.take k

theorem RlL.torn (h : RlL B w rb G aL capL xs aT cT []) (hW : Kp [] w W) (hk : Kp [] W w4) {a3 : Option Addr} {c3 N : Nat} {t : List UInt8} (ho : OwnU B w4 a3 c3 t) (hn : ∀ x ∈ ob a3, W.heap.size ≤ x) (hN : N = t.length) (ht : t ≠ []) (htl : t.length ≤ 114) :
    RlTo B w rb G (cps xs) t (w4.setCell ⟨rb, 1, none⟩ (.slice a3 N c3)) := by
  subst hN
  have hWs := hW.size
  have hW1 := (h.kp hW (fun _ _ => by simp)).kp hk (fun _ _ => by simp)
  have hk3 : Kp [rb] w4 (w4.setCell ⟨rb, 1, none⟩ (.slice a3 t.length c3)) := (Kp.refl [rb] w4).setCell (.inl (by simp)) _
  have hKG : Kp G w (w4.setCell ⟨rb, 1, none⟩ (.slice a3 t.length c3)) := ((hW.trans0 hk).mono (fun x hx => by simp at hx)).trans hk3 (fun x hx => .inl (by rw [List.mem_singleton.1 hx]; exact h.rG))
  have hrb : ∀ x ∈ ob a3, x ≠ rb := fun x hx q => by
    have h1 := hn x hx
    have h2 := (h.lo rb h.rG).2
    omega
  refine ⟨G ++ ob a3, ⟨aL, capL, xs, a3, c3, ⟨?_, ?_, fun e he => ?_, ?_, fun q => absurd q ht, fun x hx => ⟨by simp [hx], hrb x hx⟩, h.ne, by simp [h.rG], fun x hx => by simp [h.aG x hx], fun x hx => ?_, h.inv, htl, Nat.le_trans h.hB hKG.size⟩, rfl⟩, hKG, fun x hx => ?_⟩
  · rw [heap_setCell_at 1 _ hW1.box]; rfl
  · exact hW1.own.kp hk3 (fun x hx q => h.ne (by rw [← List.mem_singleton.1 q]; exact hx))
  · exact ⟨(hW1.els e he).1.kp hk3 (fun x hx q => ((h.els e he).2 x hx).2.1 (List.mem_singleton.1 q)), fun x hx => ⟨by simp [((h.els e he).2 x hx).1], ((h.els e he).2 x hx).2⟩⟩
  · exact ho.byt.kpo hk3 (fun x hx q => hrb x hx (List.mem_singleton.1 q))
  · rcases List.mem_append.1 hx with q | q
    · exact ⟨(h.lo x q).1, Nat.lt_of_lt_of_le (h.lo x q).2 hKG.size⟩
    · exact ⟨(ho.lo x q).1, Nat.lt_of_lt_of_le (ho.lo x q).2 hk3.size⟩
  · rcases List.mem_append.1 hx with q | q
    · exact .inl q
    · exact .inr (Nat.le_trans hWs (hn x q))
end

set_option maxHeartbeats 2000000 in
theorem rtear43 {B rb : Nat} {G : List Nat} {cs : List (List Ver)} (a2 : Option Addr) (c : Nat) (ps : List Ver) (keep : Int) (w : World) (h : Rl B w rb G cs []) (hp : Prs w a2 ps) (hpG : 0 < ps.length → ∀ g o, a2 = some ⟨g, o, none⟩ → g ∉ G) (hm : ps.length ≤ 1000) :
    Calls Try.prog 43 #[.pointer (some ⟨rb, 0, none⟩), .slice a2 ps.length c, .int .i64 keep] w fun e w' => e = .returned (.int .i64 (lcode cs ps)) ∧ RlTo B w rb G (ltear cs ps keep) (ltorn cs ps keep) w' := by
  have HU := hide (rput42 a2 c ps w h hp hm)
  have hn40 := h.inv.n40
  have HG := hide (fun w' (hk : Kp G w w') => hp.kpG hk hpG)
  clear h hp hpG
  by_cases hc : lcode cs ps = 0
  · obtain ⟨hpf, hc40, hroom⟩ := lcode_zero hc
    have hel := enc_le hpf
    have HC := hide hc
    have HPF := hide hpf
    rw [show lput cs ps = cs ++ [ps] by unfold lput; rw [hc]; simp] at HU
    by_cases hk : ((enc ps).length : Int) ≤ keep
    · obtain ⟨e1, e2⟩ := ltear_all hc hk
      rw [e1, e2]
      rw [hc] at HU ⊢
      clear e1 e2 hpf
      go_enter Try.func43, Try.ntmps43
      go_wp2_with fail
      refine (unhide HU).mono ?_
      rintro e w1 ⟨rfl, h1⟩
      have H1 := hide h1
      obtain ⟨G1, _, hkG, _⟩ := h1
      have HPR := hide (unhide HG _ hkG)
      clear hkG
      go_wp2_with fail
      refine (bytesOf11 a2 c ps w1 (unhide HPR) (unhide HPF)).mono ?_
      rintro e w2 ⟨gx, cx, nx, rfl, hn, hr⟩
      rw [← hn] at hk hel
      have HK := hide hr.kp
      clear hn hr
      go_wp2_with fail
      go_ret
      exact ⟨rfl, (unhide H1).trans (fun G' h' => rlTo_same h' (unhide HK))⟩
    · obtain ⟨e1, e2⟩ := ltear_cut hc hk
      rw [e1, e2]
      rw [hc] at HU ⊢
      clear e1 e2 hpf
      by_cases hk0 : keep ≤ 0
      · rw [show keep.toNat = 0 by omega]
        go_enter Try.func43, Try.ntmps43
        go_wp2_with fail
        refine (unhide HU).mono ?_
        rintro e w1 ⟨rfl, h1⟩
        have H1 := hide h1
        obtain ⟨G1, hR1, hkG, hG1⟩ := h1
        have HPR := hide (unhide HG _ hkG)
        have HKG := hide hkG
        have HG1 := hide hG1
        obtain ⟨aL, capL, xs, aT, cT, hL, he⟩ := hR1
        have HE := hide he
        have HL := hide hL
        obtain ⟨C, hC⟩ : ∃ C, xs.length = C + 1 := ⟨cs.length, by have := congrArg List.length he; rw [cps_length] at this; simp at this; omega⟩
        have hC2 : C = cs.length := by have := congrArg List.length he; rw [cps_length] at this; simp at this; omega
        have HC1 := hide hC
        have HC2 := hide hC2
        have hC40 : C ≤ 40 := by omega
        clear hkG hG1 he hL
        go_wp2_with fail
        refine (bytesOf11 a2 c ps w1 (unhide HPR) (unhide HPF)).mono ?_
        rintro e w2 ⟨gx, cx, nx, rfl, hn, hr⟩
        rw [← hn] at hk hel
        have HK := hide hr.kp
        have r0 : w2.cell? ⟨rb, 0, none⟩ = some (.slice aL (C + 1) capL) := by rw [← hC]; exact hr.kp.cell (by simp) (unhide HL).c0
        have r1 : w2.frozen? ⟨rb, 0, none⟩ = false := by rw [hr.kp.frozen ((unhide HL).lo rb (unhide HL).rG).2 (by simp)]; exact (unhide HL).fz 0
        have hsl := own_partE (unhide HL).own C (C + 1) (by omega) (C : Int) rfl
        have hk' : ¬ keep > 0 := by omega
        clear hn hr hC hC2
        go_wp2_with fail
        go_region
        all_goals
          go_wp2_with fail
          go_ret
          refine ⟨rfl, RlTo.trans_at (unhide HKG) (unhide HG1) ?_⟩
          have := (unhide HL).pop ((unhide HK).drew) C (by have := unhide HC1; omega)
          rw [cps_take, ← unhide HE, unhide HC2, List.take_left] at this
          rw [List.take_zero, unhide HC2]
          exact this
      · obtain ⟨k, rfl⟩ : ∃ k : Nat, keep = (k : Int) := ⟨keep.toNat, by omega⟩
        rw [Int.toNat_natCast]
        go_enter Try.func43, Try.ntmps43
        go_wp2_with fail
        refine (unhide HU).mono ?_
        rintro e w1 ⟨rfl, h1⟩
        have H1 := hide h1
        obtain ⟨G1, hR1, hkG, hG1⟩ := h1
        have HPR := hide (unhide HG _ hkG)
        have HKG := hide hkG
        have HG1 := hide hG1
        obtain ⟨aL, capL, xs, aT, cT, hL, he⟩ := hR1
        have HE := hide he
        have HT := hide (hL.tn rfl)
        have HL := hide hL
        obtain ⟨C, hC⟩ : ∃ C, xs.length = C + 1 := ⟨cs.length, by have := congrArg List.length he; rw [cps_length] at this; simp at this; omega⟩
        have hC2 : C = cs.length := by have := congrArg List.length he; rw [cps_length] at this; simp at this; omega
        have HC1 := hide hC
        have HC2 := hide hC2
        have hC40 : C ≤ 40 := by omega
        clear hkG hG1 he hL
        go_wp2_with fail
        refine (bytesOf11 a2 c ps w1 (unhide HPR) (unhide HPF)).mono ?_
        rintro e w2 ⟨gx, cx, nx, rfl, hn, hr⟩
        rw [← hn] at hk hel
        have HK := hide hr.kp
        have r0 : w2.cell? ⟨rb, 0, none⟩ = some (.slice aL (C + 1) capL) := by rw [← hC]; exact hr.kp.cell (by simp) (unhide HL).c0
        have r1 : w2.frozen? ⟨rb, 0, none⟩ = false := by rw [hr.kp.frozen ((unhide HL).lo rb (unhide HL).rG).2 (by simp)]; exact (unhide HL).fz 0
        have hsl := own_partE (unhide HL).own C (C + 1) (by omega) (C : Int) rfl
        have hkn : k < nx := by omega
        have hkp : 0 < k := by omega
        have s0 : w2.cell? ⟨rb, 1, none⟩ = some (.slice none 0 0) := by have h1 := (unhide HL).c1; rw [(unhide HT).1, (unhide HT).2] at h1; exact hr.kp.cell (by simp) h1
        have s1 : w2.frozen? ⟨rb, 1, none⟩ = false := by rw [hr.kp.frozen ((unhide HL).lo rb (unhide HL).rG).2 (by simp)]; exact (unhide HL).fz 1
        have hsx := own_part hr.ownU k nx (by omega) (k : Int) rfl
        have HX := hide ((hr.ownU.take k (by omega)).byt)
        have hlt : ((enc ps).take k).length = k := by simp; omega
        have HLT := hide hlt
        have hgx : rb ≠ gx := by have h1 := hr.lt; have h2 := ((unhide HL).lo rb (unhide HL).rG).2; omega
        clear hlt
        clear hn hr hC hC2
        go_wp2_with fail
        go_region
        all_goals
          go_wp2_with fail
          obtain ⟨W7, hW8⟩ : ∃ W7, (w2.setCell ⟨rb, 0, none⟩ (.slice aL C capL)).drew = W7 := ⟨_, rfl⟩
          have hW7 : w2.drew.setCell ⟨rb, 0, none⟩ (.slice aL C capL) = W7 := hW8
          have H7 := hide ((unhide HL).pop ((unhide HK).drew) C (by have := unhide HC1; omega))
          have HX7 : Hid (Byt W7 (some ⟨gx, 0, none⟩) ((enc ps).take k)) := by
            rw [← hW7]
            exact (unhide HX).kpo ((Kp.refl [rb] w2).drew.setCell (.inl (by simp)) _) (fun x hx q => hgx (by simp [ob] at hx q; omega))
          have hcs7 : cps (xs.take C) = cs := by rw [cps_take, ← unhide HE, unhide HC2, List.take_left]
          rw [hcs7, hW7] at H7
          rw [hW8]
          obtain ⟨G7, hR7, hkG7, hG7⟩ := unhide H7
          obtain ⟨aL7, capL7, xs7, aT7, cT7, hL7, he7⟩ := hR7
          obtain ⟨rfl, rfl⟩ := hL7.tn rfl
          have y0 : W7.cell? ⟨rb, 1, none⟩ = some (.slice none 0 0) := hL7.c1
          have y1 := hL7.fz 1
          have hB7 := hL7.hB
          have HKG7 := hide hkG7
          have HG7 := hide hG7
          have HL7 := hide hL7
          have HE7 := hide he7
          clear hcs7 hW7 hW8 hkG7 hG7 hL7 he7 H7 r0 r1 s0 s1 hsl
          go_region_law (refine step_appx (by rfl) (.tmp 41) (.tmp 44) 23 (by rfl) (ownU_nil B _) (by simpa using hB7) 0 rfl (.slice (some ⟨gx, 0, none⟩) k cx) ((enc ps).take k) (by rfl) (by rfl) (byt_srcn ((unhide HX7).kp0 (Kp.refl [] _).drew) (unhide HLT).symm) (by have := unhide HLT; simp only [List.length_nil]; omega) ?_; intro a3 c3 n3 w3 hn3 ho3 hk3 hx3; have z0 : w3.cell? ⟨rb, 1, none⟩ = some (.slice none 0 0) := (((Kp.refl [] W7).drew).trans0 (unhide hk3)).cell (by simp) y0; have z1 : w3.frozen? ⟨rb, 1, none⟩ = false := (by rw [(((Kp.refl [] W7).drew).trans0 (unhide hk3)).frozen ((unhide HL7).lo rb (unhide HL7).rG).2 (by simp)]; exact y1))
          all_goals
            go_wp2_with fail
            go_ret
            refine ⟨rfl, RlTo.trans_at (unhide HKG) (unhide HG1) (RlTo.trans_at (unhide HKG7) (unhide HG7) ?_)⟩
            rw [unhide HE7]
            exact (unhide HL7).torn (Kp.refl [] W7).drew (unhide hk3) (unhide ho3) (fun x hx => (unhide hx3 x hx).resolve_left (by simp [ob])) (unhide hn3) (fun q => by have h1 := unhide HLT; rw [q] at h1; simp at h1; omega) (by have := unhide HLT; omega)
  · obtain ⟨e1, e2⟩ := ltear_code keep hc
    rw [e1, e2]
    rw [show lput cs ps = cs by unfold lput; rw [if_neg hc]] at HU
    generalize lcode cs ps = z at *
    clear e1 e2
    go_enter Try.func43, Try.ntmps43
    go_wp2_with fail
    refine (unhide HU).mono ?_
    rintro e w1 ⟨rfl, h1⟩
    have H1 := hide h1
    clear h1 HU HG
    go_wp2_with fail
    go_ret
    exact ⟨rfl, unhide H1⟩
end Go.Proofs.Ytfcfoabdangfhab
