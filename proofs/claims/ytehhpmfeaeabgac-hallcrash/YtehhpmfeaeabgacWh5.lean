/- HallCrash, walked. -/
import Derived.Test.YtehhpmfeaeabgacM7
namespace Go.Proofs.Ytehhpmfeaeabgac
open Go.RowKit
set_option maxRecDepth 20000
attribute [local go_sem ↓] Go.wp_at_zero Go.wp_at_succ

set_option maxHeartbeats 4000000 in
theorem hcrash7 (a : Option Addr) (n1 c : Nat) (st : Nat → HStep) (w : World) (h : HSts w a n1 st) :
    Calls Try.prog 7 #[.slice a n1 c] w fun e w' => e = .returned (.bool true) ∧ Below w.heap.size w w' := by
  have HS := hide h
  clear h
  go_enter Try.func7, Try.ntmps7
  go_wp2_with fail
  refine (hbegun w).mono ?_
  rintro e w1 ⟨rfl, hk1⟩
  have HK1 := hide hk1
  clear hk1
  go_wp2_with fail
  refine (gsteps a n1 c st w1 ((unhide HS).kp0 (unhide HK1))).mono ?_
  rintro e w' ⟨q, rfl, hq, hw'⟩
  subst w'
  cases q with
  | true =>
    clear hq
    go_wp2_with fail
    go_ret
    exact ⟨rfl, (unhide HK1).below (Nat.le_refl _) (by simp)⟩
  | false =>
  have h200 := hq rfl
  clear hq
  go_wp2_with fail
  refine (h_new w1).mono ?_
  rintro e w2 ⟨hb, rfl, F, hh, hk⟩
  have HZ0 : Hid (Zoo w1 w2 [HalT hb hs0]) := (zoo_nil (Kp.refl [] w1)).cons hh hk
  clear hh hk
  go_wp2_with fail
  go_loopw [4] (fun i wr => ∃ k : Nat, k ≤ n1 ∧ i = .int .i64 k ∧ ∃ h, Hid (Zoo w1 wr [HalT hb h])) (fun i _ => n1 - (intOf i).toNat)
  case atStart => exact ⟨0, by omega, rfl, _, HZ0⟩
  case round =>
    obtain ⟨k, hk, rfl, h, HI⟩ := hrel
    by_cases hlt : k < n1
    · obtain ⟨lb', lo, rfl, hst⟩ := (unhide HS).2 (by omega)
      obtain ⟨q0, q1, q2, q3, q4, q5, q6, q7, hsz⟩ := (hst k hlt).kp0 ((unhide HK1).trans0 (unhide HI).kp)
      have i0 : (0 : Int) ≤ (k : Int) := by omega
      have i1 : (k : Int) < (n1 : Int) := by omega
      clear hst
      generalize (st k) = x at *
      have HD := hide (hal_do x hsz (unhide HI))
      obtain ⟨xd, xs, xm, xa, xk, xt, xp, xb⟩ := x
      dsimp only at q0 q1 q2 q3 q4 q5 q6 q7
      go_wp2_with fail
      refine (unhide HD).mono ?_
      rintro e w4 ⟨a4, cap4, rfl, HY⟩
      clear q0 q1 q2 q3 q4 q5 q6 q7 HD
      go_wp2_with fail
      exact ⟨⟨k + 1, by omega, by go_num, _, hal_drop (unhide HY)⟩, by simp [intOf]; omega⟩
    · have i1 : ¬ (k : Int) < (n1 : Int) := by omega
      obtain ⟨vb, tb, gb, sd, hsd, hi, hl⟩ := hal_open (unhide HI)
      have HL := hide hl
      have HSD := hide hsd
      have HI2 := hide hi
      clear hl hsd hi HI
      obtain ⟨v, hv⟩ : ∃ v, shw h.f h.n h.n 8 = v := ⟨_, rfl⟩
      have HV := hide hv
      clear hv
      have c0 := (unhide HL).c0
      have v0 := (unhide HL).v0
      have hl := (unhide HL).lt
      have vl := (unhide HL).vlt_
      go_wp2_with fail
      refine (h_last (unhide HL)).mono ?_
      rintro e w5 ⟨rfl, hw5⟩
      subst w5
      go_wp2_with fail
      refine (h_sheet (shk_last' (unhide HI2)) v (by rw [unhide HV]) (unhide HL)).mono ?_
      rintro e w5 ⟨rfl, HL5⟩
      clear c0 v0 hl vl HL
      have HZ6 := hide (hal_close (unhide HSD) (unhide HI2) ((unhide HL5).new (wagg v) 72))
      have HW5 := hide ((unhide HL5).new (wagg v) 72)
      go_wp2_with (refine wpList_store_row rfl 72 _ _ rfl w5.heap.size (wagg v) rfl rfl 72 _ (heap_alloc_new w5 _) Try.size72 rfl (wagg_one _) ?_; rw [World.setRow_alloc_new])
      clear HL5 HW5
      generalize w5.alloc (.cells (wagg v) 72) = W6 at HZ6 ⊢
      generalize w5.heap.size = p1 at HZ6 ⊢
      have hx9 := (HKind.crash (h := h) (x := ⟨9, 0, 0, 0, 0, 0, 0, ⟨#[]⟩⟩) rfl).eq
      refine (hal_do ⟨9, 0, 0, 0, 0, 0, 0, ⟨#[]⟩⟩ (by unfold maxLen; decide) (unhide HZ6)).mono ?_
      rintro e w7 ⟨a7, cap7, rfl, HY7⟩
      rw [hx9.2]
      rw [hx9.1, hx9.2] at HY7
      clear hx9 HZ6
      dsimp only [ev0, List.length_nil]
      have hlen := (unhide HI2).vi.len
      rw [← hlen] at HY7
      clear hlen
      obtain ⟨vb2, tb2, gb2, sd2, hsd2, hi2, hl2⟩ := hal_open (hal_drop (unhide HY7))
      have HL := hide hl2
      have HSD2 := hide hsd2
      have HI3 := hide hi2
      have hno : ∀ s : Int, dat sd2 s = none := fun s => by
        unfold dat
        split
        · have q := hsd2 s.toNat
          cases hq : sd2 s.toNat with
          | none => rfl
          | some y => rw [hq] at q; cases q
        · rfl
      clear hl2 hsd2 hi2 HY7
      have hfd := ev_code
      have HV2 := hide ((crash_shw (unhide HI2).vi (unhide HI2).li (y := h.n) (fmx_le (unhide HI2).inv 8 (Nat.le_refl _)).2).trans (unhide HV))
      have c0 := (unhide HL).c0
      have v0 := (unhide HL).v0
      have hl := (unhide HL).lt
      have vl := (unhide HL).vlt_
      go_wp2_with fail
      refine (h_sheet (shk_last' (unhide HI3)) v (by rw [unhide HV2]) (unhide HL)).mono ?_
      rintro e w8 ⟨rfl, HL8⟩
      clear c0 v0 hl vl HL
      have HL9 := hide ((unhide HL8).new (wagg v) 72)
      go_wp2_with (refine wpList_store_row rfl 72 _ _ rfl w8.heap.size (wagg v) rfl rfl 72 _ (heap_alloc_new w8 _) Try.size72 rfl (wagg_one _) ?_; rw [World.setRow_alloc_new])
      clear HL8
      generalize w8.alloc (.cells (wagg v) 72) = W9 at HL9 ⊢
      generalize w8.heap.size = p2 at HL9 ⊢
      go_loop [10] (fun i => ∃ s : Nat, s ≤ 5 ∧ i = .int .i64 s) (fun i => 5 - (intOf i).toNat)
      case atStart => exact ⟨0, by omega, rfl⟩
      case round =>
        obtain ⟨s, hs5, rfl⟩ := hrel
        by_cases hlt5 : s < 5
        · have j1 : (s : Int) < 5 := by omega
          go_wp2_with fail
          refine (h_busy (s : Int) (unhide HL9)).mono ?_
          rintro e w' ⟨rfl, hw'⟩
          subst w'
          rw [hno, show Option.isSome (none : Sd) = false from rfl]
          go_wp2_with fail
          exact ⟨⟨s + 1, by omega, by go_num⟩, by simp [intOf]; omega⟩
        · have j1 : ¬ (s : Int) < 5 := by omega
          have c0 := (unhide HL9).c0
          have v0 := (unhide HL9).v0
          have A1 := hide ((unhide HL9).var (List.Mem.tail _ (List.Mem.head _)))
          have A2 := hide ((unhide HL9).var (List.Mem.head _))
          have heq := eq66 v
          go_wp2_with (first | (refine wpList_load66 (by rfl) _ rfl p1 rfl v (unhide A1) ?_) | (refine wpList_load66 (by rfl) _ rfl p2 rfl v (unhide A2) ?_))
          refine (h_last (unhide HL9)).mono ?_
          rintro e w' ⟨rfl, hw'⟩
          subst w'
          go_wp2_with fail
          refine (h_least (unhide HSD2) (unhide HL9)).mono ?_
          rintro e w' ⟨rfl, hw'⟩
          subst w'
          rw [show least h.n (fun _ => none) 5 = (h.n : Int) from rfl]
          go_wp2_with fail
          refine (h_first (unhide HL9)).mono ?_
          rintro e w' ⟨rfl, hw'⟩
          subst w'
          rw [show fmx (wal0 h.cs) 8 = 0 from fmx_wal0 h.cs]
          go_wp2_with fail
          go_ret
          exact ⟨by trivial, ((unhide HK1).trans0 (Zoo.kp (unhide HL9))).below (Nat.le_refl _) (by simp)⟩
end Go.Proofs.Ytehhpmfeaeabgac
