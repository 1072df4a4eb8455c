/- The law TableSince, walked: it answers true, and nothing that was there is changed. -/
import Derived.Test.YtainekjcdmabbaaX1
import Derived.Test.YtainekjcdmabbaaE7
namespace Go.Proofs.Ytainekjcdmabbaa
open Go.RowKit
set_option maxRecDepth 20000
attribute [local go_sem ↓] Go.wp_at_zero Go.wp_at_succ

theorem Prs.inside {w0 : World} {a : Option Addr} {ps : List Ver} (h : Prs w0 a ps) (X : List Nat) : 0 < ps.length → ∀ g o, a = some ⟨g, o, none⟩ → g < w0.heap.size ∨ g ∈ X := by
  intro hp g o e
  obtain ⟨g', o', e', hs⟩ := h.mem hp
  rw [e] at e'
  simp only [Option.some.injEq, Addr.mk.injEq, and_true] at e'
  have := hs.lt hp
  left; omega

theorem tbx_step {w0 wr : World} {tb : Nat} {f : Nat → List Ver} {n : Nat} {X : List Nat} {b o n1 k : Nat} {st : Nat → TStep} (h : Tbx w0 wr tb f n X) (hs : StT w0 b o n1 st) (hk : k < n1) :
    wr.cell? ⟨b, o + k * 3, none⟩ = some (.int .i64 (st k).d) ∧ wr.cell? ⟨b, o + k * 3 + 1, none⟩ = some (.int .i64 (st k).l) ∧ wr.cell? ⟨b, o + k * 3 + 1 + 1, none⟩ = some (.slice (st k).a (st k).ps.length (st k).c) ∧ Hid (Prs wr (st k).a (st k).ps) :=
  (hs.kp0 h.kp) k hk

theorem tbx_wstep {w0 wr : World} {tb : Nat} {f : Nat → List Ver} {n : Nat} {X : List Nat} {b o n1 k : Nat} {st : Nat → TStep} (h : Tbx w0 wr tb f n X) (hs : StT w0 b o n1 st) (hk : k < n1) (h50 : (st k).ps.length ≤ 50) :
    Calls Try.prog 49 #[.pointer (some ⟨tb, 0, none⟩), .slice (st k).a (st k).ps.length (st k).c] wr fun e w' => e = .returned (.tuple #[.int .i64 (wnum n (st k).ps), .int .i64 (wcode n (st k).ps)]) ∧ Hid (Tbx w0 w' tb (wst f n (st k).ps) (wn n (st k).ps) X) ∧ Hid (SameX X wr w') :=
  tbx_write (st k).a (st k).c (st k).ps h ((hs.kp0 h.kp) k hk).2.2.2 (by omega) ((hs k hk).2.2.2.inside X)

set_option maxHeartbeats 4000000 in
set_option maxRecDepth 100000 in
theorem since10 (a : Option Addr) (n1 c : Nat) (st : Nat → TStep) (k : Int) (w : World) (h : TSts w a n1 st) :
    Calls Try.prog 10 #[.slice a n1 c, .int .i64 k] w fun e w' => e = .returned (.bool true) ∧ Below w.heap.size w w' := by
  have HS := hide h
  clear h
  go_enter Try.func10, Try.ntmps10
  go_wp2_with fail
  refine (tbegun28 w).mono ?_
  rintro e w1 ⟨rfl, hk⟩
  have HK1 := hide hk
  clear hk
  go_wp2_with fail
  refine (gtable29 a n1 c st w1 ((unhide HS).kp0 (unhide HK1))).mono ?_
  rintro e w1' ⟨q, rfl, hq, hw'⟩
  subst w1'
  cases q with
  | true =>
    clear hq
    go_wp2_with fail
    go_ret
    exact ⟨rfl, (unhide HK1).below (Nat.le_refl _) (by simp)⟩
  | false =>
    obtain ⟨hn, hps⟩ := hq rfl
    have HPS := hide hps
    clear hq hps
    go_wp2_with fail
    refine (key12 k w1).mono ?_
    rintro e w1' ⟨rfl, hw'⟩
    subst w1'
    by_cases hK : keyB k = true
    · obtain ⟨kk, hk8, rfl⟩ := keyB_nat hK
      rw [hK]
      clear hK
      go_wp2_with fail
      refine (tbx_new w w1 (unhide HK1)).mono ?_
      rintro e w2 ⟨tb, rfl, HT⟩
      have hs0 : snc (fun _ => [dv]) kk = 0 := by unfold snc; rw [if_pos (by simp [keyB]; omega)]; rfl
      have HS0 := hide hs0
      clear hs0
      go_wp2_with fail
      go_loopw [6, 7, 8] (fun s m i wr => ∃ (j : Nat) (f : Nat → List Ver) (n : Nat), j ≤ n1 ∧ s = .int .i64 (snc f kk) ∧ m = .int .i64 n ∧ i = .int .i64 j ∧ Hid (Tbx w wr tb f n [])) (fun _ _ i _ => n1 - (intOf i).toNat)
      case atStart => exact ⟨0, _, _, Nat.zero_le _, by rw [unhide HS0], rfl, rfl, HT⟩
      case round =>
        obtain ⟨j, f, n, hj, rfl, rfl, rfl, HT⟩ := hrel
        by_cases hlt : j < n1
        · obtain ⟨lb, lo, rfl, hst⟩ := (unhide HS).2 (by omega)
          have hi0 : (0 : Int) ≤ (j : Int) := by omega
          have hi1 : (j : Int) < (n1 : Int) := by omega
          obtain ⟨q0, q1, q2, _⟩ := tbx_step (unhide HT) hst hlt
          have HST := hide hst
          have hp50 := (unhide HPS) j hlt
          have hn40 := (unhide HT).inv.n40
          clear hst
          by_cases hd : (st j).d = 0
          · rw [hd] at q0
            clear hd
            go_wp2_with fail
            refine (tbx_wstep (unhide HT) (unhide HST) hlt hp50).mono ?_
            rintro e w3 ⟨rfl, HT3, _⟩
            obtain ⟨_, _, r2, hpr⟩ := tbx_step (unhide HT3) (unhide HST) hlt
            clear q0 q1 q2
            by_cases hc : wcode n (st j).ps = 0
            · obtain ⟨e1, e2⟩ := wst_yes hc
              have hsn := snc_write (unhide HT).inv hc hk8
              rw [e1] at HT3
              rw [hc, e2]
              have HSN := hide hsn
              clear e1 e2 hc hsn
              go_wp2_with fail
              go_loop [6, 11] (fun s i => ∃ d : Nat, d ≤ (st j).ps.length ∧ s = .int .i64 (sj (st j).ps kk ((n : Int) + 1) (snc f kk) d) ∧ i = .int .i64 d) (fun _ i => (st j).ps.length - (intOf i).toNat)
              case atStart => exact ⟨0, Nat.zero_le _, rfl, rfl⟩
              case round =>
                obtain ⟨d, hd, rfl, rfl⟩ := hrel
                by_cases hdl : d < (st j).ps.length
                · obtain ⟨pg, po, ea, hsl⟩ := (unhide hpr).mem (by omega)
                  have p0 := hsl.at0 d hdl
                  have r3 := r2
                  rw [ea] at r3
                  have d0 : (0 : Int) ≤ (d : Int) := by omega
                  have d1 : (d : Int) < ((st j).ps.length : Int) := by omega
                  clear hsl ea
                  by_cases hv : va (st j).ps d = (kk : Int)
                  · have hse : sj (st j).ps kk ((n : Int) + 1) (snc f kk) (d + 1) = (n : Int) + 1 := by simp only [sj]; rw [if_pos hv]
                    have HSE := hide hse
                    rw [hv] at p0
                    clear hv hse r2
                    go_wp2_with fail
                    exact ⟨⟨d + 1, by omega, by rw [unhide HSE], by go_num⟩, by simp [intOf]; omega⟩
                  · have hse : sj (st j).ps kk ((n : Int) + 1) (snc f kk) (d + 1) = sj (st j).ps kk ((n : Int) + 1) (snc f kk) d := by simp only [sj]; rw [if_neg hv]
                    have HSE := hide hse
                    have hvb : (va (st j).ps d == (kk : Int)) = false := beq_eq_false_iff_ne.2 hv
                    clear hv hse r2
                    go_wp2_with fail
                    exact ⟨⟨d + 1, by omega, by rw [unhide HSE], by go_num⟩, by simp [intOf]; omega⟩
                · have e : d = (st j).ps.length := by omega
                  subst e
                  go_wp2_with fail
                  refine (tbx_since kk (unhide HT3) _ (unhide HSN)).mono ?_
                  rintro e w5 ⟨rfl, HT5, _⟩
                  go_wp2_with fail
                  refine (tbx_last (unhide HT5)).mono ?_
                  rintro e w6 ⟨rfl, hw6⟩
                  subst w6
                  go_wp2_with fail
                  exact ⟨⟨j + 1, _, _, by omega, by rw [unhide HSN], by simp, by go_num, HT5⟩, by simp [intOf]; omega⟩
            · obtain ⟨e1, e2, e3⟩ := wst_not (f := f) hc
              rw [e1, e2] at HT3
              generalize wcode n (st j).ps = cc at *
              clear e1 e2 e3
              go_wp2_with fail
              refine (tbx_since kk (unhide HT3) _ rfl).mono ?_
              rintro e w5 ⟨rfl, HT5, _⟩
              go_wp2_with fail
              refine (tbx_last (unhide HT5)).mono ?_
              rintro e w6 ⟨rfl, hw6⟩
              subst w6
              go_wp2_with fail
              exact ⟨⟨j + 1, f, n, by omega, rfl, rfl, by go_num, HT5⟩, by simp [intOf]; omega⟩
          · by_cases hd1 : (st j).d = 1
            · rw [hd1] at q0
              clear hd hd1
              go_wp2_with fail
              refine (tbx_clear (st j).l (unhide HT)).mono ?_
              rintro e w3 ⟨rfl, HT3, _⟩
              have HSN := hide (snc_clm (unhide HT).inv (st j).l hk8)
              clear q0 q1 q2
              go_wp2_with fail
              refine (tbx_since kk (unhide HT3) _ (unhide HSN)).mono ?_
              rintro e w5 ⟨rfl, HT5, _⟩
              go_wp2_with fail
              refine (tbx_last (unhide HT5)).mono ?_
              rintro e w6 ⟨rfl, hw6⟩
              subst w6
              go_wp2_with fail
              exact ⟨⟨j + 1, _, n, by omega, by rw [unhide HSN], rfl, by go_num, HT5⟩, by simp [intOf]; omega⟩
            · generalize (st j).d = d at *
              have e0 : (d == 0) = false := beq_eq_false_iff_ne.2 hd
              have e1 : (d == 1) = false := beq_eq_false_iff_ne.2 hd1
              clear hd hd1
              go_wp2_with fail
              refine (tbx_since kk (unhide HT) _ rfl).mono ?_
              rintro e w5 ⟨rfl, HT5, _⟩
              go_wp2_with fail
              refine (tbx_last (unhide HT5)).mono ?_
              rintro e w6 ⟨rfl, hw6⟩
              subst w6
              go_wp2_with fail
              exact ⟨⟨j + 1, f, n, by omega, rfl, rfl, by go_num, HT5⟩, by simp [intOf]; omega⟩
        · go_wp2_with fail
          go_ret
          exact ⟨rfl, (unhide HT).kp.below (Nat.le_refl _) (by simp)⟩
    · have hK2 : keyB k = false := by simpa using hK
      rw [hK2]
      go_wp2_with fail
      go_ret
      exact ⟨rfl, (unhide HK1).below (Nat.le_refl _) (by simp)⟩
end Go.Proofs.Ytainekjcdmabbaa
