/- The law TableClears, walked: it answers true, and nothing that was there is changed. -/
import Derived.Test.YtainekjcdmabbaaX3
import Derived.Test.YtainekjcdmabbaaE7
namespace Go.Proofs.Ytainekjcdmabbaa
open Go.RowKit
set_option maxRecDepth 20000
attribute [local go_sem ↓] Go.wp_at_zero Go.wp_at_succ

set_option maxHeartbeats 4000000 in
set_option maxRecDepth 100000 in
theorem tclears8 (a : Option Addr) (n1 c : Nat) (st : Nat → TStep) (least y : Int) (w : World) (h : TSts w a n1 st) :
    Calls Try.prog 8 #[.slice a n1 c, .int .i64 least, .int .i64 y] w fun e w' => e = .returned (.bool true) ∧ Below w.heap.size w w' := by
  have HS := hide h
  clear h
  go_enter Try.func8, Try.ntmps8
  go_wp2_with fail
  refine (tbegun28 w).mono ?_
  rintro e w1 ⟨rfl, hk⟩
  have HK1 := hide hk
  clear hk
  go_wp2_with fail
  refine (gtable29 a n1 c st w1 ((unhide HS).kp0 (unhide HK1))).mono ?_
  rintro e w1' ⟨q, rfl, hq, hw'⟩
  subst w1'
  cases q with
  | true =>
    clear hq
    go_wp2_with fail
    go_ret
    exact ⟨rfl, (unhide HK1).below (Nat.le_refl _) (by simp)⟩
  | false =>
    obtain ⟨hn, hps⟩ := hq rfl
    have HPS := hide hps
    clear hq hps
    by_cases hly : y < least
    · go_wp2_with fail
      go_ret
      exact ⟨rfl, (unhide HK1).below (Nat.le_refl _) (by simp)⟩
    · go_wp2_with fail
      refine (tables_tbx a n1 c st w w1 (unhide HS) (unhide HK1) hn (unhide HPS)).mono ?_
      rintro e w2 ⟨tb, sb, f, n, rfl, HT⟩
      go_wp2_with fail
      refine (tbx_sheet y (unhide HT)).mono ?_
      rintro e w3 ⟨k, HSK, rfl, HT3, _⟩
      have hk8 := (unhide HSK).le
      have hev := shw_congr hk8 (fun j hj => tr_clm (unhide HT).inv (show least ≤ y by omega) hj)
      have HSK2 := hide ((unhide HSK).congr (fun j hj => tr_clm (unhide HT).inv (show least ≤ y by omega) hj))
      have HI := hide (unhide HT).inv
      have HEV := hide hev
      clear hev HT
      generalize hv : shw f n y k = v at *
      clear hv
      go_wp2_with (refine wpList_store_row rfl 66 _ _ rfl w3.heap.size (wagg v) rfl rfl 66 _ (heap_alloc_new w3 _) Try.size66 rfl (wagg_one _) ?_; rw [World.setRow_alloc_new])
      obtain ⟨HT4, HV4⟩ := tbx_var (unhide HT3) v
      have hp4 := lt_of_block (unhide HV4)
      generalize w3.alloc (.cells (wagg v) 66) = W4 at *
      generalize w3.heap.size = p at *
      clear HT3
      refine (tbx_last (unhide HT4)).mono ?_
      rintro e w4 ⟨rfl, hw4⟩
      subst w4
      go_wp2_with fail
      refine (tbx_clear least (unhide HT4)).mono ?_
      rintro e w5 ⟨rfl, HT5, HX5⟩
      have HV5 := hide (((unhide HX5) p (by simp)).trans (unhide HV4))
      clear HT4 HV4 HX5
      go_wp2_with fail
      refine (tbx_sheet y (unhide HT5)).mono ?_
      rintro e w6 ⟨k2, HK6, rfl, HT6, HKP6⟩
      have e2 := (unhide HK6).uniq (unhide HSK2)
      subst e2
      rw [unhide HEV]
      have HV6 := hide (((unhide HKP6).block p (lt_of_block (unhide HV5)) (by simp)).trans (unhide HV5))
      clear HT5 HV5 HKP6
      obtain ⟨HT7, HV7⟩ := tbx_var (unhide HT6) v
      obtain ⟨c0, c1, c2, c3, c4, c5, c6, c7, c8, c9, c10, c11, c12, c13, c14, c15⟩ := w16 ((((Kp.refl [] w6).alloc (.cells (wagg v) 66)).block p (lt_of_block (unhide HV6)) (by simp)).trans (unhide HV6))
      obtain ⟨d0, d1, d2, d3, d4, d5, d6, d7, d8, d9, d10, d11, d12, d13, d14, d15⟩ := w16 (unhide HV7)
      have heq := eq66' v
      clear HT6 HV6 HV7
      go_wp2_with (refine wpList_store_row rfl 66 _ _ rfl w6.heap.size (wagg v) rfl rfl 66 _ (heap_alloc_new w6 _) Try.size66 rfl (wagg_one _) ?_; rw [World.setRow_alloc_new]; generalize w6.alloc (.cells (wagg v) 66) = W7 at *; generalize w6.heap.size = q at *)
      refine (tbx_last (unhide HT7)).mono ?_
      rintro e w7 ⟨rfl, hw7⟩
      subst w7
      go_wp2_with fail
      refine (tbx_clear least (unhide HT7)).mono ?_
      rintro e w8 ⟨rfl, HT8, _⟩
      rw [cln_again (unhide HI) least 8 (Nat.le_refl _)]
      go_wp2_with fail
      go_ret
      exact ⟨rfl, (unhide HT8).kp.below (Nat.le_refl _) (by simp)⟩
end Go.Proofs.Ytainekjcdmabbaa
