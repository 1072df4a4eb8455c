/- The law ChainClears, walked: it answers true, and nothing that was there is changed. -/
import Derived.Test.YtainekjcdmabbaaM1
namespace Go.Proofs.Ytainekjcdmabbaa
open Go.RowKit
set_option maxRecDepth 20000
attribute [local go_sem ↓] Go.wp_at_zero Go.wp_at_succ

set_option maxHeartbeats 4000000 in
set_option maxRecDepth 100000 in
theorem clears5 (a : Option Addr) (n c : Nat) (st : Nat → Step) (least y : Int) (w : World) (h : Sts w a n st) :
    Calls Try.prog 5 #[.slice a n c, .int .i64 least, .int .i64 y] w fun e w' => e = .returned (.bool true) ∧ Below w.heap.size w w' := by
  have HS := hide h
  clear h
  go_enter Try.func5, Try.ntmps5
  go_wp2_with fail
  refine (begun6 w).mono ?_
  rintro e w1 ⟨rfl, hk⟩
  have HK1 := hide hk
  clear hk
  go_wp2_with fail
  refine (great7 a n c st w1 ((unhide HS).kp (unhide HK1))).mono ?_
  rintro e w1' ⟨q, rfl, hq, rfl⟩
  cases q with
  | true =>
    clear hq
    go_wp2
    go_ret
    exact ⟨rfl, (unhide HK1).below (Nat.le_refl _) (by simp)⟩
  | false =>
    have hn := hq rfl
    clear hq
    by_cases hly : y < least
    · go_wp2
      go_ret
      exact ⟨rfl, (unhide HK1).below (Nat.le_refl _) (by simp)⟩
    · go_wp2_with fail
      refine (chains_made a n c st w w1' ((unhide HS).kp (unhide HK1)) hn (unhide HK1)).mono ?_
      rintro e w2 ⟨b, lh, lo, lcap, vs, rfl, HM, HL⟩
      clear HL
      go_wp2_with fail
      refine (made_read y w2 (unhide HM)).mono ?_
      rintro e w3 ⟨t, s, code, rfl, HRD, HM3, _⟩
      have HM4 := hide ((unhide HM3).kp ((Kp.refl [] w3).alloc (.cells #[.bool t, .string s] 24)))
      have hb3 := (unhide HM3).blt
      have c0 : (w3.alloc (.cells #[.bool t, .string s] 24)).cell? ⟨w3.heap.size, 0, none⟩ = some (.bool t) := by simp
      have c1 : (w3.alloc (.cells #[.bool t, .string s] 24)).cell? ⟨w3.heap.size, 1, none⟩ = some (.string s) := by simp
      clear HM HM3
      go_wp2_with fail
      generalize w3.alloc (.cells #[.bool t, .string s] 24) = W4 at *
      generalize w3.heap.size = p1 at *
      refine (made_first W4 (unhide HM4) _ rfl).mono ?_
      rintro e w5 ⟨rfl, rfl⟩
      go_wp2_with fail
      refine (made_last W4 (unhide HM4) _ rfl).mono ?_
      rintro e w5 ⟨rfl, HM5, HK5⟩
      have d0 := (unhide HK5).cell (p := ⟨p1, 0, none⟩) (by simp) c0
      have d1 := (unhide HK5).cell (p := ⟨p1, 1, none⟩) (by simp) c1
      clear c0 c1 HM4 HK5
      go_wp2_with fail
      refine (made_list w5 (unhide HM5) _ rfl).mono ?_
      rintro e w6 ⟨g6, cap6, rfl, _, HM6, HK6⟩
      have e0 := (unhide HK6).cell (p := ⟨p1, 0, none⟩) (by simp) d0
      have e1 := (unhide HK6).cell (p := ⟨p1, 1, none⟩) (by simp) d1
      clear d0 d1 HM5 HK6
      go_wp2_with fail
      refine (made_clear least w6 (unhide HM6)).mono ?_
      rintro e w7 ⟨d, rfl, HC, HM7, HK7⟩
      have hne : p1 ≠ b := by omega
      have f0 := (unhide HK7).cell (p := ⟨p1, 0, none⟩) (by simp; omega) e0
      have f1 := (unhide HK7).cell (p := ⟨p1, 1, none⟩) (by simp; omega) e1
      have hpos := (unhide HM6).pos
      have hlen := (unhide HM6).len
      clear e0 e1 HM6 HK7
      obtain ⟨c2, hc2, hd⟩ := unhide HC
      have hdlt : d < vs.length := by have := hc2.le; omega
      have HRD2 := hide (show Rd (vs.drop d) y t s code from by rw [hd]; exact rd_drop hc2 (by omega) (unhide HRD))
      have HAG := hide (show ∃ m, IsCnt (vs.drop d) least m ∧ m - 1 = 0 from by rw [hd]; exact cnt_again hc2)
      have HLA := hide (last_drop hdlt)
      have hfd : va (vs.drop d) 0 = va vs d := by rw [va_drop, Nat.add_zero]
      have hor : d = 0 ∨ va vs d ≤ least := by
        rcases Nat.eq_zero_or_pos d with e | e
        · exact .inl e
        · exact .inr (hc2.lo d (by omega))
      have HFD := hide hfd
      have HOR := hide hor
      have HLN := hide (show (vs.drop d).length = vs.length - d by simp)
      clear HC hc2 hd hfd hor HRD c2
      go_wp2_with fail
      refine (made_read_as y w7 (unhide HM7) t s code (unhide HRD2)).mono ?_
      rintro e w8 ⟨rfl, HM8, HK8⟩
      have HM9 := hide ((unhide HM8).kp ((Kp.refl [] w8).alloc (.cells #[.bool t, .string s] 24)))
      have g0 := ((unhide HK8).alloc (.cells #[.bool t, .string s] 24)).cell (p := ⟨p1, 0, none⟩) (by simp) f0
      have g1 := ((unhide HK8).alloc (.cells #[.bool t, .string s] 24)).cell (p := ⟨p1, 1, none⟩) (by simp) f1
      have g2 : (w8.alloc (.cells #[.bool t, .string s] 24)).cell? ⟨w8.heap.size, 0, none⟩ = some (.bool t) := by simp
      have g3 : (w8.alloc (.cells #[.bool t, .string s] 24)).cell? ⟨w8.heap.size, 1, none⟩ = some (.string s) := by simp
      clear f0 f1 HM7 HM8 HK8 HRD2
      generalize hx0 : va vs 0 = x0 at *
      generalize hxl : va vs (vs.length - 1) = xl at *
      generalize hxd : va vs d = xd at *
      generalize hus : vs.drop d = us at *
      generalize hvl : vs.length = nv at *
      have h72 : ((d : Int) == (nv : Int) - ((nv - d : Nat) : Int)) = true := by rw [beq_iff_eq]; omega
      have HX0 := hide hx0
      have HXD := hide hxd
      clear hx0 hxl hxd hus hvl
      go_wp2_with fail
      generalize w8.alloc (.cells #[.bool t, .string s] 24) = W9 at *
      generalize w8.heap.size = p2 at *
      refine (made_list W9 (unhide HM9) _ (unhide HLN)).mono ?_
      rintro e w10 ⟨g10, cap10, rfl, _, HM10, _⟩
      go_wp2_with fail
      refine (made_last w10 (unhide HM10) _ (unhide HLA)).mono ?_
      rintro e w11 ⟨rfl, HM11, _⟩
      go_wp2_with fail
      refine (made_first w11 (unhide HM11) _ (unhide HFD)).mono ?_
      rintro e w12 ⟨rfl, rfl⟩
      obtain ⟨m, hm, hm0⟩ := unhide HAG
      have HMM := hide hm
      have HM0 := hide hm0
      clear hm hm0 HAG
      by_cases hx : xd = x0
      · have hxb : (xd == x0) = true := beq_iff_eq.2 hx
        clear hx
        go_wp2_with fail
        refine (made_clear_again least w11 (unhide HM11) m (unhide HMM) (unhide HM0)).mono ?_
        rintro e w13 ⟨rfl, HK13⟩
        go_wp2
        go_ret
        exact ⟨rfl, (unhide HK13).below (Nat.le_refl _) (by simp)⟩
      · have hxb : (xd == x0) = false := beq_eq_false_iff_ne.2 hx
        have hle : xd ≤ least := by
          rcases unhide HOR with e | e
          · subst e; exact absurd ((unhide HXD).symm.trans (unhide HX0)) hx
          · exact e
        clear hx
        go_wp2_with fail
        refine (made_first w11 (unhide HM11) _ (unhide HFD)).mono ?_
        rintro e w12 ⟨rfl, rfl⟩
        go_wp2_with fail
        refine (made_clear_again least w11 (unhide HM11) m (unhide HMM) (unhide HM0)).mono ?_
        rintro e w13 ⟨rfl, HK13⟩
        go_wp2
        go_ret
        exact ⟨rfl, (unhide HK13).below (Nat.le_refl _) (by simp)⟩
end Go.Proofs.Ytainekjcdmabbaa
