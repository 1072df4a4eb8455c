/- The law TableDoes, walked: it answers true, and nothing that was there is changed. -/
import Derived.Test.YtpmnnhjnmlkekaaX6
import Derived.Test.YtpmnnhjnmlkekaaE7
namespace Go.Proofs.Ytpmnnhjnmlkekaa
open Go.RowKit
attribute [local go_sem ↓] Go.wp_at_zero Go.wp_at_succ

set_option maxHeartbeats 4000000 in
set_option maxRecDepth 100000 in
theorem tdoes6 (a : Option Addr) (n1 c : Nat) (st : Nat → TStep) (pa : Option Addr) (pc : Nat) (ps : List Ver) (k to_ y : Int) (w : World) (h : TSts w a n1 st) (hp : Prs w pa ps) :
    Calls Try.prog 6 #[.slice a n1 c, .slice pa ps.length pc, .int .i64 k, .int .i64 to_, .int .i64 y] w fun e w' => e = .returned (.bool true) ∧ Below w.heap.size w w' := by
  have HS := hide h
  have HP := hide hp
  clear h hp
  go_enter Try.func6, Try.ntmps6
  go_wp2_with fail
  refine (tbegun28 w).mono ?_
  rintro e w1 ⟨rfl, hk⟩
  have HK1 := hide hk
  clear hk
  go_wp2_with fail
  refine (gtable29 a n1 c st w1 ((unhide HS).kp0 (unhide HK1))).mono ?_
  rintro e w1' ⟨q, rfl, hq, hw'⟩
  subst w1'
  cases q with
  | true =>
    clear hq
    go_wp2_with fail
    go_ret
    exact ⟨rfl, (unhide HK1).below (Nat.le_refl _) (by simp)⟩
  | false =>
    obtain ⟨hn, hps⟩ := hq rfl
    have HPS := hide hps
    clear hq hps
    go_wp2_with fail
    refine (gpairs30 pa pc ps w1 ((unhide HP).kp0 (unhide HK1))).mono ?_
    rintro e w1' ⟨q, rfl, hq, hw'⟩
    subst w1'
    cases q with
    | true =>
      clear hq
      go_wp2_with fail
      go_ret
      exact ⟨rfl, (unhide HK1).below (Nat.le_refl _) (by simp)⟩
    | false =>
      have h50 := hq rfl
      clear hq
      go_wp2_with fail
      refine (tables31 a n1 c st w1 ((unhide HS).kp0 (unhide HK1)) hn (unhide HPS)).mono ?_
      rintro e w2 ⟨tb, sb, f, n, rfl, HB⟩
      go_wp2_with fail
      refine (bth_read k y (unhide HB)).mono ?_
      rintro e w3 ⟨rfl, HB3, _⟩
      have HB4 := hide ((unhide HB3).kp0 ((Kp.refl [] w3).alloc (.cells #[.bool (tr f n k y).t, .string (tr f n k y).s] 24)))
      have c0 : (w3.alloc (.cells #[.bool (tr f n k y).t, .string (tr f n k y).s] 24)).cell? ⟨w3.heap.size, 0, none⟩ = some (.bool (tr f n k y).t) := by simp
      have c1 : (w3.alloc (.cells #[.bool (tr f n k y).t, .string (tr f n k y).s] 24)).cell? ⟨w3.heap.size, 1, none⟩ = some (.string (tr f n k y).s) := by simp
      clear HB HB3
      go_wp2_with fail
      generalize w3.alloc (.cells #[.bool (tr f n k y).t, .string (tr f n k y).s] 24) = W4 at *
      generalize w3.heap.size = p at *
      refine (bth_sread k y (unhide HB4)).mono ?_
      rintro e w5 ⟨rfl, HB5, HK5⟩
      have HB6 := hide ((unhide HB5).kp0 ((Kp.refl [] w5).alloc (.cells #[.bool (tr f n k y).t, .string (tr f n k y).s] 24)))
      have e0 := ((unhide HK5).alloc (.cells #[.bool (tr f n k y).t, .string (tr f n k y).s] 24)).cell (p := ⟨p, 0, none⟩) (by simp) c0
      have e1 := ((unhide HK5).alloc (.cells #[.bool (tr f n k y).t, .string (tr f n k y).s] 24)).cell (p := ⟨p, 1, none⟩) (by simp) c1
      have e2 : (w5.alloc (.cells #[.bool (tr f n k y).t, .string (tr f n k y).s] 24)).cell? ⟨w5.heap.size, 0, none⟩ = some (.bool (tr f n k y).t) := by simp
      have e3 : (w5.alloc (.cells #[.bool (tr f n k y).t, .string (tr f n k y).s] 24)).cell? ⟨w5.heap.size, 1, none⟩ = some (.string (tr f n k y).s) := by simp
      clear c0 c1 HB4 HB5 HK5
      go_wp2_with fail
      generalize w5.alloc (.cells #[.bool (tr f n k y).t, .string (tr f n k y).s] 24) = W6 at *
      generalize w5.heap.size = q at *
      refine (bth_list k to_ y (unhide HB6)).mono ?_
      rintro e w7 ⟨la, lc, rfl, HL7, HB7, HK7⟩
      go_wp2_with fail
      refine (bth_slist k to_ y (unhide HB7)).mono ?_
      rintro e w8 ⟨lb, ld, rfl, HL8, HB8, HK8⟩
      have hkk := (unhide HK7).trans0 (unhide HK8)
      have hll := lst_len f n k to_ y
      generalize lst f n k to_ y = L at *
      have HD := hide (show Dos w1 w8 tb sb p q f n (tr f n k y) pa ps L.1 la lb from ⟨unhide HB8, (unhide HB8).ncell, hkk.cell (p := ⟨p, 0, none⟩) (by simp) e0, hkk.cell (p := ⟨p, 1, none⟩) (by simp) e1, hkk.cell (p := ⟨q, 0, none⟩) (by simp) e2, hkk.cell (p := ⟨q, 1, none⟩) (by simp) e3, (unhide HP).kp0 ((unhide HK1).trans0 (unhide HB8).kp), (unhide HL7).kp0 (unhide HK8), unhide HL8⟩)
      clear e0 e1 e2 e3 hkk HB6 HB7 HB8 HK7 HK8 HL7 HL8
      go_wp2_with fail
      obtain ⟨d0, d1, d2, d3, d4⟩ := (unhide HD).s
      have HDW := hide ((unhide HD).kp0 (Kp.refl [] w8).drew)
      clear HD
      generalize tr f n k y = v at *
      go_region_held3 (fun w' => w'.cell? ⟨sb, 8, none⟩ = some (.int .i64 n) ∧ w'.cell? ⟨p, 0, none⟩ = some (.bool v.t) ∧ w'.cell? ⟨p, 1, none⟩ = some (.string v.s) ∧ w'.cell? ⟨q, 0, none⟩ = some (.bool v.t) ∧ w'.cell? ⟨q, 1, none⟩ = some (.string v.s)) (first | exact (unhide H43).s | exact (unhide H42).s | exact (unhide H41).s | exact (unhide H40).s | exact (unhide H39).s | exact (unhide H38).s | exact (unhide H37).s | exact (unhide H36).s | go_keep)
        ((first | (go_at_call 36; refine (dos36 pc (unhide HDW) (by omega)).mono ?_; rintro e w36 ⟨rfl, H36⟩) | (go_at_call 37; refine (dos37 pc (unhide H36) (by omega)).mono ?_; rintro e w37 ⟨rfl, H37⟩) | (go_at_call 38; refine (dos38 (unhide H37)).mono ?_; rintro e w38 ⟨rfl, H38⟩) | (go_at_call 39; refine (dos39 lc ld (unhide H38) (by omega)).mono ?_; rintro e w39 ⟨rfl, H39⟩) | (go_at_call 40; refine (dos40 k (unhide H39)).mono ?_; rintro e w40 ⟨rfl, H40⟩) | (go_at_call 41; refine (dos41 k (unhide H40)).mono ?_; rintro e w41 ⟨rfl, H41⟩) | (go_at_call 42; refine (dos42 (unhide H41)).mono ?_; rintro e w42 ⟨rfl, H42⟩) | (go_at_call 43; refine (dos43 (unhide H42)).mono ?_; rintro e w43 ⟨rfl, H43⟩)))
      go_wp2
      go_ret
      exact ⟨rfl, ((unhide HK1).trans0 (unhide H43).b.kp).below (Nat.le_refl _) (by simp)⟩
end Go.Proofs.Ytpmnnhjnmlkekaa
