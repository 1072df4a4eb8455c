/- The law DeedDoes, walked: it answers true, and nothing that was there is changed. -/
import Derived.Test.YtainekjcdmabbaaZ1
import Derived.Test.YtainekjcdmabbaaStv
import Derived.Test.YtainekjcdmabbaaY2
namespace Go.Proofs.Ytainekjcdmabbaa
open Go.RowKit
set_option maxRecDepth 20000
attribute [local go_sem ↓] Go.wp_at_zero Go.wp_at_succ

section
variable {w0 w w' : World} {tb sb db wb xb : Nat} {f : Nat → List Ver} {n : Nat} {md y : Int} {rs : List Int} {ws ws2 : List Ver} {d k to_ : Int} {t : Bool} {s : ByteArray} {v : Value}
theorem Stv.same (h : Stv w xb d k to_ t s v) {X : List Nat} (hs : SameX X w w') (hx : xb ∈ X) : Stv w' xb d k to_ t s v := (hs xb hx).trans h
theorem does_put (h : Fur w0 w tb sb db wb f f n n md y rs rs ws ws2 [xb]) (hv : Stv w xb d k to_ t s v) (hs : s.size ≤ maxLen) :
    Calls Try.prog 57 #[.pointer (some ⟨db, 0, none⟩), .int .i64 k, .agg #[.bool t, .string s]] w fun e w' => e = .returned (.int .i64 (dpc md k t s)) ∧ (w'.cell? ⟨xb, 1, none⟩ = some (.int .i64 k) ∧ w'.cell? ⟨xb, 3, none⟩ = some (.bool t) ∧ w'.cell? ⟨xb, 4, none⟩ = some (.string s)) ∧ Hid (Fur w0 w' tb sb db wb f f n n md y rs rs (dpw md ws k t s) ws2 [xb]) ∧ Hid (Stv w' xb d k to_ t s v) := by
  refine (fur_put k t s h hs).mono ?_
  rintro e w' ⟨rfl, h1, h2⟩
  have hv' := hv.same (unhide h2) (by simp)
  exact ⟨rfl, ⟨hv'.c1, hv'.c3, hv'.c4⟩, h1, hv'⟩
theorem does_wput (h : Fur w0 w tb sb db wb f f n n md y rs rs ws ws2 [xb]) (hv : Stv w xb d k to_ t s v) (hs : s.size ≤ maxLen) (hwl : ws2.length ≤ 900) :
    Calls Try.prog 58 #[.pointer (some ⟨wb, 0, none⟩), .int .i64 k, .agg #[.bool t, .string s]] w fun e w' => e = .returned (.int .i64 (dpc md k t s)) ∧ (w'.cell? ⟨xb, 1, none⟩ = some (.int .i64 k) ∧ w'.cell? ⟨xb, 3, none⟩ = some (.bool t) ∧ w'.cell? ⟨xb, 4, none⟩ = some (.string s)) ∧ Hid (Fur w0 w' tb sb db wb f f n n md y rs rs ws (dpw md ws2 k t s) [xb]) := by
  refine (fur_wput k t s h hs hwl).mono ?_
  rintro e w' ⟨rfl, h1, h2⟩
  have hv' := hv.same (unhide h2) (by simp)
  exact ⟨rfl, ⟨hv'.c1, hv'.c3, hv'.c4⟩, h1⟩
end

set_option maxHeartbeats 16000000 in
set_option maxRecDepth 100000 in
theorem ddoes11 (a : Option Addr) (n1 c : Nat) (st : Nat → TStep) (md y : Int) (a2 : Option Addr) (n2 c2 : Nat) (st2 : Nat → DStep) (w : World) (h : TSts w a n1 st) (h2 : DSts w a2 n2 st2) :
    Calls Try.prog 11 #[.slice a n1 c, .int .i64 md, .int .i64 y, .slice a2 n2 c2] w fun e w' => e = .returned (.bool true) ∧ Below w.heap.size w w' := by
  have HS := hide h
  have HS2 := hide h2
  clear h h2
  go_enter Try.func11, Try.ntmps11
  go_wp2_with fail
  refine (dbegun52 w).mono ?_
  rintro e w1 ⟨rfl, hk⟩
  have HK1 := hide hk
  clear hk
  go_wp2_with fail
  refine (gtable29 a n1 c st w1 ((unhide HS).kp0 (unhide HK1))).mono ?_
  rintro e w1' ⟨q, rfl, hq, hw'⟩
  subst w1'
  cases q with
  | true =>
    clear hq
    go_wp2_with fail
    go_ret
    exact ⟨rfl, (unhide HK1).below (Nat.le_refl _) (by simp)⟩
  | false =>
    obtain ⟨hn, hps⟩ := hq rfl
    have HPS := hide hps
    clear hq hps
    go_wp2_with fail
    refine (gdeeds53 a2 n2 c2 st2 w1 ((unhide HS2).kp0 (unhide HK1))).mono ?_
    rintro e w1' ⟨q, rfl, hq, hw'⟩
    subst w1'
    cases q with
    | true =>
      clear hq
      go_wp2_with fail
      go_ret
      exact ⟨rfl, (unhide HK1).below (Nat.le_refl _) (by simp)⟩
    | false =>
      obtain ⟨hn2, hps2⟩ := hq rfl
      have HPS2 := hide hps2
      clear hq hps2
      go_wp2_with fail
      refine (tables31 a n1 c st w1 ((unhide HS).kp0 (unhide HK1)) hn (unhide HPS)).mono ?_
      rintro e w2 ⟨tb, sb, f, n, rfl, HB⟩
      have HS3 := hide ((unhide HS2).kp0 (unhide HK1))
      go_wp2_with fail
      refine (dnew54 md y w2).mono ?_
      rintro e w3 (⟨hm1, hm3, rfl, hd, hk3⟩ | ⟨hmd, rfl, hw3⟩)
      · have HQ0 := hide (fur_start (unhide HB) hd hk3)
        have em1 : ¬ md < 1 := by omega
        have em3 : ¬ 3 < md := by omega
        clear hd hk3 HB
        go_wp2_with fail
        generalize w3.alloc (.cells #[.int .i64 md, .int .i64 y, .slice none 0 0, .slice none 0 0] 87) = W3 at *
        generalize w2.heap.size = db at *
        generalize w3.heap.size = wb at *
        go_loopw [14] (fun i wr => ∃ (k : Nat) (f : Nat → List Ver) (n : Nat) (rs : List Int) (ws : List Ver), k ≤ n2 ∧ i = .int .i64 k ∧ rs.length ≤ 8 * k ∧ ws.length ≤ k ∧ Hid (Fur w1 wr tb sb db wb f f n n md y rs rs ws ws [])) (fun i _ => n2 - (intOf i).toNat)
        case atStart => exact ⟨0, _, _, [], [], Nat.zero_le _, rfl, by simp, by simp, HQ0⟩
        case round =>
          obtain ⟨k, f, n, rs, ws, hk, rfl, hrl, hwl, HQ⟩ := hrel
          by_cases hlt : k < n2
          · obtain ⟨lb, lo, rfl, hst⟩ := (unhide HS3).2 (by omega)
            have s1 := (hst k hlt).kp0 (unhide HQ).kp
            have q0 := s1.c0
            have q1 := s1.c1
            have q2 := s1.c2
            have q3 := s1.c3
            have q4 : wr.cell? ⟨lb, lo + k * 6 + 4, none⟩ = some (.string (st2 k).s) := s1.c4
            have q5 := s1.c5
            have hsz := s1.str
            have HPR := hide (hst k hlt).prs
            have hp50 := (unhide HPS2) k hlt
            have i0 : (0 : Int) ≤ (k : Int) := by omega
            have i1 : (k : Int) < (n2 : Int) := by omega
            clear s1 hst
            generalize (st2 k).d = d at *
            generalize (st2 k).k = kk at *
            generalize (st2 k).to_ = to_ at *
            generalize (st2 k).t = t at *
            generalize (st2 k).s = s at *
            have HV := hide (stv_new wr d kk to_ t s (.slice (st2 k).a (st2 k).ps.length (st2 k).c))
            have HQ1 := hide ((unhide HQ).alloc (.cells #[.int .i64 d, .int .i64 kk, .int .i64 to_, .bool t, .string s, .slice (st2 k).a (st2 k).ps.length (st2 k).c] 89))
            clear HQ
            by_cases hd0 : d = 0
            · subst hd0
              go_wp2_with fail
              generalize wr.alloc (.cells #[.int .i64 0, .int .i64 kk, .int .i64 to_, .bool t, .string s, .slice (st2 k).a (st2 k).ps.length (st2 k).c] 89) = W at *
              generalize wr.heap.size = xb at *
              clear q0 q1 q2 q3 q4 q5
              refine (fur_get kk (unhide HQ1)).mono ?_
              rintro e w4 ⟨rfl, H4, X4⟩
              have hdl := dr_len f n y rs ws kk
              generalize hdr : dr f n y rs ws kk = rs' at *
              have HDR := hide hdr
              generalize hgg : dg f n y ws kk = v at *
              have HGG := hide hgg
              have H5 := hide ((unhide H4).alloc (.cells #[.bool v.t, .string v.s] 24))
              have P5 := hide (two_new w4 v.t v.s)
              have hx4 := (unhide H4).lt xb (by simp)
              have y1 := (((unhide HV).same (unhide X4) (by simp)).kp ((Kp.refl [] w4).alloc (.cells #[.bool v.t, .string v.s] 24)) (by simp)).c1
              clear hdr hgg HQ1 HV H4 X4
              go_wp2_with fail
              generalize w4.alloc (.cells #[.bool v.t, .string v.s] 24) = W5 at *
              generalize w4.heap.size = p at *
              refine (fur_wget kk (unhide H5) (by omega) (by omega)).mono ?_
              rintro e w6 ⟨rfl, H6, X6⟩
              rw [unhide HDR] at H6
              rw [unhide HGG]
              have P6 : Two w6 p v.t v.s := ((unhide X6) p (by simp)).trans (unhide P5)
              have c0 := P6.c0
              have c1 := P6.c1
              have hp6 := P6.lt
              have HQ2 := hide ((unhide H6).kp0 ((Kp.refl [] w6).alloc (.cells #[.bool v.t, .string v.s] 24)))
              clear y1 P5 P6 H5 H6 X6 HDR HGG
              go_wp2_with fail
              refine (fur_reads (unhide HQ2) _ rfl).mono ?_
              rintro e v1 ⟨ra1, rc1, rfl, HL1, HQ3, _⟩
              clear HQ2
              go_wp2_with fail
              refine (fur_wreads (unhide HQ3) (by omega) _ rfl).mono ?_
              rintro e v2 ⟨ra2, rc2, rfl, HL2, HQ4, HK2⟩
              have HL3 := hide ((unhide HL1).kp0 (unhide HK2))
              clear HQ3 HL1 HK2
              go_wp2_with fail
              refine (sameints63 ra1 ra2 rc1 rc2 _ (unhide HL3) (unhide HL2) (Nat.le_trans (rk_len _ 8) (by omega))).mono ?_
              rintro e v3 ⟨rfl, mm1, hv3⟩
              have HQ5 := hide ((unhide HQ4).kp0 (show Kp [] v2 v3 by rw [hv3]; exact (Kp.refl [] v2).drewN mm1))
              clear hv3 HQ4 HL2 HL3
              go_wp2_with fail
              refine (fur_writes (unhide HQ5) _ rfl).mono ?_
              rintro e v4 ⟨wa1, wc1, rfl, HM1, HQ6, _⟩
              clear HQ5
              go_wp2_with fail
              refine (fur_wwrites (unhide HQ6) (by omega) _ rfl).mono ?_
              rintro e v5 ⟨wa2, wc2, rfl, HM2, HQ7, HK5⟩
              have HM3 := hide ((unhide HM1).kp0 (unhide HK5))
              clear HQ6 HM1 HK5
              go_wp2_with fail
              refine (same39 wa1 wa2 wc1 wc2 _ (unhide HM3) (unhide HM2) (Nat.le_trans (wk_len _ 8) (by omega))).mono ?_
              rintro e v6 ⟨rfl, mm2, hv6⟩
              have HQ8 := hide ((unhide HQ7).kp0 (show Kp [] v5 v6 by rw [hv6]; exact (Kp.refl [] v5).drewN mm2))
              clear hv6 HQ7 HM2 HM3
              go_wp2_with fail
              refine (fur_may (unhide HQ8) _ rfl).mono ?_
              rintro e v7 ⟨rfl, HQ9⟩
              clear HQ8
              go_wp2_with fail
              refine (fur_wmay (unhide HQ9) (by omega) (by omega) _ rfl).mono ?_
              rintro e v8 ⟨rfl, HQ10⟩
              have HQ11 := hide ((unhide HQ10).sub (Z := []) (by simp))
              clear HQ9 HQ10
              go_wp2_with fail
              exact ⟨⟨k + 1, _, _, _, _, by omega, by go_num, by omega, by omega, HQ11⟩, by simp [intOf]; omega⟩
            have ed0 : (d == 0) = false := beq_eq_false_iff_ne.2 hd0
            clear hd0
            by_cases hd1 : d = 1
            · subst hd1
              go_wp2_with fail
              generalize wr.alloc (.cells #[.int .i64 1, .int .i64 kk, .int .i64 to_, .bool t, .string s, .slice (st2 k).a (st2 k).ps.length (st2 k).c] 89) = W at *
              generalize wr.heap.size = xb at *
              clear q0 q1 q2 q3 q4 q5
              have x1 := (unhide HV).c1
              have x3 := (unhide HV).c3
              have x4 := (unhide HV).c4
              have HQW := hide ((unhide HQ1).kp0 (Kp.refl [] W).drew)
              have HVW := hide ((unhide HV).kp (Kp.refl [] W).drew (by simp))
              have hdl := dpw_len md ws kk t s
              clear HQ1 HV
              go_region_held3 (fun w' => w'.cell? ⟨xb, 1, none⟩ = some (.int .i64 kk) ∧ w'.cell? ⟨xb, 3, none⟩ = some (.bool t) ∧ w'.cell? ⟨xb, 4, none⟩ = some (.string s)) (first | go_keep | exact zz | exact yy)
                ((first | (go_at_call 57; refine (does_put (unhide HQW) (unhide HVW) hsz).mono ?_; rintro e w4 ⟨rfl, yy, H4, V4⟩) | (go_at_call 58; refine (does_wput (unhide H4) (unhide V4) hsz (by omega)).mono ?_; rintro e w5 ⟨rfl, zz, HQ2⟩)))
              generalize dpw md ws kk t s = ws' at *
              go_wp2_with fail
              refine (fur_reads (unhide HQ2) _ rfl).mono ?_
              rintro e v1 ⟨ra1, rc1, rfl, HL1, HQ3, _⟩
              clear HQ2
              go_wp2_with fail
              refine (fur_wreads (unhide HQ3) (by omega) _ rfl).mono ?_
              rintro e v2 ⟨ra2, rc2, rfl, HL2, HQ4, HK2⟩
              have HL3 := hide ((unhide HL1).kp0 (unhide HK2))
              clear HQ3 HL1 HK2
              go_wp2_with fail
              refine (sameints63 ra1 ra2 rc1 rc2 _ (unhide HL3) (unhide HL2) (Nat.le_trans (rk_len _ 8) (by omega))).mono ?_
              rintro e v3 ⟨rfl, mm1, hv3⟩
              have HQ5 := hide ((unhide HQ4).kp0 (show Kp [] v2 v3 by rw [hv3]; exact (Kp.refl [] v2).drewN mm1))
              clear hv3 HQ4 HL2 HL3
              go_wp2_with fail
              refine (fur_writes (unhide HQ5) _ rfl).mono ?_
              rintro e v4 ⟨wa1, wc1, rfl, HM1, HQ6, _⟩
              clear HQ5
              go_wp2_with fail
              refine (fur_wwrites (unhide HQ6) (by omega) _ rfl).mono ?_
              rintro e v5 ⟨wa2, wc2, rfl, HM2, HQ7, HK5⟩
              have HM3 := hide ((unhide HM1).kp0 (unhide HK5))
              clear HQ6 HM1 HK5
              go_wp2_with fail
              refine (same39 wa1 wa2 wc1 wc2 _ (unhide HM3) (unhide HM2) (Nat.le_trans (wk_len _ 8) (by omega))).mono ?_
              rintro e v6 ⟨rfl, mm2, hv6⟩
              have HQ8 := hide ((unhide HQ7).kp0 (show Kp [] v5 v6 by rw [hv6]; exact (Kp.refl [] v5).drewN mm2))
              clear hv6 HQ7 HM2 HM3
              go_wp2_with fail
              refine (fur_may (unhide HQ8) _ rfl).mono ?_
              rintro e v7 ⟨rfl, HQ9⟩
              clear HQ8
              go_wp2_with fail
              refine (fur_wmay (unhide HQ9) (by omega) (by omega) _ rfl).mono ?_
              rintro e v8 ⟨rfl, HQ10⟩
              have HQ11 := hide ((unhide HQ10).sub (Z := []) (by simp))
              clear HQ9 HQ10
              go_wp2_with fail
              exact ⟨⟨k + 1, _, _, _, _, by omega, by go_num, by omega, by omega, HQ11⟩, by simp [intOf]; omega⟩
            have ed1 : (d == 1) = false := beq_eq_false_iff_ne.2 hd1
            clear hd1
            by_cases hd2 : d = 2
            · subst hd2
              go_wp2_with fail
              generalize wr.alloc (.cells #[.int .i64 2, .int .i64 kk, .int .i64 to_, .bool t, .string s, .slice (st2 k).a (st2 k).ps.length (st2 k).c] 89) = W at *
              generalize wr.heap.size = xb at *
              clear q0 q1 q2 q3 q4 q5
              obtain ⟨LL, hLL⟩ : ∃ LL, dls f n y ws rs kk to_ = LL := ⟨_, rfl⟩
              have hdl := dls_len f n y ws rs kk to_
              rw [hLL] at hdl
              refine (fur_list kk to_ (unhide HQ1) LL hLL).mono ?_
              rintro e w4 ⟨la, lc, rfl, Bs, H4, X4, L4⟩
              have V4 := (unhide HV).same (unhide X4) (by simp)
              have y1 := V4.c1
              have y2 := V4.c2
              clear V4 HV X4 HQ1
              go_wp2_with fail
              refine (fur_wlist kk to_ (unhide H4) (by omega) (by omega) LL hLL).mono ?_
              rintro e w5 ⟨la2, lc2, rfl, H5, X5, L5⟩
              have L6 := hide ((unhide L4).same (unhide X5)).slo
              clear L4 X5 H4 y1 y2
              go_wp2_with fail
              refine (same39 la la2 lc lc2 _ (unhide L6) (unhide L5) (by omega)).mono ?_
              rintro e w6 ⟨rfl, mm, hw6⟩
              have HQ2 := hide ((unhide H5).kp0 (show Kp [] w5 w6 by rw [hw6]; exact (Kp.refl [] w5).drewN mm))
              clear hw6 L5 L6 H5 hLL
              go_wp2_with fail
              refine (fur_reads (unhide HQ2) _ rfl).mono ?_
              rintro e v1 ⟨ra1, rc1, rfl, HL1, HQ3, _⟩
              clear HQ2
              go_wp2_with fail
              refine (fur_wreads (unhide HQ3) (by omega) _ rfl).mono ?_
              rintro e v2 ⟨ra2, rc2, rfl, HL2, HQ4, HK2⟩
              have HL3 := hide ((unhide HL1).kp0 (unhide HK2))
              clear HQ3 HL1 HK2
              go_wp2_with fail
              refine (sameints63 ra1 ra2 rc1 rc2 _ (unhide HL3) (unhide HL2) (Nat.le_trans (rk_len _ 8) (by omega))).mono ?_
              rintro e v3 ⟨rfl, mm1, hv3⟩
              have HQ5 := hide ((unhide HQ4).kp0 (show Kp [] v2 v3 by rw [hv3]; exact (Kp.refl [] v2).drewN mm1))
              clear hv3 HQ4 HL2 HL3
              go_wp2_with fail
              refine (fur_writes (unhide HQ5) _ rfl).mono ?_
              rintro e v4 ⟨wa1, wc1, rfl, HM1, HQ6, _⟩
              clear HQ5
              go_wp2_with fail
              refine (fur_wwrites (unhide HQ6) (by omega) _ rfl).mono ?_
              rintro e v5 ⟨wa2, wc2, rfl, HM2, HQ7, HK5⟩
              have HM3 := hide ((unhide HM1).kp0 (unhide HK5))
              clear HQ6 HM1 HK5
              go_wp2_with fail
              refine (same39 wa1 wa2 wc1 wc2 _ (unhide HM3) (unhide HM2) (Nat.le_trans (wk_len _ 8) (by omega))).mono ?_
              rintro e v6 ⟨rfl, mm2, hv6⟩
              have HQ8 := hide ((unhide HQ7).kp0 (show Kp [] v5 v6 by rw [hv6]; exact (Kp.refl [] v5).drewN mm2))
              clear hv6 HQ7 HM2 HM3
              go_wp2_with fail
              refine (fur_may (unhide HQ8) _ rfl).mono ?_
              rintro e v7 ⟨rfl, HQ9⟩
              clear HQ8
              go_wp2_with fail
              refine (fur_wmay (unhide HQ9) (by omega) (by omega) _ rfl).mono ?_
              rintro e v8 ⟨rfl, HQ10⟩
              have HQ11 := hide ((unhide HQ10).sub (Z := []) (by simp))
              clear HQ9 HQ10
              go_wp2_with fail
              exact ⟨⟨k + 1, _, _, _, _, by omega, by go_num, by omega, by omega, HQ11⟩, by simp [intOf]; omega⟩
            have ed2 : (d == 2) = false := beq_eq_false_iff_ne.2 hd2
            clear hd2
            by_cases hd3 : d = 3
            · subst hd3
              go_wp2_with fail
              generalize wr.alloc (.cells #[.int .i64 3, .int .i64 kk, .int .i64 to_, .bool t, .string s, .slice (st2 k).a (st2 k).ps.length (st2 k).c] 89) = W at *
              generalize wr.heap.size = xb at *
              clear q0 q1 q2 q3 q4 q5
              refine (fur_twrite (st2 k).a (st2 k).c (st2 k).ps (unhide HQ1) (unhide HPR) (by omega)).mono ?_
              rintro e w4 ⟨x, z, rfl, H4, X4⟩
              have y5 := ((unhide HV).same (unhide X4) (by simp)).c5
              clear HV X4 HQ1
              go_wp2_with fail
              refine (fur_swrite (st2 k).a (st2 k).c (st2 k).ps (unhide H4) (unhide HPR) (by omega)).mono ?_
              rintro e w5 ⟨x2, z2, rfl, HQ2, _⟩
              clear H4 y5
              go_wp2_with fail
              refine (fur_reads (unhide HQ2) _ rfl).mono ?_
              rintro e v1 ⟨ra1, rc1, rfl, HL1, HQ3, _⟩
              clear HQ2
              go_wp2_with fail
              refine (fur_wreads (unhide HQ3) (by omega) _ rfl).mono ?_
              rintro e v2 ⟨ra2, rc2, rfl, HL2, HQ4, HK2⟩
              have HL3 := hide ((unhide HL1).kp0 (unhide HK2))
              clear HQ3 HL1 HK2
              go_wp2_with fail
              refine (sameints63 ra1 ra2 rc1 rc2 _ (unhide HL3) (unhide HL2) (Nat.le_trans (rk_len _ 8) (by omega))).mono ?_
              rintro e v3 ⟨rfl, mm1, hv3⟩
              have HQ5 := hide ((unhide HQ4).kp0 (show Kp [] v2 v3 by rw [hv3]; exact (Kp.refl [] v2).drewN mm1))
              clear hv3 HQ4 HL2 HL3
              go_wp2_with fail
              refine (fur_writes (unhide HQ5) _ rfl).mono ?_
              rintro e v4 ⟨wa1, wc1, rfl, HM1, HQ6, _⟩
              clear HQ5
              go_wp2_with fail
              refine (fur_wwrites (unhide HQ6) (by omega) _ rfl).mono ?_
              rintro e v5 ⟨wa2, wc2, rfl, HM2, HQ7, HK5⟩
              have HM3 := hide ((unhide HM1).kp0 (unhide HK5))
              clear HQ6 HM1 HK5
              go_wp2_with fail
              refine (same39 wa1 wa2 wc1 wc2 _ (unhide HM3) (unhide HM2) (Nat.le_trans (wk_len _ 8) (by omega))).mono ?_
              rintro e v6 ⟨rfl, mm2, hv6⟩
              have HQ8 := hide ((unhide HQ7).kp0 (show Kp [] v5 v6 by rw [hv6]; exact (Kp.refl [] v5).drewN mm2))
              clear hv6 HQ7 HM2 HM3
              go_wp2_with fail
              refine (fur_may (unhide HQ8) _ rfl).mono ?_
              rintro e v7 ⟨rfl, HQ9⟩
              clear HQ8
              go_wp2_with fail
              refine (fur_wmay (unhide HQ9) (by omega) (by omega) _ rfl).mono ?_
              rintro e v8 ⟨rfl, HQ10⟩
              have HQ11 := hide ((unhide HQ10).sub (Z := []) (by simp))
              clear HQ9 HQ10
              go_wp2_with fail
              exact ⟨⟨k + 1, _, _, _, _, by omega, by go_num, by omega, by omega, HQ11⟩, by simp [intOf]; omega⟩
            have ed3 : (d == 3) = false := beq_eq_false_iff_ne.2 hd3
            clear hd3
            by_cases hd4 : d = 4
            · subst hd4
              go_wp2_with fail
              generalize wr.alloc (.cells #[.int .i64 4, .int .i64 kk, .int .i64 to_, .bool t, .string s, .slice (st2 k).a (st2 k).ps.length (st2 k).c] 89) = W at *
              generalize wr.heap.size = xb at *
              clear q0 q1 q2 q3 q4 q5
              refine (fur_tclear y (unhide HQ1)).mono ?_
              rintro e w4 ⟨x, rfl, H4⟩
              clear HV HQ1
              go_wp2_with fail
              refine (fur_sclear y (unhide H4)).mono ?_
              rintro e w5 ⟨x2, rfl, HQ2⟩
              clear H4
              go_wp2_with fail
              refine (fur_reads (unhide HQ2) _ rfl).mono ?_
              rintro e v1 ⟨ra1, rc1, rfl, HL1, HQ3, _⟩
              clear HQ2
              go_wp2_with fail
              refine (fur_wreads (unhide HQ3) (by omega) _ rfl).mono ?_
              rintro e v2 ⟨ra2, rc2, rfl, HL2, HQ4, HK2⟩
              have HL3 := hide ((unhide HL1).kp0 (unhide HK2))
              clear HQ3 HL1 HK2
              go_wp2_with fail
              refine (sameints63 ra1 ra2 rc1 rc2 _ (unhide HL3) (unhide HL2) (Nat.le_trans (rk_len _ 8) (by omega))).mono ?_
              rintro e v3 ⟨rfl, mm1, hv3⟩
              have HQ5 := hide ((unhide HQ4).kp0 (show Kp [] v2 v3 by rw [hv3]; exact (Kp.refl [] v2).drewN mm1))
              clear hv3 HQ4 HL2 HL3
              go_wp2_with fail
              refine (fur_writes (unhide HQ5) _ rfl).mono ?_
              rintro e v4 ⟨wa1, wc1, rfl, HM1, HQ6, _⟩
              clear HQ5
              go_wp2_with fail
              refine (fur_wwrites (unhide HQ6) (by omega) _ rfl).mono ?_
              rintro e v5 ⟨wa2, wc2, rfl, HM2, HQ7, HK5⟩
              have HM3 := hide ((unhide HM1).kp0 (unhide HK5))
              clear HQ6 HM1 HK5
              go_wp2_with fail
              refine (same39 wa1 wa2 wc1 wc2 _ (unhide HM3) (unhide HM2) (Nat.le_trans (wk_len _ 8) (by omega))).mono ?_
              rintro e v6 ⟨rfl, mm2, hv6⟩
              have HQ8 := hide ((unhide HQ7).kp0 (show Kp [] v5 v6 by rw [hv6]; exact (Kp.refl [] v5).drewN mm2))
              clear hv6 HQ7 HM2 HM3
              go_wp2_with fail
              refine (fur_may (unhide HQ8) _ rfl).mono ?_
              rintro e v7 ⟨rfl, HQ9⟩
              clear HQ8
              go_wp2_with fail
              refine (fur_wmay (unhide HQ9) (by omega) (by omega) _ rfl).mono ?_
              rintro e v8 ⟨rfl, HQ10⟩
              have HQ11 := hide ((unhide HQ10).sub (Z := []) (by simp))
              clear HQ9 HQ10
              go_wp2_with fail
              exact ⟨⟨k + 1, _, _, _, _, by omega, by go_num, by omega, by omega, HQ11⟩, by simp [intOf]; omega⟩
            have ed4 : (d == 4) = false := beq_eq_false_iff_ne.2 hd4
            clear hd4
            go_wp2_with fail
            generalize wr.alloc (.cells #[.int .i64 d, .int .i64 kk, .int .i64 to_, .bool t, .string s, .slice (st2 k).a (st2 k).ps.length (st2 k).c] 89) = W at *
            generalize wr.heap.size = xb at *
            clear q0 q1 q2 q3 q4 q5
            have HQ2 := HQ1
            clear HQ1 HV
            refine (fur_reads (unhide HQ2) _ rfl).mono ?_
            rintro e v1 ⟨ra1, rc1, rfl, HL1, HQ3, _⟩
            clear HQ2
            go_wp2_with fail
            refine (fur_wreads (unhide HQ3) (by omega) _ rfl).mono ?_
            rintro e v2 ⟨ra2, rc2, rfl, HL2, HQ4, HK2⟩
            have HL3 := hide ((unhide HL1).kp0 (unhide HK2))
            clear HQ3 HL1 HK2
            go_wp2_with fail
            refine (sameints63 ra1 ra2 rc1 rc2 _ (unhide HL3) (unhide HL2) (Nat.le_trans (rk_len _ 8) (by omega))).mono ?_
            rintro e v3 ⟨rfl, mm1, hv3⟩
            have HQ5 := hide ((unhide HQ4).kp0 (show Kp [] v2 v3 by rw [hv3]; exact (Kp.refl [] v2).drewN mm1))
            clear hv3 HQ4 HL2 HL3
            go_wp2_with fail
            refine (fur_writes (unhide HQ5) _ rfl).mono ?_
            rintro e v4 ⟨wa1, wc1, rfl, HM1, HQ6, _⟩
            clear HQ5
            go_wp2_with fail
            refine (fur_wwrites (unhide HQ6) (by omega) _ rfl).mono ?_
            rintro e v5 ⟨wa2, wc2, rfl, HM2, HQ7, HK5⟩
            have HM3 := hide ((unhide HM1).kp0 (unhide HK5))
            clear HQ6 HM1 HK5
            go_wp2_with fail
            refine (same39 wa1 wa2 wc1 wc2 _ (unhide HM3) (unhide HM2) (Nat.le_trans (wk_len _ 8) (by omega))).mono ?_
            rintro e v6 ⟨rfl, mm2, hv6⟩
            have HQ8 := hide ((unhide HQ7).kp0 (show Kp [] v5 v6 by rw [hv6]; exact (Kp.refl [] v5).drewN mm2))
            clear hv6 HQ7 HM2 HM3
            go_wp2_with fail
            refine (fur_may (unhide HQ8) _ rfl).mono ?_
            rintro e v7 ⟨rfl, HQ9⟩
            clear HQ8
            go_wp2_with fail
            refine (fur_wmay (unhide HQ9) (by omega) (by omega) _ rfl).mono ?_
            rintro e v8 ⟨rfl, HQ10⟩
            have HQ11 := hide ((unhide HQ10).sub (Z := []) (by simp))
            clear HQ9 HQ10
            go_wp2_with fail
            exact ⟨⟨k + 1, _, _, _, _, by omega, by go_num, by omega, by omega, HQ11⟩, by simp [intOf]; omega⟩
          · go_wp2_with fail
            refine (fur_mode (unhide HQ)).mono ?_
            rintro e w9 ⟨rfl, hw9⟩
            subst w9
            go_wp2_with fail
            refine (fur_at (unhide HQ)).mono ?_
            rintro e w9 ⟨rfl, hw9⟩
            subst w9
            go_wp2_with fail
            go_ret
            exact ⟨rfl, ((unhide HK1).trans0 (unhide HQ).kp).below (Nat.le_refl _) (by simp)⟩
      · subst w3
        by_cases hm1 : md < 1
        · go_wp2_with fail
          go_ret
          exact ⟨rfl, ((unhide HK1).trans0 (unhide HB).kp).below (Nat.le_refl _) (by simp)⟩
        · have hm3 : 3 < md := by omega
          go_wp2_with fail
          go_ret
          exact ⟨rfl, ((unhide HK1).trans0 (unhide HB).kp).below (Nat.le_refl _) (by simp)⟩
end Go.Proofs.Ytainekjcdmabbaa
