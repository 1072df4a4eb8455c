/- The law ChainReads, walked: it answers true, and nothing that was there is changed. -/
import Derived.Test.YtpmnnhjnmlkekaaR1
namespace Go.Proofs.Ytpmnnhjnmlkekaa
open Go.RowKit
attribute [local go_sem ↓] Go.wp_at_zero Go.wp_at_succ

theorem cnt_upto (vs : List Ver) (y : Int) : ∀ n, ∃ c, c ≤ n ∧ (∀ k, k < c → va vs k ≤ y) ∧ (c = n ∨ y < va vs c) := by
  intro n
  induction n with
  | zero => exact ⟨0, by omega, fun k hk => by omega, .inl rfl⟩
  | succ n ih =>
    obtain ⟨c, h1, h2, h3⟩ := ih
    rcases h3 with e | e
    · subst e
      by_cases h : va vs c ≤ y
      · refine ⟨c + 1, by omega, fun k hk => ?_, .inl rfl⟩
        rcases Nat.lt_or_ge k c with e | e
        · exact h2 k e
        · have : k = c := by omega
          subst this; exact h
      · exact ⟨c, by omega, h2, .inr (by omega)⟩
    · exact ⟨c, by omega, h2, .inr e⟩
theorem cnt_ex {vs : List Ver} (hr : Rise vs) (y : Int) : ∃ c, IsCnt vs y c := by
  obtain ⟨c, h1, h2, h3⟩ := cnt_upto vs y vs.length
  refine ⟨c, h1, h2, fun k hk hl => ?_⟩
  rcases h3 with e | e
  · omega
  · have := hr.le hk hl; omega

theorem lp_start {w W6 : World} {b p1 g : Nat} {t : Bool} {s : ByteArray} {vs : List Ver} (c : Nat) (hm : Made w W6 b vs) (h1 : W6.heap[p1]? = some (.cells #[.bool t, .string s] 24 (0, 0))) (hs : SlA W6 g 0 vs) :
    Lp w W6 (W6.alloc (.cells #[.bool false, .string ByteArray.empty] 24)) b p1 W6.heap.size g t s vs c 0 := by
  have hl := (Array.getElem?_eq_some_iff.1 h1).1
  have hg := hs.lt hm.pos
  refine ⟨hm.kp ((Kp.refl [] W6).alloc _), ?_, ?_, hs.kp ((Kp.refl [] W6).alloc _) (by simp), by omega, by omega⟩
  · rw [Below.heap_alloc _ _ _ hl]; exact h1
  · have e1 : wT vs c 0 = false := by simp [wT]
    have e2 : wS vs c 0 = ByteArray.empty := by simp [wS]
    rw [e1, e2]; exact heap_alloc_new W6 _

theorem IsCnt.lt_of {vs : List Ver} {y : Int} {c k : Nat} (h : IsCnt vs y c) (hk : k < vs.length) (hv : va vs k ≤ y) : k < c := by
  rcases Nat.lt_or_ge k c with e | e
  · exact e
  · have := h.hi k e hk; omega
theorem IsCnt.ge_of {vs : List Ver} {y : Int} {c k : Nat} (h : IsCnt vs y c) (hv : y < va vs k) : c ≤ k := by
  rcases Nat.lt_or_ge k c with e | e
  · have := h.lo k e; omega
  · exact e

theorem chains_made2 (a : Option Addr) (n c : Nat) (st : Nat → Step) (w0 w : World) (h : Sts w a n st) (hn : n ≤ 80) (hk : Kp [] w0 w) :
    Calls Try.prog 13 #[.slice a n c] w fun e w' => ∃ b h o cap' vs, e = .returned (.tuple #[.pointer (some ⟨b, 0, none⟩), .slice (some ⟨h, o, none⟩) (List.length vs) cap', .bool true]) ∧ Hid (Made w0 w' b vs) ∧ vs.length ≤ 81 := by
  refine (chains8s a n c st w h hn).mono ?_
  rintro e w' ⟨b, g, cap, h, o, cap', vs, rfl, h1, h2, h3, h4, h5⟩
  have hsz := hk.size
  refine ⟨b, h, o, cap', vs, rfl, ⟨⟨g, cap, ⟨?_, h1.box, h1.ne, Nat.le_trans hsz h1.hb, h1.pos⟩, hk.trans0 h5⟩, h3, by omega⟩, h4⟩
  refine ⟨h1.own.1, ?_⟩
  rcases h1.own.2 with hn | ⟨g', cap', cur, e, q1, q2⟩
  · exact .inl hn
  · exact .inr ⟨g', cap', cur, e, Nat.le_trans hsz q1, q2⟩

/-- What stands at the head of each round of the second loop. -/
structure L2 (w wr : World) (b p1 : Nat) (t : Bool) (s : ByteArray) (y code : Int) (us : List Ver) (k : Nat) : Prop where
  made : Made w wr b us
  one : wr.heap[p1]? = some (.cells #[.bool t, .string s] 24 (0, 0))
  rd : Rd us y t s code
  len : us.length ≤ 81 + k

theorem StA.kp {w w' : World} {b o n : Nat} {st : Nat → Step} (h : StA w b o n st) (hk : Kp [] w w') : StA w' b o n st := fun i hi => by
  obtain ⟨q0, q1, q2, q3, q4⟩ := h i hi
  exact ⟨hk.cell (p := ⟨b, o + i * 4, none⟩) (by simp) q0, hk.cell (p := ⟨b, o + i * 4 + 1, none⟩) (by simp) q1, hk.cell (p := ⟨b, o + i * 4 + 2, none⟩) (by simp) q2, hk.cell (p := ⟨b, o + i * 4 + 2 + 1, none⟩) (by simp) q3, q4⟩

theorem l2put {w wr : World} {b p1 mb mo n2 k : Nat} {t : Bool} {s : ByteArray} {y code : Int} {us : List Ver} {st2 : Nat → Step} (h : L2 w wr b p1 t s y code us k) (hs : StA w mb mo n2 st2) (hk : k < n2) (hn : n2 ≤ 80) (hy : y < (st2 k).a) :
    Calls Try.prog 26 #[.pointer (some ⟨b, 0, none⟩), .int .i64 (st2 k).a, .agg #[.bool (st2 k).t, .string (st2 k).s]] wr.drew fun e w1 => ∃ q : Int, e = .returned (.int .i64 q) ∧
      w1.cell? ⟨mb, mo + k * 4 + 1, none⟩ = some (.int .i64 (st2 k).a) ∧ w1.cell? ⟨mb, mo + k * 4 + 2, none⟩ = some (.bool (st2 k).t) ∧ w1.cell? ⟨mb, mo + k * 4 + 2 + 1, none⟩ = some (.string (st2 k).s) ∧
      ∃ us', Hid (L2 w w1 b p1 t s y code us' (k + 1)) := by
  have hlen := h.len
  have hm := h.made.kp (Kp.refl [] wr).drew
  refine (made_put (p1 := p1) (t := t) (s := s) (st2 k).a (st2 k).t (st2 k).s wr.drew hm (by omega) (hs k hk).2.2.2.2 h.one).mono ?_
  rintro e w1 ⟨q, rfl, m1, m2⟩
  have hst := hs.kp (unhide m1).bgkp
  obtain ⟨_, q1, q2, q3, _⟩ := hst k hk
  have := pvers_length us (st2 k).a (st2 k).t (st2 k).s
  exact ⟨q, rfl, q1, q2, q3, _, ⟨unhide m1, unhide m2, rd_put h.made.pos h.rd hy, by omega⟩⟩

theorem Kp.blk {w w' : World} {p : Nat} {o : Obj} (hk : Kp [] w w') (h : w.heap[p]? = some o) : w'.heap[p]? = some o := by
  rw [hk.block p (Array.getElem?_eq_some_iff.1 h).1 (by simp)]; exact h
theorem L2.next {w wr : World} {b p1 k : Nat} {t : Bool} {s : ByteArray} {y code : Int} {us : List Ver} (h : L2 w wr b p1 t s y code us k) : L2 w wr b p1 t s y code us (k + 1) := ⟨h.made, h.one, h.rd, by have := h.len; omega⟩

set_option maxHeartbeats 4000000 in
set_option maxRecDepth 100000 in
theorem reads4 (a a2 : Option Addr) (n c n2 c2 : Nat) (st st2 : Nat → Step) (y : Int) (w : World) (h : Sts w a n st) (h2 : Sts w a2 n2 st2) :
    Calls Try.prog 4 #[.slice a n c, .int .i64 y, .slice a2 n2 c2] w fun e w' => e = .returned (.bool true) ∧ Below w.heap.size w w' := by
  have HS := hide h
  have HS2 := hide h2
  clear h h2
  go_enter Try.func4, Try.ntmps4
  go_wp2_with fail
  refine (begun6 w).mono ?_
  rintro e w1 ⟨rfl, hk⟩
  have HK1 := hide hk
  clear hk
  go_wp2_with fail
  refine (great7 a n c st w1 ((unhide HS).kp (unhide HK1))).mono ?_
  rintro e w1' ⟨q, rfl, hq, rfl⟩
  cases q with
  | true =>
    clear hq
    go_wp2
    go_ret
    exact ⟨rfl, (unhide HK1).below (Nat.le_refl _) (by simp)⟩
  | false =>
    have hn := hq rfl
    clear hq
    go_wp2_with fail
    refine (great7 a2 n2 c2 st2 w1' ((unhide HS2).kp (unhide HK1))).mono ?_
    rintro e w1 ⟨q, rfl, hq, rfl⟩
    cases q with
    | true =>
      clear hq
      go_wp2
      go_ret
      exact ⟨rfl, (unhide HK1).below (Nat.le_refl _) (by simp)⟩
    | false =>
      have hn2 := hq rfl
      clear hq
      go_wp2_with fail
      refine (chains_made2 a n c st w w1 ((unhide HS).kp (unhide HK1)) hn (unhide HK1)).mono ?_
      rintro e w2 ⟨b, lh, lo, lcap, vs, rfl, HM, hv81⟩
      go_wp2_with fail
      refine (made_read y w2 (unhide HM)).mono ?_
      rintro e w3 ⟨t, s, code, rfl, HRD, HM3, _⟩
      have HM4 := hide ((unhide HM3).kp ((Kp.refl [] w3).alloc (.cells #[.bool t, .string s] 24)))
      have HB1 := hide (heap_alloc_new w3 (.cells #[.bool t, .string s] 24))
      have hp1 := (unhide HM3).bgkp.size
      have hs4 : (w3.alloc (.cells #[.bool t, .string s] 24)).heap.size = w3.heap.size + 1 := by simp
      clear HM HM3
      go_wp2_with fail
      generalize w3.alloc (.cells #[.bool t, .string s] 24) = W4 at *
      generalize w3.heap.size = p1 at *
      refine (made_list W4 (unhide HM4) _ rfl).mono ?_
      rintro e w6 ⟨g6, cap6, rfl, HL6, HM6, HK6⟩
      obtain ⟨cc, hcc⟩ := cnt_ex (unhide HM6).rise y
      have HCC := hide hcc
      have HLP := hide (lp_start cc (unhide HM6) (show w6.heap[p1]? = _ by rw [(unhide HK6).block p1 (by omega) (by simp)]; exact unhide HB1) (unhide HL6))
      have hp2 := (unhide HM6).bgkp.size
      have hlen := (unhide HM6).len
      have hpos := (unhide HM6).pos
      clear hcc HM4 HB1 HL6 HM6 HK6
      go_wp2_with fail
      have HX : ∃ WX, WX = w6.alloc (.cells #[.bool false, .string ByteArray.empty] 24) := ⟨_, rfl⟩
      obtain ⟨WX, hWX⟩ := HX
      have hWX2 : w6.alloc (.cells #[.bool false, .string { data := #[] }] 24) = WX := hWX.symm
      rw [hWX2]
      rw [← hWX] at HLP
      clear hWX hWX2
      generalize w6.heap.size = p2 at *
      go_loopw [14, 15] (fun f i wr => ∃ k : Nat, k ≤ vs.length ∧ i = .int .i64 k ∧ f = .bool (wF cc k) ∧ Hid (Lp w w6 wr b p1 p2 g6 t s vs cc k)) (fun _ i _ => vs.length - (intOf i).toNat)
      case atStart => exact ⟨0, Nat.zero_le _, rfl, by simp [wF], HLP⟩
      case round =>
        obtain ⟨k, hk, rfl, rfl, HP⟩ := hrel
        by_cases hlt : k < vs.length
        · have q0 := (unhide HP).sla.at0 k hlt
          have q1 := (unhide HP).sla.at1 k hlt
          have q2 : wr.cell? ⟨g6, 0 + k * 3 + 1 + 1, none⟩ = some (.string (vb vs k)) := (unhide HP).sla.at2 k hlt
          obtain ⟨b0, b1, b2, b3⟩ := box2 (unhide HP).two
          rw [Nat.zero_add] at q0 q1 q2
          rcases Nat.eq_zero_or_pos k with hk0 | hk0
          · subst hk0
            go_wp2_with fail
            go_quiet (fail)
            go_wp2_with fail
            · have hkc := (unhide HCC).lt_of hlt (by assumption)
              exact ⟨⟨1, by omega, rfl, by rw [(wT_hit (vs := vs) hkc).2.2], ((unhide HP).drewN nq).hit hkc hp2⟩, by simp [intOf]; omega⟩
            · have hkc := (unhide HCC).ge_of (by assumption)
              exact ⟨⟨1, by omega, rfl, by rw [(wT_miss (vs := vs) hkc).2.2], ((unhide HP).drewN nq).miss hkc⟩, by simp [intOf]; omega⟩
          · obtain ⟨j, rfl⟩ : ∃ j, k = j + 1 := ⟨k - 1, by omega⟩
            have r0 := (unhide HP).sla.at0 j (by omega)
            rw [Nat.zero_add] at r0
            have hri := (unhide HP).made.rise j (j + 1) (by omega) hlt
            have hw : IntKind.i64.wrap ((j : Int) + 1 - 1) = (j : Int) := by rw [wrap_i64_id _ (by omega) (by omega)]; omega
            have i0 : (0 : Int) < (j : Int) + 1 := by omega
            have i1 : (0 : Int) ≤ (j : Int) := by omega
            have i2 : (j : Int) < (vs.length : Int) := by omega
            have i3 : (j : Int) + 1 < (vs.length : Int) := by omega
            have i4 : (0 : Int) ≤ (j : Int) + 1 := by omega
            go_wp2_with fail
            go_quiet (fail)
            go_wp2_with fail
            · have hkc := (unhide HCC).lt_of hlt (by assumption)
              exact ⟨⟨j + 1 + 1, by omega, by go_num, by rw [(wT_hit (vs := vs) hkc).2.2], ((unhide HP).drewN nq).hit hkc hp2⟩, by simp [intOf]; omega⟩
            · have hkc := (unhide HCC).ge_of (by assumption)
              exact ⟨⟨j + 1 + 1, by omega, by go_num, by rw [(wT_miss (vs := vs) hkc).2.2], ((unhide HP).drewN nq).miss hkc⟩, by simp [intOf]; omega⟩
        · have e : k = vs.length := by omega
          subst e
          obtain ⟨b0, b1, b2, b3⟩ := box2 (unhide HP).one
          obtain ⟨d0, d1, d2, d3⟩ := box2 (unhide HP).two
          have HL2 := hide (show L2 w wr b p1 t s y code vs 0 from ⟨(unhide HP).made, (unhide HP).one, unhide HRD, by omega⟩)
          have key : (y < 0 ∧ code = 1) ∨ (0 ≤ y ∧ code = 12 ∧ wF cc vs.length = false) ∨ (0 ≤ y ∧ code = 0 ∧ wF cc vs.length = true ∧ wr.cell? ⟨p2, 0, none⟩ = some (.bool t) ∧ wr.cell? ⟨p2, 1, none⟩ = some (.string s)) := by
            rcases unhide HRD with ⟨h1, rfl, rfl, rfl⟩ | ⟨h0, h1, rfl, rfl, rfl⟩ | ⟨h0, h1, m, hm, hm0, rfl, rfl, rfl⟩
            · exact .inl ⟨h1, rfl⟩
            · have : cc = 0 := by have := (unhide HCC).ge_of h1; omega
              exact .inr (.inl ⟨h0, rfl, by rw [this]; exact wF_zero _⟩)
            · have e := hm.uniq (unhide HCC)
              subst e
              obtain ⟨f1, f2, f3⟩ := wT_end (vs := vs) hm.le hm0
              exact .inr (.inr ⟨h0, rfl, f3, by rw [d0, f1], by rw [d1, f2]⟩)
          clear HRD HP HLP HCC d0 d1 d2 d3 b2 b3 hk hlt hp2
          rcases key with ⟨h1, h2⟩ | ⟨h1, h2, h3⟩ | ⟨h1, h2, h3, h4, h5⟩
          all_goals
            have e0 : (code == 0) = decide (code = 0) := rfl
            have HCD := hide h2
            clear e0
            first
              | (have e1 : (code != 1) = false := by simp [h2]
                 have e2 : (code == 0) = false := by simp [h2])
              | have e2 : (code == 0) = false := by simp [h2]
              | have e2 : (code == 0) = true := by simp [h2]
            clear h2
            go_wp2_with fail
          all_goals
            try clear e1
            try clear h3
            try clear h4 h5
            clear e2 b0 b1 h1
            by_cases hz : n2 = 0
            · subst hz
              go_loopw [16] (fun i wr2 => i = .int .i64 0 ∧ wr2 = wr) (fun _ _ => 0)
              case atStart => exact ⟨rfl, rfl⟩
              case round =>
                obtain ⟨rfl, rfl⟩ := hrel
                go_wp2_with fail
                refine (made_read_as y _ (unhide HL2).made t s code (unhide HL2).rd).mono ?_
                rintro e w9 ⟨rfl, HM9, HK9⟩
                have HB9 := hide ((unhide HK9).blk (unhide HL2).one)
                have hlt9 := (Array.getElem?_eq_some_iff.1 (unhide HB9)).1
                obtain ⟨b0, b1, _, _⟩ := box2 (unhide HB9)
                have hn9 : p1 ≠ w9.heap.size := by omega
                go_wp2
                go_ret
                exact ⟨rfl, (((unhide HM9).bgkp).alloc _).below (Nat.le_refl _) (by simp)⟩
            · obtain ⟨mb, mo, rfl, hs2⟩ := (unhide HS2).2 (by omega)
              have HST := hide hs2
              clear hs2
              go_loopw [16] (fun i wr2 => ∃ (k : Nat) (us : List Ver), k ≤ n2 ∧ i = .int .i64 k ∧ Hid (L2 w wr2 b p1 t s y code us k)) (fun i _ => n2 - (intOf i).toNat)
              case atStart => exact ⟨0, vs, Nat.zero_le _, rfl, HL2⟩
              case round =>
                obtain ⟨k, us, hk, rfl, HR⟩ := hrel
                by_cases hlt : k < n2
                · have hst := (unhide HST).kp (unhide HR).made.bgkp
                  obtain ⟨q0, q1, q2, q3, _⟩ := hst k hlt
                  have i0 : (0 : Int) ≤ (k : Int) := by omega
                  have i1 : (k : Int) < (n2 : Int) := by omega
                  clear hst
                  by_cases hd : (st2 k).d = 0
                  · rw [hd] at q0
                    clear hd
                    by_cases hy : y < (st2 k).a
                    · go_wp2_with fail
                      go_region_held3 (fun w' => w'.cell? ⟨mb, mo + k * 4 + 1, none⟩ = some (.int .i64 (st2 k).a) ∧ w'.cell? ⟨mb, mo + k * 4 + 2, none⟩ = some (.bool (st2 k).t) ∧ w'.cell? ⟨mb, mo + k * 4 + 2 + 1, none⟩ = some (.string (st2 k).s)) (first | go_keep | exact ⟨y1, y2, y3⟩)
                        ((go_at_call 26; refine (l2put (unhide HR) (unhide HST) hlt hn2 hy).mono ?_; rintro e w4 ⟨qq, rfl, y1, y2, y3, us', HR2⟩))
                      go_wp2_with fail
                      exact ⟨⟨k + 1, us', by omega, by go_num, HR2⟩, by simp [intOf]; omega⟩
                    · go_wp2_with fail
                      exact ⟨⟨k + 1, us, by omega, by go_num, (unhide HR).next⟩, by simp [intOf]; omega⟩
                  · generalize (st2 k).d = d at *
                    have e0 : (d == 0) = false := beq_eq_false_iff_ne.2 hd
                    clear hd
                    go_wp2_with fail
                    exact ⟨⟨k + 1, us, by omega, by go_num, (unhide HR).next⟩, by simp [intOf]; omega⟩
                · go_wp2_with fail
                  refine (made_read_as y _ (unhide HR).made t s code (unhide HR).rd).mono ?_
                  rintro e w9 ⟨rfl, HM9, HK9⟩
                  have HB9 := hide ((unhide HK9).blk (unhide HR).one)
                  have hlt9 := (Array.getElem?_eq_some_iff.1 (unhide HB9)).1
                  obtain ⟨b0, b1, _, _⟩ := box2 (unhide HB9)
                  have hn9 : p1 ≠ w9.heap.size := by omega
                  go_wp2
                  go_ret
                  exact ⟨rfl, (((unhide HM9).bgkp).alloc _).below (Nat.le_refl _) (by simp)⟩
end Go.Proofs.Ytpmnnhjnmlkekaa
