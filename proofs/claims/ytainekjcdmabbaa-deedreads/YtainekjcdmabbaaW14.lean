/- The law DeedReads, walked: it answers true, and nothing that was there is changed. -/
import Derived.Test.YtainekjcdmabbaaX7
import Derived.Test.YtainekjcdmabbaaY2
namespace Go.Proofs.Ytainekjcdmabbaa
open Go.RowKit
set_option maxRecDepth 20000
attribute [local go_sem ↓] Go.wp_at_zero Go.wp_at_succ

/-- A step in a variable. -/
def Stv (w : World) (b : Nat) (d k to_ : Int) (t : Bool) (s : ByteArray) (v : Value) : Prop := w.heap[b]? = some (.cells #[.int .i64 d, .int .i64 k, .int .i64 to_, .bool t, .string s, v] 89 (0, 0))
section
variable {w w' : World} {b : Nat} {d k to_ : Int} {t : Bool} {s : ByteArray} {v : Value}
theorem Stv.kp {S : List Nat} (h : Stv w b d k to_ t s v) (hk : Kp S w w') (hS : b ∉ S) : Stv w' b d k to_ t s v := by
  unfold Stv at h ⊢
  rw [hk.block b (lt_of_block h) hS]; exact h
theorem Stv.c0 (h : Stv w b d k to_ t s v) : w.cell? ⟨b, 0, none⟩ = some (.int .i64 d) := cell_of_block h rfl
theorem Stv.c1 (h : Stv w b d k to_ t s v) : w.cell? ⟨b, 1, none⟩ = some (.int .i64 k) := cell_of_block h rfl
theorem Stv.c2 (h : Stv w b d k to_ t s v) : w.cell? ⟨b, 2, none⟩ = some (.int .i64 to_) := cell_of_block h rfl
theorem Stv.c3 (h : Stv w b d k to_ t s v) : w.cell? ⟨b, 3, none⟩ = some (.bool t) := cell_of_block h rfl
theorem Stv.c4 (h : Stv w b d k to_ t s v) : w.cell? ⟨b, 4, none⟩ = some (.string s) := cell_of_block h rfl
theorem Stv.c5 (h : Stv w b d k to_ t s v) : w.cell? ⟨b, 5, none⟩ = some v := cell_of_block h rfl
theorem Stv.lt (h : Stv w b d k to_ t s v) : b < w.heap.size := lt_of_block h
end
theorem stv_new (w : World) (d k to_ : Int) (t : Bool) (s : ByteArray) (v : Value) : Stv (w.alloc (.cells #[.int .i64 d, .int .i64 k, .int .i64 to_, .bool t, .string s, v] 89)) w.heap.size d k to_ t s v := heap_alloc_new w _

theorem own_addr {B : Nat} {w : World} {e : TypeId} {size n cap : Nat} {a : Option Addr} {xs : List Value} (h : w.ownsRow B e size (.slice a n cap) n xs) : ∀ g o, a = some ⟨g, o, none⟩ → B ≤ g := by
  intro g o ha
  rcases h.2 with ⟨e, _⟩ | ⟨g', c, cur, e, h2, _⟩
  · simp only [Value.slice.injEq] at e
    rw [e.1] at ha; cases ha
  · simp only [Value.slice.injEq] at e
    rw [e.1] at ha
    simp only [Option.some.injEq, Addr.mk.injEq] at ha
    omega
theorem tdx_writes' {w0 w : World} {tb db : Nat} {f : Nat → List Ver} {n : Nat} {md y : Int} {rs : List Int} {ws : List Ver} {X : List Nat} (h : Tdx w0 w tb db f n md y rs ws X) :
    Calls Try.prog 66 #[.pointer (some ⟨db, 0, none⟩)] w fun e w' => ∃ a cap, e = .returned (.slice a (wk ws 8).length cap) ∧ Hid (SlO w' a (wk ws 8)) ∧ Hid (∀ g o, a = some ⟨g, o, none⟩ → db < g) ∧ Hid (Kp [] w w') := by
  have hlt := h.d.lt
  refine (dwrites66 w h.d).mono ?_
  rintro e w' ⟨a, cap, rfl, ho, hk⟩
  exact ⟨a, cap, rfl, slo_own ho rfl, fun g o e => Nat.lt_of_lt_of_le hlt (own_addr ho g o e), hk⟩

/-- What stands at the head of a round that looks at what was written. -/
structure Dw4 (w0 wr : World) (tb db : Nat) (f : Nat → List Ver) (n : Nat) (md : Int) (rs : List Int) (ws : List Ver) (wa : Option Addr) : Prop where
  t : Tdx w0 wr tb db f n md n rs ws []
  l : SlO wr wa (wk ws 8)
  far : ∀ g o, wa = some ⟨g, o, none⟩ → db < g
theorem Dw4.kp {w0 w w' : World} {tb db : Nat} {f : Nat → List Ver} {n : Nat} {md : Int} {rs : List Int} {ws : List Ver} {wa : Option Addr} (h : Dw4 w0 w tb db f n md rs ws wa) (ht : Tdx w0 w' tb db f n md n rs ws []) (hk : Kp [db] w w') : Dw4 w0 w' tb db f n md rs ws wa :=
  ⟨ht, fun hp => by
    obtain ⟨g, o, e, hs⟩ := h.l hp
    exact ⟨g, o, e, hs.kp hk (by have := h.far g o e; simp; omega)⟩, h.far⟩

set_option maxHeartbeats 8000000 in
set_option maxRecDepth 100000 in
theorem dreads14 (a : Option Addr) (n1 c : Nat) (st : Nat → TStep) (md : Int) (a2 : Option Addr) (n2 c2 : Nat) (st2 : Nat → DStep) (w : World) (h : TSts w a n1 st) (h2 : DSts w a2 n2 st2) :
    Calls Try.prog 14 #[.slice a n1 c, .int .i64 md, .slice a2 n2 c2] w fun e w' => e = .returned (.bool true) ∧ Below w.heap.size w w' := by
  have HS := hide h
  have HS2 := hide h2
  clear h h2
  go_enter Try.func14, Try.ntmps14
  go_wp2_with fail
  refine (dbegun52 w).mono ?_
  rintro e w1 ⟨rfl, hk⟩
  have HK1 := hide hk
  clear hk
  go_wp2_with fail
  refine (gtable29 a n1 c st w1 ((unhide HS).kp0 (unhide HK1))).mono ?_
  rintro e w1' ⟨q, rfl, hq, hw'⟩
  subst w1'
  cases q with
  | true =>
    clear hq
    go_wp2_with fail
    go_ret
    exact ⟨rfl, (unhide HK1).below (Nat.le_refl _) (by simp)⟩
  | false =>
    obtain ⟨hn, hps⟩ := hq rfl
    have HPS := hide hps
    clear hq hps
    go_wp2_with fail
    refine (gdeeds53 a2 n2 c2 st2 w1 ((unhide HS2).kp0 (unhide HK1))).mono ?_
    rintro e w1' ⟨q, rfl, hq, hw'⟩
    subst w1'
    cases q with
    | true =>
      clear hq
      go_wp2_with fail
      go_ret
      exact ⟨rfl, (unhide HK1).below (Nat.le_refl _) (by simp)⟩
    | false =>
      obtain ⟨hn2, hps2⟩ := hq rfl
      clear hq hps2
      by_cases hm1 : md < 1
      · go_wp2_with fail
        go_ret
        exact ⟨rfl, (unhide HK1).below (Nat.le_refl _) (by simp)⟩
      by_cases hm3 : 3 < md
      · go_wp2_with fail
        go_ret
        exact ⟨rfl, (unhide HK1).below (Nat.le_refl _) (by simp)⟩
      go_wp2_with fail
      refine (tables_tbx a n1 c st w w1 (unhide HS) (unhide HK1) hn (unhide HPS)).mono ?_
      rintro e w2 ⟨tb, sb, f, n, rfl, HT⟩
      go_wp2_with fail
      refine (tbx_last (unhide HT)).mono ?_
      rintro e w2' ⟨rfl, hw2⟩
      subst w2'
      go_wp2_with fail
      refine (tdx_new md n (unhide HT) (by omega)).mono ?_
      rintro e w3 ⟨db, rfl, H3⟩
      have HD0 : Hid (Drd w (w3.alloc (.cells (farr (fun _ => 0)) 103)) tb db w3.heap.size f n md [] [] (fun _ => 0)) := ⟨(unhide H3).alloc _, heap_alloc_new _ _⟩
      clear HT H3
      go_wp2_with fail
      have HD0' : Hid (Drd w (w3.alloc (.cells #[.int .i64 0, .int .i64 0, .int .i64 0, .int .i64 0, .int .i64 0, .int .i64 0, .int .i64 0, .int .i64 0] 103)) tb db w3.heap.size f n md [] [] (fun _ => 0)) := HD0
      clear HD0
      generalize w3.alloc (.cells #[.int .i64 0, .int .i64 0, .int .i64 0, .int .i64 0, .int .i64 0, .int .i64 0, .int .i64 0, .int .i64 0] 103) = W3 at *
      generalize w3.heap.size = fb at *
      go_loopw [12] (fun i wr => ∃ (k : Nat) (rs : List Int) (ws : List Ver) (u : Nat → Int), k ≤ n2 ∧ i = .int .i64 k ∧ Hid (Drd w wr tb db fb f n md rs ws u) ∧ Hid (Fir rs ws u md)) (fun i _ => n2 - (intOf i).toNat)
      case atStart => exact ⟨0, [], [], _, Nat.zero_le _, rfl, HD0', fir_nil md⟩
      case round =>
        obtain ⟨k, rs, ws, u, hk, rfl, HD, HF⟩ := hrel
        by_cases hlt : k < n2
        · obtain ⟨lb, lo, rfl, hst⟩ := (unhide HS2).2 (by omega)
          have s1 := (hst k hlt).kp0 (unhide HD).t.kp
          have q0 := s1.c0
          have q1 := s1.c1
          have q2 := s1.c2
          have q3 := s1.c3
          have q4 : wr.cell? ⟨lb, lo + k * 6 + 4, none⟩ = some (.string (st2 k).s) := s1.c4
          have q5 := s1.c5
          have hsz := s1.str
          have i0 : (0 : Int) ≤ (k : Int) := by omega
          have i1 : (k : Int) < (n2 : Int) := by omega
          clear s1 hst
          generalize (st2 k).d = d at *
          generalize (st2 k).k = kk at *
          generalize (st2 k).to_ = to_ at *
          generalize (st2 k).t = t at *
          generalize (st2 k).s = s at *
          generalize (st2 k).a = sa at *
          generalize (st2 k).ps.length = sl at *
          generalize (st2 k).c = sc at *
          have HV := hide (stv_new wr d kk to_ t s (.slice sa sl sc))
          have HD1 := hide ((unhide HD).kp0 ((Kp.refl [] wr).alloc (.cells #[.int .i64 d, .int .i64 kk, .int .i64 to_, .bool t, .string s, .slice sa sl sc] 89)))
          have hdx : db < wr.heap.size := (unhide HD).t.d.lt
          have hfx : fb < wr.heap.size := (unhide HD).lt
          go_wp2_with fail
          generalize wr.alloc (.cells #[.int .i64 d, .int .i64 kk, .int .i64 to_, .bool t, .string s, .slice sa sl sc] 89) = W at *
          generalize wr.heap.size = xb at *
          have hndb : db ≠ xb := by omega
          have hnfb : fb ≠ xb := by omega
          clear q0 q1 q2 q3 q4 q5 hdx hfx
          have x0 := (unhide HV).c0
          have x1 := (unhide HV).c1
          have x3 := (unhide HV).c3
          have x4 := (unhide HV).c4
          have hxl := (unhide HV).lt
          refine (key12 _ _).mono ?_
          rintro e w' ⟨rfl, hw'⟩
          subst w'
          by_cases hd0 : d = 0
          · subst hd0
            by_cases hkk : keyB kk = true
            · rw [hkk]
              obtain ⟨j, hj, rfl⟩ := keyB_nat hkk
              clear hkk
              have j0 : (0 : Int) ≤ (j : Int) := by omega
              have j1 : (j : Int) < 8 := by omega
              go_wp2_with fail
              refine (drd_get (j : Int) (unhide HD1)).mono ?_
              rintro e w4 ⟨rfl, HD4, HK4⟩
              have y1 := ((unhide HV).kp (unhide HK4) (by simp; omega)).c1
              have hxl4 := ((unhide HV).kp (unhide HK4) (by simp; omega)).lt
              have z1 := (unhide HD4).cell hj
              have z2 := (unhide HD4).frozen j
              have hfl4 := (unhide HD4).lt
              clear x0 x1 x3 x4 HD HD1 HV HK4
              by_cases h0 : (dg f n n ws j).a = 0
              · by_cases hu : u j = 0
                · have HF2 := hide ((unhide HF).getNew (f := f) (n := n) (y := n) hj h0 hu)
                  have HD5 := hide (((unhide HD4).set hj 1).kp0 ((Kp.refl [] _).alloc (.cells #[.bool (dg f n n ws j).t, .string (dg f n n ws j).s] 24)))
                  rw [h0]
                  rw [hu] at z1
                  clear h0 hu HD4
                  generalize (dg f n n ws j).t = gt at *
                  generalize (dg f n n ws j).s = gs at *
                  go_wp2_with fail
                  exact ⟨⟨k + 1, _, _, _, by omega, by go_num, HD5, HF2⟩, by simp [intOf]; omega⟩
                · have HF2 := hide ((unhide HF).getOld (f := f) (n := n) (y := n) hj hu)
                  have HD5 := hide ((unhide HD4).kp0 ((Kp.refl [] w4).alloc (.cells #[.bool (dg f n n ws j).t, .string (dg f n n ws j).s] 24)))
                  have eu : (u j == 0) = false := beq_eq_false_iff_ne.2 hu
                  rw [h0]
                  clear h0 hu HD4
                  generalize (dg f n n ws j).t = gt at *
                  generalize (dg f n n ws j).s = gs at *
                  go_wp2_with fail
                  exact ⟨⟨k + 1, _, _, _, by omega, by go_num, HD5, HF2⟩, by simp [intOf]; omega⟩
              · have HF2 := hide ((unhide HF).getCode (f := f) (n := n) (y := n) (j := j) h0)
                have HD5 := hide ((unhide HD4).kp0 ((Kp.refl [] w4).alloc (.cells #[.bool (dg f n n ws j).t, .string (dg f n n ws j).s] 24)))
                have eg : ((dg f n n ws j).a == 0) = false := beq_eq_false_iff_ne.2 h0
                clear h0 HD4
                generalize (dg f n n ws j).t = gt at *
                generalize (dg f n n ws j).s = gs at *
                generalize (dg f n n ws j).a = ga at *
                go_wp2_with fail
                exact ⟨⟨k + 1, _, _, _, by omega, by go_num, HD5, HF2⟩, by simp [intOf]; omega⟩
            · have hkk2 : keyB kk = false := by simpa using hkk
              rw [hkk2]
              clear hkk
              go_wp2_with fail
              refine (drd_get kk (unhide HD1)).mono ?_
              rintro e w4 ⟨rfl, HD4, HK4⟩
              rw [dg_out hkk2]
              rw [dr_out hkk2] at HD4
              have HD5 := hide ((unhide HD4).kp0 ((Kp.refl [] w4).alloc (.cells #[.bool false, .string ByteArray.empty] 24)))
              clear x0 x1 x3 x4 HD HD1 HV HK4 HD4
              go_wp2_with fail
              exact ⟨⟨k + 1, _, _, _, by omega, by go_num, HD5, HF⟩, by simp [intOf]; omega⟩
          · have ed0 : (d == 0) = false := beq_eq_false_iff_ne.2 hd0
            by_cases hd1 : d = 1
            · subst hd1
              clear hd0 ed0
              by_cases hc : dpc md kk t s = 0
              · obtain ⟨hkk, hm⟩ := dpc_zero hc
                rw [hkk]
                obtain ⟨j, hj, rfl⟩ := keyB_nat hkk
                clear hkk
                have j0 : (0 : Int) ≤ (j : Int) := by omega
                have j1 : (j : Int) < 8 := by omega
                go_wp2_with fail
                refine (drd_put (j : Int) t s (unhide HD1) hsz).mono ?_
                rintro e w4 ⟨rfl, HD4, HK4⟩
                rw [hc]
                rw [dpw_yes hc] at HD4
                have y1 := ((unhide HV).kp (unhide HK4) (by simp; omega)).c1
                have z1 := (unhide HD4).cell hj
                have z2 := (unhide HD4).frozen j
                clear x0 x1 x3 x4 HD HD1 HV HK4 hc
                by_cases hu : u j = 0
                · have HF2 := hide ((unhide HF).putNew (t := t) (s := s) hj hm hu)
                  have HD5 := hide ((unhide HD4).set hj 2)
                  rw [hu] at z1
                  clear hu HD4
                  go_wp2_with fail
                  exact ⟨⟨k + 1, _, _, _, by omega, by go_num, HD5, HF2⟩, by simp [intOf]; omega⟩
                · have HF2 := hide ((unhide HF).putOld (t := t) (s := s) hm hu)
                  have eu : (u j == 0) = false := beq_eq_false_iff_ne.2 hu
                  clear hu
                  go_wp2_with fail
                  exact ⟨⟨k + 1, _, _, _, by omega, by go_num, HD4, HF2⟩, by simp [intOf]; omega⟩
              · go_wp2_with fail
                refine (drd_put kk t s (unhide HD1) hsz).mono ?_
                rintro e w4 ⟨rfl, HD4, HK4⟩
                rw [dpw_not hc] at HD4
                have ec : (dpc md kk t s == 0) = false := beq_eq_false_iff_ne.2 hc
                clear x0 x1 x3 x4 HD HD1 HV HK4 hc
                generalize dpc md kk t s = cc at *
                go_wp2_with fail
                exact ⟨⟨k + 1, _, _, _, by omega, by go_num, HD4, HF⟩, by simp [intOf]; omega⟩
            · have ed1 : (d == 1) = false := beq_eq_false_iff_ne.2 hd1
              go_wp2_with fail
              exact ⟨⟨k + 1, _, _, _, by omega, by go_num, HD1, HF⟩, by simp [intOf]; omega⟩
        · go_wp2_with fail
          refine (tdx_reads (unhide HD).t).mono ?_
          rintro e w5 ⟨ra, rc, rfl, HL5, _, HK5⟩
          have HD5 := hide ((unhide HD).kp0 (unhide HK5))
          clear HD HK5
          go_wp2_with fail
          refine (tdx_writes' (unhide HD5).t).mono ?_
          rintro e w6 ⟨wa, wc, rfl, HW6, HFR, HK6⟩
          have HD6 := hide ((unhide HD5).kp0 (unhide HK6))
          have HL6 := hide ((unhide HL5).kp0 (unhide HK6))
          clear HD5 HL5 HK6
          have hrl := rk_len rs 8
          have hwl := wk_len ws 8
          have HRP := hide (rk_props rs 8)
          have HWP := hide (wk_props ws 8)
          have HRM : Hid (∀ k : Nat, k < 8 → ((k : Int) ∈ rk rs 8 ↔ u k = 1)) := fun k hk8 => ⟨fun hm => ((unhide HF).r k hk8).1 (mem_rk 8 hm), fun hu => rk_mem 8 hk8 (((unhide HF).r k hk8).2 hu)⟩
          have HWN : Hid (md = 3 → (wk ws 8).length = 0) := fun e => by rw [(unhide HF).l e, wk_nil]; rfl
          generalize rk rs 8 = L at *
          go_wp2_with fail
          go_loopw [19] (fun i wr => ∃ k : Nat, k ≤ L.length ∧ i = .int .i64 k ∧ Hid (Kp [] w6 wr)) (fun i _ => L.length - (intOf i).toNat)
          case atStart => exact ⟨0, Nat.zero_le _, rfl, Kp.refl _ _⟩
          case round =>
            obtain ⟨d, hd, rfl, HK⟩ := hrel
            by_cases hltd : d < L.length
            · obtain ⟨g, o, rfl, hs⟩ := (unhide HL6).kp0 (unhide HK) (by omega)
              obtain ⟨p1, p2, p3⟩ := (unhide HRP).1 d hltd
              obtain ⟨j, hj, hv⟩ : ∃ j : Nat, j < 8 ∧ ig L d = (j : Int) := ⟨(ig L d).toNat, by omega, by omega⟩
              have hkb : keyB (j : Int) = true := by simp [keyB]; omega
              have hu : u j = 1 := ((unhide HF).r j hj).1 (by rw [← hv]; exact p3)
              have qd := hs d hltd
              rw [hv] at qd
              have z1 := ((unhide HD6).kp0 (unhide HK)).cell hj
              rw [hu] at z1
              have HKB := hide hkb
              have j0 : (0 : Int) ≤ (j : Int) := by omega
              have j1 : (j : Int) < 8 := by omega
              have i0 : (0 : Int) ≤ (d : Int) := by omega
              have i1 : (d : Int) < (L.length : Int) := by omega
              cases d with
              | zero =>
                have gd0 : decide ((0 : Int) > 0) = false := by decide
                have qd' : wr.cell? ⟨g, o, none⟩ = some (.int .i64 j) := qd
                clear hs p1 p2 p3 hkb hu qd
                go_wp2_with fail
                go_quiet ((go_at_call 21; exact Calls.quiet_of_same ((key12 _ _).mono (fun e w' q => ⟨by rw [q.1, unhide HKB], q.2⟩))))
                go_wp2_with fail
                exact ⟨⟨1, by omega, by go_num, (unhide HK).drewN _⟩, by simp [intOf]; omega⟩
              | succ d =>
                have qp := hs d (by omega)
                have hris := (unhide HRP).2 d hltd
                rw [hv] at hris
                generalize ig L d = y at *
                have gd0 : decide ((d : Int) + 1 > 0) = true := decide_eq_true (by omega)
                have gd1 : decide (y ≥ (j : Int)) = false := decide_eq_false (by omega)
                have gd2 : (0 : Int) < (d : Int) + 1 := by omega
                have k0 : (0 : Int) ≤ (d : Int) := by omega
                have k1 : (d : Int) < (L.length : Int) := by omega
                push_cast at i0 i1
                clear hs p1 p2 p3 hkb hu hv
                push_cast
                go_wp2_with fail
                go_quiet ((go_at_call 21; exact Calls.quiet_of_same ((key12 _ _).mono (fun e w' q => ⟨by rw [q.1, unhide HKB], q.2⟩))))
                go_wp2_with fail
                exact ⟨⟨d + 2, by omega, by go_num, (unhide HK).drewN _⟩, by simp [intOf]; omega⟩
            · go_wp2_with fail
              have HD7 := hide ((unhide HD6).kp0 (unhide HK))
              have HL7 := hide ((unhide HL6).kp0 (unhide HK))
              have HW7 := hide ((unhide HW6).kp0 (unhide HK))
              clear HD6 HL6 HW6 HK
              generalize wr = W7 at *
              go_loopw [20] (fun i wr => ∃ k : Nat, k ≤ 8 ∧ i = .int .i64 k ∧ wr = W7) (fun i _ => 8 - (intOf i).toNat)
              case atStart => exact ⟨0, by omega, rfl, rfl⟩
              case round =>
                obtain ⟨k3, hk3, rfl, hwr⟩ := hrel
                subst hwr
                by_cases hlt8 : k3 < 8
                · have z1 := (unhide HD7).cell hlt8
                  have j0 : (0 : Int) ≤ (k3 : Int) := by omega
                  have j1 : (k3 : Int) < 8 := by omega
                  by_cases hu : u k3 = 1
                  · have hmm : decide ((k3 : Int) ∈ L) = true := decide_eq_true (((unhide HRM) k3 hlt8).2 hu)
                    rw [hu] at z1
                    clear hu
                    go_wp2_with fail
                    refine (in72 ra rc k3 _ (unhide HL7) (by omega)).mono ?_
                    rintro e w' ⟨rfl, hw'⟩
                    subst w'
                    rw [hmm]
                    clear hmm
                    go_wp2_with fail
                    exact ⟨⟨k3 + 1, by omega, by go_num, trivial⟩, by simp [intOf]; omega⟩
                  · have eu : (u k3 == 1) = false := beq_eq_false_iff_ne.2 hu
                    clear hu
                    go_wp2_with fail
                    exact ⟨⟨k3 + 1, by omega, by go_num, trivial⟩, by simp [intOf]; omega⟩
                · have H8 : Hid (Dw4 w wr tb db f n md rs ws wa) := ⟨(unhide HD7).t.sub (by simp), unhide HW7, unhide HFR⟩
                  clear HD7 HL7 HW7
                  go_wp2_with fail
                  go_loopw [21] (fun i wr => ∃ k : Nat, k ≤ (wk ws 8).length ∧ i = .int .i64 k ∧ Hid (Dw4 w wr tb db f n md rs ws wa)) (fun i _ => (wk ws 8).length - (intOf i).toNat)
                  case atStart => exact ⟨0, Nat.zero_le _, rfl, H8⟩
                  case round =>
                    obtain ⟨d, hd, rfl, HQ⟩ := hrel
                    by_cases hltd : d < (wk ws 8).length
                    · obtain ⟨g, o, rfl, hs⟩ := (unhide HQ).l (by omega)
                      obtain ⟨j, hj, hv, v, hlw, hvt, hvb⟩ := (unhide HWP).1 d hltd
                      have hkb : keyB (j : Int) = true := by simp [keyB]; omega
                      have qd0 := hs.at0 d hltd
                      have qd1 := hs.at1 d hltd
                      have qd2 := hs.at2 d hltd
                      rw [hv] at qd0
                      rw [hvt] at qd1
                      rw [hvb] at qd2
                      have HKB := hide hkb
                      have HLW := hide hlw
                      have j0 : (0 : Int) ≤ (j : Int) := by omega
                      have j1 : (j : Int) < 8 := by omega
                      have i0 : (0 : Int) ≤ (d : Int) := by omega
                      have i1 : (d : Int) < ((wk ws 8).length : Int) := by omega
                      have heq := fun w => eq24 9998 v.t v.s w
                      cases d with
                      | zero =>
                        have gd0 : decide ((0 : Int) > 0) = false := by decide
                        have qa : wr.cell? ⟨g, o, none⟩ = some (.int .i64 j) := by simpa using qd0
                        have qb : wr.cell? ⟨g, o + 1, none⟩ = some (.bool v.t) := by simpa using qd1
                        have qc : wr.cell? ⟨g, o + 2, none⟩ = some (.string v.s) := by simpa using qd2
                        clear hs hkb hlw hvt hvb qd0 qd1 qd2
                        go_wp2_with fail
                        go_quiet ((go_at_call 21; exact Calls.quiet_of_same ((key12 _ _).mono (fun e w' q => ⟨by rw [q.1, unhide HKB], q.2⟩))))
                        have HT1 := hide ((unhide HQ).t.kp0 (((Kp.refl [] wr).alloc (.cells #[.int .i64 j, .bool v.t, .string v.s] 72)).drewN nq))
                        have hpb : wr.heap.size < ((wr.alloc (.cells #[.int .i64 j, .bool v.t, .string v.s] 72)).drewN nq).heap.size := by simp
                        have hdb : db < wr.heap.size := (unhide HQ).t.d.lt
                        have x0 : ((wr.alloc (.cells #[.int .i64 j, .bool v.t, .string v.s] 72)).drewN nq).cell? ⟨wr.heap.size, 0, none⟩ = some (.int .i64 j) := by simp
                        have x1 : ((wr.alloc (.cells #[.int .i64 j, .bool v.t, .string v.s] 72)).drewN nq).cell? ⟨wr.heap.size, 1, none⟩ = some (.bool v.t) := by simp
                        have x2 : ((wr.alloc (.cells #[.int .i64 j, .bool v.t, .string v.s] 72)).drewN nq).cell? ⟨wr.heap.size, 2, none⟩ = some (.string v.s) := by simp
                        have HKQ := hide (((Kp.refl [] wr).alloc (.cells #[.int .i64 j, .bool v.t, .string v.s] 72)).drewN nq)
                        have npb : wr.heap.size ∉ [db] := by simp; omega
                        go_wp2_with fail
                        refine (tdx_get (j : Int) (unhide HT1)).mono ?_
                        rintro e w9 ⟨rfl, HT9, HK9⟩
                        rw [dg_own (unhide HKB) (unhide HLW)]
                        rw [dr_own (unhide HLW)] at HT9
                        have y1 := (unhide HK9).cell (p := ⟨wr.heap.size, 1, none⟩) npb x1
                        have y2 := (unhide HK9).cell (p := ⟨wr.heap.size, 2, none⟩) npb x2
                        have hp9 : wr.heap.size < w9.heap.size := Nat.lt_of_lt_of_le hpb (unhide HK9).size
                        have H10 := hide ((unhide HQ).kp (w' := w9.alloc (.cells #[.bool v.t, .string v.s] 24)) ((unhide HT9).kp0 ((Kp.refl [] w9).alloc _)) ((((unhide HKQ).mono (T := [db]) (by simp)).trans (unhide HK9) (by simp)).alloc _))
                        clear x0 x1 x2 HT1 HT9 HK9 HKQ npb hpb hdb
                        go_wp2_with fail
                        exact ⟨⟨1, by omega, by go_num, H10⟩, by simp [intOf]; omega⟩
                      | succ d =>
                        have qp := hs.at0 d (by omega)
                        have hris := (unhide HWP).2 d hltd
                        rw [hv] at hris
                        generalize va (wk ws 8) d = y at *
                        have gd0 : decide ((d : Int) + 1 > 0) = true := decide_eq_true (by omega)
                        have gd1 : decide (y ≥ (j : Int)) = false := decide_eq_false (by omega)
                        have gd2 : (0 : Int) < (d : Int) + 1 := by omega
                        have k0 : (0 : Int) ≤ (d : Int) := by omega
                        have k1 : (d : Int) < ((wk ws 8).length : Int) := by omega
                        push_cast at i0 i1
                        have hgl := hs.lt (by omega)
                        clear hs hkb hlw hvt hvb hv
                        push_cast
                        go_wp2_with fail
                        go_quiet ((go_at_call 21; exact Calls.quiet_of_same ((key12 _ _).mono (fun e w' q => ⟨by rw [q.1, unhide HKB], q.2⟩))))
                        have HT1 := hide ((unhide HQ).t.kp0 (((Kp.refl [] wr).alloc (.cells #[.int .i64 j, .bool v.t, .string v.s] 72)).drewN nq))
                        have hpb : wr.heap.size < ((wr.alloc (.cells #[.int .i64 j, .bool v.t, .string v.s] 72)).drewN nq).heap.size := by simp
                        have hdb : db < wr.heap.size := (unhide HQ).t.d.lt
                        have x0 : ((wr.alloc (.cells #[.int .i64 j, .bool v.t, .string v.s] 72)).drewN nq).cell? ⟨wr.heap.size, 0, none⟩ = some (.int .i64 j) := by simp
                        have x1 : ((wr.alloc (.cells #[.int .i64 j, .bool v.t, .string v.s] 72)).drewN nq).cell? ⟨wr.heap.size, 1, none⟩ = some (.bool v.t) := by simp
                        have x2 : ((wr.alloc (.cells #[.int .i64 j, .bool v.t, .string v.s] 72)).drewN nq).cell? ⟨wr.heap.size, 2, none⟩ = some (.string v.s) := by simp
                        have HKQ := hide (((Kp.refl [] wr).alloc (.cells #[.int .i64 j, .bool v.t, .string v.s] 72)).drewN nq)
                        have npb : wr.heap.size ∉ [db] := by simp; omega
                        go_wp2_with fail
                        refine (tdx_get (j : Int) (unhide HT1)).mono ?_
                        rintro e w9 ⟨rfl, HT9, HK9⟩
                        rw [dg_own (unhide HKB) (unhide HLW)]
                        rw [dr_own (unhide HLW)] at HT9
                        have y1 := (unhide HK9).cell (p := ⟨wr.heap.size, 1, none⟩) npb x1
                        have y2 := (unhide HK9).cell (p := ⟨wr.heap.size, 2, none⟩) npb x2
                        have hp9 : wr.heap.size < w9.heap.size := Nat.lt_of_lt_of_le hpb (unhide HK9).size
                        have H10 := hide ((unhide HQ).kp (w' := w9.alloc (.cells #[.bool v.t, .string v.s] 24)) ((unhide HT9).kp0 ((Kp.refl [] w9).alloc _)) ((((unhide HKQ).mono (T := [db]) (by simp)).trans (unhide HK9) (by simp)).alloc _))
                        clear x0 x1 x2 HT1 HT9 HK9 HKQ npb hpb hdb
                        go_wp2_with fail
                        exact ⟨⟨d + 2, by omega, by go_num, H10⟩, by simp [intOf]; omega⟩
                    · by_cases hm : md = 3
                      · have h0 := (unhide HWN) hm
                        subst hm
                        have e0 : d = 0 := by omega
                        subst e0
                        rw [h0]
                        go_wp2_with fail
                        go_ret
                        exact ⟨rfl, (unhide HQ).t.kp.below (Nat.le_refl _) (by simp)⟩
                      · have em : (md != 3) = true := by simp [bne, beq_eq_false_iff_ne.2 hm]
                        go_wp2_with fail
                        go_ret
                        exact ⟨rfl, (unhide HQ).t.kp.below (Nat.le_refl _) (by simp)⟩
end Go.Proofs.Ytainekjcdmabbaa
