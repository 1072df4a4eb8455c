/- The document's pairs of bytes, by their contract. -/
import Derived.Test.YtfcfoabdangfhabQ7
import Derived.Test.YtfcfoabdangfhabT4
namespace Go.Proofs.Ytfcfoabdangfhab
open Go.RowKit
set_option maxRecDepth 20000
attribute [local go_sem ↓] Go.wp_at_zero Go.wp_at_succ

theorem RpI.fin {R : Option (List Ver)} {w : World} {acc : List Ver} {a : Option Addr} {cap : Nat} {ab : Option Addr} {nb cb : Nat} {bs : List UInt8} {wr : World} (h : RpI R w 0 acc a cap ab nb cb bs wr) : (nb = 0 → R = some acc) ∧ (nb ≠ 0 → R = none) := by
  have hg := h.goes
  have hl := h.len
  refine ⟨fun e => ?_, fun e => ?_⟩
  · have e3 : bs = [] := List.eq_nil_of_length_eq_zero (by omega)
    subst e3
    rw [← hg]; simp [rp]
  · have e3 : ¬ bs = [] := fun e => by subst e; simp at hl; omega
    rw [← hg]; simp [rp, e3]

/-- What is left of the first x bytes behind the first p. -/
def lft (bs : List UInt8) (x p : Nat) : List UInt8 := (bs.take x).drop p
theorem lft_len (bs : List UInt8) {x p : Nat} (hx : x ≤ bs.length) : (lft bs x p).length = x - p := by simp [lft]; omega
theorem lft_ub (bs : List UInt8) {x p k : Nat} (h : p + k < x) : ub (lft bs x p) k = ub bs (p + k) := by unfold lft; rw [ub_drop, ub_take _ h]
theorem lft_drop (bs : List UInt8) (x p z : Nat) : (lft bs x p).drop z = lft bs x (p + z) := by unfold lft; rw [List.drop_drop]
theorem lft_str (bs : List UInt8) {x p k : Nat} (h : p + 2 + k ≤ x) : ((lft bs x p).take (2 + k)).drop 2 = (bs.take (p + 2 + k)).drop (p + 2) := by
  unfold lft
  rw [List.take_drop, List.take_take, List.drop_drop, show min (p + (2 + k)) x = p + 2 + k by omega]

theorem lft_end {bs : List UInt8} {x p : Nat} (hx : x ≤ bs.length) (h : x < p + 2) : (rd1 (lft bs x p)).2.2 = false := by
  unfold rd1; rw [if_pos (by rw [lft_len bs hx]; omega)]
theorem lft_none {bs : List UInt8} {x p : Nat} (hx : x ≤ bs.length) (h : p + 2 ≤ x) (hk : ub bs (p + 1) = 255) : rd1 (lft bs x p) = (⟨ub bs p, false, ⟨#[]⟩⟩, 2, true) := by
  unfold rd1; rw [if_neg (by rw [lft_len bs hx]; omega), lft_ub bs (by omega), if_pos hk, lft_ub bs (by omega)]; rfl
theorem lft_far {bs : List UInt8} {x p : Nat} (hx : x ≤ bs.length) (h : p + 2 ≤ x) (hk : ub bs (p + 1) ≠ 255) (hl : x < p + 2 + ub bs (p + 1)) : (rd1 (lft bs x p)).2.2 = false := by
  unfold rd1; rw [if_neg (by rw [lft_len bs hx]; omega), lft_ub bs (by omega), if_neg hk, if_pos (by rw [lft_len bs hx]; omega)]
theorem lft_some {bs : List UInt8} {x p : Nat} (hx : x ≤ bs.length) (h : p + 2 ≤ x) (hk : ub bs (p + 1) ≠ 255) (hl : p + 2 + ub bs (p + 1) ≤ x) : rd1 (lft bs x p) = (⟨ub bs p, true, ⟨((bs.take (p + 2 + ub bs (p + 1))).drop (p + 2)).toArray⟩⟩, 2 + ub bs (p + 1), true) := by
  unfold rd1; rw [if_neg (by rw [lft_len bs hx]; omega), lft_ub bs (by omega), if_neg hk, if_neg (by rw [lft_len bs hx]; omega), lft_ub bs (by omega), lft_str bs hl]; rfl

theorem RpI.go {R : Option (List Ver)} {w : World} {m : Nat} {acc : List Ver} {a : Option Addr} {cap g o x p : Nat} {bs : List UInt8} {wr W w2 : World} (h : RpI R w (m + 1) acc a cap (some ⟨g, o + p, none⟩) (x - p) (x - p) (lft bs x p) wr) {v : Ver} {sz : Nat} (hv : rd1 (lft bs x p) = (v, sz, true)) (hs : SlU w g o bs)
    (hw : Kp [] wr W) {g2 cap2 : Nat} (hown : w2.ownsRow w.heap.size 40 3 (.slice (some ⟨g2, 0, none⟩) (acc.length + 1) cap2) (acc.length + 1) (vcells acc ++ [.int .i64 v.a, .bool v.t, .string v.s]))
    (hgrow : W.grownBy w2 (Value.slice a acc.length cap).ownBlock) (q : Nat) (hq : q = p + sz) : RpI R w m (acc ++ [v]) (some ⟨g2, 0, none⟩) cap2 (some ⟨g, o + q, none⟩) (x - q) (x - q) (lft bs x q) w2 := by
  subst hq
  have := h.next (by rw [hv]) (v := v) (sz := sz) (by rw [hv]) (by rw [hv]) hw hown hgrow (ab' := some ⟨g, o + (p + sz), none⟩) (by rw [lft_drop]; exact fun _ => ⟨g, _, rfl, (hs.take x).drop (p + sz)⟩)
  rw [lft_drop, Nat.sub_sub] at this
  exact this

set_option maxHeartbeats 4000000 in
theorem pairsOf13 (a : Option Addr) (n c : Nat) (bs : List UInt8) (w : World) (h : Byt w a bs) (hn : n = bs.length) (hc : n ≤ c) (hm : bs.length ≤ 10000) :
    Calls Try.prog 17 #[.slice a n c] w fun e w' => DecEnd (dec bs) w e w' := by
  obtain ⟨ti, hi0, hz0, hz1, hz2⟩ := info_parts Try.info40
  by_cases h0 : bs.length = 0
  · have hd := dec_short0 h0
    generalize dec bs = D at *
    have HD := hide hd
    have hn0 : n = 0 := by omega
    subst hn0
    clear h hd hn h0
    go_enter Try.func17, Try.ntmps17
    go_wp2_with fail
    go_ret3
    exact decEnd_code 6 (unhide HD) (Kp.refl _ _)
  · obtain ⟨g, o, rfl, hs⟩ := h (by omega)
    have q0 := hs 0 (by omega)
    have u0 := ub_lt bs 0
    have HB := hide h
    have i0 : (0 : Int) < (n : Int) := by omega
    have j0 : 0 < n := by omega
    have j0' : ¬ n = 0 := by omega
    have j0'' : ¬ (n : Int) = 0 := by omega
    simp only [Nat.add_zero] at q0
    by_cases h1 : bs.length < ub bs 0
    · have hd := dec_short h1
      have k0 : (n : Int) < (ub bs 0 : Nat) := by omega
      generalize dec bs = D at *
      have HD := hide hd
      clear h hd hn h0 h1 hs
      generalize ub bs 0 = x at *
      go_enter Try.func17, Try.ntmps17
      go_wp2_with fail
      go_ret3
      exact decEnd_code 6 (unhide HD) (Kp.refl _ _)
    · have k0 : ¬ (n : Int) < (ub bs 0 : Nat) := by omega
      by_cases h2 : ub bs 0 < 2
      · have hd := dec_form h0 h1 h2
        generalize dec bs = D at *
        have HD := hide hd
        clear h hd hn h0 h1 hs
        generalize ub bs 0 = x at *
        go_enter Try.func17, Try.ntmps17
        go_wp2_with fail
        go_ret3
        exact decEnd_code 4 (unhide HD) (Kp.refl _ _)
      · have hd := dec_pairs h0 h1 h2
        have q1 := hs 1 (by omega)
        have u1 := ub_lt bs 1
        have i1 : (1 : Int) < (n : Int) := by omega
        have j1 : 1 < n := by omega
        have H0 : Hid (RpI (rp (ub bs 1) (lft bs (ub bs 0) 2)) w (ub bs 1) [] none 0 (some ⟨g, o + 2, none⟩) (ub bs 0 - 2) (ub bs 0 - 2) (lft bs (ub bs 0) 2) w) :=
          ⟨by simp, World.ownsRow_nil _ _ _ _, Kp.refl _ _, fun _ => ⟨g, _, rfl, (hs.take _).drop 2⟩, (lft_len bs (by omega)).symm, Nat.le_refl _, by rw [lft_len bs (by omega)]; omega⟩
        have hd' : dec bs = match rp (ub bs 1) (lft bs (ub bs 0) 2) with | none => ([], 0, 4) | some ws => if pf (-1) ws = 0 then (ws, ub bs 0, 0) else ([], 0, pf (-1) ws) := hd
        have HRB := hide (fun ws (h : rp (ub bs 1) (lft bs (ub bs 0) 2) = some ws) => rp_back h)
        have hx : ub bs 0 ≤ bs.length := by omega
        clear hd
        generalize dec bs = D at *
        generalize rp (ub bs 1) (lft bs (ub bs 0) 2) = R at *
        obtain ⟨x, ex⟩ : ∃ x, ub bs 0 = x := ⟨_, rfl⟩
        obtain ⟨y, ey⟩ : ∃ y, ub bs 1 = y := ⟨_, rfl⟩
        rw [ex] at q0 u0 H0 hd' hx h1 k0 h2
        rw [ey] at q1 u1 H0 HRB
        have HD := hide hd'
        have HX := hide hx
        have HS := hide hs
        have HN := hide hn
        clear h hd' hn h0 h1 hs hx ex ey
        go_enter Try.func17, Try.ntmps17
        go_wp2_with fail
        go_loopw [6, 7, 8] (fun t s i wr => ∃ (k p : Nat) (acc : List Ver) (a : Option Addr) (cap : Nat), k ≤ y ∧ p ≤ x ∧ acc.length ≤ k ∧ t = .int .i64 p ∧ s = .slice a acc.length cap ∧ i = .int .i64 k ∧ Hid (RpI R w (y - k) acc a cap (some ⟨g, o + p, none⟩) (x - p) (x - p) (lft bs x p) wr)) (fun _ _ i _ => y - (intOf i).toNat)
        case atStart => exact ⟨0, 2, [], none, 0, by omega, by omega, by simp, rfl, rfl, rfl, H0⟩
        case round =>
          clear H0 q0
          obtain ⟨k, p, acc, a, cap, hk, hp, hal, rfl, rfl, rfl, HE⟩ := hrel
          have q1' : wr.cell? ⟨g, o + 1, none⟩ = some (.int .u8 y) := (unhide HE).kp.cell (by simp) q1
          by_cases hlt : k < y
          · have hky : (k : Int) < (y : Int) := by omega
            rw [show y - k = (y - (k + 1)) + 1 by omega] at HE
            by_cases c1 : x < p + 2
            · have f1 : (x : Int) < (p : Int) + 2 := by omega
              have HR := hide ((unhide HE).fail (lft_end (unhide HX) c1))
              go_wp2_with fail
              go_ret3
              exact decEnd_code 4 (by have := unhide HD; rw [unhide HR] at this; exact this) (unhide HE).kp
            · have f1 : ¬ (x : Int) < (p : Int) + 2 := by omega
              have hnx : x ≤ n := by have := unhide HN; have := unhide HX; omega
              have r0 : wr.cell? ⟨g, o + p, none⟩ = some (.int .u8 (ub bs p : Nat)) := (unhide HE).kp.cell (by simp) (unhide HS p (by have := unhide HX; omega))
              have r1 : wr.cell? ⟨g, o + (p + 1), none⟩ = some (.int .u8 (ub bs (p + 1) : Nat)) := (unhide HE).kp.cell (by simp) (unhide HS (p + 1) (by have := unhide HX; omega))
              have hg : g < wr.heap.size := World.block_lt_of_cell? wr _ r0
              have v0 := ub_lt bs p
              have v1 := ub_lt bs (p + 1)
              have s0 : (p : Int) < (n : Int) := by omega
              have s1 : (p : Int) + 1 < (n : Int) := by omega
              by_cases c2 : ub bs (p + 1) = 255
              · have HV := hide (lft_none (unhide HX) (by omega) c2)
                rw [c2] at r1
                clear c2 v1
                go_wp2_with (at_builtin; refine wpList_append_lies _ rfl _ _ 22 rfl w.heap.size 40 ti _ 3 32 Try.underlying22 hi0 hz0 hz1 hz2 rfl (by omega) (.slice a acc.length cap) acc.length (vcells acc) rfl (own_kp0 (unhide HE).own (((Kp.refl [] wr).alloc _).alloc _)) ⟨wr.heap.size + 1, 0, none⟩ 1 1 [.int .i64 (ub bs p : Nat), .bool false, .string ⟨#[]⟩] (by rfl) (by rfl) (World.news_of_block (cs := #[.int .i64 (ub bs p : Nat), .bool false, .string ⟨#[]⟩]) (t := 40) (fr := (0, 0)) (by have := heap_alloc_new (wr.alloc (.cells #[.int .i64 (ub bs p : Nat), .bool false, .string ⟨#[]⟩] 40)) (.cells #[.int .i64 (ub bs p : Nat), .bool false, .string ⟨#[]⟩] 40); simpa using this)) (by simp [Value.oneCell']) (by omega) (by unfold maxLen; omega) (by omega) (by have := (unhide HE).kp.size; simp; omega) _ rfl ?_; intro g2 cap2 w2 hown hgrow hat hlt2; have HE2 := hide ((unhide HE).go (unhide HV) (unhide HS) (((Kp.refl [] wr).alloc _).alloc _) hown hgrow (p + 2) (by omega)); clear hown hgrow hat)
                exact ⟨⟨k + 1, p + 2, _, _, _, by omega, by omega, by simp; omega, by go_num, by simp, by go_num, HE2⟩, by simp [intOf]; omega⟩
              · have f2 : ¬ ((ub bs (p + 1) : Nat) : Int) = 255 := by omega
                by_cases c3 : x < p + 2 + ub bs (p + 1)
                · have f3 : (x : Int) < (p : Int) + 2 + (ub bs (p + 1) : Nat) := by omega
                  have HR := hide ((unhide HE).fail (lft_far (unhide HX) (by omega) c2 c3))
                  clear c2 c3
                  go_wp2_with fail
                  go_ret3
                  exact decEnd_code 4 (by have := unhide HD; rw [unhide HR] at this; exact this) ((unhide HE).kp.alloc _)
                · have f3 : ¬ (x : Int) < (p : Int) + 2 + (ub bs (p + 1) : Nat) := by omega
                  have HV := hide (lft_some (unhide HX) (by omega) c2 (by omega))
                  obtain ⟨a2, hsl, hb2⟩ := part_lh (unhide HB) (p + 2) (p + 2 + ub bs (p + 1)) c n (by omega) (by have := unhide HX; omega) (by have := unhide HN; omega) ((p : Int) + 2) ((p : Int) + 2 + (ub bs (p + 1) : Nat)) (by omega) (by omega)
                  have e2 : p + 2 + ub bs (p + 1) - (p + 2) = ub bs (p + 1) := by omega
                  rw [e2] at hsl
                  have hl2 : ub bs (p + 1) = ((bs.take (p + 2 + ub bs (p + 1))).drop (p + 2)).length := by have := unhide HX; simp; omega
                  have hcv := str_of hb2 (ub bs (p + 1)) (c - (p + 2)) hl2 (wr.alloc (.cells #[.int .i64 (ub bs p : Nat), .bool false, .string ⟨#[]⟩] 40)) ((unhide HE).kp.alloc _)
                  clear c2 c3 e2 hl2 hb2
                  generalize (bs.take (p + 2 + ub bs (p + 1))).drop (p + 2) = sb at *
                  generalize hkk : ub bs (p + 1) = kk at *
                  have HKK := hide hkk
                  clear hkk
                  go_wp2_with (at_builtin; refine wpList_append_lies _ rfl _ _ 22 rfl w.heap.size 40 ti _ 3 32 Try.underlying22 hi0 hz0 hz1 hz2 rfl (by omega) (.slice a acc.length cap) acc.length (vcells acc) rfl (own_kp0 (unhide HE).own (((Kp.refl [] wr).alloc _).alloc _)) ⟨wr.heap.size + 1, 0, none⟩ 1 1 [.int .i64 (ub bs p : Nat), .bool true, .string ⟨sb.toArray⟩] (by rfl) (by rfl) (World.news_of_block (cs := #[.int .i64 (ub bs p : Nat), .bool true, .string ⟨sb.toArray⟩]) (t := 40) (fr := (0, 0)) (by have := heap_alloc_new (wr.alloc (.cells #[.int .i64 (ub bs p : Nat), .bool true, .string ⟨sb.toArray⟩] 40)) (.cells #[.int .i64 (ub bs p : Nat), .bool true, .string ⟨sb.toArray⟩] 40); simpa using this)) (by simp [Value.oneCell']) (by omega) (by unfold maxLen; omega) (by omega) (by have := (unhide HE).kp.size; simp; omega) _ rfl ?_; intro g2 cap2 w2 hown hgrow hat hlt2; have HE2 := hide ((unhide HE).go (unhide HV) (unhide HS) (((Kp.refl [] wr).alloc _).alloc _) hown hgrow (p + 2 + kk) (by omega)); clear hown hgrow hat)
                  exact ⟨⟨k + 1, p + 2 + kk, _, _, _, by omega, by omega, by simp; omega, by go_num, by simp, by go_num, HE2⟩, by simp [intOf]; omega⟩
          · have e : k = y := by omega
            subst e
            rw [Nat.sub_self] at HE
            have hfin := (unhide HE).fin
            by_cases c1 : p = x
            · subst c1
              have hR := hfin.1 (by omega)
              have hd := unhide HD
              rw [hR] at hd
              simp only at hd
              obtain ⟨hw1, _, hw3⟩ := unhide HRB acc hR
              have hwl : acc.length ≤ 1000 := by omega
              have hch := pfault37 a cap acc wr (own_prs (unhide HE).own rfl hwl hw3) hwl
              have HCH := hide hch
              have HD2 := hide hd
              clear hd hR hw1 hw3 hch hfin HRB HD
              by_cases hp0 : pf (-1) acc = 0
              · have hd := unhide HD2
                rw [if_pos hp0] at hd
                have HD3 := hide hd
                have HP := hide hp0
                clear hd hp0 HD2
                go_wp2_with fail
                refine (unhide HCH).mono ?_
                rintro e w2 ⟨rfl, hk2⟩
                have HK2 := hide hk2
                clear hk2
                rw [unhide HP]
                go_wp2_with fail
                go_ret3
                exact decEnd_mk acc p (unhide HD3) a _ cap rfl (own_kp0 (unhide HE).own (unhide HK2)) ((unhide HE).kp.trans0 (unhide HK2))
              · have hd := unhide HD2
                rw [if_neg hp0] at hd
                have HD3 := hide hd
                clear hd HD2
                go_wp2_with fail
                refine (unhide HCH).mono ?_
                rintro e w2 ⟨rfl, hk2⟩
                have HK2 := hide ((unhide HE).kp.trans0 hk2)
                clear hk2 HCH
                generalize pf (-1) acc = z at *
                go_wp2_with fail
                go_ret3
                exact decEnd_code z (unhide HD3) (unhide HK2)
            · have HR := hide (hfin.2 (by omega))
              have f1 : ¬ (p : Int) = (x : Int) := by omega
              clear hfin
              go_wp2_with fail
              go_ret3
              exact decEnd_code 4 (by have := unhide HD; rw [unhide HR] at this; exact this) (unhide HE).kp
end Go.Proofs.Ytfcfoabdangfhab
