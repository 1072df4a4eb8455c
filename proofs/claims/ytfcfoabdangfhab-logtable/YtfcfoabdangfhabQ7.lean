/- Decode, by its contract. -/
import Derived.Test.YtfcfoabdangfhabQ6
namespace Go.Proofs.Ytfcfoabdangfhab
open Go.RowKit
set_option maxRecDepth 20000
attribute [local go_sem ↓] Go.wp_at_zero Go.wp_at_succ

/-- What Decode leaves: the pairs lie in memory of their own. -/
def DecEnd (D : List Ver × Nat × Int) (w : World) (e : Ending) (w' : World) : Prop :=
  ∃ a n cap, e = .returned (.tuple #[.slice a n cap, .int .i64 (D.2.1 : Nat), .int .i64 D.2.2]) ∧ n = D.1.length ∧ w'.ownsRow w.heap.size 40 3 (.slice a n cap) n (vcells D.1) ∧ Kp [] w w'
theorem decEnd_code {D : List Ver × Nat × Int} {w w' : World} (c : Int) (h : D = ([], 0, c)) (hk : Kp [] w w') : DecEnd D w (.returned (.tuple #[.slice none 0 0, .int .i64 0, .int .i64 c])) w' := by
  subst h
  exact ⟨none, 0, 0, rfl, rfl, World.ownsRow_nil _ _ _ _, hk⟩
theorem decEnd_mk {D : List Ver × Nat × Int} {w w' : World} (ws : List Ver) (z : Nat) (h : D = (ws, z, 0)) (a : Option Addr) (n cap : Nat) (hn : n = ws.length) (ho : w'.ownsRow w.heap.size 40 3 (.slice a n cap) n (vcells ws)) (hk : Kp [] w w') :
    DecEnd D w (.returned (.tuple #[.slice a n cap, .int .i64 z, .int .i64 0])) w' := by
  subst h
  exact ⟨a, n, cap, rfl, hn, ho, hk⟩

theorem dec_short0 {bs : List UInt8} (h : bs.length = 0) : dec bs = ([], 0, 6) := by unfold dec; rw [if_pos (.inl h)]
theorem dec_short {bs : List UInt8} (h : bs.length < ub bs 0) : dec bs = ([], 0, 6) := by unfold dec; rw [if_pos (.inr h)]
theorem dec_form {bs : List UInt8} (h0 : bs.length ≠ 0) (h : ¬ bs.length < ub bs 0) (h2 : ub bs 0 < 2) : dec bs = ([], 0, 4) := by
  unfold dec
  rw [if_neg (fun q => q.elim h0 h)]
  exact if_pos h2
theorem dec_pairs {bs : List UInt8} (h0 : bs.length ≠ 0) (h : ¬ bs.length < ub bs 0) (h2 : ¬ ub bs 0 < 2) : dec bs = match rp (ub bs 1) ((bs.take (ub bs 0)).drop 2) with
    | none => ([], 0, 4)
    | some ws => if pf (-1) ws = 0 then (ws, ub bs 0, 0) else ([], 0, pf (-1) ws) := by
  unfold dec
  rw [if_neg (fun q => q.elim h0 h)]
  exact if_neg h2

/-- Pairs that readPairs made may be checked. -/
theorem own_prs {B n : Nat} {w : World} {a : Option Addr} {cap : Nat} {ws : List Ver} (h : w.ownsRow B 40 3 (.slice a n cap) n (vcells ws)) (hn : n = ws.length) (hl : ws.length ≤ 1000) (hs : ∀ p ∈ ws, p.s.size ≤ 255) : Prs w a ws := by
  refine ⟨by unfold maxLen; omega, fun k hk => ?_, slo_own h hn⟩
  have : (vb ws k).size ≤ 255 := by
    simp only [vb, List.getD_eq_getElem?_getD, List.getElem?_eq_getElem hk, Option.getD_some]
    exact hs _ (List.getElem_mem hk)
  unfold maxLen; omega

set_option maxHeartbeats 2000000 in
theorem decode12 (a : Option Addr) (n c : Nat) (bs : List UInt8) (w : World) (h : Byt w a bs) (hn : n = bs.length) (hc : n ≤ c) (hm : bs.length ≤ 10000) :
    Calls Try.prog 16 #[.slice a n c] w fun e w' => DecEnd (dec bs) w e w' := by
  by_cases h0 : bs.length = 0
  · have hd := dec_short0 h0
    generalize dec bs = D at *
    have HD := hide hd
    have hn0 : n = 0 := by omega
    subst hn0
    clear h hd hn h0
    go_enter Try.func16, Try.ntmps16
    go_wp2_with fail
    go_ret3
    exact decEnd_code 6 (unhide HD) (Kp.refl _ _)
  · obtain ⟨g, o, rfl, hs⟩ := h (by omega)
    have q0 := hs 0 (by omega)
    have u0 := ub_lt bs 0
    have HB := hide h
    have i0 : (0 : Int) < (n : Int) := by omega
    have j0 : 0 < n := by omega
    have j0' : ¬ n = 0 := by omega
    have j0'' : ¬ (n : Int) = 0 := by omega
    simp only [Nat.add_zero] at q0
    by_cases h1 : bs.length < ub bs 0
    · have hd := dec_short h1
      have k0 : (n : Int) < (ub bs 0 : Nat) := by omega
      generalize dec bs = D at *
      have HD := hide hd
      clear h hd hn h0 h1 hs
      generalize ub bs 0 = x at *
      go_enter Try.func16, Try.ntmps16
      go_wp2_with fail
      go_ret3
      exact decEnd_code 6 (unhide HD) (Kp.refl _ _)
    · have k0 : ¬ (n : Int) < (ub bs 0 : Nat) := by omega
      by_cases h2 : ub bs 0 < 2
      · have hd := dec_form h0 h1 h2
        generalize dec bs = D at *
        have HD := hide hd
        clear h hd hn h0 h1 hs
        generalize ub bs 0 = x at *
        go_enter Try.func16, Try.ntmps16
        go_wp2_with fail
        go_ret3
        exact decEnd_code 4 (unhide HD) (Kp.refl _ _)
      · have hd := dec_pairs h0 h1 h2
        have q1 := hs 1 (by omega)
        have u1 := ub_lt bs 1
        have hwr : IntKind.i64.wrap ((ub bs 1 : Nat) : Int) = ((ub bs 1 : Nat) : Int) := wrap_i64_id _ (by omega) (by omega)
        have i1 : (1 : Int) < (n : Int) := by omega
        have j1 : 1 < n := by omega
        have k2 : ub bs 0 ≤ c := by omega
        obtain ⟨a2, hsl, hb2⟩ := part_lh (unhide HB) 2 (ub bs 0) c n (by omega) (by omega) (by omega) 2 (ub bs 0 : Nat) rfl rfl
        have hl2 : ub bs 0 - 2 = ((bs.take (ub bs 0)).drop 2).length := by simp; omega
        have hrp := fun W (hk : Kp [] w W) => readPairs20 a2 (ub bs 0 - 2) (c - 2) ((bs.take (ub bs 0)).drop 2) (ub bs 1) W (hb2.kp0 hk) hl2 (by omega) (by omega) (by omega)
        generalize dec bs = D at *
        generalize hR : rp (ub bs 1) ((bs.take (ub bs 0)).drop 2) = R at *
        have HR := hide hR
        have HD := hide hd
        have HRP := hide hrp
        clear h hd hn h0 h1 hs hb2 hl2 hrp hR
        generalize ub bs 0 = x at *
        generalize ub bs 1 = y at *
        go_enter Try.func16, Try.ntmps16
        go_wp2_with fail
        go_region_with (go_at_call 40; refine (unhide HRP w.drew (Kp.refl [] w).drew).mono ?_; rintro e w1 ⟨ar, nr, cr, q, rfl, hq1, hq2, hk1⟩; have HQ1 := hide hq1; have HQ2 := hide hq2; have HK1 := hide ((Kp.refl [] w).drew.trans0 hk1); clear hq1 hq2 hk1)
        cases q with
        | false =>
          have hd := unhide HD
          rw [unhide HQ2 rfl] at hd
          have HD2 := hide hd
          clear hd
          go_wp2_with fail
          go_ret3
          exact decEnd_code 4 (unhide HD2) (unhide HK1)
        | true =>
          obtain ⟨ws, hR, hnr, hown⟩ := unhide HQ1 rfl
          have hd := unhide HD
          rw [hR] at hd
          simp only at hd
          obtain ⟨hw1, _, hw3⟩ := rp_back ((unhide HR).trans hR)
          subst hnr
          have hwl : ws.length ≤ 1000 := by omega
          have HO := hide (own_base hown (Nat.le_refl w.heap.size))
          have hpr := own_prs hown rfl hwl hw3
          have hch := tcheck36 ar cr ws w1 hpr hwl
          have HCH := hide hch
          have HD2 := hide hd
          clear hd hR hown hw1 hw3 hpr hch HQ1 HQ2 HR HD HRP
          by_cases hp : pf (-1) ws = 0
          · have hd := unhide HD2
            rw [if_pos hp] at hd
            have HD3 := hide hd
            have HP := hide hp
            clear hd hp HD2
            go_wp2_with fail
            refine (unhide HCH).mono ?_
            rintro e w2 ⟨rfl, hk2⟩
            have HK2 := hide hk2
            clear hk2
            rw [unhide HP]
            go_wp2_with fail
            go_ret3
            exact decEnd_mk ws x (unhide HD3) ar _ cr rfl (own_kp0 (unhide HO) (unhide HK2)) ((unhide HK1).trans0 (unhide HK2))
          · have hd := unhide HD2
            rw [if_neg hp] at hd
            have HD3 := hide hd
            clear hd HD2
            go_wp2_with fail
            refine (unhide HCH).mono ?_
            rintro e w2 ⟨rfl, hk2⟩
            have HK2 := hide ((unhide HK1).trans0 hk2)
            clear hk2 HCH
            generalize pf (-1) ws = z at *
            go_wp2_with fail
            go_ret3
            exact decEnd_code z (unhide HD3) (unhide HK2)
end Go.Proofs.Ytfcfoabdangfhab
