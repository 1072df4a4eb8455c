/- The law TableLists, walked: it answers true, and nothing that was there is changed. -/
import Derived.Test.YtainekjcdmabbaaX5
import Derived.Test.YtainekjcdmabbaaE7
namespace Go.Proofs.Ytainekjcdmabbaa
open Go.RowKit
set_option maxRecDepth 20000
attribute [local go_sem ↓] Go.wp_at_zero Go.wp_at_succ

theorem cut_small (cut : Int) : ∃ kq : Nat, kq < 7 ∧ wrap64 ((IntKind.u64.wrap cut).tmod 7) = (kq : Int) := by
  have h : IntKind.u64.wrap cut = cut % 18446744073709551616 := by
    rw [IntKind.wrap_u64]
  have h1 : 0 ≤ cut % 18446744073709551616 := by omega
  rw [h, Int.tmod_eq_emod_of_nonneg h1]
  refine ⟨(cut % 18446744073709551616 % 7).toNat, by omega, ?_⟩
  rw [Int.toNat_of_nonneg (by omega)]
  have := wrap_i64_id (cut % 18446744073709551616 % 7) (by omega) (by omega)
  rw [IntKind.wrap_i64] at this
  unfold wrap64
  omega

theorem own_lt {B : Nat} {w : World} {e : TypeId} {size n g : Nat} {v : Value} {xs : List Value} (h : w.ownsRow B e size v n xs) (hg : v.ownBlock = some g) : g < w.heap.size := by
  rcases h.2 with ⟨hn, _⟩ | ⟨g', cap, cur, rfl, h2, h3, h4⟩
  · subst hn; simp [Value.ownBlock] at hg
  · have : g' = g := by simpa [Value.ownBlock] using hg
    subst this; exact lt_of_block h3
theorem SlO.kpS {w w' : World} {a : Option Addr} {vs : List Ver} {S : List Nat} (h : SlO w a vs) (hk : Kp S w w') (hS : ∀ g o, a = some ⟨g, o, none⟩ → g ∉ S) : SlO w' a vs := fun hp => by
  obtain ⟨g, o, e, hs⟩ := h hp
  exact ⟨g, o, e, hs.kp hk (hS g o e)⟩
theorem slo_far {B C n m : Nat} {w : World} {a a1 : Option Addr} {cap c1 : Nat} {xs ys : List Value} (_h : w.ownsRow B 72 3 (.slice a n cap) n xs) (h1 : w.ownsRow C 72 3 (.slice a1 m c1) m ys) (hlt : ∀ g, (Value.slice a n cap).ownBlock = some g → g < C) :
    ∀ g o, a = some ⟨g, o, none⟩ → g ∉ (Value.slice a1 m c1).ownBlock.toList := by
  intro g o e hg
  have q1 := hlt g (by rw [e]; rfl)
  have q2 := own_ge h1 (by simpa using hg : (Value.slice a1 m c1).ownBlock = some g)
  omega

set_option maxHeartbeats 4000000 in
set_option maxRecDepth 100000 in
theorem tlists9 (a : Option Addr) (n1 c : Nat) (st : Nat → TStep) (cut y : Int) (w : World) (h : TSts w a n1 st) :
    Calls Try.prog 9 #[.slice a n1 c, .int .i64 cut, .int .i64 y] w fun e w' => e = .returned (.bool true) ∧ Below w.heap.size w w' := by
  have HS := hide h
  clear h
  go_enter Try.func9, Try.ntmps9
  go_wp2_with fail
  refine (tbegun28 w).mono ?_
  rintro e w1 ⟨rfl, hk⟩
  have HK1 := hide hk
  clear hk
  go_wp2_with fail
  refine (gtable29 a n1 c st w1 ((unhide HS).kp0 (unhide HK1))).mono ?_
  rintro e w1' ⟨q, rfl, hq, hw'⟩
  subst w1'
  cases q with
  | true =>
    clear hq
    go_wp2_with fail
    go_ret
    exact ⟨rfl, (unhide HK1).below (Nat.le_refl _) (by simp)⟩
  | false =>
    obtain ⟨hn, hps⟩ := hq rfl
    have HPS := hide hps
    clear hq hps
    go_wp2_with fail
    refine (tables_tbx a n1 c st w w1 (unhide HS) (unhide HK1) hn (unhide HPS)).mono ?_
    rintro e w2 ⟨tb, sb, f, n, rfl, HT⟩
    go_wp2_with fail
    refine (tbx_list 0 7 y (unhide HT) _ rfl).mono ?_
    rintro e w3 ⟨la, lc, rfl, HO3, HT3, _⟩
    clear HT
    go_wp2_with fail
    refine (tbx_sheet y (unhide HT3)).mono ?_
    rintro e w4 ⟨k, HSK, rfl, HT4, HK4⟩
    have HO4 := hide (own_kp0 (unhide HO3) (unhide HK4))
    clear HO3 HT3 HK4
    by_cases hk8 : k = 8
    · subst hk8
      have hall := lst_all (unhide HSK) (fr := 0) (to_ := 7) (by omega) (by omega) (by omega)
      rw [show ((0 : Nat) : Int) = 0 from rfl, show ((7 : Nat) : Int) = 7 from rfl, show 7 + 1 - 0 = 8 from rfl] at hall
      rw [hall] at HO4 ⊢
      clear hall
      dsimp only at HO4 ⊢
      obtain ⟨HT5, HV5⟩ := tbx_var (unhide HT4) (shw f n y 8)
      have HO5 := hide (own_kp0 (unhide HO4) ((Kp.refl [] w4).alloc (.cells (wagg (shw f n y 8)) 66)))
      clear HT4 HO4
      go_wp2_with (refine wpList_store_row rfl 66 _ _ rfl w4.heap.size (wagg (shw f n y 8)) rfl rfl 66 _ (heap_alloc_new w4 _) Try.size66 rfl (wagg_one _) ?_; rw [World.setRow_alloc_new]; generalize w4.alloc (.cells (wagg (shw f n y 8)) 66) = W5 at *; generalize w4.heap.size = p at *)
      have hN := seg_length f n y 8 0
      go_loopw [14, 15] (fun s i wr => ∃ kk m : Nat, kk ≤ 8 ∧ s = .int .i64 ((seg f n y 0 kk).length : Nat) ∧ i = .int .i64 kk ∧ wr = W5.drewN m) (fun _ i _ => 8 - (intOf i).toNat)
      case atStart => exact ⟨0, 0, by omega, rfl, rfl, rfl⟩
      case round =>
        obtain ⟨kk, m, hkk, rfl, rfl, rfl⟩ := hrel
        by_cases hlt : kk < 8
        · have hsh : shw f n y 8 kk = tr f n kk y := by unfold shw; rw [if_pos hlt]
          have c0 := cell_of_block (unhide HV5) (wagg_at0 _ hlt)
          have c1 := cell_of_block (unhide HV5) (wagg_at1 _ hlt)
          rw [hsh] at c0 c1
          have i0 : (0 : Int) ≤ (kk : Int) := by omega
          have i1 : (kk : Int) < 8 := by omega
          clear hsh
          by_cases ht : (tr f n kk y).t = true
          · obtain ⟨s1, s2, s3, s4, s5⟩ := seg_here hlt ht
            obtain ⟨g, o, rfl, hsl⟩ := slo_own (unhide HO5) rfl (by omega)
            have q0 := hsl.at0 _ s1
            have q1 := hsl.at1 _ s1
            have q2 : W5.cell? ⟨g, o + (seg f n y 0 kk).length * 3 + 1 + 1, none⟩ = _ := hsl.at2 _ s1
            rw [s2] at q0
            rw [s3, ht] at q1
            rw [s4] at q2
            rw [ht] at c0
            have d0 : (0 : Int) ≤ (((seg f n y 0 kk).length : Nat) : Int) := by omega
            have d1 : (((seg f n y 0 kk).length : Nat) : Int) < (((seg f n y 0 8).length : Nat) : Int) := by omega
            have d2 : ¬ (((seg f n y 0 8).length : Nat) : Int) ≤ (((seg f n y 0 kk).length : Nat) : Int) := by omega
            have d3 : decide ((((seg f n y 0 8).length : Nat) : Int) ≤ (((seg f n y 0 kk).length : Nat) : Int)) = false := decide_eq_false d2
            have d4 : decide ((((seg f n y 0 kk).length : Nat) : Int) ≥ (((seg f n y 0 8).length : Nat) : Int)) = false := decide_eq_false d2
            have d5 : ¬ (seg f n y 0 8).length ≤ (seg f n y 0 kk).length := by omega
            have d6 : decide ((seg f n y 0 8).length ≤ (seg f n y 0 kk).length) = false := decide_eq_false d5
            have d7 : (seg f n y 0 kk).length < (seg f n y 0 8).length := s1
            have hkl := seg_length f n y kk 0
            have HS5 := hide s5
            clear hsl s1 s2 s3 s4 s5 ht
            generalize (tr f n kk y).s = ss at *
            generalize (seg f n y 0 kk).length = dd at *
            go_wp2_with fail
            go_quiet (fail)
            go_wp2_with fail
            exact ⟨⟨kk + 1, m + nq, by omega, by rw [unhide HS5]; go_num, by go_num, rfl⟩, by simp [intOf]; omega⟩
          · have hse := seg_none (f := f) (n := n) (y := y) ht
            have ht' : (tr f n kk y).t = false := by simpa using ht
            rw [ht'] at c0
            have HS5 := hide hse
            clear hse ht ht'
            go_wp2_with fail
            exact ⟨⟨kk + 1, m, by omega, by rw [unhide HS5], by go_num, rfl⟩, by simp [intOf]; omega⟩
        · have e : kk = 8 := by omega
          subst e
          obtain ⟨kq, hkq, hcut⟩ := cut_small cut
          have hA := lst_all (unhide HSK) (fr := 0) (to_ := kq) (by omega) (by omega) (by omega)
          have hD := lst_all (unhide HSK) (fr := kq + 1) (to_ := 7) (by omega) (by omega) (by omega)
          have hAD := seg_append f n y (kq + 1) (7 - kq) 0
          rw [show kq + 1 + (7 - kq) = 8 by omega, Nat.zero_add] at hAD
          rw [show kq + 1 - 0 = kq + 1 by omega, show ((0 : Nat) : Int) = 0 from rfl] at hA
          rw [show 7 + 1 - (kq + 1) = 7 - kq by omega, show ((7 : Nat) : Int) = 7 from rfl] at hD
          push_cast at hD
          have hlA := seg_length f n y (kq + 1) 0
          have hlD := seg_length f n y (7 - kq) (kq + 1)
          have HA := hide hA
          have HD := hide hD
          have hl : (seg f n y 0 (kq + 1)).length + (seg f n y (kq + 1) (7 - kq)).length = (seg f n y 0 8).length := by rw [hAD, List.length_append]
          have HAD := hide hAD
          have HL := hide hl
          have HT5' := hide ((unhide HT5).kp0 ((Kp.refl [] W5).drewN m))
          have HO5' := hide (own_kp0 (unhide HO5) ((Kp.refl [] W5).drewN m))
          have HB := hide (show w.heap.size ≤ (W5.drewN m).heap.size from (unhide HT5).kp.size)
          have HLT := hide (show ∀ g, (Value.slice la (seg f n y 0 8).length lc).ownBlock = some g → g < (W5.drewN m).heap.size from fun g hg => own_lt (unhide HO5) hg)
          clear hA hD hAD hl HV5 HT5 HO5
          generalize W5.drewN m = W6 at *
          go_wp2_with fail
          rw [hcut]
          refine (tbx_list 0 kq y (unhide HT5') _ (unhide HA)).mono ?_
          rintro e w7 ⟨a1, c1, rfl, HO7, HT7, HK7⟩
          have HO57 := hide (own_kp0 (unhide HO5') (unhide HK7))
          clear HO5' HT5'
          dsimp only
          go_wp2_with fail
          refine (tbx_list ((kq : Int) + 1) 7 y (unhide HT7) _ (unhide HD)).mono ?_
          rintro e w8 ⟨a2, c2, rfl, HO8, HT8, HK8⟩
          have HO58 := hide (own_kp0 (unhide HO57) (unhide HK8))
          have HO78 := hide (own_kp0 (unhide HO7) (unhide HK8))
          have hsz : W6.heap.size ≤ w8.heap.size := Nat.le_trans (unhide HK7).size (unhide HK8).size
          clear HO57 HO7 HT7
          dsimp only
          go_wp2_with (refine wpList_append_pairs (by rfl) _ _ rfl W6.heap.size w7.heap.size a1 c1 (seg f n y 0 (kq + 1)) a2 c2 (seg f n y (kq + 1) (7 - kq)) _ _ rfl rfl rfl rfl (unhide HO78) (unhide HO8) hsz (by omega) ?_; intro a3 c3 w9 HSL HKP)
          have hfar := slo_far (unhide HO58) (unhide HO78) (unhide HLT)
          have HS9 := hide ((slo_own (unhide HO58) rfl).kpS ((unhide HKP) (Value.slice a1 (seg f n y 0 (kq + 1)).length c1).ownBlock.toList (fun g hg => by simp [hg])) hfar)
          have HB9 := hide ((unhide HT8).kp.trans ((unhide HKP) (Value.slice a1 (seg f n y 0 (kq + 1)).length c1).ownBlock.toList (fun g hg => by simp [hg])) (fun x hx => .inr (Nat.le_trans (unhide HB) (own_ge (unhide HO78) (by simpa using hx)))))
          have hSL := unhide HSL
          rw [← unhide HAD] at hSL
          rw [unhide HL]
          refine (same39 a3 la c3 lc w9 hSL (unhide HS9) (by omega)).mono ?_
          rintro e w10 ⟨rfl, m2, rfl⟩
          clear hSL hfar HSL HKP HO58 HO78 HO8
          go_wp2_with fail
          go_ret
          exact ⟨rfl, ((unhide HB9).drewN m2).below (Nat.le_refl _) (by simp)⟩
    · have hd : decide (k = 8) = false := decide_eq_false hk8
      obtain ⟨cc, hcc, hlst⟩ := lst_halt (unhide HSK) (by have := (unhide HSK).le; omega)
      rw [hlst, hd]
      clear hlst hd
      dsimp only
      have hccb : (cc == 0) = false := beq_eq_false_iff_ne.2 hcc
      generalize hv : shw f n y k = v at *
      obtain ⟨HT5, HV5⟩ := tbx_var (unhide HT4) v
      clear HT4 HO4 hcc hk8
      go_wp2_with (refine wpList_store_row rfl 66 _ _ rfl w4.heap.size (wagg v) rfl rfl 66 _ (heap_alloc_new w4 _) Try.size66 rfl (wagg_one _) ?_; rw [World.setRow_alloc_new]; generalize w4.alloc (.cells (wagg v) 66) = W5 at *; generalize w4.heap.size = p at *)
      go_ret
      exact ⟨rfl, (unhide HT5).kp.below (Nat.le_refl _) (by simp)⟩
end Go.Proofs.Ytainekjcdmabbaa
