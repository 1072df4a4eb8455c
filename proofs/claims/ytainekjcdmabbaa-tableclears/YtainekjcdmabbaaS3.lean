/- List of the document's own sheet, by its contract. -/
import Derived.Test.YtainekjcdmabbaaS2
namespace Go.Proofs.Ytainekjcdmabbaa
open Go.RowKit
set_option maxRecDepth 20000
attribute [local go_sem ↓] Go.wp_at_zero Go.wp_at_succ

set_option maxHeartbeats 2000000 in
theorem slist35 {B sb n : Nat} {G : List Nat} {f : Nat → List Ver} (fr to_ y : Int) (w : World) (h : Sht B w sb G f n) :
    Calls Try.prog 39 #[.pointer (some ⟨sb, 0, none⟩), .int .i64 fr, .int .i64 to_, .int .i64 y] w fun e w' => LstEnd (lst f n fr to_ y) w e w' := by
  obtain ⟨i0, hi0, hz0, hz1, hz2⟩ := info_parts Try.info72
  have HT := hide h
  clear h
  by_cases hf : keyB fr = true
  · by_cases ht : keyB to_ = true
    · obtain ⟨p, hp, rfl⟩ := keyB_nat hf
      obtain ⟨t, ht8, rfl⟩ := keyB_nat ht
      have hR : lst f n p t y = lgo f n y p (t + 1 - p) [] := by
        unfold lst
        rw [if_pos ⟨hf, ht⟩, Int.toNat_natCast]
        congr 1
        omega
      have H0 : Hid (LsI (lst f n p t y) w f n y t p [] none 0 w) := ⟨hR.symm, World.ownsRow_nil _ _ _ _, Kp.refl _ _, by simp⟩
      clear hR
      generalize lst f n p t y = R at *
      go_enter Try.func39, Try.ntmps39
      go_wp2_with fail
      refine (key12 _ _).mono ?_
      rintro e w' ⟨rfl, hw'⟩
      subst w'
      rw [hf]
      go_wp2_with fail
      refine (key12 _ _).mono ?_
      rintro e w' ⟨rfl, hw'⟩
      subst w'
      rw [ht]
      clear hf ht
      go_wp2_with fail
      go_loopw [10, 11] (fun s i wr => ∃ (k : Nat) (acc : List Ver) (a : Option Addr) (cap : Nat), k ≤ 8 ∧ s = .slice a acc.length cap ∧ i = .int .i64 k ∧ Hid (LsI R w f n y t k acc a cap wr)) (fun _ i _ => 8 - (intOf i).toNat)
      case atStart => exact ⟨p, [], none, 0, by omega, rfl, rfl, H0⟩
      case round =>
        obtain ⟨k, acc, a, cap, hk, rfl, rfl, HL⟩ := hrel
        by_cases hlt : k ≤ t
        · have j0 : (k : Int) ≤ (t : Int) := by omega
          go_wp2_with fail
          refine (sread33 k y _ ((unhide HT).kp0 (unhide HL).kp)).mono ?_
          rintro e w1 ⟨rfl, hk1⟩
          have HK1 := hide hk1
          clear hk1
          by_cases h0 : (tr f n k y).a = 0
          · have H00 := hide h0
            rw [h0]
            clear h0
            by_cases h1 : (tr f n k y).t = true
            · have H1 := hide h1
              rw [h1]
              have hOW := hide (own_kp0 (unhide HL).own (((unhide HK1).alloc (.cells #[.bool true, .string (tr f n k y).s] 24)).alloc (.cells #[.int .i64 k, .bool true, .string (tr f n k y).s] 72)))
              have hal := (unhide HL).len
              have hwl := ((unhide HL).kp.trans0 (unhide HK1)).size
              go_wp2_with (at_builtin; refine wpList_append_lies _ rfl _ _ 49 rfl w.heap.size 72 i0 _ 3 32 Try.underlying49 hi0 hz0 hz1 hz2 rfl (by omega) (.slice a acc.length cap) acc.length (vcells acc) rfl (unhide hOW) ⟨w1.heap.size + 1, 0, none⟩ 1 1 [.int .i64 k, .bool true, .string (tr f n k y).s] (by rfl) (by rfl) (World.news_of_block (cs := #[.int .i64 k, .bool true, .string (tr f n k y).s]) (t := 72) (fr := (0, 0)) (by have := heap_alloc_new (w1.alloc (.cells #[.bool true, .string (tr f n k y).s] 24)) (.cells #[.int .i64 k, .bool true, .string (tr f n k y).s] 72); simpa using this)) (by simp [Value.oneCell']) (by omega) (by unfold maxLen; omega) (by omega) (by simp; omega) _ rfl ?_; intro g2 cap2 w2 hown hgrow hat hlt2)
              have HL2 := hide ((unhide HL).more hlt (((unhide HK1).alloc _).alloc _) (unhide H00) (unhide H1) hown hgrow)
              clear hown hgrow hat
              go_wp2_with fail
              exact ⟨⟨k + 1, _, _, _, by omega, by simp, by go_num, HL2⟩, by simp [intOf]; omega⟩
            · have H1 := hide h1
              have h1' : (tr f n k y).t = false := by simpa using h1
              have HL2 := hide ((unhide HL).skip hlt ((unhide HK1).alloc (.cells #[.bool (tr f n k y).t, .string (tr f n k y).s] 24)) (unhide H00) h1)
              rw [h1'] at HL2 ⊢
              clear h1 h1'
              go_wp2_with fail
              exact ⟨⟨k + 1, acc, a, cap, by omega, rfl, by go_num, HL2⟩, by simp [intOf]; omega⟩
          · have hg := (unhide HL).goes
            rw [show t + 1 - k = (t - k) + 1 by omega] at hg
            have hst := lgo_stop hg h0
            clear hg
            have HST := hide hst
            have HK2 := hide (((unhide HL).kp.trans0 (unhide HK1)).alloc (.cells #[.bool (tr f n k y).t, .string (tr f n k y).s] 24))
            clear hst
            generalize (tr f n k y).a = q at *
            generalize (tr f n k y).t = qt at *
            generalize (tr f n k y).s = qs at *
            go_wp2_with fail
            go_ret2
            exact lstEnd_mk [] _ none 0 (unhide HST) (World.ownsRow_nil _ _ _ _) (unhide HK2)
        · have j0 : ¬ (k : Int) ≤ (t : Int) := by omega
          have hst := lgo_end (unhide HL).goes (by omega)
          have HST := hide hst
          clear hst
          go_wp2_with fail
          go_ret2
          exact lstEnd_mk acc 0 a cap (unhide HST) (unhide HL).own (unhide HL).kp
    · have e1 : lst f n fr to_ y = ([], 1) := by unfold lst; rw [if_neg (fun h => ht h.2)]
      have ht2 : keyB to_ = false := by simpa using ht
      have HE1 := hide e1
      clear e1 ht
      go_enter Try.func39, Try.ntmps39
      go_wp2_with fail
      refine (key12 _ _).mono ?_
      rintro e w' ⟨rfl, rfl⟩
      rw [hf]
      go_wp2_with fail
      refine (key12 _ _).mono ?_
      rintro e w' ⟨rfl, rfl⟩
      rw [ht2]
      go_wp2_with fail
      go_ret2
      exact lstEnd_mk [] 1 none 0 (unhide HE1) (World.ownsRow_nil _ _ _ _) (Kp.refl _ _)
  · have e1 : lst f n fr to_ y = ([], 1) := by unfold lst; rw [if_neg (fun h => hf h.1)]
    have hf2 : keyB fr = false := by simpa using hf
    have HE1 := hide e1
    clear e1 hf
    go_enter Try.func39, Try.ntmps39
    go_wp2_with fail
    refine (key12 _ _).mono ?_
    rintro e w' ⟨rfl, rfl⟩
    rw [hf2]
    go_wp2_with fail
    go_ret2
    exact lstEnd_mk [] 1 none 0 (unhide HE1) (World.ownsRow_nil _ _ _ _) (Kp.refl _ _)
end Go.Proofs.Ytainekjcdmabbaa
