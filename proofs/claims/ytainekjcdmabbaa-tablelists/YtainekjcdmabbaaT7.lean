/- List of a table, by its contract. -/
import Derived.Test.YtainekjcdmabbaaT6
namespace Go.Proofs.Ytainekjcdmabbaa
open Go.RowKit
set_option maxRecDepth 20000
attribute [local go_sem ↓] Go.wp_at_zero Go.wp_at_succ

theorem own_kp {B : Nat} {S : List Nat} {w w' : World} {e : TypeId} {size n : Nat} {v : Value} {xs : List Value} (h : w.ownsRow B e size v n xs) (hk : Kp S w w') (hS : ∀ g, v.ownBlock = some g → g ∉ S) : w'.ownsRow B e size v n xs := by
  refine ⟨h.1, ?_⟩
  rcases h.2 with hn | ⟨g, cap, cur, rfl, h2, h3, h4⟩
  · exact .inl hn
  · refine .inr ⟨g, cap, cur, rfl, h2, ?_, h4⟩
    rw [hk.block g (lt_of_block h3) (hS g rfl)]; exact h3
theorem own_kp0 {B : Nat} {w w' : World} {e : TypeId} {size n : Nat} {v : Value} {xs : List Value} (h : w.ownsRow B e size v n xs) (hk : Kp [] w w') : w'.ownsRow B e size v n xs := own_kp h hk (fun _ _ => by simp)
theorem own_ge {B : Nat} {w : World} {e : TypeId} {size n g : Nat} {v : Value} {xs : List Value} (h : w.ownsRow B e size v n xs) (hg : v.ownBlock = some g) : B ≤ g := by
  rcases h.2 with ⟨hn, _⟩ | ⟨g', cap, cur, rfl, h2, h3, h4⟩
  · subst hn; simp [Value.ownBlock] at hg
  · have : g' = g := by simpa [Value.ownBlock] using hg
    omega
theorem own_base {B C : Nat} {w : World} {e : TypeId} {size n : Nat} {v : Value} {xs : List Value} (h : w.ownsRow B e size v n xs) (hC : C ≤ B) : w.ownsRow C e size v n xs := by
  refine ⟨h.1, ?_⟩
  rcases h.2 with hn | ⟨g, cap, cur, rfl, h2, h3⟩
  · exact .inl hn
  · exact .inr ⟨g, cap, cur, rfl, by omega, h3⟩

/-- A list of pairs that a call made: it lies in memory of its own. -/
def LstEnd (L : List Ver × Int) (w : World) (e : Ending) (w' : World) : Prop :=
  ∃ a cap, e = .returned (.tuple #[.slice a L.1.length cap, .int .i64 L.2]) ∧ w'.ownsRow w.heap.size 72 3 (.slice a L.1.length cap) L.1.length (vcells L.1) ∧ Kp [] w w'
theorem lstEnd_mk {L : List Ver × Int} {w w' : World} (acc : List Ver) (code : Int) (a : Option Addr) (cap : Nat) (h : L = (acc, code)) (ho : w'.ownsRow w.heap.size 72 3 (.slice a acc.length cap) acc.length (vcells acc)) (hk : Kp [] w w') :
    LstEnd L w (.returned (.tuple #[.slice a acc.length cap, .int .i64 code])) w' := by
  subst h; exact ⟨a, cap, rfl, ho, hk⟩

theorem Try.info72 : (Try.prog.info? 72).map (fun i => (i.zero, i.size, i.bytes)) = some (some (.agg #[.int .i64 0, .bool false, .string ByteArray.empty]), 3, 32) := by kernel_rfl

theorem lgo_more {f : Nat → List Ver} {n k m : Nat} {y : Int} {acc : List Ver} {R : List Ver × Int} (h : lgo f n y k (m + 1) acc = R) (h0 : (tr f n k y).a = 0) (ht : (tr f n k y).t = true) : lgo f n y (k + 1) m (acc ++ [⟨k, (tr f n k y).t, (tr f n k y).s⟩]) = R := by
  rw [← h]; simp only [lgo]; rw [if_pos h0, if_pos ht]
theorem lgo_skip {f : Nat → List Ver} {n k m : Nat} {y : Int} {acc : List Ver} {R : List Ver × Int} (h : lgo f n y k (m + 1) acc = R) (h0 : (tr f n k y).a = 0) (ht : ¬ (tr f n k y).t = true) : lgo f n y (k + 1) m acc = R := by
  rw [← h]; simp only [lgo]; rw [if_pos h0, if_neg ht]
theorem lgo_stop {f : Nat → List Ver} {n k m : Nat} {y : Int} {acc : List Ver} {R : List Ver × Int} (h : lgo f n y k (m + 1) acc = R) (h0 : ¬ (tr f n k y).a = 0) : R = ([], (tr f n k y).a) := by
  rw [← h]; simp only [lgo]; rw [if_neg h0]
theorem lgo_end {f : Nat → List Ver} {n k m : Nat} {y : Int} {acc : List Ver} {R : List Ver × Int} (h : lgo f n y k m acc = R) (h0 : m = 0) : R = (acc, 0) := by
  subst h0; rw [← h]; rfl

/-- What stands at the head of a round of List. -/
structure LsI (R : List Ver × Int) (w : World) (f : Nat → List Ver) (n : Nat) (y : Int) (t k : Nat) (acc : List Ver) (a : Option Addr) (cap : Nat) (wr : World) : Prop where
  goes : lgo f n y k (t + 1 - k) acc = R
  own : wr.ownsRow w.heap.size 72 3 (.slice a acc.length cap) acc.length (vcells acc)
  kp : Kp [] w wr
  len : acc.length ≤ k

theorem LsI.skip {R : List Ver × Int} {w : World} {f : Nat → List Ver} {n : Nat} {y : Int} {t k : Nat} {acc : List Ver} {a : Option Addr} {cap : Nat} {wr w1 : World} (h : LsI R w f n y t k acc a cap wr) (hk : k ≤ t) (hw : Kp [] wr w1)
    (h0 : (tr f n k y).a = 0) (ht : ¬ (tr f n k y).t = true) : LsI R w f n y t (k + 1) acc a cap w1 :=
  ⟨by have := h.goes; rw [show t + 1 - k = (t + 1 - (k + 1)) + 1 by omega] at this; exact lgo_skip this h0 ht, own_kp0 h.own hw, h.kp.trans0 hw, by have := h.len; omega⟩
theorem LsI.more {R : List Ver × Int} {w : World} {f : Nat → List Ver} {n : Nat} {y : Int} {t k : Nat} {acc : List Ver} {a : Option Addr} {cap : Nat} {wr W w2 : World} (h : LsI R w f n y t k acc a cap wr) (hk : k ≤ t) (hw : Kp [] wr W)
    (h0 : (tr f n k y).a = 0) (ht : (tr f n k y).t = true) {g2 cap2 : Nat} (hown : w2.ownsRow w.heap.size 72 3 (.slice (some ⟨g2, 0, none⟩) (acc.length + 1) cap2) (acc.length + 1) (vcells acc ++ [.int .i64 k, .bool true, .string (tr f n k y).s]))
    (hgrow : W.grownBy w2 (Value.slice a acc.length cap).ownBlock) : LsI R w f n y t (k + 1) (acc ++ [⟨k, (tr f n k y).t, (tr f n k y).s⟩]) (some ⟨g2, 0, none⟩) cap2 w2 := by
  refine ⟨by have := h.goes; rw [show t + 1 - k = (t + 1 - (k + 1)) + 1 by omega] at this; exact lgo_more this h0 ht, ?_, (h.kp.trans0 hw).grown hgrow (fun g hg => .inr (own_ge h.own hg)), by have := h.len; simp; omega⟩
  have hv : vcells acc ++ [.int .i64 k, .bool true, .string (tr f n k y).s] = vcells (acc ++ [⟨k, (tr f n k y).t, (tr f n k y).s⟩]) := by rw [vcells_append, ht]; rfl
  rw [hv] at hown
  simpa using hown

set_option maxHeartbeats 2000000 in
theorem tlist34 {B tb n : Nat} {F : List Nat} {f : Nat → List Ver} (fr to_ y : Int) (w : World) (h : Tbl B w tb F f n) :
    Calls Try.prog 38 #[.pointer (some ⟨tb, 0, none⟩), .int .i64 fr, .int .i64 to_, .int .i64 y] w fun e w' => LstEnd (lst f n fr to_ y) w e w' := by
  obtain ⟨i0, hi0, hz0, hz1, hz2⟩ := info_parts Try.info72
  have HT := hide h
  clear h
  by_cases hf : keyB fr = true
  · by_cases ht : keyB to_ = true
    · obtain ⟨p, hp, rfl⟩ := keyB_nat hf
      obtain ⟨t, ht8, rfl⟩ := keyB_nat ht
      have hR : lst f n p t y = lgo f n y p (t + 1 - p) [] := by
        unfold lst
        rw [if_pos ⟨hf, ht⟩, Int.toNat_natCast]
        congr 1
        omega
      have H0 : Hid (LsI (lst f n p t y) w f n y t p [] none 0 w) := ⟨hR.symm, World.ownsRow_nil _ _ _ _, Kp.refl _ _, by simp⟩
      clear hR
      generalize lst f n p t y = R at *
      go_enter Try.func38, Try.ntmps38
      go_wp2_with fail
      refine (key11 _ _).mono ?_
      rintro e w' ⟨rfl, hw'⟩
      subst w'
      rw [hf]
      go_wp2_with fail
      refine (key11 _ _).mono ?_
      rintro e w' ⟨rfl, hw'⟩
      subst w'
      rw [ht]
      clear hf ht
      go_wp2_with fail
      go_loopw [10, 11] (fun s i wr => ∃ (k : Nat) (acc : List Ver) (a : Option Addr) (cap : Nat), k ≤ 8 ∧ s = .slice a acc.length cap ∧ i = .int .i64 k ∧ Hid (LsI R w f n y t k acc a cap wr)) (fun _ i _ => 8 - (intOf i).toNat)
      case atStart => exact ⟨p, [], none, 0, by omega, rfl, rfl, H0⟩
      case round =>
        obtain ⟨k, acc, a, cap, hk, rfl, rfl, HL⟩ := hrel
        by_cases hlt : k ≤ t
        · have j0 : (k : Int) ≤ (t : Int) := by omega
          go_wp2_with fail
          refine (tread32 k y _ ((unhide HT).kp0 (unhide HL).kp)).mono ?_
          rintro e w1 ⟨rfl, hk1⟩
          have HK1 := hide hk1
          clear hk1
          by_cases h0 : (tr f n k y).a = 0
          · have H00 := hide h0
            rw [h0]
            clear h0
            by_cases h1 : (tr f n k y).t = true
            · have H1 := hide h1
              rw [h1]
              have hOW := hide (own_kp0 (unhide HL).own (((unhide HK1).alloc (.cells #[.bool true, .string (tr f n k y).s] 24)).alloc (.cells #[.int .i64 k, .bool true, .string (tr f n k y).s] 72)))
              have hal := (unhide HL).len
              have hwl := ((unhide HL).kp.trans0 (unhide HK1)).size
              go_wp2_with (at_builtin; refine wpList_append_lies _ rfl _ _ 49 rfl w.heap.size 72 i0 _ 3 32 Try.underlying49 hi0 hz0 hz1 hz2 rfl (by omega) (.slice a acc.length cap) acc.length (vcells acc) rfl (unhide hOW) ⟨w1.heap.size + 1, 0, none⟩ 1 1 [.int .i64 k, .bool true, .string (tr f n k y).s] (by rfl) (by rfl) (World.news_of_block (cs := #[.int .i64 k, .bool true, .string (tr f n k y).s]) (t := 72) (fr := (0, 0)) (by have := heap_alloc_new (w1.alloc (.cells #[.bool true, .string (tr f n k y).s] 24)) (.cells #[.int .i64 k, .bool true, .string (tr f n k y).s] 72); simpa using this)) (by simp [Value.oneCell']) (by omega) (by unfold maxLen; omega) (by omega) (by simp; omega) _ rfl ?_; intro g2 cap2 w2 hown hgrow hat hlt2)
              have HL2 := hide ((unhide HL).more hlt (((unhide HK1).alloc _).alloc _) (unhide H00) (unhide H1) hown hgrow)
              clear hown hgrow hat
              go_wp2_with fail
              exact ⟨⟨k + 1, _, _, _, by omega, by simp, by go_num, HL2⟩, by simp [intOf]; omega⟩
            · have H1 := hide h1
              have h1' : (tr f n k y).t = false := by simpa using h1
              have HL2 := hide ((unhide HL).skip hlt ((unhide HK1).alloc (.cells #[.bool (tr f n k y).t, .string (tr f n k y).s] 24)) (unhide H00) h1)
              rw [h1'] at HL2 ⊢
              clear h1 h1'
              go_wp2_with fail
              exact ⟨⟨k + 1, acc, a, cap, by omega, rfl, by go_num, HL2⟩, by simp [intOf]; omega⟩
          · have hg := (unhide HL).goes
            rw [show t + 1 - k = (t - k) + 1 by omega] at hg
            have hst := lgo_stop hg h0
            clear hg
            have HST := hide hst
            have HK2 := hide (((unhide HL).kp.trans0 (unhide HK1)).alloc (.cells #[.bool (tr f n k y).t, .string (tr f n k y).s] 24))
            clear hst
            generalize (tr f n k y).a = q at *
            generalize (tr f n k y).t = qt at *
            generalize (tr f n k y).s = qs at *
            go_wp2_with fail
            go_ret2
            exact lstEnd_mk [] _ none 0 (unhide HST) (World.ownsRow_nil _ _ _ _) (unhide HK2)
        · have j0 : ¬ (k : Int) ≤ (t : Int) := by omega
          have hst := lgo_end (unhide HL).goes (by omega)
          have HST := hide hst
          clear hst
          go_wp2_with fail
          go_ret2
          exact lstEnd_mk acc 0 a cap (unhide HST) (unhide HL).own (unhide HL).kp
    · have e1 : lst f n fr to_ y = ([], 1) := by unfold lst; rw [if_neg (fun h => ht h.2)]
      have ht2 : keyB to_ = false := by simpa using ht
      have HE1 := hide e1
      clear e1 ht
      go_enter Try.func38, Try.ntmps38
      go_wp2_with fail
      refine (key11 _ _).mono ?_
      rintro e w' ⟨rfl, rfl⟩
      rw [hf]
      go_wp2_with fail
      refine (key11 _ _).mono ?_
      rintro e w' ⟨rfl, rfl⟩
      rw [ht2]
      go_wp2_with fail
      go_ret2
      exact lstEnd_mk [] 1 none 0 (unhide HE1) (World.ownsRow_nil _ _ _ _) (Kp.refl _ _)
  · have e1 : lst f n fr to_ y = ([], 1) := by unfold lst; rw [if_neg (fun h => hf h.1)]
    have hf2 : keyB fr = false := by simpa using hf
    have HE1 := hide e1
    clear e1 hf
    go_enter Try.func38, Try.ntmps38
    go_wp2_with fail
    refine (key11 _ _).mono ?_
    rintro e w' ⟨rfl, rfl⟩
    rw [hf2]
    go_wp2_with fail
    go_ret2
    exact lstEnd_mk [] 1 none 0 (unhide HE1) (World.ownsRow_nil _ _ _ _) (Kp.refl _ _)
end Go.Proofs.Ytainekjcdmabbaa
