/- List of the document's deed, by its contract. -/
import Derived.Test.YtainekjcdmabbaaG3
namespace Go.Proofs.Ytainekjcdmabbaa
open Go.RowKit
set_option maxRecDepth 20000
attribute [local go_sem ↓] Go.wp_at_zero Go.wp_at_succ

/-- What List tells, and what it leaves. -/
def WlEnd (L : List Ver × Int × List Int) (B : Nat) (w : World) (wb : Nat) (H : List Nat) (md y : Int) (ws : List Ver) (e : Ending) (w' : World) : Prop :=
  ∃ a cap, e = .returned (.tuple #[.slice a L.1.length cap, .int .i64 L.2.1]) ∧ w'.ownsRow w.heap.size 72 3 (.slice a L.1.length cap) L.1.length (vcells L.1) ∧
    ∃ H', Wrk B w' wb H' md y L.2.2 ws ∧ Kp H w w' ∧ ∀ x, x ∈ H' → x ∈ H ∨ w.heap.size ≤ x
theorem wlEnd_mk {L : List Ver × Int × List Int} {B : Nat} {w w' : World} {wb : Nat} {H H' : List Nat} {md y : Int} {ws : List Ver} (acc : List Ver) (code : Int) (rs : List Int) (a : Option Addr) (cap : Nat) (h : L = (acc, code, rs)) (ho : w'.ownsRow w.heap.size 72 3 (.slice a acc.length cap) acc.length (vcells acc))
    (hd : Wrk B w' wb H' md y rs ws) (hk : Kp H w w') (hs : ∀ x, x ∈ H' → x ∈ H ∨ w.heap.size ≤ x) : WlEnd L B w wb H md y ws (.returned (.tuple #[.slice a acc.length cap, .int .i64 code])) w' := by
  subst h; exact ⟨a, cap, rfl, ho, H', hd, hk, hs⟩

/-- What stands at the head of a round of List. -/
structure WlI (R : List Ver × Int × List Int) (B : Nat) (w : World) (wb : Nat) (H : List Nat) (md y : Int) (f : Nat → List Ver) (n : Nat) (ws : List Ver) (t k : Nat) (acc : List Ver) (rs : List Int) (a : Option Addr) (cap : Nat) (wr : World) (Hk : List Nat) : Prop where
  goes : dgo f n y ws k (t + 1 - k) acc rs = R
  own : wr.ownsRow w.heap.size 72 3 (.slice a acc.length cap) acc.length (vcells acc)
  wrk : Wrk B wr wb Hk md y rs ws
  kp : Kp H w wr
  sub : ∀ x, x ∈ Hk → x ∈ H ∨ w.heap.size ≤ x
  far : ∀ g, (Value.slice a acc.length cap).ownBlock = some g → g ∉ Hk
  len : acc.length ≤ k

theorem own_lt {B : Nat} {w : World} {e : TypeId} {size n g : Nat} {v : Value} {xs : List Value} (h : w.ownsRow B e size v n xs) (hg : v.ownBlock = some g) : g < w.heap.size := by
  rcases h.2 with ⟨hn, _⟩ | ⟨g', cap, cur, rfl, h2, h3, h4⟩
  · subst hn; simp [Value.ownBlock] at hg
  · have : g' = g := by simpa [Value.ownBlock] using hg
    subst this
    exact lt_of_block h3

section
variable {R : List Ver × Int × List Int} {B : Nat} {w wr w1 W w2 : World} {wb : Nat} {H Hk H1 : List Nat} {md y : Int} {f : Nat → List Ver} {n : Nat} {ws : List Ver} {t k : Nat} {acc : List Ver} {rs : List Int} {a : Option Addr} {cap : Nat}
theorem WlI.own1 (h : WlI R B w wb H md y f n ws t k acc rs a cap wr Hk) (hk : Kp Hk wr w1) : w1.ownsRow w.heap.size 72 3 (.slice a acc.length cap) acc.length (vcells acc) := own_kp h.own hk h.far
theorem WlI.far1 (h : WlI R B w wb H md y f n ws t k acc rs a cap wr Hk) (hs : ∀ x, x ∈ H1 → x ∈ Hk ∨ wr.heap.size ≤ x) : ∀ g, (Value.slice a acc.length cap).ownBlock = some g → g ∉ H1 := by
  intro g hg hm
  rcases hs g hm with e | e
  · exact h.far g hg e
  · have := own_lt h.own hg; omega
theorem WlI.sub1 (h : WlI R B w wb H md y f n ws t k acc rs a cap wr Hk) (hs : ∀ x, x ∈ H1 → x ∈ Hk ∨ wr.heap.size ≤ x) : ∀ x, x ∈ H1 → x ∈ H ∨ w.heap.size ≤ x := by
  intro x hx
  rcases hs x hx with e | e
  · exact h.sub x e
  · right; have := h.kp.size; omega
theorem WlI.skip (h : WlI R B w wb H md y f n ws t k acc rs a cap wr Hk) (hk : k ≤ t) (hw : Kp Hk wr w1) (hd : Wrk B w1 wb H1 md y (dr f n y rs ws k) ws) (hs : ∀ x, x ∈ H1 → x ∈ Hk ∨ wr.heap.size ≤ x)
    (h0 : (dg f n y ws k).a = 0) (ht : ¬ (dg f n y ws k).t = true) : WlI R B w wb H md y f n ws t (k + 1) acc (dr f n y rs ws k) a cap w1 H1 :=
  ⟨by have := h.goes; rw [show t + 1 - k = (t + 1 - (k + 1)) + 1 by omega] at this; exact dgo_skip this h0 ht, h.own1 hw, hd, h.kp.trans hw h.sub, h.sub1 hs, h.far1 hs, by have := h.len; omega⟩
theorem WlI.more (h : WlI R B w wb H md y f n ws t k acc rs a cap wr Hk) (hk : k ≤ t) (hw : Kp Hk wr W) (hd : Wrk B W wb H1 md y (dr f n y rs ws k) ws) (hs : ∀ x, x ∈ H1 → x ∈ Hk ∨ wr.heap.size ≤ x)
    (h0 : (dg f n y ws k).a = 0) (ht : (dg f n y ws k).t = true) {g2 cap2 : Nat} (hown : w2.ownsRow w.heap.size 72 3 (.slice (some ⟨g2, 0, none⟩) (acc.length + 1) cap2) (acc.length + 1) (vcells acc ++ [.int .i64 k, .bool true, .string (dg f n y ws k).s]))
    (hgrow : W.grownBy w2 (Value.slice a acc.length cap).ownBlock) (hat : (Value.slice a acc.length cap).ownBlock = some g2 ∨ g2 = W.heap.size) : WlI R B w wb H md y f n ws t (k + 1) (acc ++ [⟨k, (dg f n y ws k).t, (dg f n y ws k).s⟩]) (dr f n y rs ws k) (some ⟨g2, 0, none⟩) cap2 w2 H1 := by
  have hk1 : Kp (Value.slice a acc.length cap).ownBlock.toList W w2 := (Kp.refl _ W).grown hgrow (fun g hg => .inl (by simp [hg]))
  refine ⟨by have := h.goes; rw [show t + 1 - k = (t + 1 - (k + 1)) + 1 by omega] at this; exact dgo_more this h0 ht, ?_, hd.kp hk1 (fun x hx hm => h.far1 hs x (by simpa using hm) hx), ?_, h.sub1 hs, ?_, by have := h.len; simp; omega⟩
  · have hv : vcells acc ++ [.int .i64 k, .bool true, .string (dg f n y ws k).s] = vcells (acc ++ [⟨k, (dg f n y ws k).t, (dg f n y ws k).s⟩]) := by rw [vcells_append, ht]; rfl
    rw [hv] at hown
    simpa using hown
  · exact (h.kp.trans hw h.sub).grown hgrow (fun g hg => .inr (own_ge h.own hg))
  · intro g hg hm
    have e : g2 = g := by simpa [Value.ownBlock] using hg
    subst e
    rcases hat with e | e
    · exact h.far1 hs g2 e hm
    · have := (hd.lo g2 hm).2; omega
end

set_option maxHeartbeats 2000000 in
theorem wlist60 {B sb n wb : Nat} {G H : List Nat} {f : Nat → List Ver} {md y : Int} {rs : List Int} {ws : List Ver} (fr to_ : Int) (w : World) (h : Sht B w sb G f n) (hd : Wrk B w wb H md y rs ws) (hF : ∀ x, x ∈ G → x ∉ H) (hrl : rs.length ≤ 800) (hwl : ws.length ≤ 900) :
    Calls Try.prog 60 #[.pointer (some ⟨wb, 0, none⟩), .pointer (some ⟨sb, 0, none⟩), .int .i64 fr, .int .i64 to_] w fun e w' => WlEnd (dls f n y ws rs fr to_) B w wb H md y ws e w' := by
  obtain ⟨in0, hi0, hz0, hz1, hz2⟩ := info_parts Try.info72
  have HT := hide h
  have HD := hide hd
  have HF := hide hF
  clear h hd hF
  by_cases hf : keyB fr = true
  · by_cases ht : keyB to_ = true
    · obtain ⟨p, hp, rfl⟩ := keyB_nat hf
      obtain ⟨t, ht8, rfl⟩ := keyB_nat ht
      have H0 : Hid (WlI (dls f n y ws rs p t) B w wb H md y f n ws t p [] rs none 0 w H) := ⟨(dls_in hf ht).symm, World.ownsRow_nil _ _ _ _, unhide HD, Kp.refl _ _, fun _ hx => .inl hx, fun g hg => by simp [Value.ownBlock] at hg, by simp⟩
      generalize dls f n y ws rs p t = R at *
      go_enter Try.func60, Try.ntmps60
      go_wp2_with fail
      refine (key12 _ _).mono ?_
      rintro e w' ⟨rfl, hw'⟩
      subst w'
      rw [hf]
      go_wp2_with fail
      refine (key12 _ _).mono ?_
      rintro e w' ⟨rfl, hw'⟩
      subst w'
      rw [ht]
      clear hf ht
      go_wp2_with fail
      go_loopw [10, 11] (fun s i wr => ∃ (k : Nat) (acc : List Ver) (rk : List Int) (a : Option Addr) (cap : Nat) (Hk : List Nat), k ≤ 8 ∧ s = .slice a acc.length cap ∧ i = .int .i64 k ∧ rk.length ≤ 800 + k ∧ Hid (WlI R B w wb H md y f n ws t k acc rk a cap wr Hk)) (fun _ i _ => 8 - (intOf i).toNat)
      case atStart => exact ⟨p, [], rs, none, 0, H, by omega, rfl, rfl, by omega, H0⟩
      case round =>
        obtain ⟨k, acc, rk, a, cap, Hk, hk, rfl, rfl, hrk, HL⟩ := hrel
        by_cases hlt : k ≤ t
        · have j0 : (k : Int) ≤ (t : Int) := by omega
          have hdl := dr_len f n y rk ws k
          go_wp2_with fail
          refine (wget56 k _ ((unhide HT).kp (unhide HL).kp (unhide HF)) (unhide HL).wrk (by omega) hwl).mono ?_
          rintro e w1 ⟨rfl, H1, hd1, hk1, hs1⟩
          have HK1 := hide hk1
          have HD1 := hide hd1
          have HS1 := hide hs1
          clear hk1 hd1 hs1
          by_cases h0 : (dg f n y ws k).a = 0
          · have H00 := hide h0
            rw [h0]
            clear h0
            by_cases h1 : (dg f n y ws k).t = true
            · have H1T := hide h1
              rw [h1]
              have hOW := hide ((unhide HL).own1 (((unhide HK1).alloc (.cells #[.bool true, .string (dg f n y ws k).s] 24)).alloc (.cells #[.int .i64 k, .bool true, .string (dg f n y ws k).s] 72)))
              have hal := (unhide HL).len
              have hwl2 := Nat.le_trans (unhide HL).kp.size (unhide HK1).size
              go_wp2_with (at_builtin; refine wpList_append_lies _ rfl _ _ 49 rfl w.heap.size 72 in0 _ 3 32 Try.underlying49 hi0 hz0 hz1 hz2 rfl (by omega) (.slice a acc.length cap) acc.length (vcells acc) rfl (unhide hOW) ⟨w1.heap.size + 1, 0, none⟩ 1 1 [.int .i64 k, .bool true, .string (dg f n y ws k).s] (by rfl) (by rfl) (World.news_of_block (cs := #[.int .i64 k, .bool true, .string (dg f n y ws k).s]) (t := 72) (fr := (0, 0)) (by have := heap_alloc_new (w1.alloc (.cells #[.bool true, .string (dg f n y ws k).s] 24)) (.cells #[.int .i64 k, .bool true, .string (dg f n y ws k).s] 72); simpa using this)) (by simp [Value.oneCell']) (by omega) (by unfold maxLen; omega) (by omega) (by simp; omega) _ rfl ?_; intro g2 cap2 w2 hown hgrow hat hlt2)
              have HL2 := hide ((unhide HL).more hlt (((unhide HK1).alloc _).alloc _) ((unhide HD1).kp0 (((Kp.refl [] w1).alloc _).alloc _)) (unhide HS1) (unhide H00) (unhide H1T) hown hgrow hat)
              clear hown hgrow hat
              go_wp2_with fail
              exact ⟨⟨k + 1, _, _, _, _, _, by omega, by simp, by go_num, by omega, HL2⟩, by simp [intOf]; omega⟩
            · have HL2 := hide ((unhide HL).skip hlt ((unhide HK1).alloc (.cells #[.bool (dg f n y ws k).t, .string (dg f n y ws k).s] 24)) ((unhide HD1).kp0 ((Kp.refl [] w1).alloc _)) (unhide HS1) (unhide H00) h1)
              have h1' : (dg f n y ws k).t = false := by simpa using h1
              rw [h1'] at HL2 ⊢
              clear h1 h1'
              go_wp2_with fail
              exact ⟨⟨k + 1, acc, _, a, cap, _, by omega, rfl, by go_num, by omega, HL2⟩, by simp [intOf]; omega⟩
          · have hg := (unhide HL).goes
            rw [show t + 1 - k = (t - k) + 1 by omega] at hg
            have hst := dgo_stop hg h0
            clear hg
            have HST := hide hst
            have HK2 := hide (((unhide HL).kp.trans (unhide HK1) (unhide HL).sub).alloc (.cells #[.bool (dg f n y ws k).t, .string (dg f n y ws k).s] 24))
            have HD2 := hide ((unhide HD1).kp0 ((Kp.refl [] w1).alloc (.cells #[.bool (dg f n y ws k).t, .string (dg f n y ws k).s] 24)))
            have HS2 := hide ((unhide HL).sub1 (unhide HS1))
            clear hst
            generalize (dg f n y ws k).a = q at *
            generalize (dg f n y ws k).t = qt at *
            generalize (dg f n y ws k).s = qs at *
            go_wp2_with fail
            go_ret2
            exact wlEnd_mk [] _ _ none 0 (unhide HST) (World.ownsRow_nil _ _ _ _) (unhide HD2) (unhide HK2) (unhide HS2)
        · have j0 : ¬ (k : Int) ≤ (t : Int) := by omega
          have hst := dgo_end (unhide HL).goes (by omega)
          have HST := hide hst
          clear hst
          go_wp2_with fail
          go_ret2
          exact wlEnd_mk acc 0 _ a cap (unhide HST) (unhide HL).own (unhide HL).wrk (unhide HL).kp (unhide HL).sub
    · have HE1 := hide (dls_out (f := f) (n := n) (y := y) (ws := ws) (rs := rs) (p := fr) (t := to_) (fun h => ht h.2))
      have ht2 : keyB to_ = false := by simpa using ht
      clear ht
      go_enter Try.func60, Try.ntmps60
      go_wp2_with fail
      refine (key12 _ _).mono ?_
      rintro e w' ⟨rfl, rfl⟩
      rw [hf]
      go_wp2_with fail
      refine (key12 _ _).mono ?_
      rintro e w' ⟨rfl, rfl⟩
      rw [ht2]
      go_wp2_with fail
      go_ret2
      exact wlEnd_mk [] 1 _ none 0 (unhide HE1) (World.ownsRow_nil _ _ _ _) (unhide HD) (Kp.refl _ _) (fun _ hx => .inl hx)
  · have HE1 := hide (dls_out (f := f) (n := n) (y := y) (ws := ws) (rs := rs) (p := fr) (t := to_) (fun h => hf h.1))
    have hf2 : keyB fr = false := by simpa using hf
    clear hf
    go_enter Try.func60, Try.ntmps60
    go_wp2_with fail
    refine (key12 _ _).mono ?_
    rintro e w' ⟨rfl, rfl⟩
    rw [hf2]
    go_wp2_with fail
    go_ret2
    exact wlEnd_mk [] 1 _ none 0 (unhide HE1) (World.ownsRow_nil _ _ _ _) (unhide HD) (Kp.refl _ _) (fun _ hx => .inl hx)
end Go.Proofs.Ytainekjcdmabbaa
