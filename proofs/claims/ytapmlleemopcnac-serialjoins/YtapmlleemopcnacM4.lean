/- D3, G1, L4, L5, S1, S2, S3, G2, G3, E2, E3, Th, D4: bound together for a claim. -/
import Derived.Test.YtapmlleemopcnacM3
import Derived.Deep.RegionLaw
import Derived.Deep.RegionWith
/- Put and List of a deed, by their contracts. -/
namespace Go.Proofs.Ytapmlleemopcnac
open Go.RowKit
set_option maxRecDepth 20000
attribute [local go_sem ↓] Go.wp_at_zero Go.wp_at_succ

theorem Tbl.kp1 {B : Nat} {w w' : World} {tb db : Nat} {F : List Nat} {f : Nat → List Ver} {n : Nat} (h : Tbl B w tb F f n) (hk : Kp [db] w w') (hF : db ∉ F) : Tbl B w' tb F f n :=
  h.kp hk (fun x hx hm => hF (by have e : x = db := by simpa using hm
                                 rw [← e]; exact hx))

theorem dpw_not {md : Int} {ws : List Ver} {k : Int} {t : Bool} {s : ByteArray} (h : ¬ dpc md k t s = 0) : dpw md ws k t s = ws := by unfold dpw; rw [if_neg h]
theorem dpw_yes {md : Int} {ws : List Ver} {k : Int} {t : Bool} {s : ByteArray} (h : dpc md k t s = 0) : dpw md ws k t s = ws ++ [⟨k, t, s⟩] := by unfold dpw; rw [if_pos h]

set_option maxHeartbeats 1000000 in
theorem dput57 {db : Nat} {md y : Int} {rs : List Int} {ws : List Ver} (k : Int) (t : Bool) (s : ByteArray) (w : World) (h : Ded w db md y rs ws) (hs : s.size ≤ maxLen) :
    Calls Try.prog 102 #[.pointer (some ⟨db, 0, none⟩), .int .i64 k, .agg #[.bool t, .string s]] w fun e w' => e = .returned (.int .i64 (dpc md k t s)) ∧ Ded w' db md y rs (dpw md ws k t s) ∧ Kp [db] w w' := by
  have HD := hide h
  have hlt := h.lt
  have qm := h.mcell
  clear h
  by_cases hk : keyB k = true
  · by_cases hm : md = 3
    · have hc : dpc md k t s = 3 := by unfold dpc; rw [if_pos hk, if_pos hm]
      rw [dpw_not (by rw [hc]; decide), hc]
      clear hc
      subst hm
      go_enter Try.func102, Try.ntmps102
      go_wp2_with fail
      refine (key11 _ _).mono ?_
      rintro e w' ⟨rfl, rfl⟩
      rw [hk]
      clear hk
      go_wp2_with fail
      go_ret
      exact ⟨rfl, (unhide HD).kp0 ((Kp.refl [] w).alloc _), ((Kp.refl [] w).alloc _).mono (by simp)⟩
    · have hc : dpc md k t s = chk t s := by unfold dpc; rw [if_pos hk, if_neg hm]
      have em : (md == 3) = false := beq_eq_false_iff_ne.2 hm
      by_cases h0 : chk t s = 0
      · obtain ⟨j, hj, rfl⟩ := keyB_nat hk
        rw [dpw_yes (by rw [hc]; exact h0), hc, h0]
        have H0 := hide h0
        have i0 : (0 : Int) ≤ (j : Int) := by omega
        have i1 : (j : Int) < 8 := by omega
        clear hc h0 hm
        go_enter Try.func102, Try.ntmps102
        go_wp2_with fail
        refine (key11 _ _).mono ?_
        rintro e w' ⟨rfl, rfl⟩
        rw [hk]
        clear hk
        go_wp2_with fail
        refine (check13 t s _ hs).mono ?_
        rintro e w1 ⟨rfl, hkp⟩
        rw [unhide H0]
        have b0 : w1.cell? ⟨w.heap.size, 0, none⟩ = some (.bool t) := hkp.cell (by simp) (by simp)
        have b1 : w1.cell? ⟨w.heap.size, 1, none⟩ = some (.string s) := hkp.cell (by simp) (by simp)
        have hkp1 := ((Kp.refl [] w).alloc (.cells #[.bool t, .string s] 31)).trans0 hkp
        have hd1 := (unhide HD).kp0 hkp1
        have c1 := hd1.ncell1 hj
        have c2 := hd1.ncell2 hj
        have c3 := hd1.ncell3 hj
        have f1 := hd1.frozen (2 + j * 4 + 1)
        have f2 := hd1.frozen (2 + j * 4 + 2)
        have f3 := hd1.frozen (2 + j * 4 + 2 + 1)
        have hne : db ≠ w.heap.size := by omega
        have HD1 := hide hd1
        have HK1 := hide hkp1
        clear hd1 hkp hkp1 qm em
        go_wp2_with fail
        go_region
        all_goals
          go_wp2_with fail
          go_ret
          refine ⟨rfl, ((unhide HD1).kp0 (Kp.refl [] w1).drew).write hj t s, ?_⟩
          exact ((((unhide HK1).mono (T := [db]) (by simp)).drew.setCell (.inl (by simp)) _).setCell (.inl (by simp)) _).setCell (.inl (by simp)) _
      · rw [dpw_not (by rw [hc]; exact h0), hc]
        clear hc hm
        go_enter Try.func102, Try.ntmps102
        go_wp2_with fail
        refine (key11 _ _).mono ?_
        rintro e w' ⟨rfl, rfl⟩
        rw [hk]
        clear hk
        go_wp2_with fail
        refine (check13 t s _ hs).mono ?_
        rintro e w1 ⟨rfl, hkp⟩
        have hkp1 := ((Kp.refl [] w).alloc (.cells #[.bool t, .string s] 31)).trans0 hkp
        have HK1 := hide hkp1
        clear hkp hkp1 qm em
        generalize hcc : chk t s = c at *
        have HCC := hide hcc
        clear hcc
        go_wp2_with fail
        go_ret
        exact ⟨ret_int (unhide HCC).symm, (unhide HD).kp0 (unhide HK1), (unhide HK1).mono (by simp)⟩
  · have hk2 : keyB k = false := by simpa using hk
    have hc : dpc md k t s = 1 := by unfold dpc; rw [if_neg hk]
    rw [dpw_not (by rw [hc]; decide), hc]
    clear hc hk
    go_enter Try.func102, Try.ntmps102
    go_wp2_with fail
    refine (key11 _ _).mono ?_
    rintro e w' ⟨rfl, rfl⟩
    rw [hk2]
    clear hk2
    go_wp2_with fail
    go_ret
    exact ⟨rfl, (unhide HD).kp0 ((Kp.refl [] w).alloc _), ((Kp.refl [] w).alloc _).mono (by simp)⟩

/-- What List tells, and what it leaves. -/
def DlEnd (L : List Ver × Int × List Int) (w : World) (db : Nat) (md y : Int) (ws : List Ver) (e : Ending) (w' : World) : Prop :=
  ∃ a cap, e = .returned (.tuple #[.slice a L.1.length cap, .int .i64 L.2.1]) ∧ w'.ownsRow w.heap.size 79 3 (.slice a L.1.length cap) L.1.length (vcells L.1) ∧ Ded w' db md y L.2.2 ws ∧ Kp [db] w w'
theorem dlEnd_mk {L : List Ver × Int × List Int} {w w' : World} {db : Nat} {md y : Int} {ws : List Ver} (acc : List Ver) (code : Int) (rs : List Int) (a : Option Addr) (cap : Nat) (h : L = (acc, code, rs)) (ho : w'.ownsRow w.heap.size 79 3 (.slice a acc.length cap) acc.length (vcells acc))
    (hd : Ded w' db md y rs ws) (hk : Kp [db] w w') : DlEnd L w db md y ws (.returned (.tuple #[.slice a acc.length cap, .int .i64 code])) w' := by
  subst h; exact ⟨a, cap, rfl, ho, hd, hk⟩

/-- What stands at the head of a round of List. -/
structure DlI (R : List Ver × Int × List Int) (w : World) (db : Nat) (md y : Int) (f : Nat → List Ver) (n : Nat) (ws : List Ver) (t k : Nat) (acc : List Ver) (rs : List Int) (a : Option Addr) (cap : Nat) (wr : World) : Prop where
  goes : dgo f n y ws k (t + 1 - k) acc rs = R
  own : wr.ownsRow w.heap.size 79 3 (.slice a acc.length cap) acc.length (vcells acc)
  ded : Ded wr db md y rs ws
  kp : Kp [db] w wr
  len : acc.length ≤ k
  lt : db < w.heap.size

section
variable {R : List Ver × Int × List Int} {w wr w1 W w2 : World} {db : Nat} {md y : Int} {f : Nat → List Ver} {n : Nat} {ws : List Ver} {t k : Nat} {acc : List Ver} {rs : List Int} {a : Option Addr} {cap : Nat}
theorem DlI.own1 (h : DlI R w db md y f n ws t k acc rs a cap wr) (hk : Kp [db] wr w1) : w1.ownsRow w.heap.size 79 3 (.slice a acc.length cap) acc.length (vcells acc) :=
  own_kp h.own hk (fun g hg => by have := own_ge h.own hg; have := h.lt; simp; omega)
theorem DlI.skip (h : DlI R w db md y f n ws t k acc rs a cap wr) (hk : k ≤ t) (hw : Kp [db] wr w1) (hd : Ded w1 db md y (dr f n y rs ws k) ws)
    (h0 : (dg f n y ws k).a = 0) (ht : ¬ (dg f n y ws k).t = true) : DlI R w db md y f n ws t (k + 1) acc (dr f n y rs ws k) a cap w1 :=
  ⟨by have := h.goes; rw [show t + 1 - k = (t + 1 - (k + 1)) + 1 by omega] at this; exact dgo_skip this h0 ht, h.own1 hw, hd, h.kp.trans hw (by simp), by have := h.len; omega, h.lt⟩
theorem DlI.more (h : DlI R w db md y f n ws t k acc rs a cap wr) (hk : k ≤ t) (hw : Kp [db] wr W) (hd : Ded W db md y (dr f n y rs ws k) ws)
    (h0 : (dg f n y ws k).a = 0) (ht : (dg f n y ws k).t = true) {g2 cap2 : Nat} (hown : w2.ownsRow w.heap.size 79 3 (.slice (some ⟨g2, 0, none⟩) (acc.length + 1) cap2) (acc.length + 1) (vcells acc ++ [.int .i64 k, .bool true, .string (dg f n y ws k).s]))
    (hgrow : W.grownBy w2 (Value.slice a acc.length cap).ownBlock) : DlI R w db md y f n ws t (k + 1) (acc ++ [⟨k, (dg f n y ws k).t, (dg f n y ws k).s⟩]) (dr f n y rs ws k) (some ⟨g2, 0, none⟩) cap2 w2 := by
  have hkp : Kp [db] w w2 := (h.kp.trans hw (by simp)).grown hgrow (fun g hg => .inr (own_ge h.own hg))
  refine ⟨by have := h.goes; rw [show t + 1 - k = (t + 1 - (k + 1)) + 1 by omega] at this; exact dgo_more this h0 ht, ?_, ?_, hkp, by have := h.len; simp; omega, h.lt⟩
  · have hv : vcells acc ++ [.int .i64 k, .bool true, .string (dg f n y ws k).s] = vcells (acc ++ [⟨k, (dg f n y ws k).t, (dg f n y ws k).s⟩]) := by rw [vcells_append, ht]; rfl
    rw [hv] at hown
    simpa using hown
  · unfold Ded at hd ⊢
    rw [hgrow.block db (lt_of_block hd) (fun e => by have := own_ge h.own e.symm; have := h.lt; omega)]
    exact hd
end

theorem dls_in {f : Nat → List Ver} {n : Nat} {y : Int} {ws : List Ver} {rs : List Int} {p t : Nat} (hf : keyB p = true) (ht : keyB t = true) : dls f n y ws rs p t = dgo f n y ws p (t + 1 - p) [] rs := by
  unfold dls
  rw [if_pos ⟨hf, ht⟩, Int.toNat_natCast]
  congr 1
  omega
theorem dls_out {f : Nat → List Ver} {n : Nat} {y : Int} {ws : List Ver} {rs : List Int} {p t : Int} (h : ¬ (keyB p = true ∧ keyB t = true)) : dls f n y ws rs p t = ([], 1, rs) := by
  unfold dls
  rw [if_neg h]

set_option maxHeartbeats 2000000 in
theorem dlist59 {B tb n db : Nat} {F : List Nat} {f : Nat → List Ver} {md y : Int} {rs : List Int} {ws : List Ver} (fr to_ : Int) (w : World) (h : Tbl B w tb F f n) (hd : Ded w db md y rs ws) (hF : db ∉ F) :
    Calls Try.prog 103 #[.pointer (some ⟨db, 0, none⟩), .pointer (some ⟨tb, 0, none⟩), .int .i64 fr, .int .i64 to_] w fun e w' => DlEnd (dls f n y ws rs fr to_) w db md y ws e w' := by
  obtain ⟨in0, hi0, hz0, hz1, hz2⟩ := info_parts Try.info79
  have HT := hide h
  have HD := hide hd
  have HF := hide hF
  clear h hd hF
  by_cases hf : keyB fr = true
  · by_cases ht : keyB to_ = true
    · obtain ⟨p, hp, rfl⟩ := keyB_nat hf
      obtain ⟨t, ht8, rfl⟩ := keyB_nat ht
      have H0 : Hid (DlI (dls f n y ws rs p t) w db md y f n ws t p [] rs none 0 w) := ⟨(dls_in hf ht).symm, World.ownsRow_nil _ _ _ _, unhide HD, Kp.refl _ _, by simp, (unhide HD).lt⟩
      generalize dls f n y ws rs p t = R at *
      go_enter Try.func103, Try.ntmps103
      go_wp2_with fail
      refine (key11 _ _).mono ?_
      rintro e w' ⟨rfl, hw'⟩
      subst w'
      rw [hf]
      go_wp2_with fail
      refine (key11 _ _).mono ?_
      rintro e w' ⟨rfl, hw'⟩
      subst w'
      rw [ht]
      clear hf ht
      go_wp2_with fail
      go_loopw [10, 11] (fun s i wr => ∃ (k : Nat) (acc : List Ver) (rk : List Int) (a : Option Addr) (cap : Nat), k ≤ 8 ∧ s = .slice a acc.length cap ∧ i = .int .i64 k ∧ Hid (DlI R w db md y f n ws t k acc rk a cap wr)) (fun _ i _ => 8 - (intOf i).toNat)
      case atStart => exact ⟨p, [], rs, none, 0, by omega, rfl, rfl, H0⟩
      case round =>
        obtain ⟨k, acc, rk, a, cap, hk, rfl, rfl, HL⟩ := hrel
        by_cases hlt : k ≤ t
        · have j0 : (k : Int) ≤ (t : Int) := by omega
          go_wp2_with fail
          refine (dget55 k _ ((unhide HT).kp1 (unhide HL).kp (unhide HF)) (unhide HL).ded).mono ?_
          rintro e w1 ⟨rfl, hd1, hk1⟩
          have HK1 := hide hk1
          have HD1 := hide hd1
          clear hk1 hd1
          by_cases h0 : (dg f n y ws k).a = 0
          · have H00 := hide h0
            rw [h0]
            clear h0
            by_cases h1 : (dg f n y ws k).t = true
            · have H1 := hide h1
              rw [h1]
              have hOW := hide ((unhide HL).own1 (((unhide HK1).alloc (.cells #[.bool true, .string (dg f n y ws k).s] 31)).alloc (.cells #[.int .i64 k, .bool true, .string (dg f n y ws k).s] 79)))
              have hal := (unhide HL).len
              have hwl := ((unhide HL).kp.trans (unhide HK1) (by simp)).size
              go_wp2_with (at_builtin; refine wpList_append_lies _ rfl _ _ 32 rfl w.heap.size 79 in0 _ 3 32 Try.underlying32 hi0 hz0 hz1 hz2 rfl (by omega) (.slice a acc.length cap) acc.length (vcells acc) rfl (unhide hOW) ⟨w1.heap.size + 1, 0, none⟩ 1 1 [.int .i64 k, .bool true, .string (dg f n y ws k).s] (by rfl) (by rfl) (World.news_of_block (cs := #[.int .i64 k, .bool true, .string (dg f n y ws k).s]) (t := 79) (fr := (0, 0)) (by have := heap_alloc_new (w1.alloc (.cells #[.bool true, .string (dg f n y ws k).s] 31)) (.cells #[.int .i64 k, .bool true, .string (dg f n y ws k).s] 79); simpa using this)) (by simp [Value.oneCell']) (by omega) (by unfold maxLen; omega) (by omega) (by simp; omega) _ rfl ?_; intro g2 cap2 w2 hown hgrow hat hlt2)
              have HL2 := hide ((unhide HL).more hlt (((unhide HK1).alloc _).alloc _) ((unhide HD1).kp0 (((Kp.refl [] w1).alloc _).alloc _)) (unhide H00) (unhide H1) hown hgrow)
              clear hown hgrow hat
              go_wp2_with fail
              exact ⟨⟨k + 1, _, _, _, _, by omega, by simp, by go_num, HL2⟩, by simp [intOf]; omega⟩
            · have HL2 := hide ((unhide HL).skip hlt ((unhide HK1).alloc (.cells #[.bool (dg f n y ws k).t, .string (dg f n y ws k).s] 31)) ((unhide HD1).kp0 ((Kp.refl [] w1).alloc _)) (unhide H00) h1)
              have h1' : (dg f n y ws k).t = false := by simpa using h1
              rw [h1'] at HL2 ⊢
              clear h1 h1'
              go_wp2_with fail
              exact ⟨⟨k + 1, acc, _, a, cap, by omega, rfl, by go_num, HL2⟩, by simp [intOf]; omega⟩
          · have hg := (unhide HL).goes
            rw [show t + 1 - k = (t - k) + 1 by omega] at hg
            have hst := dgo_stop hg h0
            clear hg
            have HST := hide hst
            have HK2 := hide (((unhide HL).kp.trans (unhide HK1) (by simp)).alloc (.cells #[.bool (dg f n y ws k).t, .string (dg f n y ws k).s] 31))
            have HD2 := hide ((unhide HD1).kp0 ((Kp.refl [] w1).alloc (.cells #[.bool (dg f n y ws k).t, .string (dg f n y ws k).s] 31)))
            clear hst
            generalize (dg f n y ws k).a = q at *
            generalize (dg f n y ws k).t = qt at *
            generalize (dg f n y ws k).s = qs at *
            go_wp2_with fail
            go_ret2
            exact dlEnd_mk [] _ _ none 0 (unhide HST) (World.ownsRow_nil _ _ _ _) (unhide HD2) (unhide HK2)
        · have j0 : ¬ (k : Int) ≤ (t : Int) := by omega
          have hst := dgo_end (unhide HL).goes (by omega)
          have HST := hide hst
          clear hst
          go_wp2_with fail
          go_ret2
          exact dlEnd_mk acc 0 _ a cap (unhide HST) (unhide HL).own (unhide HL).ded (unhide HL).kp
    · have HE1 := hide (dls_out (f := f) (n := n) (y := y) (ws := ws) (rs := rs) (p := fr) (t := to_) (fun h => ht h.2))
      have ht2 : keyB to_ = false := by simpa using ht
      clear ht
      go_enter Try.func103, Try.ntmps103
      go_wp2_with fail
      refine (key11 _ _).mono ?_
      rintro e w' ⟨rfl, rfl⟩
      rw [hf]
      go_wp2_with fail
      refine (key11 _ _).mono ?_
      rintro e w' ⟨rfl, rfl⟩
      rw [ht2]
      go_wp2_with fail
      go_ret2
      exact dlEnd_mk [] 1 _ none 0 (unhide HE1) (World.ownsRow_nil _ _ _ _) (unhide HD) (Kp.refl _ _)
  · have HE1 := hide (dls_out (f := f) (n := n) (y := y) (ws := ws) (rs := rs) (p := fr) (t := to_) (fun h => hf h.1))
    have hf2 : keyB fr = false := by simpa using hf
    clear hf
    go_enter Try.func103, Try.ntmps103
    go_wp2_with fail
    refine (key11 _ _).mono ?_
    rintro e w' ⟨rfl, rfl⟩
    rw [hf2]
    go_wp2_with fail
    go_ret2
    exact dlEnd_mk [] 1 _ none 0 (unhide HE1) (World.ownsRow_nil _ _ _ _) (unhide HD) (Kp.refl _ _)
end Go.Proofs.Ytapmlleemopcnac

/- The document's own deed: its memory; In, SameInts and last, by their contracts. -/
namespace Go.Proofs.Ytapmlleemopcnac
open Go.RowKit
set_option maxRecDepth 20000
attribute [local go_sem ↓] Go.wp_at_zero Go.wp_at_succ

def ig (l : List Int) (k : Nat) : Int := l.getD k 0
/-- The numbers lie behind the slice's address. -/
def SlI (w : World) (a : Option Addr) (l : List Int) : Prop := 0 < l.length → ∃ g o, a = some ⟨g, o, none⟩ ∧ ∀ j, j < l.length → w.cell? ⟨g, o + j, none⟩ = some (.int .i64 (ig l j))
theorem SlI.kp0 {w w' : World} {a : Option Addr} {l : List Int} (h : SlI w a l) (hk : Kp [] w w') : SlI w' a l := fun hp => by
  obtain ⟨g, o, e, hs⟩ := h hp
  exact ⟨g, o, e, fun j hj => hk.cell (p := ⟨g, o + j, none⟩) (by simp) (hs j hj)⟩
theorem icells_at {l : List Int} {j : Nat} (h : j < l.length) : (icells l)[j]? = some (.int .i64 (ig l j)) := by
  simp [icells, ig, List.getD_eq_getElem?_getD, h]
theorem sli_own {B n : Nat} {w : World} {a : Option Addr} {cap : Nat} {l : List Int} (h : w.ownsRow B 3 1 (.slice a n cap) n (icells l)) (hn : n = l.length) : SlI w a l := by
  intro hp
  rcases h.2 with ⟨e, _⟩ | ⟨g, c, cur, e, _⟩
  · simp only [Value.slice.injEq] at e; omega
  · simp only [Value.slice.injEq] at e
    obtain ⟨rfl, _, _⟩ := e
    refine ⟨g, 0, rfl, fun j hj => ?_⟩
    subst hn
    have := h.cellAt j (by omega)
    rw [Nat.zero_add, this]; exact icells_at hj

theorem mem_ig {l : List Int} {x : Int} : x ∈ l ↔ ∃ j, j < l.length ∧ ig l j = x := by
  constructor
  · intro h
    obtain ⟨j, hj, e⟩ := List.mem_iff_getElem.1 h
    exact ⟨j, hj, by simp [ig, List.getD_eq_getElem?_getD, hj, e]⟩
  · rintro ⟨j, hj, e⟩
    refine List.mem_iff_getElem.2 ⟨j, hj, ?_⟩
    simpa [ig, List.getD_eq_getElem?_getD, hj] using e

set_option maxHeartbeats 400000 in
theorem in72 {l : List Int} (a : Option Addr) (cap : Nat) (x : Int) (w : World) (h : SlI w a l) (hm : l.length ≤ 1000) :
    Calls Try.prog 42 #[.slice a l.length cap, .int .i64 x] w fun e w' => e = .returned (.bool (decide (x ∈ l))) ∧ w' = w := by
  have HS := hide h
  clear h
  go_enter Try.func42, Try.ntmps42
  go_wp2_with fail
  go_loop [5] (fun i => ∃ d : Nat, d ≤ l.length ∧ i = .int .i64 d ∧ Hid (∀ j, j < d → ig l j ≠ x)) (fun i => l.length - (intOf i).toNat)
  case atStart => exact ⟨0, Nat.zero_le _, rfl, fun j hj => by omega⟩
  case round =>
    obtain ⟨d, hd, rfl, HN⟩ := hrel
    by_cases hlt : d < l.length
    · obtain ⟨g, o, rfl, hs⟩ := unhide HS (by omega)
      have q0 := hs d hlt
      have i0 : (0 : Int) ≤ (d : Int) := by omega
      have i1 : (d : Int) < (l.length : Int) := by omega
      clear hs
      by_cases hx : ig l d = x
      · have HM : Hid (decide (x ∈ l) = true) := decide_eq_true (mem_ig.2 ⟨d, hlt, hx⟩)
        rw [hx] at q0
        clear hx
        go_wp2
        go_ret
        exact ⟨ret_bool (unhide HM).symm, rfl⟩
      · have HN2 : Hid (∀ j, j < d + 1 → ig l j ≠ x) := fun j hj => by
          by_cases e : j = d
          · subst e; exact hx
          · exact unhide HN j (by omega)
        have ex : (ig l d == x) = false := beq_eq_false_iff_ne.2 hx
        clear hx
        go_wp2
        exact ⟨⟨d + 1, by omega, by go_num, HN2⟩, by simp [intOf]; omega⟩
    · have HM : Hid (decide (x ∈ l) = false) := decide_eq_false (fun hm => by
        obtain ⟨j, hj, e⟩ := mem_ig.1 hm
        exact unhide HN j (by omega) e)
      go_wp2
      go_ret
      exact ⟨ret_bool (unhide HM).symm, rfl⟩

/-- The document's deed: the box wb holds the mode, the commit, what was read and what was written; H: all blocks that are its own. -/
structure WrkL (B : Nat) (w : World) (wb : Nat) (H : List Nat) (ra : Option Addr) (rc : Nat) (wa : Option Addr) (wc : Nat) (md y : Int) (rs : List Int) (ws : List Ver) : Prop where
  box : w.heap[wb]? = some (.cells #[.int .i64 md, .int .i64 y, .slice ra rs.length rc, .slice wa ws.length wc] 66 (0, 0))
  ro : w.ownsRow B 3 1 (.slice ra rs.length rc) rs.length (icells rs)
  wo : w.ownsRow B 79 3 (.slice wa ws.length wc) ws.length (vcells ws)
  rb : ∀ g, (Value.slice ra rs.length rc).ownBlock = some g → g ≠ wb ∧ g ∈ H
  ab : ∀ g, (Value.slice wa ws.length wc).ownBlock = some g → g ≠ wb ∧ g ∈ H
  rw : ∀ g g', (Value.slice ra rs.length rc).ownBlock = some g → (Value.slice wa ws.length wc).ownBlock = some g' → g ≠ g'
  bH : wb ∈ H
  lo : ∀ x, x ∈ H → B ≤ x ∧ x < w.heap.size
def Wrk (B : Nat) (w : World) (wb : Nat) (H : List Nat) (md y : Int) (rs : List Int) (ws : List Ver) : Prop := ∃ ra rc wa wc, WrkL B w wb H ra rc wa wc md y rs ws

section
variable {B : Nat} {w w' : World} {wb : Nat} {H : List Nat} {ra : Option Addr} {rc : Nat} {wa : Option Addr} {wc : Nat} {md y : Int} {rs : List Int} {ws : List Ver}
theorem WrkL.kp {S : List Nat} (h : WrkL B w wb H ra rc wa wc md y rs ws) (hk : Kp S w w') (hS : ∀ x, x ∈ H → x ∉ S) : WrkL B w' wb H ra rc wa wc md y rs ws :=
  ⟨by rw [hk.block wb (lt_of_block h.box) (hS _ h.bH)]; exact h.box, own_kp h.ro hk (fun g hg => hS g (h.rb g hg).2), own_kp h.wo hk (fun g hg => hS g (h.ab g hg).2), h.rb, h.ab, h.rw, h.bH, fun x hx => ⟨(h.lo x hx).1, Nat.lt_of_lt_of_le (h.lo x hx).2 hk.size⟩⟩
theorem WrkL.kp0 (h : WrkL B w wb H ra rc wa wc md y rs ws) (hk : Kp [] w w') : WrkL B w' wb H ra rc wa wc md y rs ws := h.kp hk (fun _ _ => by simp)
theorem Wrk.kp {S : List Nat} (h : Wrk B w wb H md y rs ws) (hk : Kp S w w') (hS : ∀ x, x ∈ H → x ∉ S) : Wrk B w' wb H md y rs ws := by
  obtain ⟨ra, rc, wa, wc, h⟩ := h
  exact ⟨ra, rc, wa, wc, h.kp hk hS⟩
theorem Wrk.kp0 (h : Wrk B w wb H md y rs ws) (hk : Kp [] w w') : Wrk B w' wb H md y rs ws := h.kp hk (fun _ _ => by simp)
theorem Wrk.lo (h : Wrk B w wb H md y rs ws) : ∀ x, x ∈ H → B ≤ x ∧ x < w.heap.size := by
  obtain ⟨ra, rc, wa, wc, h⟩ := h
  exact h.lo
theorem WrkL.c0 (h : WrkL B w wb H ra rc wa wc md y rs ws) : w.cell? ⟨wb, 0, none⟩ = some (.int .i64 md) := cell_of_block h.box rfl
theorem WrkL.c1 (h : WrkL B w wb H ra rc wa wc md y rs ws) : w.cell? ⟨wb, 1, none⟩ = some (.int .i64 y) := cell_of_block h.box rfl
theorem WrkL.c2 (h : WrkL B w wb H ra rc wa wc md y rs ws) : w.cell? ⟨wb, 2, none⟩ = some (.slice ra rs.length rc) := cell_of_block h.box rfl
theorem WrkL.c3 (h : WrkL B w wb H ra rc wa wc md y rs ws) : w.cell? ⟨wb, 3, none⟩ = some (.slice wa ws.length wc) := cell_of_block h.box rfl
theorem WrkL.rsl (h : WrkL B w wb H ra rc wa wc md y rs ws) : SlI w ra rs := sli_own h.ro rfl
theorem WrkL.wsl (h : WrkL B w wb H ra rc wa wc md y rs ws) : SlO w wa ws := slo_own h.wo rfl
end

theorem lw_here {ws : List Ver} {k : Int} {i : Nat} (h : va ws i = k) : lw ws k (i + 1) = some ⟨k, vt ws i, vb ws i⟩ := by simp only [lw]; rw [if_pos h]
theorem lw_past {ws : List Ver} {k : Int} {i : Nat} (h : ¬ va ws i = k) : lw ws k (i + 1) = lw ws k i := by simp only [lw]; rw [if_neg h]

set_option maxHeartbeats 1000000 in
theorem wlast81 {B wb : Nat} {H : List Nat} {md y : Int} {rs : List Int} {ws : List Ver} (k : Int) (w : World) (h : Wrk B w wb H md y rs ws) (hm : ws.length ≤ 1000) :
    Calls Try.prog 109 #[.pointer (some ⟨wb, 0, none⟩), .int .i64 k] w fun e w' => e = .returned (.tuple #[.agg #[.bool ((lwr ws k).getD dv).t, .string ((lwr ws k).getD dv).s], .bool (lwr ws k).isSome]) ∧ Kp [] w w' := by
  obtain ⟨ra, rc, wa, wc, h⟩ := h
  have hlt := lt_of_block h.box
  have q3 := h.c3
  have HS := hide h.wsl
  clear h
  go_enter Try.func109, Try.ntmps109
  go_wp2_with fail
  go_loop [6] (fun i => ∃ d : Nat, d ≤ ws.length ∧ i = .int .i64 ((d : Int) - 1) ∧ Hid (lw ws k d = lwr ws k)) (fun i => (intOf i + 1).toNat)
  case atStart => exact ⟨ws.length, Nat.le_refl _, rfl, rfl⟩
  case round =>
    obtain ⟨d, hd, rfl, HE⟩ := hrel
    by_cases hd0 : 0 < d
    · obtain ⟨c, rfl⟩ : ∃ c, d = c + 1 := ⟨d - 1, by omega⟩
      have hc1 : ((c + 1 : Nat) : Int) - 1 = (c : Int) := by omega
      rw [hc1]
      obtain ⟨g, o, rfl, hs⟩ := unhide HS (by omega)
      have p0 := hs.at0 c (by omega)
      have p1 := hs.at1 c (by omega)
      have p2 : w.cell? ⟨g, o + c * 3 + 1 + 1, none⟩ = some (.string (vb ws c)) := hs.at2 c (by omega)
      have hgl := hs.lt (by omega)
      have i0 : (0 : Int) ≤ (c : Int) := by omega
      have i1 : (c : Int) < (ws.length : Int) := by omega
      clear hs
      by_cases hx : va ws c = k
      · have HV := hide ((unhide HE).symm.trans (lw_here hx))
        rw [hx] at p0
        clear hx
        go_wp2
        refine bodyPost_ret (v := .tuple #[.agg #[.bool (vt ws c), .string (vb ws c)], .bool true]) (by simp [results, Try.results109, go_sem]) rfl ⟨by rw [unhide HV]; rfl, ?_⟩
        exact (Kp.refl [] w).alloc _
      · have HE2 := hide ((lw_past hx).symm.trans (unhide HE))
        have ex : (va ws c == k) = false := beq_eq_false_iff_ne.2 hx
        clear hx
        go_wp2
        exact ⟨⟨c, by omega, by go_num, HE2⟩, by simp [intOf]⟩
    · have e : d = 0 := by omega
      subst e
      have HV : Hid (lwr ws k = none) := (unhide HE).symm
      go_wp2
      refine bodyPost_ret (v := .tuple #[.agg #[.bool false, .string ByteArray.empty], .bool false]) (by simp [results, Try.results109, go_sem]; rfl) rfl ⟨by rw [unhide HV]; rfl, ?_⟩
      exact (Kp.refl [] w).alloc _
end Go.Proofs.Ytapmlleemopcnac

/- Put and Clear of a line that lies at a place of a greater box, by their contracts. -/
namespace Go.Proofs.Ytapmlleemopcnac
open Go.RowKit
set_option maxRecDepth 20000
attribute [local go_sem ↓] Go.wp_at_zero Go.wp_at_succ

theorem set_same {cs : Array Value} {i : Nat} {v : Value} (h : cs[i]? = some v) : cs.setIfInBounds i v = cs := by
  have hi : i < cs.size := (Array.getElem?_eq_some_iff.1 h).1
  apply Array.ext_getElem?
  intro j
  rw [Array.getElem?_setIfInBounds]
  split
  · rename_i e; subst e; rw [h]
  · rfl
theorem set_at {cs : Array Value} {i : Nat} {v : Value} (u : Value) (h : cs[i]? = some v) : (cs.setIfInBounds i u)[i]? = some u := by
  have hi : i < cs.size := (Array.getElem?_eq_some_iff.1 h).1
  rw [Array.getElem?_setIfInBounds, if_pos rfl, if_pos hi]
theorem heap_set_at {w : World} {b : Nat} {cs : Array Value} {t : TypeId} (i : Nat) (v : Value) (h : w.heap[b]? = some (.cells cs t (0, 0))) : (w.setCell ⟨b, i, none⟩ v).heap[b]? = some (.cells (cs.setIfInBounds i v) t (0, 0)) := by
  simp only [World.setCell, Array.getElem?_modify, h, if_true, Option.map_some]
  simp

/-- A line's memory: the place i of the box r holds the slice of its versions. -/
structure LinX (B : Nat) (w : World) (r : Nat) (cs : Array Value) (ty : TypeId) (i g o cap : Nat) (vs : List Ver) : Prop where
  box : w.heap[r]? = some (.cells cs ty (0, 0))
  here : cs[i]? = some (.slice (some ⟨g, o, none⟩) vs.length cap)
  sla : SlA w g o vs
  ne : r ≠ g
  hr : B ≤ r
  hg : B ≤ g
  pos : 0 < vs.length
  cap : vs.length ≤ cap

section
variable {B : Nat} {w : World} {r : Nat} {cs : Array Value} {ty : TypeId} {i g o cap : Nat} {vs : List Ver}
theorem LinX.rlt (h : LinX B w r cs ty i g o cap vs) : r < w.heap.size := (Array.getElem?_eq_some_iff.1 h.box).1
theorem LinX.glt (h : LinX B w r cs ty i g o cap vs) : g < w.heap.size := h.sla.lt h.pos
theorem LinX.cell (h : LinX B w r cs ty i g o cap vs) : w.cell? ⟨r, i, none⟩ = some (.slice (some ⟨g, o, none⟩) vs.length cap) := by
  rw [cell_of_row w r i _ _ _ h.box]; exact h.here
theorem LinX.frozen (h : LinX B w r cs ty i g o cap vs) : w.frozen? ⟨r, i, none⟩ = false := by simp [World.frozen?, h.box]
theorem LinX.kp {S : List Nat} {w' : World} (h : LinX B w r cs ty i g o cap vs) (hk : Kp S w w') (hr : r ∉ S) (hg : g ∉ S) : LinX B w' r cs ty i g o cap vs :=
  ⟨by rw [hk.block r h.rlt hr]; exact h.box, h.here, h.sla.kp hk hg, h.ne, h.hr, h.hg, h.pos, h.cap⟩
end

theorem lputx_facts {B r i g o cap : Nat} {cs : Array Value} {ty : TypeId} {vs : List Ver} {w w1 : World} {x y : Value} (h : LinX B w r cs ty i g o cap vs) (hk : Kp [] (w.alloc (.cells #[x, y] 31)) w1) :
    w1.cell? ⟨r, i, none⟩ = some (.slice (some ⟨g, o, none⟩) vs.length cap) ∧ w1.frozen? ⟨r, i, none⟩ = false ∧ w1.cell? ⟨w.heap.size, 0, none⟩ = some x ∧ w1.cell? ⟨w.heap.size, 1, none⟩ = some y := by
  have h2 := h.kp (((Kp.refl [] w).alloc _).trans0 hk) (by simp) (by simp)
  exact ⟨h2.cell, h2.frozen, hk.cell (by simp) (by simp), hk.cell (by simp) (by simp)⟩

theorem far3_facts {wc w4 : World} {b i g n cap : Nat} {v : Value} (hg : wc.grownBy w4 (Value.slice (some ⟨g, 0, none⟩) n cap).ownBlock) (hne : b ≠ g)
    (q0 : wc.cell? ⟨b, i, none⟩ = some v) (q1 : wc.frozen? ⟨b, i, none⟩ = false) : w4.cell? ⟨b, i, none⟩ = some v ∧ w4.frozen? ⟨b, i, none⟩ = false := by
  have hb := World.block_lt_of_cell? wc _ q0
  have hn : some b ≠ (Value.slice (some ⟨g, 0, none⟩) n cap).ownBlock := by simp [Value.ownBlock, hne]
  exact ⟨by rw [hg.cell_far _ hb hn]; exact q0, by rw [hg.frozen_far _ hb hn]; exact q1⟩

theorem linx_put {B r i g o cap : Nat} {cs : Array Value} {ty : TypeId} {vs : List Ver} {w2 wc w4 : World} (h : LinX B w2 r cs ty i g o cap vs) (hk : Kp [] w2 wc) {x : Int} {t : Bool} {s : ByteArray} {g1 cap1 g2 cap2 : Nat}
    (hown : w4.ownsRow B 163 3 (.slice (some ⟨g2, 0, none⟩) (vs.length + 1) cap2) (vs.length + 1) (vcells vs ++ [.int .i64 x, .bool t, .string s]))
    (hg : wc.grownBy w4 (Value.slice (some ⟨g1, 0, none⟩) vs.length cap1).ownBlock) (hg1 : w2.heap.size ≤ g1) (hat : (Value.slice (some ⟨g1, 0, none⟩) vs.length cap1).ownBlock = some g2 ∨ g2 = wc.heap.size) :
    w4.cell? ⟨r, i, none⟩ = some (.slice (some ⟨g, o, none⟩) vs.length cap) ∧ w4.frozen? ⟨r, i, none⟩ = false ∧ w2.heap.size ≤ g2 ∧
      Hid (LinX B (w4.setCell ⟨r, i, none⟩ (.slice (some ⟨g2, 0, none⟩) (vs.length + 1) cap2)) r (cs.setIfInBounds i (.slice (some ⟨g2, 0, none⟩) (vs.length + 1) cap2)) ty i g2 0 cap2 (vs ++ [⟨x, t, s⟩])) ∧ Hid (Kp [r] w2 (w4.setCell ⟨r, i, none⟩ (.slice (some ⟨g2, 0, none⟩) (vs.length + 1) cap2))) := by
  have hrl := h.rlt
  have hc := h.kp hk (by simp) (by simp)
  have hg2 : w2.heap.size ≤ g2 := by
    rcases hat with e | e
    · have : g1 = g2 := by simpa [Value.ownBlock] using e
      omega
    · have := hk.size; omega
  obtain ⟨f0, f1⟩ := far3_facts hg (show r ≠ g1 by omega) hc.cell hc.frozen
  have hb4 : w4.heap[r]? = some (.cells cs ty (0, 0)) := by
    rw [hg.block r hc.rlt (by simp [Value.ownBlock]; omega)]; exact hc.box
  have hk4 : Kp [r] w2 w4 := (hk.mono (T := [r]) (by simp)).grown hg (fun k hk => by right; have : g1 = k := by simpa [Value.ownBlock] using hk
                                                                                     omega)
  have hcap : vs.length + 1 ≤ cap2 := by
    rcases hown.2 with ⟨e, _⟩ | ⟨g3, c3, cur, e, q1, q2, q3, q4, q5, q6⟩
    · simp at e
    · simp only [Value.slice.injEq, Option.some.injEq, Addr.mk.injEq, and_true, true_and] at e
      obtain ⟨rfl, rfl⟩ := e
      exact q3
  have hv : vcells vs ++ [.int .i64 x, .bool t, .string s] = vcells (vs ++ [⟨x, t, s⟩]) := by rw [vcells_append]; rfl
  have hl : vs.length + 1 = (vs ++ [(⟨x, t, s⟩ : Ver)]).length := by simp
  have hB2 := (hown.lt g2 rfl).1
  rw [hv, hl] at hown
  have hs := sla_own hown
  rw [hl] at hcap ⊢
  refine ⟨f0, f1, hg2, ⟨heap_set_at i _ hb4, set_at _ h.here, ?_, by omega, h.hr, hB2, by simp, hcap⟩, hk4.setCell (.inl (by simp)) _⟩
  intro j u hu
  rw [World.cell?_setCell_other _ _ _ _ (by intro e; have := congrArg Addr.block e; simp at this; omega)]
  exact hs j u hu

set_option maxHeartbeats 1000000 in
theorem lputx26 {B r i g o cap : Nat} {cs : Array Value} {ty : TypeId} {vs : List Ver} (x : Int) (t : Bool) (s : ByteArray) (w : World) (h : LinX B w r cs ty i g o cap vs) (hm : vs.length ≤ 900) (hs : s.size ≤ maxLen) (hB : B ≤ w.heap.size) :
    Calls Try.prog 131 #[.pointer (some ⟨r, i, none⟩), .int .i64 x, .agg #[.bool t, .string s]] w fun e w' => e = .returned (.int .i64 (pcode vs x t s)) ∧ ∃ g' o' cap', LinX B w' r (cs.setIfInBounds i (.slice (some ⟨g', o', none⟩) (pvers vs x t s).length cap')) ty i g' o' cap' (pvers vs x t s) ∧ (g' = g ∨ w.heap.size ≤ g') ∧ Kp [r] w w' := by
  obtain ⟨i0, hi0, hz0, hz1, hz2⟩ := info_parts Try.info163
  have hrl := h.rlt
  have hp0 := h.pos
  have HC := hide h
  clear h
  by_cases hc : chk t s = 0
  · by_cases hl : x ≤ va vs (vs.length - 1)
    · have hp : pcode vs x t s = 5 := by unfold pcode; rw [if_pos hc, if_pos hl]
      have hv : pvers vs x t s = vs := by unfold pvers; rw [if_neg (by rw [hp]; decide)]
      rw [hp, hv]
      clear hp hv
      go_enter Try.func131, Try.ntmps131
      go_wp2_with fail
      refine (fault14 t s _ hs).mono ?_
      rintro e w1 ⟨rfl, hk⟩
      rw [hc]
      obtain ⟨q0, q1, q2, q3⟩ := lputx_facts (unhide HC) hk
      have HK := hide hk
      have HCC := hide hc
      clear hc hk
      go_wp2_with fail
      have h1 := (unhide HC).kp (((Kp.refl [] w).alloc _).trans0 (unhide HK)) (by simp) (by simp)
      refine (llast16 g o cap _ h1.sla hp0 (by omega)).mono ?_
      rintro e w2 ⟨rfl, rfl⟩
      have H1 := hide h1
      clear h1
      go_wp2
      go_ret
      exact ⟨rfl, g, o, cap, by rw [set_same (unhide H1).here]; exact unhide H1, .inl rfl, (((Kp.refl [] w).alloc _).trans0 (unhide HK)).mono (by simp)⟩
    · have hp : pcode vs x t s = 0 := by unfold pcode; rw [if_pos hc, if_neg hl]
      have hv : pvers vs x t s = vs ++ [⟨x, t, s⟩] := by unfold pvers; rw [if_pos hp]
      rw [hp, hv]
      clear hp hv
      go_enter Try.func131, Try.ntmps131
      go_wp2_with fail
      refine (fault14 t s _ hs).mono ?_
      rintro e w1 ⟨rfl, hk⟩
      rw [hc]
      obtain ⟨q0, q1, q2, q3⟩ := lputx_facts (unhide HC) hk
      have HK := hide hk
      have HCC := hide hc
      clear hc hk
      go_wp2_with fail
      have h1 := (unhide HC).kp (((Kp.refl [] w).alloc _).trans0 (unhide HK)) (by simp) (by simp)
      refine (llast16 g o cap _ h1.sla hp0 (by omega)).mono ?_
      rintro e w2 ⟨rfl, rfl⟩
      have hr1 := h1.rlt
      have hp1 : w.heap.size < w2.heap.size := by have := (unhide HK).size; simp at this; omega
      have N0 := hide (h1.sla.kp (Kp.refl [] w2).drew (by simp)).news
      have N1 := hide (h1.sla.kp ((Kp.refl [] w2).alloc (.cells #[.int .i64 x, .bool t, .string s] 163)).drew (by simp)).news
      have H1 := hide h1
      clear h1
      go_wp2_with fail
      go_region_law (first | (refine step_append_lies _ (by rfl) _ _ 49 (by rfl) B 163 i0 _ 3 32 Try.underlying49 hi0 hz0 hz1 hz2 rfl (by omega) (.slice none 0 0) 0 [] (by rfl) (World.ownsRow_nil _ _ _ _) ⟨g, o, none⟩ vs.length cap (vcells vs) (by rfl) (vcells_length vs) (by first | exact unhide N0 | exact unhide N1) (vcells_one vs) hp0 (by unfold maxLen; omega) (by omega) (by simp; omega) _ rfl ?_; intro g1 cap1 w3 hown1 hgrow1 hat1 hlt1; have hk3 : Kp [] w2 w3 := (by first | exact kp_none (Kp.refl [] w2).drew hgrow1 | exact kp_none ((Kp.refl [] w2).alloc _).drew hgrow1); have c0 := hk3.cell (p := ⟨r, i, none⟩) (by simp) q0; have c1 : w3.frozen? ⟨r, i, none⟩ = false := (by rw [hk3.frozen hr1 (by simp)]; exact q1); have c2 := hk3.cell (p := ⟨w.heap.size, 0, none⟩) (by simp) q2; have c3 := hk3.cell (p := ⟨w.heap.size, 1, none⟩) (by simp) q3; simp only [Nat.zero_add, List.nil_append] at hown1; have hg1 : w2.heap.size ≤ g1 := (by rcases hat1 with e | e; simp [Value.ownBlock] at e; simp at e; omega); have hr3 := Nat.lt_of_lt_of_le hr1 hk3.size; have HO1 := hide hown1; have HG1 := hide hgrow1; have HA1 := hide hat1; have HK3 := hide hk3; clear hown1 hgrow1 hat1 hk3) | (refine step_append_lies _ (by rfl) _ _ 49 (by rfl) B 163 i0 _ 3 32 Try.underlying49 hi0 hz0 hz1 hz2 rfl (by omega) (.slice (some ⟨g1, 0, none⟩) vs.length cap1) vs.length (vcells vs) (by rfl) ((unhide HO1).alloc _) ⟨w3.heap.size, 0, none⟩ 1 1 [.int .i64 x, .bool t, .string s] (by rfl) (by rfl) (World.news_of_block (cs := #[.int .i64 x, .bool t, .string s]) (t := 163) (fr := (0, 0)) (heap_alloc_new w3 _)) (by simp [Value.oneCell']) (by omega) (by unfold maxLen; omega) (by omega) (by simp; omega) _ rfl ?_; intro g2 cap2 w4 hown2 hgrow2 hat2 hlt2; obtain ⟨f0, f1, f2, F3, F4⟩ := linx_put (unhide H1) ((unhide HK3).alloc _) hown2 hgrow2 hg1 hat2; clear hown2 hgrow2 hat2) | (refine step_append_lies _ (by rfl) _ _ 49 (by rfl) B 163 i0 _ 3 32 Try.underlying49 hi0 hz0 hz1 hz2 rfl (by omega) (.slice (some ⟨g1, 0, none⟩) vs.length cap1) vs.length (vcells vs) (by rfl) (unhide HO1) ⟨w2.heap.size, 0, none⟩ 1 1 [.int .i64 x, .bool t, .string s] (by rfl) (by rfl) (World.news_of_block (cs := #[.int .i64 x, .bool t, .string s]) (t := 163) (fr := (0, 0)) (block_none (wc := (w2.alloc (.cells #[.int .i64 x, .bool t, .string s] 163)).drew) (heap_alloc_new w2 _) (unhide HG1))) (by simp [Value.oneCell']) (by omega) (by unfold maxLen; omega) (by omega) (by omega) _ rfl ?_; intro g2 cap2 w4 hown2 hgrow2 hat2 hlt2; obtain ⟨f0, f1, f2, F3, F4⟩ := linx_put (unhide H1) (unhide HK3) hown2 hgrow2 hg1 hat2; clear hown2 hgrow2 hat2))
      all_goals
        go_wp2
        go_ret
        exact ⟨rfl, g2, 0, cap2, by simpa using unhide F3, .inr (by omega), ((((Kp.refl [] w).alloc _).trans0 (unhide HK)).mono (by simp)).trans (unhide F4) (by simp)⟩
  · have hp : pcode vs x t s = chk t s := by unfold pcode; rw [if_neg hc]
    have hv : pvers vs x t s = vs := by unfold pvers; rw [if_neg (by rw [hp]; exact hc)]
    rw [hp, hv]
    clear hp hv
    generalize hq : chk t s = q at *
    have HQ := hide hq
    clear hq
    go_enter Try.func131, Try.ntmps131
    go_wp2_with fail
    refine (fault14 t s _ hs).mono ?_
    rintro e w1 ⟨rfl, hk⟩
    rw [unhide HQ]
    have HK := hide hk
    clear hk
    go_wp2
    go_ret
    have h1 := (unhide HC).kp (((Kp.refl [] w).alloc _).trans0 (unhide HK)) (by simp) (by simp)
    exact ⟨rfl, g, o, cap, by rw [set_same h1.here]; exact h1, .inl rfl, (((Kp.refl [] w).alloc _).trans0 (unhide HK)).mono (by simp)⟩
end Go.Proofs.Ytapmlleemopcnac

/- Clear of a line that lies at a place of a greater box, by its contract. -/
namespace Go.Proofs.Ytapmlleemopcnac
open Go.RowKit
set_option maxRecDepth 20000
attribute [local go_sem ↓] Go.wp_at_zero Go.wp_at_succ

def LClrX (B r g : Nat) (cs : Array Value) (ty : TypeId) (i : Nat) (vs : List Ver) (y : Int) (w : World) (e : Ending) (w' : World) : Prop :=
  ∃ c : Nat, IsCnt vs y c ∧ e = .returned (.int .i64 ((c - 1 : Nat) : Int)) ∧ ∃ o' cap', LinX B w' r (cs.setIfInBounds i (.slice (some ⟨g, o', none⟩) (vs.drop (c - 1)).length cap')) ty i g o' cap' (vs.drop (c - 1)) ∧ Kp [r] w w'

def ClX (B r g : Nat) (cs : Array Value) (ty : TypeId) (i : Nat) (vs : List Ver) (o cap d : Nat) (w : World) : Prop :=
  LinX B w r (cs.setIfInBounds i (.slice (some ⟨g, o + d * 3, none⟩) (vs.drop d).length (cap - d))) ty i g (o + d * 3) (cap - d) (vs.drop d)

theorem linx_step {B r i g o cap d : Nat} {cs : Array Value} {ty : TypeId} {vs : List Ver} {w : World} (h : ClX B r g cs ty i vs o cap d w) (h2 : d + 1 < vs.length) :
    ClX B r g cs ty i vs o cap (d + 1) (w.setCell ⟨r, i, none⟩ (.slice (some ⟨g, o + d * 3 + 3, none⟩) (vs.length - d - 1) (cap - d - 1))) := by
  have e1 : o + (d + 1) * 3 = o + d * 3 + 3 := by omega
  have e2 : (vs.drop (d + 1)).length = vs.length - d - 1 := by simp; omega
  have e3 : cap - (d + 1) = cap - d - 1 := by omega
  have hc := h.cap
  simp only [List.length_drop] at hc
  unfold ClX
  rw [e1, e3, e2]
  refine ⟨?_, ?_, ?_, h.ne, h.hr, h.hg, by omega, by omega⟩
  · rw [heap_set_at i _ h.box, Array.setIfInBounds_setIfInBounds]
  · rw [e2]
    have := set_at (.slice (some ⟨g, o + d * 3 + 3, none⟩) (vs.length - d - 1) (cap - d - 1)) h.here
    rwa [Array.setIfInBounds_setIfInBounds] at this
  · have hs := h.sla.drop 1
    rw [List.drop_drop, Nat.one_mul] at hs
    intro j u hu
    rw [World.cell?_setCell_other _ _ _ _ (by intro e; have := congrArg Addr.block e; exact h.ne this)]
    exact hs j u hu

theorem lclrx_mk {B r i g o cap d : Nat} {cs : Array Value} {ty : TypeId} {vs : List Ver} {y : Int} {w w' : World} (hr : Rise vs) (hd : d < vs.length) (hlo : 0 < d → va vs d ≤ y) (hhi : d + 1 < vs.length → y < va vs (d + 1))
    (h : ClX B r g cs ty i vs o cap d w') (hk : Kp [r] w w') : LClrX B r g cs ty i vs y w (.returned (.int .i64 (d : Int))) w' := by
  obtain ⟨c, hc, e⟩ := cnt_clear hr hd hlo hhi
  exact ⟨c, hc, by rw [e], o + d * 3, cap - d, by rw [e]; exact h, hk⟩

set_option maxHeartbeats 400000 in
theorem lclearx27 {B r i g o cap : Nat} {cs : Array Value} {ty : TypeId} {vs : List Ver} (y : Int) (w : World) (h : LinX B w r cs ty i g o cap vs) (hr : Rise vs) (hm : vs.length ≤ 900) :
    Calls Try.prog 106 #[.pointer (some ⟨r, i, none⟩), .int .i64 y] w fun e w' => LClrX B r g cs ty i vs y w e w' := by
  have hp := h.pos
  have H0 : Hid (ClX B r g cs ty i vs o cap 0 w) := by
    show ClX B r g cs ty i vs o cap 0 w
    unfold ClX
    simp only [Nat.zero_mul, Nat.add_zero, Nat.sub_zero, List.drop_zero]
    rw [set_same h.here]; exact h
  have HR := hide hr
  clear h hr
  go_enter Try.func106, Try.ntmps106
  go_wp2_with fail
  go_loopw [5] (fun j wr => ∃ d : Nat, d < vs.length ∧ j = .int .i64 d ∧ Hid (0 < d → va vs d ≤ y) ∧ Hid (ClX B r g cs ty i vs o cap d wr) ∧ Hid (Kp [r] w wr)) (fun j _ => vs.length - (intOf j).toNat)
  case atStart => exact ⟨0, hp, rfl, fun h => by omega, H0, Kp.refl _ _⟩
  case round =>
    obtain ⟨d, hd, rfl, HD, HL, HK⟩ := hrel
    have q0 := (unhide HL).cell
    have q1 := (unhide HL).frozen
    rw [List.length_drop] at q0
    have hcp := (unhide HL).cap
    rw [List.length_drop] at hcp
    by_cases hlt : d + 1 < vs.length
    · have q2 := (unhide HL).sla.at0 1 (by rw [List.length_drop]; omega)
      have e2 : va (vs.drop d) 1 = va vs (d + 1) := by simp [va]
      rw [e2, Nat.one_mul] at q2
      have e3 : cap - d ≠ 1 := by omega
      have e4 : (1 : Int) < ((vs.length - d : Nat) : Int) := by omega
      have e5 : (1 : Int) ≤ ((cap - d : Nat) : Int) := by omega
      by_cases hy : va vs (d + 1) ≤ y
      · go_wp2_with fail
        exact ⟨⟨d + 1, hlt, by go_num, fun _ => hy, linx_step (unhide HL) hlt, (unhide HK).setCell (.inl (by simp)) _⟩, by simp [intOf]; omega⟩
      · go_wp2_with fail
        go_ret
        exact lclrx_mk (unhide HR) hd (unhide HD) (fun _ => by omega) (unhide HL) (unhide HK)
    · have e4 : ¬ (1 : Int) < ((vs.length - d : Nat) : Int) := by omega
      go_wp2_with fail
      go_ret
      exact lclrx_mk (unhide HR) hd (unhide HD) (fun h => absurd h hlt) (unhide HL) (unhide HK)
end Go.Proofs.Ytapmlleemopcnac

/- The document's own sheet of lines: its memory; Since, Read, First and Clear, by their contracts. -/
namespace Go.Proofs.Ytapmlleemopcnac
open Go.RowKit
set_option maxRecDepth 20000
attribute [local go_sem ↓] Go.wp_at_zero Go.wp_at_succ

def scell (g o cap : Nat → Nat) (f : Nat → List Ver) : Nat → Value := fun k => .slice (some ⟨g k, o k, none⟩) (f k).length (cap k)

/-- A sheet's memory: the box sb holds the lines and the number of commits; G: all blocks that are the sheet's own. -/
structure ShtL (B : Nat) (w : World) (sb : Nat) (G : List Nat) (g o cap : Nat → Nat) (f : Nat → List Ver) (n : Nat) : Prop where
  box : w.heap[sb]? = some (.cells (tcells (scell g o cap f) n) 52 (0, 0))
  sla : ∀ k, k < 8 → SlA w (g k) (o k) (f k)
  cap : ∀ k, k < 8 → (f k).length ≤ cap k
  ne : ∀ k, k < 8 → sb ≠ g k
  sG : sb ∈ G
  gG : ∀ k, k < 8 → g k ∈ G
  lo : ∀ x, x ∈ G → B ≤ x ∧ x < w.heap.size
  inv : Inv f n
  hB : B ≤ w.heap.size
def Sht (B : Nat) (w : World) (sb : Nat) (G : List Nat) (f : Nat → List Ver) (n : Nat) : Prop := ∃ g o cap, ShtL B w sb G g o cap f n

section
variable {B : Nat} {w w' : World} {sb : Nat} {G S : List Nat} {g o cap : Nat → Nat} {f : Nat → List Ver} {n : Nat}
theorem ShtL.kp (h : ShtL B w sb G g o cap f n) (hk : Kp S w w') (hS : ∀ x, x ∈ G → x ∉ S) : ShtL B w' sb G g o cap f n :=
  ⟨by rw [hk.block sb (h.lo sb h.sG).2 (hS _ h.sG)]; exact h.box, fun k hk8 => (h.sla k hk8).kp hk (hS _ (h.gG k hk8)), h.cap, h.ne, h.sG, h.gG, fun x hx => ⟨(h.lo x hx).1, Nat.lt_of_lt_of_le (h.lo x hx).2 hk.size⟩, h.inv, Nat.le_trans h.hB hk.size⟩
theorem Sht.kp (h : Sht B w sb G f n) (hk : Kp S w w') (hS : ∀ x, x ∈ G → x ∉ S) : Sht B w' sb G f n := by
  obtain ⟨g, o, cap, h⟩ := h
  exact ⟨g, o, cap, h.kp hk hS⟩
theorem Sht.kp0 (h : Sht B w sb G f n) (hk : Kp [] w w') : Sht B w' sb G f n := h.kp hk (fun _ _ => by simp)
theorem Sht.lo (h : Sht B w sb G f n) : ∀ x, x ∈ G → B ≤ x ∧ x < w.heap.size := by
  obtain ⟨g, o, cap, h⟩ := h
  exact h.lo
theorem ShtL.ncell (h : ShtL B w sb G g o cap f n) : w.cell? ⟨sb, 8, none⟩ = some (.int .i64 n) := cell_of_block h.box (tcells_n _ _)
theorem ShtL.kcell (h : ShtL B w sb G g o cap f n) {k : Nat} (hk : k < 8) : w.cell? ⟨sb, k, none⟩ = some (.slice (some ⟨g k, o k, none⟩) (f k).length (cap k)) := cell_of_block h.box (tcells_at _ _ hk)
theorem ShtL.lin (h : ShtL B w sb G g o cap f n) {k : Nat} (hk : k < 8) : LinX B w sb (tcells (scell g o cap f) n) 52 k (g k) (o k) (cap k) (f k) :=
  ⟨h.box, tcells_at _ _ hk, h.sla k hk, h.ne k hk, (h.lo sb h.sG).1, (h.lo _ (h.gG k hk)).1, h.inv.pos k hk, h.cap k hk⟩
theorem ShtL.step {k g' o' cap' : Nat} {vs : List Ver} (h : ShtL B w sb G g o cap f n) (hk : k < 8)
    (hl : LinX B w' sb ((tcells (scell g o cap f) n).setIfInBounds k (.slice (some ⟨g', o', none⟩) vs.length cap')) 52 k g' o' cap' vs) (hg : g' = g k ∨ w.heap.size ≤ g') (hkp : Kp [sb] w w') (hi : Inv (upd f k vs) n) :
    ShtL B w' sb (g' :: G) (upd g k g') (upd o k o') (upd cap k cap') (upd f k vs) n ∧ Kp G w w' ∧ ∀ x, x ∈ g' :: G → x ∈ G ∨ w.heap.size ≤ x := by
  have hb := hl.box
  rw [tcells_set _ _ hk] at hb
  refine ⟨⟨?_, fun j hj => ?_, fun j hj => ?_, fun j hj => ?_, List.mem_cons_of_mem _ h.sG, fun j hj => ?_, fun x hx => ?_, hi, Nat.le_trans h.hB hkp.size⟩, ?_, ?_⟩
  · rw [hb]
    congr 2
    refine tcells_congr _ (fun j _ => ?_)
    unfold scell
    by_cases e : j = k
    · subst e; simp [upd]
    · rw [upd_other _ _ _ e, upd_other _ _ _ e, upd_other _ _ _ e, upd_other _ _ _ e, upd_other _ _ _ e]
  · by_cases e : j = k
    · subst e; rw [upd_same, upd_same, upd_same]; exact hl.sla
    · rw [upd_other _ _ _ e, upd_other _ _ _ e, upd_other _ _ _ e]
      exact (h.sla j hj).kp hkp (by simp; exact fun e => h.ne j hj e.symm)
  · by_cases e : j = k
    · subst e; rw [upd_same, upd_same]; exact hl.cap
    · rw [upd_other _ _ _ e, upd_other _ _ _ e]; exact h.cap j hj
  · by_cases e : j = k
    · subst e; rw [upd_same]; exact hl.ne
    · rw [upd_other _ _ _ e]; exact h.ne j hj
  · by_cases e : j = k
    · subst e; rw [upd_same]; exact List.mem_cons_self
    · rw [upd_other _ _ _ e]; exact List.mem_cons_of_mem _ (h.gG j hj)
  · rcases List.mem_cons.1 hx with e | e
    · subst e; exact ⟨hl.hg, hl.glt⟩
    · exact ⟨(h.lo x e).1, Nat.lt_of_lt_of_le (h.lo x e).2 hkp.size⟩
  · exact hkp.mono (by simp; exact .inl h.sG)
  · intro x hx
    rcases List.mem_cons.1 hx with e | e
    · subst e
      rcases hg with e2 | e2
      · rw [e2]; exact .inl (h.gG k hk)
      · exact .inr e2
    · exact .inl e
end

set_option maxHeartbeats 400000 in
theorem ssince41 {B sb n : Nat} {G : List Nat} {f : Nat → List Ver} (k : Int) (w : World) (h : Sht B w sb G f n) :
    Calls Try.prog 34 #[.pointer (some ⟨sb, 0, none⟩), .int .i64 k] w fun e w' => e = .returned (.int .i64 (snc f k)) ∧ Kp [] w w' := by
  obtain ⟨g, o, cap, h⟩ := h
  by_cases hk : keyB k = true
  · have hs : snc f k = va (f k.toNat) ((f k.toNat).length - 1) := by unfold snc; rw [if_pos hk]
    obtain ⟨j, hj, rfl⟩ := keyB_nat hk
    rw [hs, Int.toNat_natCast]
    have q := h.kcell hj
    have HC := hide (h.sla j hj)
    have hl := h.inv.len41 hj
    have hp := h.inv.pos j hj
    clear h hs
    have i0 : (0 : Int) ≤ (j : Int) := by omega
    have i1 : (j : Int) < 8 := by omega
    go_enter Try.func34, Try.ntmps34
    go_wp2_with fail
    refine (key12 _ w).mono ?_
    rintro e w' ⟨rfl, rfl⟩
    rw [hk]
    clear hk
    go_wp2_with fail
    refine (llast16 (g j) (o j) (cap j) _ (unhide HC) hp (by omega)).mono ?_
    rintro e w' ⟨rfl, rfl⟩
    go_wp2
    go_ret
    exact ⟨rfl, (Kp.refl [] _)⟩
  · have hs : snc f k = -1 := by unfold snc; rw [if_neg hk]
    rw [hs]
    have hk2 : keyB k = false := by simpa using hk
    clear h hs hk
    go_enter Try.func34, Try.ntmps34
    go_wp2_with fail
    refine (key12 _ w).mono ?_
    rintro e w' ⟨rfl, rfl⟩
    rw [hk2]
    clear hk2
    go_wp2
    go_ret
    exact ⟨rfl, Kp.refl [] _⟩

set_option maxHeartbeats 400000 in
theorem sread33 {B sb n : Nat} {G : List Nat} {f : Nat → List Ver} (k y : Int) (w : World) (h : Sht B w sb G f n) :
    Calls Try.prog 32 #[.pointer (some ⟨sb, 0, none⟩), .int .i64 k, .int .i64 y] w fun e w' => e = .returned (.tuple #[.agg #[.bool (tr f n k y).t, .string (tr f n k y).s], .int .i64 (tr f n k y).a]) ∧ Kp [] w w' := by
  obtain ⟨g, o, cap, h⟩ := h
  by_cases hk : keyB k = true
  · by_cases hy : y ≤ n
    · have hs : tr f n k y = rd3 (f k.toNat) y := by unfold tr; rw [if_pos ⟨hk, hy⟩]
      obtain ⟨j, hj, rfl⟩ := keyB_nat hk
      rw [hs, Int.toNat_natCast]
      have hlt := (h.lo sb h.sG).2
      have q := h.kcell hj
      have q8 := h.ncell
      have HC := hide (h.sla j hj)
      have HI := hide h.inv
      have hl := h.inv.len41 hj
      clear h hs
      have i0 : (0 : Int) ≤ (j : Int) := by omega
      have i1 : (j : Int) < 8 := by omega
      go_enter Try.func32, Try.ntmps32
      go_wp2_with fail
      refine (key12 _ _).mono ?_
      rintro e w' ⟨rfl, rfl⟩
      rw [hk]
      clear hk
      go_wp2_with fail
      refine (lread10 (g j) (o j) (cap j) y _ ((unhide HC).kp ((Kp.refl [] w).alloc _) (by simp)) ((unhide HI).rise j hj) ((unhide HI).pos j hj) (by omega)).mono ?_
      rintro e w1 ⟨t, s, c, rfl, hrd, hkp⟩
      obtain ⟨rfl, rfl, rfl⟩ := rd3_of ((unhide HI).rise j hj) ((unhide HI).pos j hj) hrd
      have p0 : w1.cell? ⟨w.heap.size, 0, none⟩ = some (.bool false) := hkp.cell (by simp) (by simp)
      have p1 : w1.cell? ⟨w.heap.size, 1, none⟩ = some (.string ⟨#[]⟩) := hkp.cell (by simp) (by simp)
      have p2 : w1.frozen? ⟨w.heap.size, 0, none⟩ = false := by rw [hkp.frozen (by simp) (by simp)]; simp
      have p3 : w1.frozen? ⟨w.heap.size, 1, none⟩ = false := by rw [hkp.frozen (by simp) (by simp)]; simp
      have HK := hide hkp
      clear hrd hkp
      go_wp2
      refine bodyPost_ret (v := .tuple #[.agg #[.bool (rd3 (f j) y).t, .string (rd3 (f j) y).s], .int .i64 (rd3 (f j) y).a]) (by simp [results, Try.results32, go_sem, p0, p1]) rfl ⟨rfl, ?_⟩
      exact ((((Kp.refl [] w).alloc _).trans0 (unhide HK)).setCell (.inr (Nat.le_refl _)) _).setCell (.inr (Nat.le_refl _)) _
    · have hs : tr f n k y = ⟨1, false, ByteArray.empty⟩ := by unfold tr; rw [if_neg (fun h => hy h.2)]
      rw [hs]
      have q8 := h.ncell
      have hlt := (h.lo sb h.sG).2
      clear h hs
      go_enter Try.func32, Try.ntmps32
      go_wp2_with fail
      refine (key12 _ _).mono ?_
      rintro e w' ⟨rfl, rfl⟩
      rw [hk]
      clear hk
      go_wp2
      exact bodyPost_ret (v := .tuple #[.agg #[.bool false, .string ByteArray.empty], .int .i64 1]) (by simp [results, Try.results32, go_sem]; rfl) rfl ⟨rfl, ((Kp.refl [] w).alloc _)⟩
  · have hs : tr f n k y = ⟨1, false, ByteArray.empty⟩ := by unfold tr; rw [if_neg (fun h => hk h.1)]
    rw [hs]
    have hk2 : keyB k = false := by simpa using hk
    clear h hs hk
    go_enter Try.func32, Try.ntmps32
    go_wp2_with fail
    refine (key12 _ _).mono ?_
    rintro e w' ⟨rfl, rfl⟩
    rw [hk2]
    clear hk2
    go_wp2
    exact bodyPost_ret (v := .tuple #[.agg #[.bool false, .string ByteArray.empty], .int .i64 1]) (by simp [results, Try.results32, go_sem]; rfl) rfl ⟨rfl, ((Kp.refl [] w).alloc _)⟩

set_option maxHeartbeats 400000 in
theorem sfirst43 {B sb n : Nat} {G : List Nat} {f : Nat → List Ver} (w : World) (h : Sht B w sb G f n) :
    Calls Try.prog 22 #[.pointer (some ⟨sb, 0, none⟩)] w fun e w' => e = .returned (.int .i64 (fmx f 8)) ∧ w' = w := by
  obtain ⟨g, o, cap, h⟩ := h
  have H := hide h
  clear h
  go_enter Try.func22, Try.ntmps22
  go_wp2_with fail
  go_loop [3, 4] (fun x i => ∃ k : Nat, k ≤ 8 ∧ x = .int .i64 (fmx f k) ∧ i = .int .i64 k) (fun _ i => 8 - (intOf i).toNat)
  case atStart => exact ⟨0, by omega, rfl, rfl⟩
  case round =>
    obtain ⟨k, hk, rfl, rfl⟩ := hrel
    by_cases hlt : k < 8
    · have i0 : (0 : Int) ≤ (k : Int) := by omega
      have i1 : (k : Int) < 8 := by omega
      have q := (unhide H).kcell hlt
      have hp := (unhide H).inv.pos k hlt
      by_cases hx : fmx f k < va (f k) 0
      · have hs : fmx f (k + 1) = va (f k) 0 := by simp only [fmx]; rw [if_pos hx]
        have HS := hide hs
        have HX := hide hx
        clear hs hx
        go_wp2_with fail
        refine (lfirst18 (g k) (o k) (cap k) _ ((unhide H).sla k hlt) hp).mono ?_
        rintro e w' ⟨rfl, hw'⟩
        subst w'
        have hx := unhide HX
        go_wp2_with fail
        refine (lfirst18 (g k) (o k) (cap k) _ ((unhide H).sla k hlt) hp).mono ?_
        rintro e w' ⟨rfl, hw'⟩
        subst w'
        go_wp2_with fail
        exact ⟨⟨k + 1, by omega, by rw [unhide HS], by go_num⟩, by simp [intOf]; omega⟩
      · have hs : fmx f (k + 1) = fmx f k := by simp only [fmx]; rw [if_neg hx]
        have HS := hide hs
        have HX := hide hx
        clear hs hx
        go_wp2_with fail
        refine (lfirst18 (g k) (o k) (cap k) _ ((unhide H).sla k hlt) hp).mono ?_
        rintro e w' ⟨rfl, hw'⟩
        subst w'
        have hx := unhide HX
        go_wp2_with fail
        exact ⟨⟨k + 1, by omega, by rw [unhide HS], by go_num⟩, by simp [intOf]; omega⟩
    · have e : k = 8 := by omega
      subst e
      go_wp2
      go_ret
      exact ⟨rfl, rfl⟩

/-- The sheet at the head of a round of Clear, the first k lines cleared. -/
def SClI (B : Nat) (w : World) (sb : Nat) (G : List Nat) (f : Nat → List Ver) (n : Nat) (y : Int) (k : Nat) (wr : World) : Prop :=
  ∃ Gk, Sht B wr sb Gk (clm f y k) n ∧ Kp G w wr ∧ ∀ x, x ∈ Gk → x ∈ G ∨ w.heap.size ≤ x

theorem sclr_step {B sb n k : Nat} {w wr : World} {G : List Nat} {f : Nat → List Ver} {y : Int} (h : SClI B w sb G f n y k wr) (hi : Inv f n) (hk : k < 8) :
    Calls Try.prog 106 #[.pointer (some ⟨sb, k, none⟩), .int .i64 y] wr fun e w' => e = .returned (.int .i64 (cd (f k) y : Nat)) ∧ Hid (SClI B w sb G f n y (k + 1) w') := by
  obtain ⟨Gk, ⟨g, o, cap, ht⟩, hkp, hF⟩ := h
  have hl := ht.lin hk
  have hf : clm f y k k = f k := clm_at f y k
  rw [hf] at hl
  refine (lclearx27 y wr hl (hi.rise k hk) (by have := hi.len41 hk; omega)).mono ?_
  rintro e w' ⟨c, hcn, rfl, o', cap', h1, h3⟩
  have e1 := hcn.eqf (hi.rise k hk)
  subst e1
  refine ⟨rfl, ?_⟩
  have hinv := hi.clm y (k + 1) (by omega)
  rw [clm_succ] at hinv
  obtain ⟨z1, z2, z3⟩ := ht.step hk h1 (.inl rfl) h3 hinv
  refine ⟨_, ⟨_, _, _, by rw [clm_succ]; exact z1⟩, hkp.trans z2 hF, fun x hx => ?_⟩
  rcases z3 x hx with e | e
  · exact hF x e
  · right; have := hkp.size; omega

set_option maxHeartbeats 400000 in
theorem sclear57 {B sb n : Nat} {G : List Nat} {f : Nat → List Ver} (y : Int) (w : World) (h : Sht B w sb G f n) :
    Calls Try.prog 58 #[.pointer (some ⟨sb, 0, none⟩), .int .i64 y] w fun e w' => e = .returned (.int .i64 (cln f y 8 : Nat)) ∧ ∃ G', Sht B w' sb G' (clm f y 8) n ∧ Kp G w w' ∧ ∀ x, x ∈ G' → x ∈ G ∨ w.heap.size ≤ x := by
  have HI := hide (show Inv f n from by obtain ⟨_, _, _, h⟩ := h; exact h.inv)
  have H0 : Hid (SClI B w sb G f n y 0 w) := ⟨G, by rw [clm_zero]; exact h, Kp.refl _ _, fun x hx => .inl hx⟩
  clear h
  go_enter Try.func58, Try.ntmps58
  go_wp2_with fail
  go_loopw [5, 6] (fun x i wr => ∃ k : Nat, k ≤ 8 ∧ x = .int .i64 (cln f y k : Nat) ∧ i = .int .i64 k ∧ Hid (SClI B w sb G f n y k wr)) (fun _ i _ => 8 - (intOf i).toNat)
  case atStart => exact ⟨0, by omega, rfl, rfl, H0⟩
  case round =>
    obtain ⟨k, hk, rfl, rfl, HC⟩ := hrel
    by_cases hlt : k < 8
    · have i0 : (0 : Int) ≤ (k : Int) := by omega
      have i1 : (k : Int) < 8 := by omega
      have l1 := cln_le (unhide HI) y k hk
      have l2 := cln_le (unhide HI) y (k + 1) (by omega)
      have l3 : cln f y (k + 1) = cln f y k + cd (f k) y := rfl
      go_wp2_with fail
      refine (sclr_step (unhide HC) (unhide HI) hlt).mono ?_
      rintro e w' ⟨rfl, HC2⟩
      go_wp2_with fail
      exact ⟨⟨k + 1, by omega, by rw [l3]; go_num, by go_num, HC2⟩, by simp [intOf]; omega⟩
    · have e : k = 8 := by omega
      subst e
      go_wp2
      go_ret
      exact ⟨rfl, unhide HC⟩
end Go.Proofs.Ytapmlleemopcnac

/- NewSheet and Write of the document's own sheet, by their contracts. -/
namespace Go.Proofs.Ytapmlleemopcnac
open Go.RowKit
set_option maxRecDepth 20000
attribute [local go_sem ↓] Go.wp_at_zero Go.wp_at_succ

/-- A sheet under way: the first k lines are there. -/
structure SNewL (B : Nat) (w : World) (sb k : Nat) (wr : World) (g : Nat → Nat) : Prop where
  box : wr.heap[sb]? = some (.cells (tcells (fun j => if j < k then .slice (some ⟨g j, 0, none⟩) 1 1 else .slice none 0 0) 0) 52 (0, 0))
  sla : ∀ j, j < k → SlA wr (g j) 0 [dv]
  ab : ∀ j, j < k → sb < g j ∧ g j < wr.heap.size
  kp : Kp [] w wr
  hB : B = w.heap.size
  ht : B ≤ sb
def SNewI (B : Nat) (w : World) (sb k : Nat) (wr : World) : Prop := ∃ g, SNewL B w sb k wr g

theorem SNewL.kp0 {B : Nat} {w : World} {sb k : Nat} {wr wr' : World} {g : Nat → Nat} (h : SNewL B w sb k wr g) (hk : Kp [] wr wr') : SNewL B w sb k wr' g :=
  ⟨by rw [hk.block sb (lt_of_block h.box) (by simp)]; exact h.box, fun j hj => (h.sla j hj).kp hk (by simp), fun j hj => ⟨(h.ab j hj).1, Nat.lt_of_lt_of_le (h.ab j hj).2 hk.size⟩, h.kp.trans0 hk, h.hB, h.ht⟩

theorem snew_step {B sb k : Nat} {w wr : World} (W : World) (h : SNewI B w sb k wr) (hW : Kp [] wr W) (hk : k < 8) :
    Calls Try.prog 95 #[] W fun e w1 => ∃ g', e = .returned (.slice (some ⟨g', 0, none⟩) 1 1) ∧ w1.cell? ⟨sb, k, none⟩ = some (.slice none 0 0) ∧ w1.frozen? ⟨sb, k, none⟩ = false ∧
      Hid (SNewI B w sb (k + 1) (w1.setCell ⟨sb, k, none⟩ (.slice (some ⟨g', 0, none⟩) 1 1))) := by
  obtain ⟨g, h⟩ := h
  have h0 := h.kp0 hW
  refine (lnew25 W).mono ?_
  rintro e w1 ⟨rfl, hs, hkp⟩
  have h1 := h0.kp0 hkp
  have hlt := lt_of_block h0.box
  have hgl := hs.lt (by simp)
  have kS : Kp [sb] w1 (w1.setCell ⟨sb, k, none⟩ (.slice (some ⟨W.heap.size, 0, none⟩) 1 1)) := (Kp.refl [sb] w1).setCell (.inl (by simp)) _
  have hsz := kS.size
  refine ⟨_, rfl, cell_of_block h1.box (by rw [tcells_at _ _ hk]; simp), frozen_of_block _ h1.box, upd g k W.heap.size, ?_, fun j hj => ?_, fun j hj => ?_, ?_, h.hB, h.ht⟩
  · rw [heap_setCell_at k _ h1.box, tcells_set _ _ hk]
    congr 2
    refine tcells_congr _ (fun j _ => ?_)
    by_cases e : j = k
    · subst e; simp [upd]
    · rw [upd_other _ _ _ e, upd_other _ _ _ e]
      by_cases e2 : j < k
      · rw [if_pos e2, if_pos (by omega)]
      · rw [if_neg e2, if_neg (by omega)]
  · by_cases e : j = k
    · subst e
      rw [upd_same]
      exact hs.kp kS (by simp; omega)
    · rw [upd_other _ _ _ e]
      have := h.ab j (by omega)
      exact (h1.sla j (by omega)).kp kS (by simp; omega)
  · by_cases e : j = k
    · subst e; rw [upd_same]; omega
    · rw [upd_other _ _ _ e]
      have := h1.ab j (by omega)
      omega
  · have := h.ht
    have := h.hB
    exact h1.kp.setCell (.inr (by show w.heap.size ≤ sb; omega)) _

theorem snew_end {B sb : Nat} {w wr : World} (h : SNewI B w sb 8 wr) : ∃ G, Sht B wr sb G (fun _ => [dv]) 0 := by
  obtain ⟨g, h⟩ := h
  have hin : ∀ k, k < 8 → k ∈ List.range 8 := fun k hk => List.mem_range.2 hk
  refine ⟨sb :: (List.range 8).map g, g, fun _ => 0, fun _ => 1, ?_, h.sla, fun k hk => by simp, fun k hk => ?_, by simp, fun k hk => ?_, fun x hx => ?_, invD, by rw [h.hB]; exact h.kp.size⟩
  · rw [h.box]
    congr 2
  · have := h.ab k hk
    omega
  · exact List.mem_cons_of_mem _ (List.mem_map.2 ⟨k, hin k hk, rfl⟩)
  · have ht := h.ht
    rcases List.mem_cons.1 hx with e | e
    · subst e; exact ⟨h.ht, lt_of_block h.box⟩
    · obtain ⟨k, hk, rfl⟩ := List.mem_map.1 e
      have := h.ab k (List.mem_range.1 hk)
      omega

theorem snew_start (w : World) : SNewI w.heap.size w w.heap.size 0 (w.alloc (.cells #[.slice none 0 0, .slice none 0 0, .slice none 0 0, .slice none 0 0, .slice none 0 0, .slice none 0 0, .slice none 0 0, .slice none 0 0, .int .i64 0] 52)) := by
  refine ⟨fun _ => 0, ?_, fun j hj => by omega, fun j hj => by omega, (Kp.refl [] w).alloc _, rfl, Nat.le_refl _⟩
  have := heap_alloc_new w (.cells #[.slice none 0 0, .slice none 0 0, .slice none 0 0, .slice none 0 0, .slice none 0 0, .slice none 0 0, .slice none 0 0, .slice none 0 0, .int .i64 0] 52)
  rw [this]
  rfl

set_option maxHeartbeats 1000000 in
theorem snew55 (w : World) :
    Calls Try.prog 51 #[] w fun e w' => e = .returned (.pointer (some ⟨w.heap.size, 0, none⟩)) ∧ (∃ G, Sht w.heap.size w' w.heap.size G (fun _ => [dv]) 0) ∧ Kp [] w w' := by
  have H0 := hide (snew_start w)
  go_enter Try.func51, Try.ntmps51
  go_wp2_with fail
  generalize htb : w.heap.size = tb at *
  have HTB := hide htb
  clear htb
  go_loopw [2] (fun i wr => ∃ k : Nat, k ≤ 8 ∧ i = .int .i64 k ∧ Hid (SNewI tb w tb k wr)) (fun i _ => 8 - (intOf i).toNat)
  case atStart => exact ⟨0, by omega, rfl, H0⟩
  case round =>
    obtain ⟨k, hk, rfl, HN⟩ := hrel
    by_cases hlt : k < 8
    · have i0 : (0 : Int) ≤ (k : Int) := by omega
      have i1 : (k : Int) < 8 := by omega
      go_wp2_with fail
      go_region_with (go_at_call 95; refine (snew_step _ (unhide HN) (Kp.refl [] _).drew hlt).mono ?_; rintro e w1 ⟨b', rfl, y1, y2, HN2⟩)
      all_goals
        go_wp2_with fail
        exact ⟨⟨k + 1, by omega, by go_num, HN2⟩, by simp [intOf]; omega⟩
    · have e : k = 8 := by omega
      subst e
      go_wp2
      go_ret
      obtain ⟨g, hN⟩ := unhide HN
      rw [unhide HTB]
      exact ⟨rfl, snew_end (unhide HN), hN.kp⟩

/-- The sheet at the head of a round of Write, behind the first k pairs. -/
def SWrI (B : Nat) (w : World) (sb : Nat) (G : List Nat) (f : Nat → List Ver) (m : Nat) (ps : List Ver) (k : Nat) (wr : World) : Prop :=
  ∃ fk Gk, Sht B wr sb Gk fk m ∧ wrs fk m (ps.drop k) = wrs f m ps ∧ Kp G w wr ∧ ∀ x, x ∈ Gk → x ∈ G ∨ w.heap.size ≤ x

theorem swr_step {B sb m k j : Nat} {w wr W : World} {G Gk : List Nat} {f fk : Nat → List Ver} {ps : List Ver} (ht : Sht B wr sb Gk fk m) (he : wrs fk m (ps.drop k) = wrs f m ps)
    (hkp : Kp G w wr) (hF : ∀ x, x ∈ Gk → x ∈ G ∨ w.heap.size ≤ x) (hW : Kp [] wr W) (hk : k < ps.length) (hj : j < 8) (hv : va ps k = (j : Int)) (hs : (vb ps k).size ≤ maxLen) :
    Calls Try.prog 131 #[.pointer (some ⟨sb, j, none⟩), .int .i64 m, .agg #[.bool (vt ps k), .string (vb ps k)]] W fun e w2 => ∃ c, e = .returned (.int .i64 c) ∧ Hid (SWrI B w sb G f m ps (k + 1) w2) := by
  obtain ⟨g, o, cap, h0⟩ := ht.kp0 hW
  refine (lputx26 (m : Int) (vt ps k) (vb ps k) W (h0.lin hj) (by have := h0.inv.len41 hj; omega) hs h0.hB).mono ?_
  rintro e w2 ⟨rfl, g', o', cap', h1, h2, h3⟩
  obtain ⟨z1, z2, z3⟩ := h0.step hj h1 h2 h3 (h0.inv.put hj _ _)
  refine ⟨_, rfl, _, g' :: Gk, ⟨_, _, _, z1⟩, ?_, (hkp.trans0 hW).trans z2 hF, fun x hx => ?_⟩
  · rw [← he, wrs_at hk, hv, Int.toNat_natCast]
  · rcases z3 x hx with e | e
    · exact hF x e
    · right; have := (hkp.trans0 hW).size; omega

theorem ShtL.count {B : Nat} {w : World} {sb : Nat} {G : List Nat} {g o cap : Nat → Nat} {f : Nat → List Ver} {n : Nat} (h : ShtL B w sb G g o cap f n) (m : Nat) (hi : Inv f m) :
    ShtL B (w.setCell ⟨sb, 8, none⟩ (.int .i64 m)) sb G g o cap f m ∧ Kp G w (w.setCell ⟨sb, 8, none⟩ (.int .i64 m)) := by
  have hk : Kp [sb] w (w.setCell ⟨sb, 8, none⟩ (.int .i64 m)) := (Kp.refl [sb] w).setCell (.inl (by simp)) _
  refine ⟨⟨?_, fun k hk8 => ?_, h.cap, h.ne, h.sG, h.gG, fun x hx => ⟨(h.lo x hx).1, Nat.lt_of_lt_of_le (h.lo x hx).2 hk.size⟩, hi, Nat.le_trans h.hB hk.size⟩, hk.mono (by simp; exact .inl h.sG)⟩
  · rw [heap_setCell_at 8 _ h.box, tcells_setn]
  · exact (h.sla k hk8).kp hk (by simp; exact fun e => h.ne k hk8 e.symm)

set_option maxHeartbeats 2000000 in
theorem swrite56 {B sb n : Nat} {G : List Nat} {f : Nat → List Ver} (a : Option Addr) (c : Nat) (ps : List Ver) (w : World) (h : Sht B w sb G f n) (hp : Prs w a ps) (hpF : 0 < ps.length → ∀ g o, a = some ⟨g, o, none⟩ → g ∉ G) (hm : ps.length ≤ 1000) :
    Calls Try.prog 108 #[.pointer (some ⟨sb, 0, none⟩), .slice a ps.length c] w fun e w' => e = .returned (.tuple #[.int .i64 (wnum n ps), .int .i64 (wcode n ps)]) ∧
      ∃ G', Sht B w' sb G' (wst f n ps) (wn n ps) ∧ Kp G w w' ∧ ∀ x, x ∈ G' → x ∈ G ∨ w.heap.size ≤ x := by
  have HT := hide h
  have HP := hide hp
  have HPF := hide hpF
  clear h hp hpF
  by_cases hc : pf (-1) ps = 0
  · by_cases hn : 40 ≤ n
    · have e1 : wcode n ps = 9 := by unfold wcode; rw [if_pos hc, if_pos hn]
      have e2 : wn n ps = n := by unfold wn; rw [if_neg (by rw [e1]; decide)]
      have e3 : wnum n ps = 0 := by unfold wnum; rw [if_neg (by rw [e1]; decide)]
      have e4 : wst f n ps = f := by unfold wst; rw [if_neg (by rw [e1]; decide)]
      rw [e1, e2, e3, e4]
      clear e1 e2 e3 e4
      go_enter Try.func108, Try.ntmps108
      go_wp2_with fail
      refine (pfault37 a c ps w (unhide HP) hm).mono ?_
      rintro e w1 ⟨rfl, hk⟩
      rw [hc]
      clear hc
      obtain ⟨g, o, cap, ht⟩ := (unhide HT).kp0 hk
      have q8 := ht.ncell
      have HT1 := hide ht
      have HK := hide hk
      clear ht hk
      go_wp2_with fail
      go_ret2
      exact ⟨rfl, G, ⟨_, _, _, unhide HT1⟩, (unhide HK).mono (by simp), fun x hx => .inl hx⟩
    · have e1 : wcode n ps = 0 := by unfold wcode; rw [if_pos hc, if_neg hn]
      have e2 : wn n ps = n + 1 := by unfold wn; rw [if_pos e1]
      have e3 : wnum n ps = (n : Int) + 1 := by unfold wnum; rw [if_pos e1]
      have e4 : wst f n ps = wrs f ((n + 1 : Nat) : Int) ps := by unfold wst; rw [if_pos e1]; simp
      rw [e1, e2, e3, e4]
      clear e1 e2 e3 e4
      have hkeys := pf_keys hc
      go_enter Try.func108, Try.ntmps108
      go_wp2_with fail
      refine (pfault37 a c ps w (unhide HP) hm).mono ?_
      rintro e w1 ⟨rfl, hk⟩
      rw [hc]
      clear hc
      have HKEY := hide hkeys
      clear hkeys
      obtain ⟨g, o, cap, ht⟩ := (unhide HT).kp0 hk
      have q8 := ht.ncell
      have f8 : w1.frozen? ⟨sb, 8, none⟩ = false := frozen_of_block _ ht.box
      obtain ⟨y1, y2⟩ := ht.count (n + 1) (ht.inv.mono (Nat.le_succ n) (by omega))
      have HW0 : Hid (SWrI B w sb G f (n + 1) ps 0 (w1.setCell ⟨sb, 8, none⟩ (.int .i64 ((n + 1 : Nat) : Int)))) := ⟨f, G, ⟨_, _, _, y1⟩, by simp, (hk.mono (by simp)).trans y2 (fun x hx => .inl hx), fun x hx => .inl hx⟩
      clear ht hk y1 y2
      push_cast at HW0
      go_wp2_with fail
      clear q8 f8
      generalize w1.setCell { block := sb, off := 8 } (Value.int IntKind.i64 (↑n + 1)) = w2 at *
      go_loopw [7] (fun i wr => ∃ k : Nat, k ≤ ps.length ∧ i = .int .i64 k ∧ Hid (SWrI B w sb G f (n + 1) ps k wr)) (fun i _ => ps.length - (intOf i).toNat)
      case atStart => exact ⟨0, by omega, rfl, HW0⟩
      case round =>
        obtain ⟨k, hk, rfl, HW⟩ := hrel
        obtain ⟨fk, Gk, ⟨g, o, cap, ht⟩, he, hkp, hF⟩ := unhide HW
        have q8 := ht.ncell
        push_cast at q8
        by_cases hlt : k < ps.length
        · obtain ⟨pg, po, rfl, hs⟩ := (unhide HP).mem (by omega)
          have hs2 := hs.kp hkp ((unhide HPF) (by omega) pg po rfl)
          have p0 := hs2.at0 k hlt
          have p1 := hs2.at1 k hlt
          have p2 : wr.cell? ⟨pg, po + k * 3 + 1 + 1, none⟩ = some (.string (vb ps k)) := hs2.at2 k hlt
          have hsz := (unhide HP).str k hlt
          have hkk := (unhide HKEY) k hlt
          obtain ⟨j, hj, hv⟩ : ∃ j : Nat, j < 8 ∧ va ps k = (j : Int) := ⟨(va ps k).toNat, by omega, by omega⟩
          have htl := (ht.lo sb ht.sG).2
          rw [hv] at p0
          have i0 : (0 : Int) ≤ (k : Int) := by omega
          have i1 : (k : Int) < (ps.length : Int) := by omega
          have j0 : (0 : Int) ≤ (j : Int) := by omega
          have j1 : (j : Int) < 8 := by omega
          have HT2 : Hid (Sht B wr sb Gk fk (n + 1)) := ⟨_, _, _, ht⟩
          have HE := hide he
          have HK2 := hide hkp
          have HF := hide hF
          have HV := hide hv
          clear ht he hkp hF hs hs2 hv hkk
          go_wp2_with fail
          go_region_with (go_at_call 131; refine (swr_step (unhide HT2) (unhide HE) (unhide HK2) (unhide HF) (Kp.refl [] wr).drew hlt hj (unhide HV) hsz).mono ?_; rintro e w3 ⟨cc, rfl, HW3⟩)
          all_goals
            go_wp2_with fail
            exact ⟨⟨k + 1, by omega, by go_num, HW3⟩, by simp [intOf]; omega⟩
        · have HT2 := hide ht
          have HE := hide he
          have HK2 := hide hkp
          have HF := hide hF
          clear ht he hkp hF
          go_wp2_with fail
          go_ret2
          have he := unhide HE
          rw [List.drop_eq_nil_of_le (by omega)] at he
          refine ⟨rfl, Gk, ⟨g, o, cap, ?_⟩, unhide HK2, unhide HF⟩
          rw [← he]
          exact unhide HT2
  · have e1 : wcode n ps = pf (-1) ps := by unfold wcode; rw [if_neg hc]
    have e2 : wn n ps = n := by unfold wn; rw [if_neg (by rw [e1]; exact hc)]
    have e3 : wnum n ps = 0 := by unfold wnum; rw [if_neg (by rw [e1]; exact hc)]
    have e4 : wst f n ps = f := by unfold wst; rw [if_neg (by rw [e1]; exact hc)]
    rw [e1, e2, e3, e4]
    clear e1 e2 e3 e4
    generalize hq : pf (-1) ps = q at *
    have HQ := hide hq
    clear hq
    go_enter Try.func108, Try.ntmps108
    go_wp2_with fail
    refine (pfault37 a c ps w (unhide HP) hm).mono ?_
    rintro e w1 ⟨rfl, hk⟩
    rw [unhide HQ]
    have HT1 := hide ((unhide HT).kp0 hk)
    have HK := hide hk
    clear hk
    go_wp2_with fail
    go_ret2
    exact ⟨rfl, G, unhide HT1, (unhide HK).mono (by simp), fun x hx => .inl hx⟩
end Go.Proofs.Ytapmlleemopcnac

/- List of the document's own sheet, by its contract. -/
namespace Go.Proofs.Ytapmlleemopcnac
open Go.RowKit
set_option maxRecDepth 20000
attribute [local go_sem ↓] Go.wp_at_zero Go.wp_at_succ

end Go.Proofs.Ytapmlleemopcnac

/- Get and Put of the document's deed, by their contracts. -/
namespace Go.Proofs.Ytapmlleemopcnac
open Go.RowKit
set_option maxRecDepth 20000
attribute [local go_sem ↓] Go.wp_at_zero Go.wp_at_succ

theorem far_cell {W w2 : World} {ob : Option Nat} {b i : Nat} {v : Value} (hg : W.grownBy w2 ob) (hne : some b ≠ ob) (q0 : W.cell? ⟨b, i, none⟩ = some v) : w2.cell? ⟨b, i, none⟩ = some v := by
  rw [hg.cell_far _ (World.block_lt_of_cell? W _ q0) hne]; exact q0
theorem far_frozen {W w2 : World} {ob : Option Nat} {b i : Nat} (hg : W.grownBy w2 ob) (hne : some b ≠ ob) (hb : b < W.heap.size) (q1 : W.frozen? ⟨b, i, none⟩ = false) : w2.frozen? ⟨b, i, none⟩ = false := by
  rw [hg.frozen_far _ hb hne]; exact q1

section
variable {B : Nat} {W w2 : World} {wb : Nat} {H : List Nat} {ra : Option Addr} {rc : Nat} {wa : Option Addr} {wc : Nat} {md y : Int} {rs : List Int} {ws : List Ver} {g2 cap2 : Nat}
theorem wrk_read {k : Int} (h : WrkL B W wb H ra rc wa wc md y rs ws) (hown : w2.ownsRow B 3 1 (.slice (some ⟨g2, 0, none⟩) (rs.length + 1) cap2) (rs.length + 1) (icells rs ++ [.int .i64 k]))
    (hg : W.grownBy w2 (Value.slice ra rs.length rc).ownBlock) (hat : (Value.slice ra rs.length rc).ownBlock = some g2 ∨ g2 = W.heap.size) (hlt : g2 < w2.heap.size) :
    WrkL B (w2.setCell ⟨wb, 2, none⟩ (.slice (some ⟨g2, 0, none⟩) (rs.length + 1) cap2)) wb (g2 :: H) (some ⟨g2, 0, none⟩) cap2 wa wc md y (rs ++ [k]) ws ∧ Kp H W (w2.setCell ⟨wb, 2, none⟩ (.slice (some ⟨g2, 0, none⟩) (rs.length + 1) cap2)) ∧ (g2 ∈ H ∨ g2 = W.heap.size) := by
  have hwl := lt_of_block h.box
  have hwB := h.lo wb h.bH
  have hne : g2 ≠ wb := by
    rcases hat with e | e
    · exact (h.rb g2 e).1
    · omega
  have hin : g2 ∈ H ∨ g2 = W.heap.size := by
    rcases hat with e | e
    · exact .inl (h.rb g2 e).2
    · exact .inr e
  have hbox : w2.heap[wb]? = some (.cells #[.int .i64 md, .int .i64 y, .slice ra rs.length rc, .slice wa ws.length wc] 66 (0, 0)) := by
    rw [hg.block wb hwl (fun e => (h.rb wb e.symm).1 rfl)]; exact h.box
  have hkH : Kp H W w2 := (Kp.refl H W).grown hg (fun x hx => .inl (h.rb x hx).2)
  have hks : Kp [wb] w2 (w2.setCell ⟨wb, 2, none⟩ (.slice (some ⟨g2, 0, none⟩) (rs.length + 1) cap2)) := (Kp.refl _ _).setCell (.inl (by simp)) _
  have hsz := hks.size
  have hsz2 := hg.size
  refine ⟨⟨?_, ?_, ?_, ?_, fun g hg2 => ⟨(h.ab g hg2).1, List.mem_cons_of_mem _ (h.ab g hg2).2⟩, ?_, List.mem_cons_of_mem _ h.bH, fun x hx => ?_⟩, hkH.trans hks (by simp; exact .inl h.bH), hin⟩
  · rw [heap_setCell_at 2 _ hbox, List.length_append]; rfl
  · rw [List.length_append]
    have e : icells rs ++ [.int .i64 k] = icells (rs ++ [k]) := by rw [icells_append]; rfl
    rw [e] at hown
    refine own_kp hown hks (fun g hg2 => ?_)
    have : g2 = g := by simpa [Value.ownBlock] using hg2
    simp; omega
  · refine own_kp (own_kp h.wo (S := (Value.slice ra rs.length rc).ownBlock.toList) ((Kp.refl _ W).grown hg (fun x hx => .inl (by simp [hx]))) (fun g hg2 hm => ?_)) hks (fun g hg2 => by have := (h.ab g hg2).1; simp; omega)
    exact h.rw g g (by simpa using hm) hg2 rfl
  · intro g hg2
    have : g2 = g := by simpa [Value.ownBlock] using hg2
    subst this
    exact ⟨hne, by simp⟩
  · intro g g' hg2 hg3
    have : g2 = g := by simpa [Value.ownBlock] using hg2
    subst this
    rcases hat with e | e
    · exact h.rw _ _ e hg3
    · have := (h.lo g' (h.ab g' hg3).2).2; omega
  · rcases List.mem_cons.1 hx with e | e
    · subst e
      refine ⟨?_, by omega⟩
      rcases hin with q | q
      · exact (h.lo _ q).1
      · omega
    · have := h.lo x e; omega

theorem wrk_write {k : Int} {t : Bool} {s : ByteArray} (h : WrkL B W wb H ra rc wa wc md y rs ws) (hown : w2.ownsRow B 79 3 (.slice (some ⟨g2, 0, none⟩) (ws.length + 1) cap2) (ws.length + 1) (vcells ws ++ [.int .i64 k, .bool t, .string s]))
    (hg : W.grownBy w2 (Value.slice wa ws.length wc).ownBlock) (hat : (Value.slice wa ws.length wc).ownBlock = some g2 ∨ g2 = W.heap.size) (hlt : g2 < w2.heap.size) :
    WrkL B (w2.setCell ⟨wb, 3, none⟩ (.slice (some ⟨g2, 0, none⟩) (ws.length + 1) cap2)) wb (g2 :: H) ra rc (some ⟨g2, 0, none⟩) cap2 md y rs (ws ++ [⟨k, t, s⟩]) ∧ Kp H W (w2.setCell ⟨wb, 3, none⟩ (.slice (some ⟨g2, 0, none⟩) (ws.length + 1) cap2)) ∧ (g2 ∈ H ∨ g2 = W.heap.size) := by
  have hwl := lt_of_block h.box
  have hwB := h.lo wb h.bH
  have hne : g2 ≠ wb := by
    rcases hat with e | e
    · exact (h.ab g2 e).1
    · omega
  have hin : g2 ∈ H ∨ g2 = W.heap.size := by
    rcases hat with e | e
    · exact .inl (h.ab g2 e).2
    · exact .inr e
  have hbox : w2.heap[wb]? = some (.cells #[.int .i64 md, .int .i64 y, .slice ra rs.length rc, .slice wa ws.length wc] 66 (0, 0)) := by
    rw [hg.block wb hwl (fun e => (h.ab wb e.symm).1 rfl)]; exact h.box
  have hkH : Kp H W w2 := (Kp.refl H W).grown hg (fun x hx => .inl (h.ab x hx).2)
  have hks : Kp [wb] w2 (w2.setCell ⟨wb, 3, none⟩ (.slice (some ⟨g2, 0, none⟩) (ws.length + 1) cap2)) := (Kp.refl _ _).setCell (.inl (by simp)) _
  have hsz := hks.size
  have hsz2 := hg.size
  refine ⟨⟨?_, ?_, ?_, fun g hg2 => ⟨(h.rb g hg2).1, List.mem_cons_of_mem _ (h.rb g hg2).2⟩, ?_, ?_, List.mem_cons_of_mem _ h.bH, fun x hx => ?_⟩, hkH.trans hks (by simp; exact .inl h.bH), hin⟩
  · rw [heap_setCell_at 3 _ hbox, List.length_append]; rfl
  · refine own_kp (own_kp h.ro (S := (Value.slice wa ws.length wc).ownBlock.toList) ((Kp.refl _ W).grown hg (fun x hx => .inl (by simp [hx]))) (fun g hg2 hm => ?_)) hks (fun g hg2 => by have := (h.rb g hg2).1; simp; omega)
    exact h.rw g g hg2 (by simpa using hm) rfl
  · rw [List.length_append]
    have e : vcells ws ++ [.int .i64 k, .bool t, .string s] = vcells (ws ++ [⟨k, t, s⟩]) := by rw [vcells_append]; rfl
    rw [e] at hown
    refine own_kp hown hks (fun g hg2 => ?_)
    have : g2 = g := by simpa [Value.ownBlock] using hg2
    simp; omega
  · intro g hg2
    have : g2 = g := by simpa [Value.ownBlock] using hg2
    subst this
    exact ⟨hne, by simp⟩
  · intro g g' hg2 hg3
    have : g2 = g' := by simpa [Value.ownBlock] using hg3
    subst this
    rcases hat with e | e
    · exact h.rw _ _ hg2 e
    · have := (h.lo g (h.rb g hg2).2).2; omega
  · rcases List.mem_cons.1 hx with e | e
    · subst e
      refine ⟨?_, by omega⟩
      rcases hin with q | q
      · exact (h.lo _ q).1
      · omega
    · have := h.lo x e; omega
end

/-- What Get of the document's deed tells and leaves. -/
def WgEnd (B : Nat) (w : World) (wb : Nat) (H : List Nat) (md y : Int) (rs : List Int) (ws : List Ver) (v : Value) (e : Ending) (w' : World) : Prop :=
  e = .returned v ∧ ∃ H', Wrk B w' wb H' md y rs ws ∧ Kp H w w' ∧ ∀ x, x ∈ H' → x ∈ H ∨ w.heap.size ≤ x
theorem wgEnd_kp {B : Nat} {w w' : World} {wb : Nat} {H : List Nat} {md y : Int} {rs : List Int} {ws : List Ver} {v : Value} {e : Ending} (he : e = .returned v) (h : Wrk B w wb H md y rs ws) (hk : Kp [] w w') : WgEnd B w wb H md y rs ws v e w' :=
  ⟨he, H, h.kp0 hk, hk.mono (by simp), fun _ hx => .inl hx⟩

/-- A variable of two cells: a value. -/
def Two (w : World) (p : Nat) (t : Bool) (s : ByteArray) : Prop := w.heap[p]? = some (.cells #[.bool t, .string s] 31 (0, 0))
section
variable {w w' : World} {p : Nat} {t : Bool} {s : ByteArray}
theorem Two.kp {S : List Nat} (h : Two w p t s) (hk : Kp S w w') (hS : p ∉ S) : Two w' p t s := by
  unfold Two at h ⊢
  rw [hk.block p (lt_of_block h) hS]; exact h
theorem Two.kp0 (h : Two w p t s) (hk : Kp [] w w') : Two w' p t s := h.kp hk (by simp)
theorem Two.c0 (h : Two w p t s) : w.cell? ⟨p, 0, none⟩ = some (.bool t) := cell_of_block h rfl
theorem Two.c1 (h : Two w p t s) : w.cell? ⟨p, 1, none⟩ = some (.string s) := cell_of_block h rfl
theorem Two.f0 (h : Two w p t s) : w.frozen? ⟨p, 0, none⟩ = false := frozen_of_block 0 h
theorem Two.f1 (h : Two w p t s) : w.frozen? ⟨p, 1, none⟩ = false := frozen_of_block 1 h
theorem Two.lt (h : Two w p t s) : p < w.heap.size := lt_of_block h
theorem Two.grown {ob : Option Nat} (h : Two w p t s) (hg : w.grownBy w' ob) (hne : some p ≠ ob) : Two w' p t s := by
  unfold Two at h ⊢
  rw [hg.block p (lt_of_block h) hne]; exact h
end
theorem two_new (w : World) (t : Bool) (s : ByteArray) : Two (w.alloc (.cells #[.bool t, .string s] 31)) w.heap.size t s := heap_alloc_new w _

/-- Behind the append of Get: what it stores to, and what it loads. -/
theorem get_far {B : Nat} {w2 w3 : World} {wb : Nat} {H : List Nat} {ra : Option Addr} {rc : Nat} {wa : Option Addr} {wc : Nat} {md y : Int} {rs : List Int} {ws : List Ver} {R : Nat} {t : Bool} {s : ByteArray} {o : Obj}
    (h : WrkL B w2 wb H ra rc wa wc md y rs ws) (hR : Two w2 R false ⟨#[]⟩) (hRH : R ∉ H) (hg : ((w2.alloc (.cells #[.bool t, .string s] 31)).alloc o).grownBy w3 (Value.slice ra rs.length rc).ownBlock) :
    w3.cell? ⟨wb, 2, none⟩ = some (.slice ra rs.length rc) ∧ w3.frozen? ⟨wb, 2, none⟩ = false ∧ w3.cell? ⟨w2.heap.size, 0, none⟩ = some (.bool t) ∧ w3.cell? ⟨w2.heap.size, 1, none⟩ = some (.string s) ∧
      w3.cell? ⟨R, 0, none⟩ = some (.bool false) ∧ w3.cell? ⟨R, 1, none⟩ = some (.string ⟨#[]⟩) ∧ w3.frozen? ⟨R, 0, none⟩ = false ∧ w3.frozen? ⟨R, 1, none⟩ = false := by
  have hk : Kp [] w2 ((w2.alloc (.cells #[.bool t, .string s] 31)).alloc o) := ((Kp.refl [] w2).alloc _).alloc _
  have h' := h.kp0 hk
  have hbox : w3.heap[wb]? = some (.cells #[.int .i64 md, .int .i64 y, .slice ra rs.length rc, .slice wa ws.length wc] 66 (0, 0)) := by
    rw [hg.block wb (lt_of_block h'.box) (fun e => (h.rb wb e.symm).1 rfl)]; exact h'.box
  have hv : Two w3 w2.heap.size t s := ((two_new w2 t s).kp0 ((Kp.refl [] _).alloc o)).grown hg (fun e => by have := (h.lo _ (h.rb _ e.symm).2).2; omega)
  have hr : Two w3 R false ⟨#[]⟩ := (hR.kp0 hk).grown hg (fun e => hRH (h.rb _ e.symm).2)
  exact ⟨cell_of_block hbox rfl, frozen_of_block 2 hbox, hv.c0, hv.c1, hr.c0, hr.c1, hr.f0, hr.f1⟩

theorem wget_end {B : Nat} {w w2 w3 : World} {wb : Nat} {H : List Nat} {ra : Option Addr} {rc : Nat} {wa : Option Addr} {wc : Nat} {md y : Int} {rs : List Int} {ws : List Ver} {t : Bool} {s : ByteArray} {k : Int} {o : Obj} {g2 cap2 : Nat} {v : Value} {e : Ending} (he : e = .returned v)
    (h : WrkL B w2 wb H ra rc wa wc md y rs ws) (hH : ∀ x, x ∈ H → x < w.heap.size) (hkw : Kp [] w w2) (hlt : w.heap.size < w2.heap.size)
    (hown : w3.ownsRow B 3 1 (.slice (some ⟨g2, 0, none⟩) (rs.length + 1) cap2) (rs.length + 1) (icells rs ++ [.int .i64 k]))
    (hg : ((w2.alloc (.cells #[.bool t, .string s] 31)).alloc o).grownBy w3 (Value.slice ra rs.length rc).ownBlock) (hat : (Value.slice ra rs.length rc).ownBlock = some g2 ∨ g2 = ((w2.alloc (.cells #[.bool t, .string s] 31)).alloc o).heap.size) (hl3 : g2 < w3.heap.size) :
    WgEnd B w wb H md y (rs ++ [k]) ws v e (((w3.setCell ⟨wb, 2, none⟩ (.slice (some ⟨g2, 0, none⟩) (rs.length + 1) cap2)).setCell ⟨w.heap.size, 0, none⟩ (.bool t)).setCell ⟨w.heap.size, 1, none⟩ (.string s)) := by
  have hk : Kp [] w2 ((w2.alloc (.cells #[.bool t, .string s] 31)).alloc o) := ((Kp.refl [] w2).alloc _).alloc _
  obtain ⟨z1, z2, z3⟩ := wrk_read (h.kp0 hk) hown hg hat hl3
  have hsz : w2.heap.size ≤ ((w2.alloc (.cells #[.bool t, .string s] 31)).alloc o).heap.size := hk.size
  have hin : ∀ x, x ∈ g2 :: H → x ∈ H ∨ w.heap.size < x := by
    intro x hx
    rcases List.mem_cons.1 hx with e | e
    · subst e
      rcases z3 with q | q
      · exact .inl q
      · right; omega
    · exact .inl e
  refine ⟨he, g2 :: H, ⟨_, _, _, _, z1.kp (S := [w.heap.size]) (((Kp.refl _ _).setCell (.inl (by simp)) _).setCell (.inl (by simp)) _) (fun x hx => ?_)⟩, ?_, fun x hx => ?_⟩
  · rcases hin x hx with q | q
    · have := hH x q; simp; omega
    · simp; omega
  · exact ((((hkw.trans0 hk).mono (T := H) (by simp)).trans z2 (fun x hx => .inl hx)).setCell (.inr (Nat.le_refl _)) _).setCell (.inr (Nat.le_refl _)) _
  · rcases hin x hx with q | q
    · exact .inl q
    · right; omega

set_option maxHeartbeats 2000000 in
theorem wget56 {B sb n wb : Nat} {G H : List Nat} {f : Nat → List Ver} {md y : Int} {rs : List Int} {ws : List Ver} (k : Int) (w : World) (h : Sht B w sb G f n) (hw : Wrk B w wb H md y rs ws) (hrl : rs.length ≤ 900) (hwl : ws.length ≤ 900) :
    Calls Try.prog 61 #[.pointer (some ⟨wb, 0, none⟩), .pointer (some ⟨sb, 0, none⟩), .int .i64 k] w fun e w' => WgEnd B w wb H md y (dr f n y rs ws k) ws (.tuple #[.agg #[.bool (dg f n y ws k).t, .string (dg f n y ws k).s], .int .i64 (dg f n y ws k).a]) e w' := by
  obtain ⟨in0, hi0, hz0, hz1, hz2⟩ := info_parts Try.info3
  have HT := hide h
  have HW := hide hw
  clear h hw
  by_cases hk : keyB k = true
  · cases hv : lwr ws k with
    | some v =>
      rw [dg_own hk hv, dr_own hv]
      have HV := hide hv
      clear hv
      go_enter Try.func61, Try.ntmps61
      go_wp2_with fail
      refine (key12 _ _).mono ?_
      rintro e w' ⟨rfl, rfl⟩
      rw [hk]
      clear hk
      go_wp2_with fail
      refine (wlast81 k _ ((unhide HW).kp0 ((Kp.refl [] w).alloc _)) (by omega)).mono ?_
      rintro e w1 ⟨rfl, hkp⟩
      rw [unhide HV]
      simp only [Option.isSome_some, Option.getD_some]
      have p0 : w1.cell? ⟨w.heap.size, 0, none⟩ = some (.bool false) := hkp.cell (by simp) (by simp)
      have p1 : w1.cell? ⟨w.heap.size, 1, none⟩ = some (.string ⟨#[]⟩) := hkp.cell (by simp) (by simp)
      have p2 : w1.frozen? ⟨w.heap.size, 0, none⟩ = false := by rw [hkp.frozen (by simp) (by simp)]; simp
      have p3 : w1.frozen? ⟨w.heap.size, 1, none⟩ = false := by rw [hkp.frozen (by simp) (by simp)]; simp
      have hRs : w.heap.size < w1.heap.size := by have := hkp.size; simp at this; omega
      have HK1 := hide (((Kp.refl [] w).alloc (.cells #[.bool false, .string ⟨#[]⟩] 31)).trans0 hkp)
      clear hkp
      go_wp2
      refine bodyPost_ret (v := .tuple #[.agg #[.bool v.t, .string v.s], .int .i64 0]) (by simp [results, Try.results61, go_sem, p0, p1, hRs]) rfl (wgEnd_kp rfl (unhide HW) ?_)
      exact (((unhide HK1).setCell (p := ⟨w.heap.size, 0, none⟩) (.inr (Nat.le_refl _)) _).setCell (p := ⟨w.heap.size, 1, none⟩) (.inr (Nat.le_refl _)) _).alloc _
    | none =>
      rw [dg_tbl hk hv]
      by_cases h0 : (tr f n k y).a = 0
      · rw [dr_tbl hk hv h0, h0]
        have HV := hide hv
        have H0 := hide h0
        clear hv h0
        go_enter Try.func61, Try.ntmps61
        go_wp2_with fail
        refine (key12 _ _).mono ?_
        rintro e w' ⟨rfl, rfl⟩
        rw [hk]
        clear hk
        go_wp2_with fail
        refine (wlast81 k _ ((unhide HW).kp0 ((Kp.refl [] w).alloc _)) (by omega)).mono ?_
        rintro e w1 ⟨rfl, hkp⟩
        rw [unhide HV]
        simp only [Option.isSome_none, Option.getD_none]
        have hkp1 := ((Kp.refl [] w).alloc (.cells #[.bool false, .string ⟨#[]⟩] 31)).trans0 hkp
        have hR := (two_new w false ⟨#[]⟩).kp0 hkp
        obtain ⟨ra, rc, wa, wc, hw1⟩ := (unhide HW).kp0 hkp1
        have q1 := hw1.c1
        have hl1 := lt_of_block hw1.box
        have HW1 := hide hw1
        have HR := hide hR
        have HK1 := hide hkp1
        clear hkp hkp1 hw1 hR
        go_wp2_with fail
        refine (sread33 k y _ ((unhide HT).kp0 ((unhide HK1).alloc _))).mono ?_
        rintro e w2 ⟨rfl, hkp⟩
        have hkp2 := ((Kp.refl [] w1).alloc (.cells #[.bool false, .string ⟨#[]⟩] 31)).trans0 hkp
        have hw2 := (unhide HW1).kp0 hkp2
        have hR := (unhide HR).kp0 hkp2
        have c2 := hw2.c2
        have hlb := lt_of_block hw2.box
        have hlR := hR.lt
        have hHw := (unhide HW).lo
        have hbw : wb < w.heap.size := (hHw wb hw2.bH).2
        have hBb : B ≤ wb := (hHw wb hw2.bH).1
        have n1 : wb ≠ w.heap.size := by omega
        have n2 : wb ≠ w2.heap.size := by omega
        have n3 : w.heap.size ≠ w2.heap.size := by omega
        have hRH : w.heap.size ∉ H := fun hm => by have := (hHw _ hm).2; omega
        rw [unhide H0]
        generalize hvv : tr f n k y = v at *
        have HVV := hide hvv
        have HO := hide (own_kp0 hw2.ro (((Kp.refl [] w2).alloc (.cells #[.bool v.t, .string v.s] 31)).alloc (.cells #[.int .i64 k] 3)))
        have HW2 := hide hw2
        have HR2 := hide hR
        have HRH := hide hRH
        have HHW := hide hHw
        have HK2 := hide ((unhide HK1).trans0 hkp2)
        clear hvv hw2 hR hkp hkp2 hRH hHw q1
        go_wp2_with (at_builtin; refine wpList_append_lies _ rfl _ _ 64 rfl B 3 in0 _ 1 8 Try.underlying64 hi0 hz0 hz1 hz2 rfl (by omega) (.slice ra rs.length rc) rs.length (icells rs) rfl (unhide HO) ⟨w2.heap.size + 1, 0, none⟩ 1 1 [.int .i64 k] (by rfl) (by rfl) (World.news_of_block (cs := #[.int .i64 k]) (t := 3) (fr := (0, 0)) (by have := heap_alloc_new (w2.alloc (.cells #[.bool v.t, .string v.s] 31)) (.cells #[.int .i64 k] 3); simpa using this)) (by simp [Value.oneCell']) (by omega) (by unfold maxLen; omega) (by omega) (by simp; omega) _ rfl ?_; intro g2 cap2 w3 hown hgrow hat hlt3; obtain ⟨r0, r1, r2, r3, r4, r5, r6, r7⟩ := get_far (unhide HW2) (unhide HR2) (unhide HRH) hgrow; have HOW := hide hown; have HGR := hide hgrow; have HAT := hide hat; clear hown hgrow hat c2)
        refine bodyPost_ret (v := .tuple #[.agg #[.bool v.t, .string v.s], .int .i64 0]) (by simp [results, Try.results61, go_sem, r4, r5]) rfl ?_
        exact wget_end (by rw [unhide HVV]) (unhide HW2) (fun x hx => (unhide HHW x hx).2) (unhide HK2) hlR (unhide HOW) (unhide HGR) (unhide HAT) hlt3
      · rw [dr_code h0]
        have HV := hide hv
        have HN0 := hide h0
        clear hv h0
        go_enter Try.func61, Try.ntmps61
        go_wp2_with fail
        refine (key12 _ _).mono ?_
        rintro e w' ⟨rfl, rfl⟩
        rw [hk]
        clear hk
        go_wp2_with fail
        refine (wlast81 k _ ((unhide HW).kp0 ((Kp.refl [] w).alloc _)) (by omega)).mono ?_
        rintro e w1 ⟨rfl, hkp⟩
        rw [unhide HV]
        simp only [Option.isSome_none, Option.getD_none]
        have hkp1 := ((Kp.refl [] w).alloc (.cells #[.bool false, .string ⟨#[]⟩] 31)).trans0 hkp
        have hR := (two_new w false ⟨#[]⟩).kp0 hkp
        obtain ⟨ra, rc, wa, wc, hw1⟩ := (unhide HW).kp0 hkp1
        have q1 := hw1.c1
        have hl1 := lt_of_block hw1.box
        have HW1 := hide hw1
        have HR := hide hR
        have HK1 := hide hkp1
        clear hkp hkp1 hw1 hR
        go_wp2_with fail
        refine (sread33 k y _ ((unhide HT).kp0 ((unhide HK1).alloc _))).mono ?_
        rintro e w2 ⟨rfl, hkp⟩
        have hkp2 := ((Kp.refl [] w1).alloc (.cells #[.bool false, .string ⟨#[]⟩] 31)).trans0 hkp
        have hR := (unhide HR).kp0 hkp2
        have p0 := hR.c0
        have p1 := hR.c1
        have p2 := hR.f0
        have p3 := hR.f1
        have hlR := hR.lt
        have HK2 := hide ((unhide HK1).trans0 hkp2)
        have h0 := unhide HN0
        clear hR hkp hkp2 q1
        generalize hvv : tr f n k y = v at *
        have HVV := hide hvv
        clear hvv
        go_wp2
        refine bodyPost_ret (v := .tuple #[.agg #[.bool v.t, .string v.s], .int .i64 v.a]) (by simp [results, Try.results61, go_sem, p0, p1, hlR]) rfl (wgEnd_kp (by rw [unhide HVV]) (unhide HW) ?_)
        exact (((unhide HK2).setCell (p := ⟨w.heap.size, 0, none⟩) (.inr (Nat.le_refl _)) _).setCell (p := ⟨w.heap.size, 1, none⟩) (.inr (Nat.le_refl _)) _).alloc _
  · have hk2 : keyB k = false := by simpa using hk
    rw [dg_out hk2, dr_out hk2]
    clear hk
    go_enter Try.func61, Try.ntmps61
    go_wp2_with fail
    refine (key12 _ _).mono ?_
    rintro e w' ⟨rfl, rfl⟩
    rw [hk2]
    clear hk2
    go_wp2
    refine bodyPost_ret (v := .tuple #[.agg #[.bool false, .string ByteArray.empty], .int .i64 1]) (by simp [results, Try.results61, go_sem]; rfl) rfl (wgEnd_kp rfl (unhide HW) ?_)
    exact (Kp.refl [] w).alloc _
end Go.Proofs.Ytapmlleemopcnac

/- Put, Reads and Writes of the document's deed, by their contracts. -/
namespace Go.Proofs.Ytapmlleemopcnac
open Go.RowKit
set_option maxRecDepth 20000
attribute [local go_sem ↓] Go.wp_at_zero Go.wp_at_succ

theorem far_drew {W w2 : World} {o : Obj} {ob : Option Nat} {b i : Nat} {v : Value} (hg : (W.alloc o).drew.grownBy w2 ob) (hne : some b ≠ ob)
    (q0 : W.cell? ⟨b, i, none⟩ = some v) (q1 : W.frozen? ⟨b, i, none⟩ = false) : w2.cell? ⟨b, i, none⟩ = some v ∧ w2.frozen? ⟨b, i, none⟩ = false := by
  have hb := World.block_lt_of_cell? W _ q0
  refine ⟨?_, ?_⟩
  · rw [hg.cell_far _ (by simp; exact Nat.lt_succ_of_lt hb) hne]
    simp only [World.cell?_drew]
    rw [World.cell?_alloc_lt _ _ _ hb]; exact q0
  · rw [hg.frozen_far _ (by simp; exact Nat.lt_succ_of_lt hb) hne]
    simp only [World.frozen?_drew]
    rw [World.frozen?_alloc_old _ _ _ (Nat.ne_of_lt hb)]; exact q1

set_option maxHeartbeats 2000000 in
theorem wput58 {B wb : Nat} {H : List Nat} {md y : Int} {rs : List Int} {ws : List Ver} (k : Int) (t : Bool) (s : ByteArray) (w : World) (hw : Wrk B w wb H md y rs ws) (hs : s.size ≤ maxLen) (hwl : ws.length ≤ 900) :
    Calls Try.prog 62 #[.pointer (some ⟨wb, 0, none⟩), .int .i64 k, .agg #[.bool t, .string s]] w fun e w' => WgEnd B w wb H md y rs (dpw md ws k t s) (.int .i64 (dpc md k t s)) e w' := by
  obtain ⟨in0, hi0, hz0, hz1, hz2⟩ := info_parts Try.info79
  have HW := hide hw
  obtain ⟨ra, rc, wa, wc, h⟩ := hw
  have hlt := lt_of_block h.box
  have qm := h.c0
  have HL := hide h
  clear h
  by_cases hk : keyB k = true
  · by_cases hm : md = 3
    · have hc : dpc md k t s = 3 := by unfold dpc; rw [if_pos hk, if_pos hm]
      rw [dpw_not (by rw [hc]; decide), hc]
      clear hc
      subst hm
      go_enter Try.func62, Try.ntmps62
      go_wp2_with fail
      refine (key12 _ _).mono ?_
      rintro e w' ⟨rfl, rfl⟩
      rw [hk]
      clear hk
      go_wp2_with fail
      go_ret
      exact wgEnd_kp rfl (unhide HW) ((Kp.refl [] w).alloc _)
    · have hc : dpc md k t s = chk t s := by unfold dpc; rw [if_pos hk, if_neg hm]
      have em : (md == 3) = false := beq_eq_false_iff_ne.2 hm
      by_cases h0 : chk t s = 0
      · rw [dpw_yes (by rw [hc]; exact h0), hc, h0]
        have H0 := hide h0
        clear hc h0 hm
        go_enter Try.func62, Try.ntmps62
        go_wp2_with fail
        refine (key12 _ _).mono ?_
        rintro e w' ⟨rfl, rfl⟩
        rw [hk]
        clear hk
        go_wp2_with fail
        refine (fault14 t s _ hs).mono ?_
        rintro e w1 ⟨rfl, hkp⟩
        rw [unhide H0]
        have b0 : w1.cell? ⟨w.heap.size, 0, none⟩ = some (.bool t) := hkp.cell (by simp) (by simp)
        have b1 : w1.cell? ⟨w.heap.size, 1, none⟩ = some (.string s) := hkp.cell (by simp) (by simp)
        have hkp1 := ((Kp.refl [] w).alloc (.cells #[.bool t, .string s] 31)).trans0 hkp
        have h1 := (unhide HL).kp0 hkp1
        have c3 := h1.c3
        have f3 : w1.frozen? ⟨wb, 3, none⟩ = false := frozen_of_block 3 h1.box
        have hl1 := lt_of_block h1.box
        have hBb := (h1.lo wb h1.bH).1
        have hRl : w.heap.size < w1.heap.size := by have := hkp.size; simp at this; omega
        have HO := hide (own_kp0 h1.wo (((Kp.refl [] w1).alloc (.cells #[.int .i64 k, .bool t, .string s] 79)).drew))
        have HL1 := hide h1
        have HK1 := hide hkp1
        clear h1 hkp hkp1 qm em
        go_wp2_with fail
        go_region_law (refine step_append_lies _ (by rfl) _ _ 32 (by rfl) B 79 in0 _ 3 32 Try.underlying32 hi0 hz0 hz1 hz2 rfl (by omega) (.slice wa ws.length wc) ws.length (vcells ws) (by rfl) (unhide HO) ⟨w1.heap.size, 0, none⟩ 1 1 [.int .i64 k, .bool t, .string s] (by rfl) (by rfl) (World.news_of_block (cs := #[.int .i64 k, .bool t, .string s]) (t := 79) (fr := (0, 0)) (heap_alloc_new w1 _)) (by simp [Value.oneCell']) (by omega) (by unfold maxLen; omega) (by omega) (by simp; omega) (w1.heap.size + 1) (by simp) ?_; intro gg cap2 w2 hown1 hgrow hat hlt2; obtain ⟨r0, r1⟩ := far_drew hgrow (fun e => ((unhide HL1).ab wb e.symm).1 rfl) c3 f3; have HO1 := hide hown1; have HG1 := hide hgrow; have HA1 := hide hat; clear hown1 hgrow hat)
        all_goals
          go_wp2
          go_ret
          obtain ⟨z1, z2, z3⟩ := wrk_write ((unhide HL1).kp0 (((Kp.refl [] w1).alloc (.cells #[.int .i64 k, .bool t, .string s] 79)).drew)) (unhide HO1) (unhide HG1) (by rcases unhide HA1 with e | e; exact .inl e; exact .inr (by simpa using e)) hlt2
          have hkw := (((unhide HK1).alloc (.cells #[.int .i64 k, .bool t, .string s] 79)).drew)
          refine ⟨rfl, gg :: H, ⟨_, _, _, _, z1⟩, (hkw.mono (T := H) (by simp)).trans z2 (fun x hx => .inl hx), fun x hx => ?_⟩
          have hsz := hkw.size
          rcases List.mem_cons.1 hx with e | e
          · subst e
            rcases z3 with q | q
            · exact .inl q
            · right; omega
          · exact .inl e
      · rw [dpw_not (by rw [hc]; exact h0), hc]
        clear hc hm
        go_enter Try.func62, Try.ntmps62
        go_wp2_with fail
        refine (key12 _ _).mono ?_
        rintro e w' ⟨rfl, rfl⟩
        rw [hk]
        clear hk
        go_wp2_with fail
        refine (fault14 t s _ hs).mono ?_
        rintro e w1 ⟨rfl, hkp⟩
        have HK1 := hide (((Kp.refl [] w).alloc (.cells #[.bool t, .string s] 31)).trans0 hkp)
        clear hkp qm em
        generalize hcc : chk t s = c at *
        have HCC := hide hcc
        clear hcc
        go_wp2_with fail
        go_ret
        exact wgEnd_kp (ret_int (unhide HCC).symm) (unhide HW) (unhide HK1)
  · have hk2 : keyB k = false := by simpa using hk
    have hc : dpc md k t s = 1 := by unfold dpc; rw [if_neg hk]
    rw [dpw_not (by rw [hc]; decide), hc]
    clear hc hk
    go_enter Try.func62, Try.ntmps62
    go_wp2_with fail
    refine (key12 _ _).mono ?_
    rintro e w' ⟨rfl, rfl⟩
    rw [hk2]
    clear hk2
    go_wp2_with fail
    go_ret
    exact wgEnd_kp rfl (unhide HW) ((Kp.refl [] w).alloc _)

set_option maxHeartbeats 1000000 in
theorem wwrites67 {B wb : Nat} {H : List Nat} {md y : Int} {rs : List Int} {ws : List Ver} (w : World) (h : Wrk B w wb H md y rs ws) (hwl : ws.length ≤ 900) : Calls Try.prog 66 #[.pointer (some ⟨wb, 0, none⟩)] w fun e w' => PrsEnd (wk ws 8) w e w' := by
  obtain ⟨in0, hi0, hz0, hz1, hz2⟩ := info_parts Try.info79
  have HW := hide h
  have H0 : Hid (WrtI w (wk ws 0) none 0 w) := ⟨World.ownsRow_nil _ _ _ _, Kp.refl _ _⟩
  clear h
  go_enter Try.func66, Try.ntmps66
  go_wp2_with fail
  go_loopw [3, 4] (fun s i wr => ∃ (k : Nat) (a : Option Addr) (cap : Nat), k ≤ 8 ∧ s = .slice a (wk ws k).length cap ∧ i = .int .i64 k ∧ Hid (WrtI w (wk ws k) a cap wr)) (fun _ i _ => 8 - (intOf i).toNat)
  case atStart => exact ⟨0, none, 0, by omega, rfl, rfl, H0⟩
  case round =>
    obtain ⟨k, a, cap, hk, rfl, rfl, HL⟩ := hrel
    by_cases hlt8 : k < 8
    · have i1 : (k : Int) < 8 := by omega
      have hal := wk_len ws k
      go_wp2_with fail
      refine (wlast81 k _ ((unhide HW).kp0 (unhide HL).kp) (by omega)).mono ?_
      rintro e w1 ⟨rfl, hkp⟩
      have HK1 := hide hkp
      clear hkp
      cases hv : lwr ws k with
      | some v =>
        have HN := hide (wk_yes hv)
        simp only [Option.isSome_some, Option.getD_some]
        clear hv
        generalize wk ws k = L at *
        have hOW := hide (own_kp0 (unhide HL).own (((unhide HK1).alloc (.cells #[.bool v.t, .string v.s] 31)).alloc (.cells #[.int .i64 k, .bool v.t, .string v.s] 79)))
        have hwl := ((unhide HL).kp.trans0 (unhide HK1)).size
        go_wp2_with (at_builtin; refine wpList_append_lies _ rfl _ _ 32 rfl w.heap.size 79 in0 _ 3 32 Try.underlying32 hi0 hz0 hz1 hz2 rfl (by omega) (.slice a L.length cap) L.length (vcells L) rfl (unhide hOW) ⟨w1.heap.size + 1, 0, none⟩ 1 1 [.int .i64 k, .bool v.t, .string v.s] (by rfl) (by rfl) (World.news_of_block (cs := #[.int .i64 k, .bool v.t, .string v.s]) (t := 79) (fr := (0, 0)) (by have := heap_alloc_new (w1.alloc (.cells #[.bool v.t, .string v.s] 31)) (.cells #[.int .i64 k, .bool v.t, .string v.s] 79); simpa using this)) (by simp [Value.oneCell']) (by omega) (by unfold maxLen; omega) (by omega) (by simp; omega) _ rfl ?_; intro g2 cap2 w2 hown hgrow hat hlt2)
        have HL2 := hide ((unhide HL).more (((unhide HK1).alloc _).alloc _) hown hgrow)
        clear hown hgrow hat
        go_wp2_with fail
        exact ⟨⟨k + 1, some ⟨g2, 0, none⟩, cap2, by omega, by rw [unhide HN]; simp, by go_num, by rw [unhide HN]; exact HL2⟩, by simp [intOf]; omega⟩
      | none =>
        have HN := hide (wk_no hv)
        simp only [Option.isSome_none, Option.getD_none]
        clear hv
        have HL2 := hide ((unhide HL).skip ((unhide HK1).alloc (.cells #[.bool dv.t, .string dv.s] 31)))
        go_wp2_with fail
        exact ⟨⟨k + 1, a, cap, by omega, by rw [unhide HN], by go_num, by rw [unhide HN]; exact HL2⟩, by simp [intOf]; omega⟩
    · have e : k = 8 := by omega
      subst e
      go_wp2_with fail
      go_ret
      exact ⟨a, cap, rfl, (unhide HL).own, (unhide HL).kp⟩
end Go.Proofs.Ytapmlleemopcnac

/- Steps that are handed in; greatPairs, greatTable and SamePairs, by their contracts. -/
namespace Go.Proofs.Ytapmlleemopcnac
open Go.RowKit
set_option maxRecDepth 20000
attribute [local go_sem ↓] Go.wp_at_zero Go.wp_at_succ

/-- A step: 0 Write of the pairs, 1 Clear of l. -/
structure TStep where
  d : Int
  l : Int
  a : Option Addr
  c : Nat
  ps : List Ver

/-- The steps lie in block b from o on, n of them, and behind each its pairs. -/
def StT (w : World) (b o n : Nat) (st : Nat → TStep) : Prop := ∀ i, i < n →
  w.cell? ⟨b, o + i * 3, none⟩ = some (.int .i64 (st i).d) ∧ w.cell? ⟨b, o + i * 3 + 1, none⟩ = some (.int .i64 (st i).l) ∧ w.cell? ⟨b, o + i * 3 + 2, none⟩ = some (.slice (st i).a (st i).ps.length (st i).c) ∧ Prs w (st i).a (st i).ps
def TSts (w : World) (a : Option Addr) (n : Nat) (st : Nat → TStep) : Prop := n ≤ maxLen ∧ (0 < n → ∃ b o, a = some ⟨b, o, none⟩ ∧ StT w b o n st)

theorem StT.kp0 {w w' : World} {b o n : Nat} {st : Nat → TStep} (h : StT w b o n st) (hk : Kp [] w w') : StT w' b o n st := by
  intro i hi
  obtain ⟨h1, h2, h3, h4⟩ := h i hi
  exact ⟨hk.cell (p := ⟨b, o + i * 3, none⟩) (by simp) h1, hk.cell (p := ⟨b, o + i * 3 + 1, none⟩) (by simp) h2, hk.cell (p := ⟨b, o + i * 3 + 2, none⟩) (by simp) h3, h4.kp0 hk⟩
theorem TSts.kp0 {w w' : World} {a : Option Addr} {n : Nat} {st : Nat → TStep} (h : TSts w a n st) (hk : Kp [] w w') : TSts w' a n st := by
  refine ⟨h.1, fun hp => ?_⟩
  obtain ⟨b, o, e, hs⟩ := h.2 hp
  exact ⟨b, o, e, hs.kp0 hk⟩

def GtEnd (n : Nat) (st : Nat → TStep) (w : World) (e : Ending) (w' : World) : Prop := ∃ q : Bool, e = .returned (.bool q) ∧ (q = false → n ≤ 80 ∧ ∀ i, i < n → (st i).ps.length ≤ 50) ∧ w' = w
theorem gtEnd_mk {n : Nat} {st : Nat → TStep} {w : World} (q : Bool) (h : q = false → n ≤ 80 ∧ ∀ i, i < n → (st i).ps.length ≤ 50) : GtEnd n st w (.returned (.bool q)) w := ⟨q, rfl, h, rfl⟩

end Go.Proofs.Ytapmlleemopcnac

/- tables: a table and a sheet, by steps, tell the same, step by step. -/
namespace Go.Proofs.Ytapmlleemopcnac
open Go.RowKit
set_option maxRecDepth 20000
attribute [local go_sem ↓] Go.wp_at_zero Go.wp_at_succ

theorem Sht.base {B C : Nat} {w : World} {sb : Nat} {G : List Nat} {f : Nat → List Ver} {n : Nat} (h : Sht B w sb G f n) (hC : C ≤ B) : Sht C w sb G f n := by
  obtain ⟨g, o, cap, h⟩ := h
  exact ⟨g, o, cap, h.box, h.sla, h.cap, h.ne, h.sG, h.gG, fun x hx => ⟨Nat.le_trans hC (h.lo x hx).1, (h.lo x hx).2⟩, h.inv, Nat.le_trans hC h.hB⟩

/-- A table and a sheet beside it that share no memory, both made since w0, all that was there as it was. -/
def Bth (w0 wr : World) (tb sb : Nat) (f g : Nat → List Ver) (n m : Nat) : Prop :=
  ∃ F G, Tbl w0.heap.size wr tb F f n ∧ Sht w0.heap.size wr sb G g m ∧ (∀ x, x ∈ F → x ∉ G) ∧ Kp [] w0 wr

theorem Bth.kp {w0 wr : World} {tb sb : Nat} {f g : Nat → List Ver} {n m : Nat} (h : Bth w0 wr tb sb f g n m) : Kp [] w0 wr := by
  obtain ⟨_, _, _, _, _, h⟩ := h
  exact h
theorem Bth.kp0 {w0 wr wr' : World} {tb sb : Nat} {f g : Nat → List Ver} {n m : Nat} (h : Bth w0 wr tb sb f g n m) (hk : Kp [] wr wr') : Bth w0 wr' tb sb f g n m := by
  obtain ⟨F, G, h1, h2, h3, h4⟩ := h
  exact ⟨F, G, h1.kp0 hk, h2.kp0 hk, h3, h4.trans0 hk⟩

theorem bth_start {w0 w1 w2 : World} {F G : List Nat} {tb sb : Nat} {f g : Nat → List Ver} {n m : Nat} (h1 : Tbl w0.heap.size w1 tb F f n) (k1 : Kp [] w0 w1) (h2 : Sht w1.heap.size w2 sb G g m) (k2 : Kp [] w1 w2) : Bth w0 w2 tb sb f g n m := by
  refine ⟨F, G, h1.kp0 k2, h2.base k1.size, fun x hx hg => ?_, k1.trans0 k2⟩
  have := (h1.lo x hx).2
  have := (h2.lo x hg).1
  omega

theorem bth_table {w0 wr w' : World} {tb sb : Nat} {F G F' : List Nat} {f' g : Nat → List Ver} {n' m : Nat} (hF : ∀ x, x ∈ F → w0.heap.size ≤ x) (h2 : Sht w0.heap.size wr sb G g m) (h3 : ∀ x, x ∈ F → x ∉ G) (h4 : Kp [] w0 wr)
    (k1 : Tbl w0.heap.size w' tb F' f' n') (k2 : Kp F wr w') (k3 : ∀ x, x ∈ F' → x ∈ F ∨ wr.heap.size ≤ x) : Bth w0 w' tb sb f' g n' m := by
  refine ⟨F', G, k1, h2.kp k2 (fun x hx hf => h3 x hf hx), fun x hx hg => ?_, h4.trans k2 (fun x hx => .inr (hF x hx))⟩
  rcases k3 x hx with e | e
  · exact h3 x e hg
  · have := (h2.lo x hg).2; omega
theorem bth_sheet {w0 wr w' : World} {tb sb : Nat} {F G G' : List Nat} {f g' : Nat → List Ver} {n m' : Nat} (hG : ∀ x, x ∈ G → w0.heap.size ≤ x) (h1 : Tbl w0.heap.size wr tb F f n) (h3 : ∀ x, x ∈ F → x ∉ G) (h4 : Kp [] w0 wr)
    (k1 : Sht w0.heap.size w' sb G' g' m') (k2 : Kp G wr w') (k3 : ∀ x, x ∈ G' → x ∈ G ∨ wr.heap.size ≤ x) : Bth w0 w' tb sb f g' n m' := by
  refine ⟨F, G', h1.kp k2 h3, k1, fun x hx hg => ?_, h4.trans k2 (fun x hx => .inr (hG x hx))⟩
  rcases k3 x hg with e | e
  · exact h3 x hx e
  · have := (h1.lo x hx).2; omega

theorem Prs.far {w0 : World} {a : Option Addr} {ps : List Ver} {F : List Nat} (h : Prs w0 a ps) (hF : ∀ x, x ∈ F → w0.heap.size ≤ x) : 0 < ps.length → ∀ g o, a = some ⟨g, o, none⟩ → g ∉ F := by
  intro hp g o e hg
  obtain ⟨g', o', e', hs⟩ := h.mem hp
  rw [e] at e'
  simp only [Option.some.injEq, Addr.mk.injEq, and_true] at e'
  have := hs.lt hp
  have := hF g hg
  omega

theorem bth_write {w0 wr : World} {tb sb : Nat} {f g : Nat → List Ver} {n m : Nat} (a : Option Addr) (c : Nat) (ps : List Ver) (h : Bth w0 wr tb sb f g n m) (hp : Prs w0 a ps) (hm : ps.length ≤ 1000) :
    Calls Try.prog 124 #[.pointer (some ⟨tb, 0, none⟩), .slice a ps.length c] wr fun e w' => e = .returned (.tuple #[.int .i64 (wnum n ps), .int .i64 (wcode n ps)]) ∧ Hid (Bth w0 w' tb sb (wst f n ps) g (wn n ps) m) := by
  obtain ⟨F, G, h1, h2, h3, h4⟩ := h
  have hF : ∀ x, x ∈ F → w0.heap.size ≤ x := fun x hx => (h1.lo x hx).1
  refine (twrite45 a c ps wr h1 (hp.kp0 h4) (hp.far hF) hm).mono ?_
  rintro e w' ⟨rfl, F', k1, k2, k3⟩
  exact ⟨rfl, bth_table hF h2 h3 h4 k1 k2 k3⟩
theorem bth_swrite {w0 wr : World} {tb sb : Nat} {f g : Nat → List Ver} {n m : Nat} (a : Option Addr) (c : Nat) (ps : List Ver) (h : Bth w0 wr tb sb f g n m) (hp : Prs w0 a ps) (hm : ps.length ≤ 1000) :
    Calls Try.prog 108 #[.pointer (some ⟨sb, 0, none⟩), .slice a ps.length c] wr fun e w' => e = .returned (.tuple #[.int .i64 (wnum m ps), .int .i64 (wcode m ps)]) ∧ Hid (Bth w0 w' tb sb f (wst g m ps) n (wn m ps)) := by
  obtain ⟨F, G, h1, h2, h3, h4⟩ := h
  have hG : ∀ x, x ∈ G → w0.heap.size ≤ x := fun x hx => (h2.lo x hx).1
  refine (swrite56 a c ps wr h2 (hp.kp0 h4) (hp.far hG) hm).mono ?_
  rintro e w' ⟨rfl, G', k1, k2, k3⟩
  exact ⟨rfl, bth_sheet hG h1 h3 h4 k1 k2 k3⟩
theorem bth_clear {w0 wr : World} {tb sb : Nat} {f g : Nat → List Ver} {n m : Nat} (y : Int) (h : Bth w0 wr tb sb f g n m) :
    Calls Try.prog 52 #[.pointer (some ⟨tb, 0, none⟩), .int .i64 y] wr fun e w' => e = .returned (.int .i64 (cln f y 8 : Nat)) ∧ Hid (Bth w0 w' tb sb (clm f y 8) g n m) := by
  obtain ⟨F, G, h1, h2, h3, h4⟩ := h
  have hF : ∀ x, x ∈ F → w0.heap.size ≤ x := fun x hx => (h1.lo x hx).1
  refine (tclear46 y wr h1).mono ?_
  rintro e w' ⟨rfl, F', k1, k2, k3⟩
  exact ⟨rfl, bth_table hF h2 h3 h4 k1 k2 k3⟩
theorem bth_sclear {w0 wr : World} {tb sb : Nat} {f g : Nat → List Ver} {n m : Nat} (y : Int) (h : Bth w0 wr tb sb f g n m) :
    Calls Try.prog 58 #[.pointer (some ⟨sb, 0, none⟩), .int .i64 y] wr fun e w' => e = .returned (.int .i64 (cln g y 8 : Nat)) ∧ Hid (Bth w0 w' tb sb f (clm g y 8) n m) := by
  obtain ⟨F, G, h1, h2, h3, h4⟩ := h
  have hG : ∀ x, x ∈ G → w0.heap.size ≤ x := fun x hx => (h2.lo x hx).1
  refine (sclear57 y wr h2).mono ?_
  rintro e w' ⟨rfl, G', k1, k2, k3⟩
  exact ⟨rfl, bth_sheet hG h1 h3 h4 k1 k2 k3⟩

theorem rclearT {w0 wr : World} {tb sb lb lo k n1 : Nat} {st : Nat → TStep} {f : Nat → List Ver} {n : Nat} (h : Bth w0 wr tb sb f f n n) (hs : StT w0 lb lo n1 st) (hk : k < n1) :
    Calls Try.prog 52 #[.pointer (some ⟨tb, 0, none⟩), .int .i64 (st k).l] wr fun e w' => e = .returned (.int .i64 (cln f (st k).l 8 : Nat)) ∧ w'.cell? ⟨lb, lo + k * 3 + 1, none⟩ = some (.int .i64 (st k).l) ∧ Hid (Bth w0 w' tb sb (clm f (st k).l 8) f n n) := by
  refine (bth_clear (st k).l h).mono ?_
  rintro e w' ⟨rfl, hb⟩
  exact ⟨rfl, ((hs.kp0 (unhide hb).kp) k hk).2.1, hb⟩
theorem rclearS {w0 wr : World} {tb sb lb lo k n1 : Nat} {st : Nat → TStep} {f : Nat → List Ver} {n : Nat} (h : Bth w0 wr tb sb (clm f (st k).l 8) f n n) (hs : StT w0 lb lo n1 st) (hk : k < n1) :
    Calls Try.prog 58 #[.pointer (some ⟨sb, 0, none⟩), .int .i64 (st k).l] wr fun e w' => e = .returned (.int .i64 (cln f (st k).l 8 : Nat)) ∧ w'.cell? ⟨lb, lo + k * 3 + 1, none⟩ = some (.int .i64 (st k).l) ∧ Hid (Bth w0 w' tb sb (clm f (st k).l 8) (clm f (st k).l 8) n n) := by
  refine (bth_sclear (st k).l h).mono ?_
  rintro e w' ⟨rfl, hb⟩
  exact ⟨rfl, ((hs.kp0 (unhide hb).kp) k hk).2.1, hb⟩

def TbEnd (w : World) (e : Ending) (w' : World) : Prop := ∃ tb sb f n, e = .returned (.tuple #[.pointer (some ⟨tb, 0, none⟩), .pointer (some ⟨sb, 0, none⟩), .bool true]) ∧ Hid (Bth w w' tb sb f f n n)

end Go.Proofs.Ytapmlleemopcnac

/- The things of a vault's world: a vault, a court, a house, a deed with the document's deed; what a call leaves of them. -/
namespace Go.Proofs.Ytapmlleemopcnac
open Go.RowKit
set_option maxRecDepth 20000

/-- What a call that changes a thing leaves of it. -/
def Ch (o' : Thing) (B : Nat) (w : World) (F : List Nat) (w' : World) : Prop := ∃ F', o'.holds B w' F' ∧ Kp F w w' ∧ ∀ x, x ∈ F' → x ∈ F ∨ w.heap.size ≤ x

section
variable {w0 w w' : World} {o o1 o2 o3 : Thing} {r : List Thing}
theorem zoo_at0 (h : Zoo w0 w (o :: r)) : ∃ F, o.holds w0.heap.size w F ∧ ∀ (o' : Thing) (w' : World), Ch o' w0.heap.size w F w' → Zoo w0 w' (o' :: r) := h.head
theorem zoo_at1 (h : Zoo w0 w (o1 :: o :: r)) : ∃ F, o.holds w0.heap.size w F ∧ ∀ (o' : Thing) (w' : World), Ch o' w0.heap.size w F w' → Zoo w0 w' (o1 :: o' :: r) := Zoo.at_ (l1 := [o1]) h
theorem zoo_at2 (h : Zoo w0 w (o1 :: o2 :: o :: r)) : ∃ F, o.holds w0.heap.size w F ∧ ∀ (o' : Thing) (w' : World), Ch o' w0.heap.size w F w' → Zoo w0 w' (o1 :: o2 :: o' :: r) := Zoo.at_ (l1 := [o1, o2]) h
theorem Ch.same {o : Thing} {B : Nat} {F : List Nat} (h : o.holds B w F) (hk : Kp [] w w') : Ch o B w F w' := ⟨F, o.kp h hk (fun _ _ => by simp), hk.mono (fun x hx => by simp at hx), fun x hx => .inl hx⟩
theorem Ch.trans {o' : Thing} {B : Nat} {F F1 : List Nat} {w1 : World} (h2 : Kp F w w1) (h3 : ∀ x, x ∈ F1 → x ∈ F ∨ w.heap.size ≤ x) (k : Ch o' B w1 F1 w') : Ch o' B w F w' := by
  obtain ⟨F2, k1, k2, k3⟩ := k
  refine ⟨F2, k1, h2.trans k2 h3, fun x hx => ?_⟩
  rcases k3 x hx with e | e
  · exact h3 x e
  · exact .inr (Nat.le_trans h2.size e)
theorem Ch.to {o o' : Thing} {B : Nat} {F : List Nat} {w1 : World} (h : Ch o B w F w1) (k : ∀ F1, o.holds B w1 F1 → Ch o' B w1 F1 w') : Ch o' B w F w' := by
  obtain ⟨F1, h1, h2, h3⟩ := h
  exact Ch.trans h2 h3 (k F1 h1)
theorem Ch.kp0 {o' : Thing} {B : Nat} {F : List Nat} {w1 : World} (h : Ch o' B w F w1) (hk : Kp [] w1 w') : Ch o' B w F w' := h.to (fun _ h1 => Ch.same h1 hk)
theorem Ch.after {o' : Thing} {B : Nat} {F : List Nat} {w1 : World} (hk : Kp [] w w1) (h : Ch o' B w1 F w') : Ch o' B w F w' := by
  obtain ⟨F1, h1, h2, h3⟩ := h
  refine ⟨F1, h1, (hk.mono (fun x hx => by simp at hx)).trans h2 (fun x hx => .inl hx), fun x hx => ?_⟩
  rcases h3 x hx with e | e
  · exact .inl e
  · exact .inr (Nat.le_trans hk.size e)
end

/-- A vault's memory: its box holds the table's and the log's. -/
structure Vlt (B : Nat) (w : World) (vb tb gb : Nat) (F Ft Fg : List Nat) (f : Nat → List Ver) (n : Nat) (cs : List (List Ver)) (torn : List UInt8) : Prop where
  box : w.heap[vb]? = some (.cells #[.pointer (some ⟨tb, 0, none⟩), .pointer (some ⟨gb, 0, none⟩)] 47 (0, 0))
  t : Tbl B w tb Ft f n
  g : Lg B w gb Fg cs torn
  vt : vb ∉ Ft
  vg : vb ∉ Fg
  tg : ∀ x, x ∈ Ft → x ∉ Fg
  vF : vb ∈ F
  tF : ∀ x, x ∈ Ft → x ∈ F
  gF : ∀ x, x ∈ Fg → x ∈ F
  lo : ∀ x, x ∈ F → B ≤ x ∧ x < w.heap.size
section
variable {B : Nat} {w w' : World} {vb tb gb : Nat} {F Ft Fg S : List Nat} {f f' : Nat → List Ver} {n n' : Nat} {cs cs' : List (List Ver)} {torn torn' : List UInt8}
theorem Vlt.kp (h : Vlt B w vb tb gb F Ft Fg f n cs torn) (hk : Kp S w w') (hS : ∀ x, x ∈ F → x ∉ S) : Vlt B w' vb tb gb F Ft Fg f n cs torn :=
  ⟨by rw [hk.block vb (h.lo vb h.vF).2 (hS _ h.vF)]; exact h.box, h.t.kp hk (fun x hx => hS x (h.tF x hx)), h.g.kp hk (fun x hx => hS x (h.gF x hx)), h.vt, h.vg, h.tg, h.vF, h.tF, h.gF, fun x hx => ⟨(h.lo x hx).1, Nat.lt_of_lt_of_le (h.lo x hx).2 hk.size⟩⟩
theorem Vlt.kp0 (h : Vlt B w vb tb gb F Ft Fg f n cs torn) (hk : Kp [] w w') : Vlt B w' vb tb gb F Ft Fg f n cs torn := h.kp hk (fun _ _ => by simp)
theorem Vlt.base {C : Nat} (h : Vlt B w vb tb gb F Ft Fg f n cs torn) (hC : C ≤ B) : Vlt C w vb tb gb F Ft Fg f n cs torn :=
  ⟨h.box, h.t.base hC, h.g.base hC, h.vt, h.vg, h.tg, h.vF, h.tF, h.gF, fun x hx => ⟨Nat.le_trans hC (h.lo x hx).1, (h.lo x hx).2⟩⟩
theorem Vlt.c0 (h : Vlt B w vb tb gb F Ft Fg f n cs torn) : w.cell? ⟨vb, 0, none⟩ = some (.pointer (some ⟨tb, 0, none⟩)) := cell_of_block h.box rfl
theorem Vlt.c1 (h : Vlt B w vb tb gb F Ft Fg f n cs torn) : w.cell? ⟨vb, 1, none⟩ = some (.pointer (some ⟨gb, 0, none⟩)) := cell_of_block h.box rfl
theorem Vlt.fz (h : Vlt B w vb tb gb F Ft Fg f n cs torn) (i : Nat) : w.frozen? ⟨vb, i, none⟩ = false := frozen_of_block i h.box
end
def VltT (vb tb gb : Nat) (f : Nat → List Ver) (n : Nat) (cs : List (List Ver)) (torn : List UInt8) : Thing where
  holds B w F := ∃ Ft Fg, Vlt B w vb tb gb F Ft Fg f n cs torn
  kp := fun ⟨Ft, Fg, h⟩ hk hS => ⟨Ft, Fg, h.kp hk hS⟩
  lo := fun ⟨_, _, h⟩ => h.lo
  base := fun ⟨Ft, Fg, h⟩ hC => ⟨Ft, Fg, h.base hC⟩
section
variable {B : Nat} {w w' : World} {vb tb gb : Nat} {F Ft Fg S : List Nat} {f f' : Nat → List Ver} {n n' : Nat} {cs cs' : List (List Ver)} {torn torn' : List UInt8}
/-- Another log of the vault. -/
theorem Vlt.log (h : Vlt B w vb tb gb F Ft Fg f n cs torn) (k : LgTo B w gb Fg cs' torn' w') : Ch (VltT vb tb gb f n cs' torn') B w F w' := by
  obtain ⟨Fg', k1, k2, k3⟩ := k
  have hvb := (h.lo vb h.vF).2
  refine ⟨F ++ Fg', ⟨Ft, Fg', ?_, h.t.kp k2 h.tg, k1, h.vt, fun hm => ?_, fun x hx hm => ?_, by simp [h.vF], fun x hx => by simp [h.tF x hx], fun x hx => by simp [hx], fun x hx => ?_⟩, k2.mono (fun x hx => .inl (h.gF x hx)), fun x hx => ?_⟩
  · rw [k2.block vb hvb h.vg]; exact h.box
  · rcases k3 vb hm with e | e
    · exact h.vg e
    · omega
  · rcases k3 x hm with e | e
    · exact h.tg x hx e
    · have := (h.lo x (h.tF x hx)).2; omega
  · rcases List.mem_append.1 hx with e | e
    · exact ⟨(h.lo x e).1, Nat.lt_of_lt_of_le (h.lo x e).2 k2.size⟩
    · exact k1.lo x e
  · rcases List.mem_append.1 hx with e | e
    · exact .inl e
    · rcases k3 x e with e | e
      · exact .inl (h.gF x e)
      · exact .inr e
/-- Its table changed. -/
theorem Vlt.table (h : Vlt B w vb tb gb F Ft Fg f n cs torn) {Ft' : List Nat} (k1 : Tbl B w' tb Ft' f' n') (k2 : Kp Ft w w') (k3 : ∀ x, x ∈ Ft' → x ∈ Ft ∨ w.heap.size ≤ x) : Ch (VltT vb tb gb f' n' cs torn) B w F w' := by
  have hvb := (h.lo vb h.vF).2
  refine ⟨F ++ Ft', ⟨Ft', Fg, ?_, k1, h.g.kp k2 (fun x hx hm => h.tg x hm hx), fun hm => ?_, h.vg, fun x hx hm => ?_, by simp [h.vF], fun x hx => by simp [hx], fun x hx => by simp [h.gF x hx], fun x hx => ?_⟩, k2.mono (fun x hx => .inl (h.tF x hx)), fun x hx => ?_⟩
  · rw [k2.block vb hvb h.vt]; exact h.box
  · rcases k3 vb hm with e | e
    · exact h.vt e
    · omega
  · rcases k3 x hx with e | e
    · exact h.tg x e hm
    · have := (h.lo x (h.gF x hm)).2; omega
  · rcases List.mem_append.1 hx with e | e
    · exact ⟨(h.lo x e).1, Nat.lt_of_lt_of_le (h.lo x e).2 k2.size⟩
    · exact k1.lo x e
  · rcases List.mem_append.1 hx with e | e
    · exact .inl e
    · rcases k3 x e with e | e
      · exact .inl (h.tF x e)
      · exact .inr e
/-- Another table in its place. -/
theorem Vlt.put (h : Vlt B w vb tb gb F Ft Fg f n cs torn) {W : World} (hW : Kp [] w W) {tb' : Nat} {Ft' : List Nat} (k1 : Tbl w.heap.size W tb' Ft' f' n') : Ch (VltT vb tb' gb f' n' cs torn) B w F (W.setCell ⟨vb, 0, none⟩ (.pointer (some ⟨tb', 0, none⟩))) := by
  have hvb := (h.lo vb h.vF).2
  have hBw : B ≤ w.heap.size := by have := (h.lo vb h.vF).1; omega
  have hk3 : Kp [vb] W (W.setCell ⟨vb, 0, none⟩ (.pointer (some ⟨tb', 0, none⟩))) := (Kp.refl [vb] W).setCell (.inl (by simp)) _
  have hW1 := h.kp0 hW
  have hne : ∀ x, x ∈ Ft' → x ≠ vb := fun x hx e => by have := (k1.lo x hx).1; omega
  refine ⟨vb :: (Fg ++ Ft'), ⟨Ft', Fg, ?_, (k1.base hBw).kp hk3 (fun x hx e => hne x hx (List.mem_singleton.1 e)), hW1.g.kp hk3 (fun x hx e => h.vg (by rw [← List.mem_singleton.1 e]; exact hx)), fun hm => hne vb hm rfl, h.vg, fun x hx hm => ?_, by simp, fun x hx => by simp [hx], fun x hx => by simp [hx], fun x hx => ?_⟩, (hW.mono (fun x hx => by simp at hx)).trans hk3 (fun x hx => .inl (by rw [List.mem_singleton.1 hx]; exact h.vF)), fun x hx => ?_⟩
  · exact heap_setCell_at 0 _ hW1.box
  · have h1 := (k1.lo x hx).1
    have h2 := (h.lo x (h.gF x hm)).2
    omega
  · rcases List.mem_cons.1 hx with e | e
    · subst e; exact ⟨(h.lo _ h.vF).1, Nat.lt_of_lt_of_le (hW1.lo _ h.vF).2 hk3.size⟩
    · rcases List.mem_append.1 e with e | e
      · exact ⟨(h.lo x (h.gF x e)).1, Nat.lt_of_lt_of_le (hW1.lo x (h.gF x e)).2 hk3.size⟩
      · exact ⟨Nat.le_trans hBw (k1.lo x e).1, Nat.lt_of_lt_of_le (k1.lo x e).2 hk3.size⟩
  · rcases List.mem_cons.1 hx with e | e
    · subst e; exact .inl h.vF
    · rcases List.mem_append.1 e with e | e
      · exact .inl (h.gF x e)
      · exact .inr (k1.lo x e).1
end

/-- The document's court: its box holds the sheet's, the roll, and the seats. -/
structure Crt (B : Nat) (w : World) (cb sb : Nat) (G Gr Gs : List Nat) (bx : Array Value) (f : Nat → List Ver) (n : Nat) (cs : List (List Ver)) (torn : List UInt8) (st : Nat → Option Addr) : Prop where
  r : Rx B w cb 1 bx 61 Gr cs torn
  b0 : bx[0]? = some (.pointer (some ⟨sb, 0, none⟩))
  bs : ∀ i, i < 5 → bx[3 + i]? = some (.pointer (st i))
  sz : bx.size = 8
  s : Sht B w sb Gs f n
  rs : ∀ x, x ∈ Gr → x ∉ Gs
  rG : ∀ x, x ∈ Gr → x ∈ G
  sG : ∀ x, x ∈ Gs → x ∈ G
  lo : ∀ x, x ∈ G → B ≤ x ∧ x < w.heap.size
section
variable {B : Nat} {w w' W : World} {cb sb : Nat} {G Gr Gs S : List Nat} {bx : Array Value} {f f' : Nat → List Ver} {n n' : Nat} {cs cs' : List (List Ver)} {torn torn' : List UInt8} {st : Nat → Option Addr}
theorem Crt.kp (h : Crt B w cb sb G Gr Gs bx f n cs torn st) (hk : Kp S w w') (hS : ∀ x, x ∈ G → x ∉ S) : Crt B w' cb sb G Gr Gs bx f n cs torn st :=
  ⟨h.r.kp hk (fun x hx => hS x (h.rG x hx)), h.b0, h.bs, h.sz, h.s.kp hk (fun x hx => hS x (h.sG x hx)), h.rs, h.rG, h.sG, fun x hx => ⟨(h.lo x hx).1, Nat.lt_of_lt_of_le (h.lo x hx).2 hk.size⟩⟩
theorem Crt.kp0 (h : Crt B w cb sb G Gr Gs bx f n cs torn st) (hk : Kp [] w w') : Crt B w' cb sb G Gr Gs bx f n cs torn st := h.kp hk (fun _ _ => by simp)
theorem Crt.base {C : Nat} (h : Crt B w cb sb G Gr Gs bx f n cs torn st) (hC : C ≤ B) : Crt C w cb sb G Gr Gs bx f n cs torn st :=
  ⟨h.r.base hC, h.b0, h.bs, h.sz, h.s.base hC, h.rs, h.rG, h.sG, fun x hx => ⟨Nat.le_trans hC (h.lo x hx).1, (h.lo x hx).2⟩⟩
theorem Rx.box {o : Nat} {T : TypeId} (h : Rx B w cb o bx T Gr cs torn) : w.heap[cb]? = some (.cells bx T (0, 0)) := by
  obtain ⟨aL, capL, xs, aT, cT, h, e⟩ := h
  exact h.box
theorem Rx.rG {o : Nat} {T : TypeId} (h : Rx B w cb o bx T Gr cs torn) : cb ∈ Gr := by
  obtain ⟨aL, capL, xs, aT, cT, h, e⟩ := h
  exact h.rG
theorem Crt.c0 (h : Crt B w cb sb G Gr Gs bx f n cs torn st) : w.cell? ⟨cb, 0, none⟩ = some (.pointer (some ⟨sb, 0, none⟩)) := cell_of_block h.r.box h.b0
theorem Crt.seat (h : Crt B w cb sb G Gr Gs bx f n cs torn st) {i : Nat} (hi : i < 5) : w.cell? ⟨cb, 3 + i, none⟩ = some (.pointer (st i)) := cell_of_block h.r.box (h.bs i hi)
theorem Crt.fz (h : Crt B w cb sb G Gr Gs bx f n cs torn st) (i : Nat) : w.frozen? ⟨cb, i, none⟩ = false := frozen_of_block i h.r.box
theorem Crt.cG (h : Crt B w cb sb G Gr Gs bx f n cs torn st) : cb ∈ G := h.rG _ h.r.rG
/-- Another cell of the box than the roll's. -/
theorem RxL.other {o : Nat} {T : TypeId} {aL : Option Addr} {capL : Nat} {xs : List El} {aT : Option Addr} {cT : Nat} (h : RxL B w cb o bx T Gr aL capL xs aT cT torn) (i : Nat) (v : Value) (h0 : i ≠ o) (h1 : i ≠ o + 1) :
    RxL B (w.setCell ⟨cb, i, none⟩ v) cb o (bx.setIfInBounds i v) T Gr aL capL xs aT cT torn := by
  have hk : Kp [cb] w (w.setCell ⟨cb, i, none⟩ v) := (Kp.refl [cb] w).setCell (.inl (by simp)) _
  refine ⟨heap_setCell_at i _ h.box, set_there h.b0 h0 _, set_there h.b1 h1 _, h.own.kp hk (fun x hx e => h.ne (by rw [← List.mem_singleton.1 e]; exact hx)), fun e he => ⟨(h.els e he).1.kp hk (fun x hx e2 => ((h.els e he).2 x hx).2.1 (List.mem_singleton.1 e2)), (h.els e he).2⟩, h.tb.kpo hk (fun x hx e => (h.tG x hx).2 (List.mem_singleton.1 e)), h.tn, h.tG, h.ne, h.rG, h.aG, fun x hx => ⟨(h.lo x hx).1, Nat.lt_of_lt_of_le (h.lo x hx).2 hk.size⟩, h.inv, h.tl, Nat.le_trans h.hB hk.size⟩
theorem Rx.other {o : Nat} {T : TypeId} (h : Rx B w cb o bx T Gr cs torn) (i : Nat) (v : Value) (h0 : i ≠ o) (h1 : i ≠ o + 1) : Rx B (w.setCell ⟨cb, i, none⟩ v) cb o (bx.setIfInBounds i v) T Gr cs torn := by
  obtain ⟨aL, capL, xs, aT, cT, h, e⟩ := h
  exact ⟨aL, capL, xs, aT, cT, h.other i v h0 h1, e⟩
end
def CrtT (cb sb : Nat) (f : Nat → List Ver) (n : Nat) (cs : List (List Ver)) (torn : List UInt8) (st : Nat → Option Addr) : Thing where
  holds B w G := ∃ Gr Gs bx, Crt B w cb sb G Gr Gs bx f n cs torn st
  kp := fun ⟨Gr, Gs, bx, h⟩ hk hS => ⟨Gr, Gs, bx, h.kp hk hS⟩
  lo := fun ⟨_, _, _, h⟩ => h.lo
  base := fun ⟨Gr, Gs, bx, h⟩ hC => ⟨Gr, Gs, bx, h.base hC⟩
section
variable {B : Nat} {w w' W : World} {cb sb : Nat} {G Gr Gs S : List Nat} {bx : Array Value} {f f' : Nat → List Ver} {n n' : Nat} {cs cs' : List (List Ver)} {torn torn' : List UInt8} {st : Nat → Option Addr}
/-- Another one at a seat. -/
theorem Crt.sit (h : Crt B w cb sb G Gr Gs bx f n cs torn st) {i : Nat} (hi : i < 5) (p : Option Addr) : Ch (CrtT cb sb f n cs torn (upd st i p)) B w G (w.setCell ⟨cb, 3 + i, none⟩ (.pointer p)) := by
  have hk : Kp [cb] w (w.setCell ⟨cb, 3 + i, none⟩ (.pointer p)) := (Kp.refl [cb] w).setCell (.inl (by simp)) _
  refine ⟨G, ⟨Gr, Gs, bx.setIfInBounds (3 + i) (.pointer p), h.r.other _ _ (by omega) (by omega), set_there h.b0 (by omega) _, fun j hj => ?_, by simp [h.sz], h.s.kp hk (fun x hx e => h.rs cb h.r.rG (by rw [← List.mem_singleton.1 e]; exact hx)), h.rs, h.rG, h.sG, fun x hx => ⟨(h.lo x hx).1, Nat.lt_of_lt_of_le (h.lo x hx).2 hk.size⟩⟩, hk.mono (fun x hx => .inl (by rw [List.mem_singleton.1 hx]; exact h.cG)), fun x hx => .inl hx⟩
  by_cases e : j = i
  · subst e
    rw [set_here (h.bs j hj), upd_same]
  · rw [set_there (h.bs j hj) (by omega), upd_other _ _ _ e]
/-- Another roll. -/
theorem Crt.roll (h : Crt B w cb sb G Gr Gs bx f n cs torn st) (k : RxTo B w cb 1 bx 61 Gr cs' torn' w') : Ch (CrtT cb sb f n cs' torn' st) B w G w' := by
  obtain ⟨Gr', bx', k1, kb, k2, k3⟩ := k
  refine ⟨G ++ Gr', ⟨Gr', Gs, bx', k1, by rw [kb.2 0 (by omega) (by omega)]; exact h.b0, fun i hi => by rw [kb.2 (3 + i) (by omega) (by omega)]; exact h.bs i hi, by rw [kb.1]; exact h.sz, h.s.kp k2 (fun x hx hm => h.rs x hm hx), fun x hx hm => ?_, fun x hx => by simp [hx], fun x hx => by simp [h.sG x hx], fun x hx => ?_⟩, k2.mono (fun x hx => .inl (h.rG x hx)), fun x hx => ?_⟩
  · rcases k3 x hx with e | e
    · exact h.rs x e hm
    · have := (h.lo x (h.sG x hm)).2; omega
  · rcases List.mem_append.1 hx with e | e
    · exact ⟨(h.lo x e).1, Nat.lt_of_lt_of_le (h.lo x e).2 k2.size⟩
    · exact k1.lo x e
  · rcases List.mem_append.1 hx with e | e
    · exact .inl e
    · rcases k3 x e with e | e
      · exact .inl (h.rG x e)
      · exact .inr e
/-- Its sheet changed. -/
theorem Crt.sheet (h : Crt B w cb sb G Gr Gs bx f n cs torn st) {Gs' : List Nat} (k1 : Sht B w' sb Gs' f' n') (k2 : Kp Gs w w') (k3 : ∀ x, x ∈ Gs' → x ∈ Gs ∨ w.heap.size ≤ x) : Ch (CrtT cb sb f' n' cs torn st) B w G w' := by
  refine ⟨G ++ Gs', ⟨Gr, Gs', bx, h.r.kp k2 h.rs, h.b0, h.bs, h.sz, k1, fun x hx hm => ?_, fun x hx => by simp [h.rG x hx], fun x hx => by simp [hx], fun x hx => ?_⟩, k2.mono (fun x hx => .inl (h.sG x hx)), fun x hx => ?_⟩
  · rcases k3 x hm with e | e
    · exact h.rs x hx e
    · have := (h.lo x (h.rG x hx)).2; omega
  · rcases List.mem_append.1 hx with e | e
    · exact ⟨(h.lo x e).1, Nat.lt_of_lt_of_le (h.lo x e).2 k2.size⟩
    · exact k1.lo x e
  · rcases List.mem_append.1 hx with e | e
    · exact .inl e
    · rcases k3 x e with e | e
      · exact .inl (h.sG x e)
      · exact .inr e
end

/-- A deed, and the document's deed. -/
structure Pr (B : Nat) (w : World) (db wb : Nat) (F H : List Nat) (md y : Int) (rs rs2 : List Int) (ws ws2 : List Ver) : Prop where
  d : Ded w db md y rs ws
  k : Wrk B w wb H md y rs2 ws2
  ne : db ∉ H
  dF : db ∈ F
  kF : ∀ x, x ∈ H → x ∈ F
  lo : ∀ x, x ∈ F → B ≤ x ∧ x < w.heap.size
theorem Wrk.base {B C : Nat} {w : World} {wb : Nat} {H : List Nat} {md y : Int} {rs : List Int} {ws : List Ver} (h : Wrk B w wb H md y rs ws) (hC : C ≤ B) : Wrk C w wb H md y rs ws := by
  obtain ⟨ra, rc, wa, wc, h⟩ := h
  exact ⟨ra, rc, wa, wc, h.box, own_base h.ro hC, own_base h.wo hC, h.rb, h.ab, h.rw, h.bH, fun x hx => ⟨Nat.le_trans hC (h.lo x hx).1, (h.lo x hx).2⟩⟩
def PrT (db wb : Nat) (md y : Int) (rs rs2 : List Int) (ws ws2 : List Ver) : Thing where
  holds B w F := ∃ H, Pr B w db wb F H md y rs rs2 ws ws2
  kp := fun ⟨H, h⟩ hk hS => ⟨H, h.d.kp hk (hS _ h.dF), h.k.kp hk (fun x hx => hS x (h.kF x hx)), h.ne, h.dF, h.kF, fun x hx => ⟨(h.lo x hx).1, Nat.lt_of_lt_of_le (h.lo x hx).2 hk.size⟩⟩
  lo := fun ⟨_, h⟩ => h.lo
  base := fun ⟨H, h⟩ hC => ⟨H, h.d, h.k.base hC, h.ne, h.dF, h.kF, fun x hx => ⟨Nat.le_trans hC (h.lo x hx).1, (h.lo x hx).2⟩⟩
section
variable {B : Nat} {w w' : World} {db wb : Nat} {F H : List Nat} {md y : Int} {rs rs2 rs' : List Int} {ws ws2 ws' : List Ver}
theorem Pr.deed (h : Pr B w db wb F H md y rs rs2 ws ws2) (hd : Ded w' db md y rs' ws') (hk : Kp [db] w w') : Ch (PrT db wb md y rs' rs2 ws' ws2) B w F w' :=
  ⟨F, ⟨H, hd, h.k.kp hk (fun x hx e => h.ne (by rw [← List.mem_singleton.1 e]; exact hx)), h.ne, h.dF, h.kF, fun x hx => ⟨(h.lo x hx).1, Nat.lt_of_lt_of_le (h.lo x hx).2 hk.size⟩⟩, hk.mono (fun x hx => .inl (by rw [List.mem_singleton.1 hx]; exact h.dF)), fun x hx => .inl hx⟩
theorem Pr.work (h : Pr B w db wb F H md y rs rs2 ws ws2) {H' : List Nat} (hw : Wrk B w' wb H' md y rs' ws') (hk : Kp H w w') (hs : ∀ x, x ∈ H' → x ∈ H ∨ w.heap.size ≤ x) : Ch (PrT db wb md y rs rs' ws ws') B w F w' := by
  have hl := (h.lo db h.dF).2
  refine ⟨F ++ H', ⟨H', h.d.kp hk h.ne, hw, fun hm => ?_, by simp [h.dF], fun x hx => by simp [hx], fun x hx => ?_⟩, hk.mono (fun x hx => .inl (h.kF x hx)), fun x hx => ?_⟩
  · rcases hs db hm with e | e
    · exact h.ne e
    · omega
  · rcases List.mem_append.1 hx with e | e
    · exact ⟨(h.lo x e).1, Nat.lt_of_lt_of_le (h.lo x e).2 hk.size⟩
    · exact hw.lo x e
  · rcases List.mem_append.1 hx with e | e
    · exact .inl e
    · rcases hs x e with e | e
      · exact .inl (h.kF x e)
      · exact .inr e
end
end Go.Proofs.Ytapmlleemopcnac

/- May of a deed, by its contract. -/
namespace Go.Proofs.Ytapmlleemopcnac
open Go.RowKit
set_option maxRecDepth 20000
attribute [local go_sem ↓] Go.wp_at_zero Go.wp_at_succ

/-- The code under way: some key of those that were looked at is stale. -/
def mcd (f : Nat → List Ver) (md y : Int) (rs : List Int) (k : Nat) : Int := if md = 2 ∧ stl f y rs k = true then 11 else 0

theorem cls_mono {f : Nat → List Ver} {y : Int} {ws : List Ver} {k : Nat} (h : cls f y ws k = true) : ∀ m, k ≤ m → cls f y ws m = true := by
  intro m
  induction m with
  | zero => intro hm; have : k = 0 := by omega
            subst this; exact h
  | succ m ih =>
    intro hm
    by_cases e : k = m + 1
    · subst e; exact h
    · simp only [cls]
      split
      · rfl
      · exact ih (by omega)
theorem stl_mono {f : Nat → List Ver} {y : Int} {rs : List Int} {k : Nat} (h : stl f y rs k = true) : ∀ m, k ≤ m → stl f y rs m = true := by
  intro m
  induction m with
  | zero => intro hm; have : k = 0 := by omega
            subst this; exact h
  | succ m ih =>
    intro hm
    by_cases e : k = m + 1
    · subst e; exact h
    · simp only [stl]
      split
      · rfl
      · exact ih (by omega)
theorem cls_yes {f : Nat → List Ver} {y : Int} {ws : List Ver} {k : Nat} {v : Ver} (h : lwr ws k = some v) (hy : y < snc f k) : cls f y ws (k + 1) = true := by
  simp only [cls]; rw [if_pos ⟨by rw [h]; rfl, hy⟩]
theorem cls_old {f : Nat → List Ver} {y : Int} {ws : List Ver} {k : Nat} (hy : snc f k ≤ y) : cls f y ws (k + 1) = cls f y ws k := by
  simp only [cls]; rw [if_neg (fun h => by have := h.2; omega)]
theorem cls_no {f : Nat → List Ver} {y : Int} {ws : List Ver} {k : Nat} (h : lwr ws k = none) : cls f y ws (k + 1) = cls f y ws k := by
  simp only [cls]; rw [if_neg (fun hc => by have := hc.1; rw [h] at this; simp at this)]
theorem stl_yes {f : Nat → List Ver} {y : Int} {rs : List Int} {k : Nat} (h : (k : Int) ∈ rs) (hy : y < snc f k) : stl f y rs (k + 1) = true := by
  simp only [stl]; rw [if_pos ⟨h, hy⟩]
theorem stl_old {f : Nat → List Ver} {y : Int} {rs : List Int} {k : Nat} (hy : snc f k ≤ y) : stl f y rs (k + 1) = stl f y rs k := by
  simp only [stl]; rw [if_neg (fun h => by have := h.2; omega)]
theorem stl_no {f : Nat → List Ver} {y : Int} {rs : List Int} {k : Nat} (h : ¬ (k : Int) ∈ rs) : stl f y rs (k + 1) = stl f y rs k := by
  simp only [stl]; rw [if_neg (fun hc => h hc.1)]
theorem dm_clash {f : Nat → List Ver} {md y : Int} {rs : List Int} {ws : List Ver} (h : cls f y ws 8 = true) : dm f md y rs ws = 10 := by unfold dm; rw [if_pos h]
theorem dm_end {f : Nat → List Ver} {md y : Int} {rs : List Int} {ws : List Ver} (h : cls f y ws 8 = false) : dm f md y rs ws = mcd f md y rs 8 := by unfold dm mcd; rw [if_neg (by simp [h])]
theorem mcd_not {f : Nat → List Ver} {md y : Int} {rs : List Int} {k : Nat} (h : ¬ md = 2) : mcd f md y rs k = 0 := by unfold mcd; rw [if_neg (fun hc => h hc.1)]
theorem mcd_eq {f : Nat → List Ver} {md y : Int} {rs : List Int} {k m : Nat} (h : stl f y rs m = stl f y rs k) : mcd f md y rs m = mcd f md y rs k := by unfold mcd; rw [h]
theorem mcd_yes {f : Nat → List Ver} {md y : Int} {rs : List Int} {k : Nat} (hm : md = 2) (h : stl f y rs k = true) : mcd f md y rs k = 11 := by unfold mcd; rw [if_pos ⟨hm, h⟩]

/-- Since, as May asks it: what it keeps. -/
theorem may_since {B tb n db : Nat} {F : List Nat} {f : Nat → List Ver} {md y : Int} {rs : List Int} {ws : List Ver} {w W : World} {p : Nat} {b0 b1 : Bool} (k : Int) (h : Tbl B w tb F f n) (hd : Ded w db md y rs ws) (hW : Kp [] w W)
    (c0 : W.cell? ⟨p, 0, none⟩ = some (.bool b0)) (c1 : W.cell? ⟨p, 1, none⟩ = some (.bool b1)) (s : Int) (hs : snc f k = s) :
    Calls Try.prog 33 #[.pointer (some ⟨tb, 0, none⟩), .int .i64 k] W fun e w' => e = .returned (.int .i64 s) ∧ w'.cell? ⟨db, 1, none⟩ = some (.int .i64 y) ∧ w'.cell? ⟨db, 0, none⟩ = some (.int .i64 md) ∧ w'.cell? ⟨p, 0, none⟩ = some (.bool b0) ∧ w'.cell? ⟨p, 1, none⟩ = some (.bool b1) ∧ Hid (Kp [] w w') := by
  refine (tsince40 k W (h.kp0 hW)).mono ?_
  rintro e w' ⟨rfl, hk⟩
  have hd' := hd.kp0 (hW.trans0 hk)
  exact ⟨by rw [hs], hd'.ycell, hd'.mcell, hk.cell (p := ⟨p, 0, none⟩) (by simp) c0, hk.cell (p := ⟨p, 1, none⟩) (by simp) c1, hW.trans0 hk⟩

set_option maxHeartbeats 2000000 in
theorem dmay68 {B tb n db : Nat} {F : List Nat} {f : Nat → List Ver} {md y : Int} {rs : List Int} {ws : List Ver} (w : World) (h : Tbl B w tb F f n) (hd : Ded w db md y rs ws) :
    Calls Try.prog 141 #[.pointer (some ⟨db, 0, none⟩), .pointer (some ⟨tb, 0, none⟩)] w fun e w' => e = .returned (.int .i64 (dm f md y rs ws)) ∧ Kp [] w w' := by
  have HT := hide h
  have HD := hide hd
  have HR := hide hd.range
  clear h hd
  have HC0 : Hid (cls f y ws 0 = false) := rfl
  go_enter Try.func141, Try.ntmps141
  go_wp2_with (refine wpList_load_mid rfl 124 _ rfl db 2 rfl _ _ (unhide HR) Try.underlying124 rfl Try.size124 ?_)
  obtain ⟨A, hA, hAk⟩ := notes_ex rs ws
  rw [hA]
  have HA := hide hAk
  clear hA hAk HR
  go_loopw [5, 12] (fun s i wr => ∃ k : Nat, k ≤ 8 ∧ s = .int .i64 (mcd f md y rs k) ∧ i = .int .i64 k ∧ Hid (cls f y ws k = false) ∧ Hid (Kp [] w wr)) (fun _ i _ => 8 - (intOf i).toNat)
  case atStart => exact ⟨0, by omega, by simp [mcd, stl], rfl, HC0, Kp.refl _ _⟩
  case round =>
    obtain ⟨k, hk, rfl, rfl, HC, HK⟩ := hrel
    by_cases hlt8 : k < 8
    · have i0 : (0 : Int) ≤ (k : Int) := by omega
      have i1 : (k : Int) < 8 := by omega
      have hx := (unhide HA) k hlt8
      have hdr := (unhide HD).kp0 (unhide HK)
      have qy := hdr.ycell
      have hdl := hdr.lt
      have HDR := hide hdr
      have HTR := hide ((unhide HT).kp0 (unhide HK))
      clear hdr
      generalize ((lwr ws k).getD dv).t = b2 at *
      generalize ((lwr ws k).getD dv).s = b3 at *
      generalize hsn : snc f k = sn at *
      have HSN := hide hsn
      clear hsn
      by_cases hle : sn ≤ y
      · have HN1 := hide (cls_old (ws := ws) (by rw [unhide HSN]; exact hle))
        have HN2 := hide (mcd_eq (md := md) (stl_old (rs := rs) (by rw [unhide HSN]; exact hle)))
        generalize decide ((k : Int) ∈ rs) = b0 at *
        generalize (lwr ws k).isSome = b1 at *
        go_wp2_with fail
        go_region_with (go_at_call 33; refine (may_since (p := wr.heap.size) (b0 := b0) (b1 := b1) k (unhide HTR) (unhide HDR) ((Kp.refl [] wr).alloc (.cells #[.bool b0, .bool b1, .bool b2, .string b3] 123)).drew (by simp) (by simp) sn (unhide HSN)).mono ?_; rintro e w3 ⟨rfl, z1, z0, z2, z3, HK3⟩)
        all_goals
          go_wp2_with fail
          exact ⟨⟨k + 1, by omega, by rw [unhide HN2], by go_num, by rw [unhide HN1]; exact HC, (unhide HK).trans0 (unhide HK3)⟩, by simp [intOf]; omega⟩
      · have hgt : y < sn := by omega
        cases hv : lwr ws k with
        | some v =>
          have HN := hide (dm_clash (md := md) (rs := rs) (cls_mono (cls_yes hv (by rw [unhide HSN]; exact hgt)) 8 (by omega)))
          rw [hv] at hx
          simp only [Option.isSome_some] at hx
          clear hv
          generalize decide ((k : Int) ∈ rs) = b0 at *
          go_wp2_with fail
          go_region_with (go_at_call 33; refine (may_since (p := wr.heap.size) (b0 := b0) (b1 := true) k (unhide HTR) (unhide HDR) ((Kp.refl [] wr).alloc (.cells #[.bool b0, .bool true, .bool b2, .string b3] 123)).drew (by simp) (by simp) sn (unhide HSN)).mono ?_; rintro e w3 ⟨rfl, z1, z0, z2, z3, HK3⟩)
          all_goals
            go_wp2_with fail
            go_ret
            exact ⟨ret_int (unhide HN).symm, (unhide HK).trans0 (unhide HK3)⟩
        | none =>
          have HN1 := hide (cls_no (f := f) (y := y) hv)
          rw [hv] at hx
          simp only [Option.isSome_none] at hx
          clear hv
          by_cases hr : (k : Int) ∈ rs
          · have hd : decide ((k : Int) ∈ rs) = true := by simp [hr]
            rw [hd] at hx
            clear hd
            by_cases hm : md = 2
            · have HN2 := hide (mcd_yes hm (stl_yes hr (by rw [unhide HSN]; exact hgt)))
              subst hm
              clear hr
              go_wp2_with fail
              go_region_with (go_at_call 33; refine (may_since (p := wr.heap.size) (b0 := true) (b1 := false) k (unhide HTR) (unhide HDR) ((Kp.refl [] wr).alloc (.cells #[.bool true, .bool false, .bool b2, .string b3] 123)).drew (by simp) (by simp) sn (unhide HSN)).mono ?_; rintro e w3 ⟨rfl, z1, z0, z2, z3, HK3⟩)
              all_goals
                go_wp2_with fail
                exact ⟨⟨k + 1, by omega, by rw [unhide HN2], by go_num, by rw [unhide HN1]; exact HC, (unhide HK).trans0 (unhide HK3)⟩, by simp [intOf]; omega⟩
            · have HN2 : Hid (mcd f md y rs (k + 1) = mcd f md y rs k) := by rw [mcd_not hm, mcd_not hm]; exact rfl
              have em : (md == 2) = false := beq_eq_false_iff_ne.2 hm
              clear hr hm
              go_wp2_with fail
              go_region_with (go_at_call 33; refine (may_since (p := wr.heap.size) (b0 := true) (b1 := false) k (unhide HTR) (unhide HDR) ((Kp.refl [] wr).alloc (.cells #[.bool true, .bool false, .bool b2, .string b3] 123)).drew (by simp) (by simp) sn (unhide HSN)).mono ?_; rintro e w3 ⟨rfl, z1, z0, z2, z3, HK3⟩)
              all_goals
                go_wp2_with fail
                exact ⟨⟨k + 1, by omega, by rw [unhide HN2], by go_num, by rw [unhide HN1]; exact HC, (unhide HK).trans0 (unhide HK3)⟩, by simp [intOf]; omega⟩
          · have hd : decide ((k : Int) ∈ rs) = false := by simp [hr]
            rw [hd] at hx
            have HN2 := hide (mcd_eq (md := md) (stl_no (f := f) (y := y) hr))
            clear hd hr
            go_wp2_with fail
            go_region_with (go_at_call 33; refine (may_since (p := wr.heap.size) (b0 := false) (b1 := false) k (unhide HTR) (unhide HDR) ((Kp.refl [] wr).alloc (.cells #[.bool false, .bool false, .bool b2, .string b3] 123)).drew (by simp) (by simp) sn (unhide HSN)).mono ?_; rintro e w3 ⟨rfl, z1, z0, z2, z3, HK3⟩)
            all_goals
              go_wp2_with fail
              exact ⟨⟨k + 1, by omega, by rw [unhide HN2], by go_num, by rw [unhide HN1]; exact HC, (unhide HK).trans0 (unhide HK3)⟩, by simp [intOf]; omega⟩
    · have e : k = 8 := by omega
      subst e
      have HN := hide (dm_end (md := md) (rs := rs) (unhide HC))
      go_wp2_with fail
      go_ret
      exact ⟨ret_int (unhide HN).symm, unhide HK⟩
end Go.Proofs.Ytapmlleemopcnac
