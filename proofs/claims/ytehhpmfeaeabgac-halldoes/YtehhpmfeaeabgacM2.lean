/- T6, T7, Vv, D0, Cu, V1, L4, L5, S1, S2, S3, E1, Pq, E2, E3, E4, E5, X1, X2, X3, X4: bound together for a claim. -/
import Derived.Test.YtehhpmfeaeabgacM1
import Derived.ChangeKeysEq
import Derived.Deep.WholeRow
/- Write of a table, by its contract. -/
namespace Go.Proofs.Ytehhpmfeaeabgac
open Go.RowKit
set_option maxRecDepth 20000
attribute [local go_sem ↓] Go.wp_at_zero Go.wp_at_succ

/-- The table at the head of a round of Write, behind the first k pairs. -/
def WrI (B : Nat) (w : World) (tb : Nat) (F : List Nat) (f : Nat → List Ver) (m : Nat) (ps : List Ver) (k : Nat) (wr : World) : Prop :=
  ∃ fk Fk, Tbl B wr tb Fk fk m ∧ wrs fk m (ps.drop k) = wrs f m ps ∧ Kp F w wr ∧ ∀ x, x ∈ Fk → x ∈ F ∨ w.heap.size ≤ x

theorem wrs_at {f : Nat → List Ver} {x : Int} {ps : List Ver} {k : Nat} (h : k < ps.length) : wrs f x (ps.drop k) = wrs (upd f (va ps k).toNat (pvers (f (va ps k).toNat) x (vt ps k) (vb ps k))) x (ps.drop (k + 1)) := by
  rw [ver_drop h]; rfl

theorem wr_step {B tb m k j : Nat} {w wr W : World} {F Fk : List Nat} {b g cap : Nat → Nat} {f fk : Nat → List Ver} {ps : List Ver} (ht : TblL B wr tb Fk b g cap fk m) (he : wrs fk m (ps.drop k) = wrs f m ps)
    (hkp : Kp F w wr) (hF : ∀ x, x ∈ Fk → x ∈ F ∨ w.heap.size ≤ x) (hW : Kp [] wr W) (hk : k < ps.length) (hj : j < 8) (hv : va ps k = (j : Int)) (hs : (vb ps k).size ≤ maxLen) :
    Calls Try.prog 103 #[.pointer (some ⟨b j, 0, none⟩), .int .i64 m, .agg #[.bool (vt ps k), .string (vb ps k)]] W fun e w2 => ∃ c, e = .returned (.int .i64 c) ∧ Hid (WrI B w tb F f m ps (k + 1) w2) := by
  have h0 := ht.kp hW (fun _ _ => by simp)
  refine (put21 (m : Int) (vt ps k) (vb ps k) W (h0.chn j hj) (by have := h0.inv.len41 hj; omega) hs h0.hB).mono ?_
  rintro e w2 ⟨rfl, g', cap', h1, h2, h3⟩
  obtain ⟨z1, z2, z3⟩ := h0.step hj h1 h2 h3 (h0.inv.put hj _ _)
  refine ⟨_, rfl, _, g' :: Fk, ⟨_, _, _, z1⟩, ?_, (hkp.trans0 hW).trans z2 hF, fun x hx => ?_⟩
  · rw [← he, wrs_at hk, hv, Int.toNat_natCast]
  · rcases z3 x hx with e | e
    · exact hF x e
    · right; have := (hkp.trans0 hW).size; omega

theorem TblL.count {B : Nat} {w : World} {tb : Nat} {F : List Nat} {b g cap : Nat → Nat} {f : Nat → List Ver} {n : Nat} (h : TblL B w tb F b g cap f n) (m : Nat) (hi : Inv f m) :
    TblL B (w.setCell ⟨tb, 8, none⟩ (.int .i64 m)) tb F b g cap f m ∧ Kp F w (w.setCell ⟨tb, 8, none⟩ (.int .i64 m)) := by
  have hk : Kp [tb] w (w.setCell ⟨tb, 8, none⟩ (.int .i64 m)) := (Kp.refl [tb] w).setCell (.inl (by simp)) _
  refine ⟨⟨?_, fun k hk8 => ?_, h.bb, h.gg, h.bg, h.tne, h.tF, h.bF, h.gF, fun x hx => ⟨(h.lo x hx).1, Nat.lt_of_lt_of_le (h.lo x hx).2 hk.size⟩, hi, Nat.le_trans h.hB hk.size⟩, hk.mono (by simp; exact .inl h.tF)⟩
  · rw [heap_setCell_at 8 _ h.box, tcells_setn]
  · have := h.tne k hk8
    exact (h.chn k hk8).kp hk (by simp; exact fun e => this.1 e.symm) (by simp; exact fun e => this.2 e.symm)

set_option maxHeartbeats 2000000 in
theorem twrite45 {B tb n : Nat} {F : List Nat} {f : Nat → List Ver} (a : Option Addr) (c : Nat) (ps : List Ver) (w : World) (h : Tbl B w tb F f n) (hp : Prs w a ps) (hpF : 0 < ps.length → ∀ g o, a = some ⟨g, o, none⟩ → g ∉ F) (hm : ps.length ≤ 1000) :
    Calls Try.prog 91 #[.pointer (some ⟨tb, 0, none⟩), .slice a ps.length c] w fun e w' => e = .returned (.tuple #[.int .i64 (wnum n ps), .int .i64 (wcode n ps)]) ∧
      ∃ F', Tbl B w' tb F' (wst f n ps) (wn n ps) ∧ Kp F w w' ∧ ∀ x, x ∈ F' → x ∈ F ∨ w.heap.size ≤ x := by
  have HT := hide h
  have HP := hide hp
  have HPF := hide hpF
  clear h hp hpF
  by_cases hc : pf (-1) ps = 0
  · by_cases hn : 40 ≤ n
    · have e1 : wcode n ps = 9 := by unfold wcode; rw [if_pos hc, if_pos hn]
      have e2 : wn n ps = n := by unfold wn; rw [if_neg (by rw [e1]; decide)]
      have e3 : wnum n ps = 0 := by unfold wnum; rw [if_neg (by rw [e1]; decide)]
      have e4 : wst f n ps = f := by unfold wst; rw [if_neg (by rw [e1]; decide)]
      rw [e1, e2, e3, e4]
      clear e1 e2 e3 e4
      go_enter Try.func91, Try.ntmps91
      go_wp2_with fail
      refine (tcheck36 a c ps w (unhide HP) hm).mono ?_
      rintro e w1 ⟨rfl, hk⟩
      rw [hc]
      clear hc
      obtain ⟨b, g, cap, ht⟩ := (unhide HT).kp0 hk
      have q8 := ht.ncell
      have HT1 := hide ht
      have HK := hide hk
      clear ht hk
      go_wp2_with fail
      go_ret2
      exact ⟨rfl, F, ⟨_, _, _, unhide HT1⟩, (unhide HK).mono (by simp), fun x hx => .inl hx⟩
    · have e1 : wcode n ps = 0 := by unfold wcode; rw [if_pos hc, if_neg hn]
      have e2 : wn n ps = n + 1 := by unfold wn; rw [if_pos e1]
      have e3 : wnum n ps = (n : Int) + 1 := by unfold wnum; rw [if_pos e1]
      have e4 : wst f n ps = wrs f ((n + 1 : Nat) : Int) ps := by unfold wst; rw [if_pos e1]; simp
      rw [e1, e2, e3, e4]
      clear e1 e2 e3 e4
      have hkeys := pf_keys hc
      go_enter Try.func91, Try.ntmps91
      go_wp2_with fail
      refine (tcheck36 a c ps w (unhide HP) hm).mono ?_
      rintro e w1 ⟨rfl, hk⟩
      rw [hc]
      clear hc
      have HKEY := hide hkeys
      clear hkeys
      obtain ⟨b, g, cap, ht⟩ := (unhide HT).kp0 hk
      have q8 := ht.ncell
      have f8 : w1.frozen? ⟨tb, 8, none⟩ = false := frozen_of_block _ ht.box
      obtain ⟨y1, y2⟩ := ht.count (n + 1) (ht.inv.mono (Nat.le_succ n) (by omega))
      have HW0 : Hid (WrI B w tb F f (n + 1) ps 0 (w1.setCell ⟨tb, 8, none⟩ (.int .i64 ((n + 1 : Nat) : Int)))) := ⟨f, F, ⟨_, _, _, y1⟩, by simp, (hk.mono (by simp)).trans y2 (fun x hx => .inl hx), fun x hx => .inl hx⟩
      clear ht hk y1 y2
      push_cast at HW0
      go_wp2_with fail
      clear q8 f8
      generalize w1.setCell { block := tb, off := 8 } (Value.int IntKind.i64 (↑n + 1)) = w2 at *
      go_loopw [28] (fun i wr => ∃ k : Nat, k ≤ ps.length ∧ i = .int .i64 k ∧ Hid (WrI B w tb F f (n + 1) ps k wr)) (fun i _ => ps.length - (intOf i).toNat)
      case atStart => exact ⟨0, by omega, rfl, HW0⟩
      case round =>
        obtain ⟨k, hk, rfl, HW⟩ := hrel
        obtain ⟨fk, Fk, ⟨b, g, cap, ht⟩, he, hkp, hF⟩ := unhide HW
        have q8 := ht.ncell
        push_cast at q8
        by_cases hlt : k < ps.length
        · obtain ⟨pg, po, rfl, hs⟩ := (unhide HP).mem (by omega)
          have hs2 := hs.kp hkp ((unhide HPF) (by omega) pg po rfl)
          have p0 := hs2.at0 k hlt
          have p1 := hs2.at1 k hlt
          have p2 : _ = _ := hs2.at2 k hlt
          have hsz := (unhide HP).str k hlt
          have hkk := (unhide HKEY) k hlt
          obtain ⟨j, hj, hv⟩ : ∃ j : Nat, j < 8 ∧ va ps k = (j : Int) := ⟨(va ps k).toNat, by omega, by omega⟩
          have qj := ht.kcell hj
          have htl := (ht.lo tb ht.tF).2
          rw [hv] at p0
          have i0 : (0 : Int) ≤ (k : Int) := by omega
          have i1 : (k : Int) < (ps.length : Int) := by omega
          have j0 : (0 : Int) ≤ (j : Int) := by omega
          have j1 : (j : Int) < 8 := by omega
          have HT2 := hide ht
          have HE := hide he
          have HK2 := hide hkp
          have HF := hide hF
          have HV := hide hv
          clear ht he hkp hF hs hs2 hv hkk
          go_wp2_with fail
          go_region_with (go_at_call 103; refine (wr_step (unhide HT2) (unhide HE) (unhide HK2) (unhide HF) ((Kp.refl [] wr).alloc _).drew hlt hj (unhide HV) hsz).mono ?_; rintro e w3 ⟨cc, rfl, HW3⟩)
          all_goals
            go_wp2_with fail
            exact ⟨⟨k + 1, by omega, by go_num, HW3⟩, by simp [intOf]; omega⟩
        · have HT2 := hide ht
          have HE := hide he
          have HK2 := hide hkp
          have HF := hide hF
          clear ht he hkp hF
          go_wp2_with fail
          go_ret2
          have he := unhide HE
          rw [List.drop_eq_nil_of_le (by omega)] at he
          refine ⟨rfl, Fk, ⟨b, g, cap, ?_⟩, unhide HK2, unhide HF⟩
          rw [← he]
          exact unhide HT2
  · have e1 : wcode n ps = pf (-1) ps := by unfold wcode; rw [if_neg hc]
    have e2 : wn n ps = n := by unfold wn; rw [if_neg (by rw [e1]; exact hc)]
    have e3 : wnum n ps = 0 := by unfold wnum; rw [if_neg (by rw [e1]; exact hc)]
    have e4 : wst f n ps = f := by unfold wst; rw [if_neg (by rw [e1]; exact hc)]
    rw [e1, e2, e3, e4]
    clear e1 e2 e3 e4
    generalize hq : pf (-1) ps = q at *
    have HQ := hide hq
    clear hq
    go_enter Try.func91, Try.ntmps91
    go_wp2_with fail
    refine (tcheck36 a c ps w (unhide HP) hm).mono ?_
    rintro e w1 ⟨rfl, hk⟩
    rw [unhide HQ]
    have HT1 := hide ((unhide HT).kp0 hk)
    have HK := hide hk
    clear hk
    go_wp2_with fail
    go_ret2
    exact ⟨rfl, F, unhide HT1, (unhide HK).mono (by simp), fun x hx => .inl hx⟩
end Go.Proofs.Ytehhpmfeaeabgac

/- List of a table, by its contract. -/
namespace Go.Proofs.Ytehhpmfeaeabgac
open Go.RowKit
set_option maxRecDepth 20000
attribute [local go_sem ↓] Go.wp_at_zero Go.wp_at_succ


/-- A list of pairs that a call made: it lies in memory of its own. -/
def LstEnd (L : List Ver × Int) (w : World) (e : Ending) (w' : World) : Prop :=
  ∃ a cap, e = .returned (.tuple #[.slice a L.1.length cap, .int .i64 L.2]) ∧ w'.ownsRow w.heap.size 79 3 (.slice a L.1.length cap) L.1.length (vcells L.1) ∧ Kp [] w w'
theorem lstEnd_mk {L : List Ver × Int} {w w' : World} (acc : List Ver) (code : Int) (a : Option Addr) (cap : Nat) (h : L = (acc, code)) (ho : w'.ownsRow w.heap.size 79 3 (.slice a acc.length cap) acc.length (vcells acc)) (hk : Kp [] w w') :
    LstEnd L w (.returned (.tuple #[.slice a acc.length cap, .int .i64 code])) w' := by
  subst h; exact ⟨a, cap, rfl, ho, hk⟩


theorem lgo_more {f : Nat → List Ver} {n k m : Nat} {y : Int} {acc : List Ver} {R : List Ver × Int} (h : lgo f n y k (m + 1) acc = R) (h0 : (tr f n k y).a = 0) (ht : (tr f n k y).t = true) : lgo f n y (k + 1) m (acc ++ [⟨k, (tr f n k y).t, (tr f n k y).s⟩]) = R := by
  rw [← h]; simp only [lgo]; rw [if_pos h0, if_pos ht]
theorem lgo_skip {f : Nat → List Ver} {n k m : Nat} {y : Int} {acc : List Ver} {R : List Ver × Int} (h : lgo f n y k (m + 1) acc = R) (h0 : (tr f n k y).a = 0) (ht : ¬ (tr f n k y).t = true) : lgo f n y (k + 1) m acc = R := by
  rw [← h]; simp only [lgo]; rw [if_pos h0, if_neg ht]
theorem lgo_stop {f : Nat → List Ver} {n k m : Nat} {y : Int} {acc : List Ver} {R : List Ver × Int} (h : lgo f n y k (m + 1) acc = R) (h0 : ¬ (tr f n k y).a = 0) : R = ([], (tr f n k y).a) := by
  rw [← h]; simp only [lgo]; rw [if_neg h0]
theorem lgo_end {f : Nat → List Ver} {n k m : Nat} {y : Int} {acc : List Ver} {R : List Ver × Int} (h : lgo f n y k m acc = R) (h0 : m = 0) : R = (acc, 0) := by
  subst h0; rw [← h]; rfl

/-- What stands at the head of a round of List. -/
structure LsI (R : List Ver × Int) (w : World) (f : Nat → List Ver) (n : Nat) (y : Int) (t k : Nat) (acc : List Ver) (a : Option Addr) (cap : Nat) (wr : World) : Prop where
  goes : lgo f n y k (t + 1 - k) acc = R
  own : wr.ownsRow w.heap.size 79 3 (.slice a acc.length cap) acc.length (vcells acc)
  kp : Kp [] w wr
  len : acc.length ≤ k

theorem LsI.skip {R : List Ver × Int} {w : World} {f : Nat → List Ver} {n : Nat} {y : Int} {t k : Nat} {acc : List Ver} {a : Option Addr} {cap : Nat} {wr w1 : World} (h : LsI R w f n y t k acc a cap wr) (hk : k ≤ t) (hw : Kp [] wr w1)
    (h0 : (tr f n k y).a = 0) (ht : ¬ (tr f n k y).t = true) : LsI R w f n y t (k + 1) acc a cap w1 :=
  ⟨by have := h.goes; rw [show t + 1 - k = (t + 1 - (k + 1)) + 1 by omega] at this; exact lgo_skip this h0 ht, own_kp0 h.own hw, h.kp.trans0 hw, by have := h.len; omega⟩
theorem LsI.more {R : List Ver × Int} {w : World} {f : Nat → List Ver} {n : Nat} {y : Int} {t k : Nat} {acc : List Ver} {a : Option Addr} {cap : Nat} {wr W w2 : World} (h : LsI R w f n y t k acc a cap wr) (hk : k ≤ t) (hw : Kp [] wr W)
    (h0 : (tr f n k y).a = 0) (ht : (tr f n k y).t = true) {g2 cap2 : Nat} (hown : w2.ownsRow w.heap.size 79 3 (.slice (some ⟨g2, 0, none⟩) (acc.length + 1) cap2) (acc.length + 1) (vcells acc ++ [.int .i64 k, .bool true, .string (tr f n k y).s]))
    (hgrow : W.grownBy w2 (Value.slice a acc.length cap).ownBlock) : LsI R w f n y t (k + 1) (acc ++ [⟨k, (tr f n k y).t, (tr f n k y).s⟩]) (some ⟨g2, 0, none⟩) cap2 w2 := by
  refine ⟨by have := h.goes; rw [show t + 1 - k = (t + 1 - (k + 1)) + 1 by omega] at this; exact lgo_more this h0 ht, ?_, (h.kp.trans0 hw).grown hgrow (fun g hg => .inr (own_ge h.own hg)), by have := h.len; simp; omega⟩
  have hv : vcells acc ++ [.int .i64 k, .bool true, .string (tr f n k y).s] = vcells (acc ++ [⟨k, (tr f n k y).t, (tr f n k y).s⟩]) := by rw [vcells_append, ht]; rfl
  rw [hv] at hown
  simpa using hown

end Go.Proofs.Ytehhpmfeaeabgac

/- A version more, behind a list of versions: what stands where. -/
namespace Go.Proofs.Ytehhpmfeaeabgac
open Go.RowKit
set_option maxRecDepth 20000

theorem vt_append_left (vs us : List Ver) {i : Nat} (h : i < vs.length) : vt (vs ++ us) i = vt vs i := by
  simp only [vt, List.getD_eq_getElem?_getD]
  rw [List.getElem?_append_left h]
theorem vb_append_left (vs us : List Ver) {i : Nat} (h : i < vs.length) : vb (vs ++ us) i = vb vs i := by
  simp only [vb, List.getD_eq_getElem?_getD]
  rw [List.getElem?_append_left h]
theorem vt_concat (vs : List Ver) (v : Ver) : vt (vs ++ [v]) vs.length = v.t := by
  simp only [vt, List.getD_eq_getElem?_getD]
  rw [List.getElem?_concat_length]; rfl
theorem vb_concat (vs : List Ver) (v : Ver) : vb (vs ++ [v]) vs.length = v.s := by
  simp only [vb, List.getD_eq_getElem?_getD]
  rw [List.getElem?_concat_length]; rfl
end Go.Proofs.Ytehhpmfeaeabgac

/- Plain words for deeds: what it read (keys, one behind the other), what it wrote (pairs, a: the key), and what each call tells of them; no statement of the program yet. -/
namespace Go.Proofs.Ytehhpmfeaeabgac
open Go.RowKit
set_option maxRecDepth 20000

/-- The last of the first i pairs that bears the key k. -/
def lw (ws : List Ver) (k : Int) : Nat → Option Ver
  | 0 => none
  | i + 1 => if va ws i = k then some ⟨k, vt ws i, vb ws i⟩ else lw ws k i
/-- What was written last to the key k. -/
def lwr (ws : List Ver) (k : Int) : Option Ver := lw ws k ws.length

theorem lw_append (ws us : List Ver) (k : Int) : ∀ i, i ≤ ws.length → lw (ws ++ us) k i = lw ws k i := by
  intro i
  induction i with
  | zero => intro _; rfl
  | succ i ih =>
    intro hi
    simp only [lw]
    rw [va_append_left _ _ (by omega), vt_append_left _ _ (by omega), vb_append_left _ _ (by omega), ih (by omega)]
theorem lwr_put (ws : List Ver) (k : Int) (v : Ver) : lwr (ws ++ [v]) k = if v.a = k then some ⟨k, v.t, v.s⟩ else lwr ws k := by
  unfold lwr
  simp only [List.length_append, List.length_cons, List.length_nil, Nat.zero_add, lw]
  rw [va_concat, vt_concat, vb_concat, lw_append _ _ _ _ (Nat.le_refl _)]
theorem lwr_nil (k : Int) : lwr [] k = none := rfl

/-- What Get tells: the code (a), and the value; and the keys read behind it. -/
def dg (f : Nat → List Ver) (n : Nat) (y : Int) (ws : List Ver) (k : Int) : Ver :=
  if keyB k = true then (match lwr ws k with | some v => ⟨0, v.t, v.s⟩ | none => tr f n k y) else ⟨1, false, ByteArray.empty⟩
def dr (f : Nat → List Ver) (n : Nat) (y : Int) (rs : List Int) (ws : List Ver) (k : Int) : List Int :=
  if keyB k = true ∧ lwr ws k = none ∧ (tr f n k y).a = 0 then rs ++ [k] else rs

/-- What Put tells, and what is written behind it. -/
def dpc (md k : Int) (t : Bool) (s : ByteArray) : Int := if keyB k = true then (if md = 3 then 3 else chk t s) else 1
def dpw (md : Int) (ws : List Ver) (k : Int) (t : Bool) (s : ByteArray) : List Ver := if dpc md k t s = 0 then ws ++ [⟨k, t, s⟩] else ws

/-- What List tells, from the key k on, m keys, behind acc; and the keys read. -/
def dgo (f : Nat → List Ver) (n : Nat) (y : Int) (ws : List Ver) : Nat → Nat → List Ver → List Int → List Ver × Int × List Int
  | _, 0, acc, rs => (acc, 0, rs)
  | k, m + 1, acc, rs =>
    if (dg f n y ws k).a = 0 then
      (if (dg f n y ws k).t = true then dgo f n y ws (k + 1) m (acc ++ [⟨k, (dg f n y ws k).t, (dg f n y ws k).s⟩]) (dr f n y rs ws k) else dgo f n y ws (k + 1) m acc (dr f n y rs ws k))
    else ([], (dg f n y ws k).a, dr f n y rs ws k)
def dls (f : Nat → List Ver) (n : Nat) (y : Int) (ws : List Ver) (rs : List Int) (fr to_ : Int) : List Ver × Int × List Int :=
  if keyB fr = true ∧ keyB to_ = true then dgo f n y ws fr.toNat (to_ + 1 - fr).toNat [] rs else ([], 1, rs)

/-- Of the first m keys those that were read, and those that were written. -/
def rk (rs : List Int) : Nat → List Int
  | 0 => []
  | m + 1 => if (m : Int) ∈ rs then rk rs m ++ [(m : Int)] else rk rs m
def wk (ws : List Ver) : Nat → List Ver
  | 0 => []
  | m + 1 => match lwr ws m with | some v => wk ws m ++ [⟨m, v.t, v.s⟩] | none => wk ws m

/-- One of the first m keys was written (read) by it, and has what it has since a commit above y. -/
def cls (f : Nat → List Ver) (y : Int) (ws : List Ver) : Nat → Bool
  | 0 => false
  | m + 1 => if (lwr ws m).isSome = true ∧ y < snc f m then true else cls f y ws m
def stl (f : Nat → List Ver) (y : Int) (rs : List Int) : Nat → Bool
  | 0 => false
  | m + 1 => if (m : Int) ∈ rs ∧ y < snc f m then true else stl f y rs m
/-- What May tells. -/
def dm (f : Nat → List Ver) (md y : Int) (rs : List Int) (ws : List Ver) : Int :=
  if cls f y ws 8 = true then 10 else if md = 2 ∧ stl f y rs 8 = true then 11 else 0

theorem rk_len (rs : List Int) : ∀ m, (rk rs m).length ≤ m := by
  intro m
  induction m with
  | zero => simp [rk]
  | succ m ih => simp only [rk]; split <;> (try simp) <;> omega
theorem wk_len (ws : List Ver) : ∀ m, (wk ws m).length ≤ m := by
  intro m
  induction m with
  | zero => simp [wk]
  | succ m ih => simp only [wk]; split <;> (try simp) <;> omega

theorem dr_len (f : Nat → List Ver) (n : Nat) (y : Int) (rs : List Int) (ws : List Ver) (k : Int) : (dr f n y rs ws k).length ≤ rs.length + 1 := by
  unfold dr; split <;> simp
theorem dpw_len (md : Int) (ws : List Ver) (k : Int) (t : Bool) (s : ByteArray) : (dpw md ws k t s).length ≤ ws.length + 1 := by
  unfold dpw; split <;> simp
theorem dgo_len (f : Nat → List Ver) (n : Nat) (y : Int) (ws : List Ver) : ∀ (m k : Nat) (acc : List Ver) (rs : List Int), (dgo f n y ws k m acc rs).1.length ≤ acc.length + m ∧ (dgo f n y ws k m acc rs).2.2.length ≤ rs.length + m := by
  intro m
  induction m with
  | zero => intro k acc rs; simp [dgo]
  | succ m ih =>
    intro k acc rs
    have hd := dr_len f n y rs ws k
    simp only [dgo]
    split
    · split
      · have := ih (k + 1) (acc ++ [⟨k, (dg f n y ws k).t, (dg f n y ws k).s⟩]) (dr f n y rs ws k)
        simp only [List.length_append, List.length_cons, List.length_nil] at this
        omega
      · have := ih (k + 1) acc (dr f n y rs ws k)
        omega
    · simp; omega
theorem dls_len (f : Nat → List Ver) (n : Nat) (y : Int) (ws : List Ver) (rs : List Int) (fr to_ : Int) : (dls f n y ws rs fr to_).1.length ≤ 8 ∧ (dls f n y ws rs fr to_).2.2.length ≤ rs.length + 8 := by
  unfold dls
  split
  · rename_i h
    have h1 := h.1
    have h2 := h.2
    simp [keyB] at h1 h2
    have := dgo_len f n y ws (to_ + 1 - fr).toNat fr.toNat [] rs
    simp only [List.length_nil] at this
    omega
  · simp

theorem dgo_more {f : Nat → List Ver} {n k m : Nat} {y : Int} {ws acc : List Ver} {rs : List Int} {R : List Ver × Int × List Int} (h : dgo f n y ws k (m + 1) acc rs = R) (h0 : (dg f n y ws k).a = 0) (ht : (dg f n y ws k).t = true) :
    dgo f n y ws (k + 1) m (acc ++ [⟨k, (dg f n y ws k).t, (dg f n y ws k).s⟩]) (dr f n y rs ws k) = R := by
  rw [← h]; simp only [dgo]; rw [if_pos h0, if_pos ht]
theorem dgo_skip {f : Nat → List Ver} {n k m : Nat} {y : Int} {ws acc : List Ver} {rs : List Int} {R : List Ver × Int × List Int} (h : dgo f n y ws k (m + 1) acc rs = R) (h0 : (dg f n y ws k).a = 0) (ht : ¬ (dg f n y ws k).t = true) :
    dgo f n y ws (k + 1) m acc (dr f n y rs ws k) = R := by
  rw [← h]; simp only [dgo]; rw [if_pos h0, if_neg ht]
theorem dgo_stop {f : Nat → List Ver} {n k m : Nat} {y : Int} {ws acc : List Ver} {rs : List Int} {R : List Ver × Int × List Int} (h : dgo f n y ws k (m + 1) acc rs = R) (h0 : ¬ (dg f n y ws k).a = 0) : R = ([], (dg f n y ws k).a, dr f n y rs ws k) := by
  rw [← h]; simp only [dgo]; rw [if_neg h0]
theorem dgo_end {f : Nat → List Ver} {n k m : Nat} {y : Int} {ws acc : List Ver} {rs : List Int} {R : List Ver × Int × List Int} (h : dgo f n y ws k m acc rs = R) (h0 : m = 0) : R = (acc, 0, rs) := by
  subst h0; rw [← h]; rfl

/-- A deed's box: the mode, the commit, and of each key whether it was read, whether it was written, and what was written last. -/
def ncell (rs : List Int) (ws : List Ver) (k : Nat) : Nat → Value
  | 0 => .bool (decide ((k : Int) ∈ rs))
  | 1 => .bool (lwr ws k).isSome
  | 2 => .bool ((lwr ws k).getD dv).t
  | _ => .string ((lwr ws k).getD dv).s
/-- The cells of all notes. -/
def nlist (c : Nat → Nat → Value) : List Value :=
  [c 0 0, c 0 1, c 0 2, c 0 3, c 1 0, c 1 1, c 1 2, c 1 3, c 2 0, c 2 1, c 2 2, c 2 3, c 3 0, c 3 1, c 3 2, c 3 3,
    c 4 0, c 4 1, c 4 2, c 4 3, c 5 0, c 5 1, c 5 2, c 5 3, c 6 0, c 6 1, c 6 2, c 6 3, c 7 0, c 7 1, c 7 2, c 7 3]
def dcells (md y : Int) (c : Nat → Nat → Value) : Array Value :=
  #[.int .i64 md, .int .i64 y, c 0 0, c 0 1, c 0 2, c 0 3, c 1 0, c 1 1, c 1 2, c 1 3, c 2 0, c 2 1, c 2 2, c 2 3, c 3 0, c 3 1, c 3 2, c 3 3,
    c 4 0, c 4 1, c 4 2, c 4 3, c 5 0, c 5 1, c 5 2, c 5 3, c 6 0, c 6 1, c 6 2, c 6 3, c 7 0, c 7 1, c 7 2, c 7 3]

theorem dcells_note (md y : Int) (c : Nat → Nat → Value) (j : Nat) : (dcells md y c)[2 + j]? = (nlist c)[j]? := by
  show (Value.int .i64 md :: Value.int .i64 y :: nlist c).toArray[2 + j]? = _
  rw [List.getElem?_toArray, Nat.add_comm]
  rfl
theorem nlist_take (c : Nat → Nat → Value) {k : Nat} (hk : k < 8) : List.take 4 (List.drop (k * 4) (nlist c)) = [c k 0, c k 1, c k 2, c k 3] := by
  rcases lt8 hk with rfl | rfl | rfl | rfl | rfl | rfl | rfl | rfl <;> rfl
theorem lt4 {k : Nat} (h : k < 4) : k = 0 ∨ k = 1 ∨ k = 2 ∨ k = 3 := by omega
theorem dcells_at (md y : Int) (c : Nat → Nat → Value) {k i : Nat} (hk : k < 8) (hi : i < 4) : (dcells md y c)[2 + k * 4 + i]? = some (c k i) := by
  rcases lt8 hk with rfl | rfl | rfl | rfl | rfl | rfl | rfl | rfl <;> rcases lt4 hi with rfl | rfl | rfl | rfl <;> rfl
theorem dcells_set (md y : Int) (c : Nat → Nat → Value) {k i : Nat} (hk : k < 8) (hi : i < 4) (v : Value) : (dcells md y c).setIfInBounds (2 + k * 4 + i) v = dcells md y (fun j l => if j = k ∧ l = i then v else c j l) := by
  rcases lt8 hk with rfl | rfl | rfl | rfl | rfl | rfl | rfl | rfl <;> rcases lt4 hi with rfl | rfl | rfl | rfl <;> rfl
theorem dcells_congr {md y : Int} {c d : Nat → Nat → Value} (h : ∀ k i, k < 8 → i < 4 → c k i = d k i) : dcells md y c = dcells md y d := by
  have key : ∀ m : Nat, m < 34 → (dcells md y c)[m]? = (dcells md y d)[m]? := by
    intro m hm
    by_cases h2 : m < 2
    · have : m = 0 ∨ m = 1 := by omega
      rcases this with rfl | rfl <;> rfl
    · have e : m = 2 + (m - 2) / 4 * 4 + (m - 2) % 4 := by omega
      rw [e, dcells_at md y c (by omega) (by omega), dcells_at md y d (by omega) (by omega), h _ _ (by omega) (by omega)]
  refine Array.ext (by rfl) (fun m h1 h2 => ?_)
  have hm : m < 34 := h1
  have := key m hm
  rw [Array.getElem?_eq_getElem h1, Array.getElem?_eq_getElem h2] at this
  exact Option.some.inj this

theorem ncell_read {rs : List Int} {ws : List Ver} {k : Nat} (j i : Nat) (hi : i < 4) : (if j = k ∧ i = 0 then Value.bool true else ncell rs ws j i) = ncell (rs ++ [(k : Int)]) ws j i := by
  rcases lt4 hi with rfl | rfl | rfl | rfl
  · by_cases e : j = k
    · subst e; simp [ncell]
    · have : ¬ ((j : Int) = (k : Int)) := by omega
      simp [ncell, e, this]
  · simp [ncell]
  · simp [ncell]
  · simp [ncell]
theorem ncell_write {rs : List Int} {ws : List Ver} {k : Nat} (t : Bool) (s : ByteArray) (j i : Nat) (hi : i < 4) :
    (if j = k ∧ i = 3 then Value.string s else if j = k ∧ i = 2 then Value.bool t else if j = k ∧ i = 1 then Value.bool true else ncell rs ws j i) = ncell rs (ws ++ [⟨(k : Int), t, s⟩]) j i := by
  by_cases e : j = k
  · subst e
    rcases lt4 hi with rfl | rfl | rfl | rfl <;> simp [ncell, lwr_put]
  · have e2 : ¬ ((k : Int) = (j : Int)) := by omega
    rcases lt4 hi with rfl | rfl | rfl | rfl <;> simp [ncell, lwr_put, e, e2]
end Go.Proofs.Ytehhpmfeaeabgac

/- 'int(uint(x) % uint(n))', reckoned. -/
namespace Go.Proofs.Ytehhpmfeaeabgac
open Go.RowKit
set_option maxRecDepth 20000

/-- 'int(uint(cut) % uint(n + 1))'. -/
theorem cut_of (cut : Int) {n : Nat} (h2 : n ≤ 100000) : ∃ k : Nat, wrap64 ((IntKind.u64.wrap cut).tmod ((n : Int) + 1)) = (k : Int) ∧ k ≤ n := by
  have e : IntKind.u64.wrap cut = cut % 18446744073709551616 := by simp [IntKind.wrap, IntKind.bits, IntKind.signed]
  have h0 : 0 ≤ cut % 18446744073709551616 := Int.emod_nonneg _ (by omega)
  rw [e, Int.tmod_eq_emod_of_nonneg h0]
  generalize cut % 18446744073709551616 = x at *
  have h3 := Int.emod_nonneg x (show (n : Int) + 1 ≠ 0 by omega)
  have h4 := Int.emod_lt_of_pos x (show (0 : Int) < (n : Int) + 1 by omega)
  refine ⟨(x % ((n : Int) + 1)).toNat, ?_, by omega⟩
  unfold wrap64
  omega
end Go.Proofs.Ytehhpmfeaeabgac

/- Plain words for vaults: what Begin, Commit, Tear and Crash tell and leave; no statement of the program yet. -/
namespace Go.Proofs.Ytehhpmfeaeabgac
open Go.RowKit
set_option maxRecDepth 20000

/-- What a deed wrote: keys, and values that may be. -/
def WOk (ws : List Ver) : Prop := ∀ p ∈ ws, 0 ≤ p.a ∧ p.a < 8 ∧ chk p.t p.s = 0
theorem wok_nil : WOk [] := fun p hp => by simp at hp
theorem WOk.put {ws : List Ver} (h : WOk ws) (md k : Int) (t : Bool) (s : ByteArray) : WOk (dpw md ws k t s) := by
  unfold dpw
  split
  · rename_i hc
    intro p hp
    rcases List.mem_append.1 hp with q | q
    · exact h p q
    · rw [List.mem_singleton.1 q]
      unfold dpc at hc
      split at hc
      · rename_i hk
        simp only [keyB, decide_eq_true_eq] at hk
        split at hc
        · simp at hc
        · exact ⟨hk.1, hk.2, hc⟩
      · simp at hc
  · exact h
theorem getD_mem {ws : List Ver} {i : Nat} (h : i < ws.length) : ws.getD i dv ∈ ws := by
  simp only [List.getD_eq_getElem?_getD, List.getElem?_eq_getElem h, Option.getD_some]
  exact List.getElem_mem h
theorem WOk.lw {ws : List Ver} (h : WOk ws) {k : Int} {v : Ver} : ∀ i, i ≤ ws.length → Ytehhpmfeaeabgac.lw ws k i = some v → chk v.t v.s = 0 := by
  intro i
  induction i with
  | zero => intro _ e; simp [Ytehhpmfeaeabgac.lw] at e
  | succ i ih =>
    intro hi e
    simp only [Ytehhpmfeaeabgac.lw] at e
    split at e
    · simp only [Option.some.injEq] at e
      rw [← e]
      exact (h _ (getD_mem (i := i) (by omega))).2.2
    · exact ih (by omega) e
theorem WOk.lwr {ws : List Ver} (h : WOk ws) {k : Int} {v : Ver} (e : Ytehhpmfeaeabgac.lwr ws k = some v) : chk v.t v.s = 0 := h.lw _ (Nat.le_refl _) e
theorem pf_snoc {p : Ver} : ∀ {ps : List Ver} {a : Int}, pf a ps = 0 → (∀ q ∈ ps, q.a < p.a) → a < p.a → 0 ≤ p.a → p.a < 8 → chk p.t p.s = 0 → pf a (ps ++ [p]) = 0 := by
  intro ps
  induction ps with
  | nil =>
    intro a _ _ h2 h3 h4 h5
    simp only [List.nil_append, pf]
    rw [if_neg (by simp [keyB]; omega), if_neg (by omega), if_pos h5]
  | cons q r ih =>
    intro a h h1 h2 h3 h4 h5
    simp only [List.cons_append, pf] at h ⊢
    split at h
    · simp at h
    · rename_i g1
      split at h
      · simp at h
      · rename_i g2
        split at h
        · rename_i g3
          rw [if_neg g1, if_neg g2, if_pos g3]
          exact ih h (fun x hx => h1 x (by simp [hx])) (h1 q (by simp)) h3 h4 h5
        · rename_i g3
          exact absurd h g3
theorem WOk.wk {ws : List Ver} (h : WOk ws) : ∀ m, m ≤ 8 → pf (-1) (Ytehhpmfeaeabgac.wk ws m) = 0 ∧ ∀ q ∈ Ytehhpmfeaeabgac.wk ws m, q.a < m := by
  intro m
  induction m with
  | zero => intro _; exact ⟨rfl, fun q hq => by simp [Ytehhpmfeaeabgac.wk] at hq⟩
  | succ m ih =>
    intro hm
    obtain ⟨h1, h2⟩ := ih (by omega)
    simp only [Ytehhpmfeaeabgac.wk]
    split
    · rename_i v hv
      refine ⟨pf_snoc h1 h2 (by show (-1 : Int) < (m : Int); omega) (by show (0 : Int) ≤ (m : Int); omega) (by show (m : Int) < 8; omega) (show chk v.t v.s = 0 from h.lwr hv), fun q hq => ?_⟩
      rcases List.mem_append.1 hq with e | e
      · have := h2 q e; push_cast; omega
      · rw [List.mem_singleton.1 e]; push_cast; omega
    · exact ⟨h1, fun q hq => by have := h2 q hq; push_cast; omega⟩
theorem WOk.pf {ws : List Ver} (h : WOk ws) : Ytehhpmfeaeabgac.pf (-1) (Ytehhpmfeaeabgac.wk ws 8) = 0 := (h.wk 8 (Nat.le_refl _)).1

/-- The versions of all keys behind commits. -/
theorem inv_wal : ∀ (cs : List (List Ver)) (f : Nat → List Ver) (n : Nat), Inv f n → (∀ c ∈ cs, pf (-1) c = 0) → n + cs.length ≤ 40 → Inv (wal f n cs) (n + cs.length) := by
  intro cs
  induction cs with
  | nil => intro f n h _ _; exact h
  | cons c r ih =>
    intro f n h hp hn
    simp only [List.length_cons] at hn
    obtain ⟨h1, h2⟩ := wcode_ok (n := n) (hp c (by simp)) (by omega)
    have h3 := h.write c
    rw [h2] at h3
    have := ih _ _ h3 (fun x hx => hp x (by simp [hx])) (by omega)
    simp only [wal, List.length_cons]
    rw [show n + (r.length + 1) = n + 1 + r.length by omega]
    exact this
theorem inv_dv : Inv (fun _ => [dv]) 0 :=
  ⟨fun _ _ i j h1 h2 => by simp at h2; omega, fun _ _ => by simp, fun _ _ => by simp [va, dv], fun _ _ => by simp [va, dv], by omega⟩
theorem inv_wal0 {cs : List (List Ver)} (h : LInv cs) : Inv (wal0 cs) cs.length := by
  have := inv_wal cs _ _ inv_dv h.pf (by have := h.n40; omega)
  rw [Nat.zero_add] at this
  exact this
theorem wrs_lo : ∀ (ps : List Ver) (f : Nat → List Ver) (x : Int), (∀ k, 0 < (f k).length) → ∀ k, 0 < (wrs f x ps k).length ∧ va (wrs f x ps k) 0 = va (f k) 0 := by
  intro ps
  induction ps with
  | nil => intro f x h k; exact ⟨h k, rfl⟩
  | cons p r ih =>
    intro f x h k
    have hl : ∀ k, 0 < (wr1 f x p k).length ∧ va (wr1 f x p k) 0 = va (f k) 0 := by
      intro k
      unfold wr1
      by_cases e : k = p.a.toNat
      · subst e
        rw [upd_same]
        exact ⟨by have := (pvers_length (f p.a.toNat) x p.t p.s).1; have := h p.a.toNat; omega, pvers_lo (h _)⟩
      · rw [upd_other _ _ _ e]
        exact ⟨h k, rfl⟩
    simp only [wrs]
    obtain ⟨h1, h2⟩ := ih (wr1 f x p) x (fun k => (hl k).1) k
    exact ⟨h1, h2.trans (hl k).2⟩
theorem wal_lo : ∀ (cs : List (List Ver)) (f : Nat → List Ver) (n : Nat), (∀ k, 0 < (f k).length) → ∀ k, va (wal f n cs k) 0 = va (f k) 0 := by
  intro cs
  induction cs with
  | nil => intro f n _ k; rfl
  | cons c r ih =>
    intro f n h k
    simp only [wal]
    have hl : ∀ k, 0 < (wst f n c k).length ∧ va (wst f n c k) 0 = va (f k) 0 := by
      intro k
      unfold wst
      split
      · exact wrs_lo c f _ h k
      · exact ⟨h k, rfl⟩
    rw [ih _ _ (fun k => (hl k).1) k]
    exact (hl k).2
theorem fmx_zero {f : Nat → List Ver} (h : ∀ k, va (f k) 0 = 0) : ∀ m, fmx f m = 0 := by
  intro m
  induction m with
  | zero => rfl
  | succ m ih => simp only [fmx]; rw [ih, h m]; simp
theorem fmx_wal0 (cs : List (List Ver)) : fmx (wal0 cs) 8 = 0 := fmx_zero (fun k => by unfold wal0; rw [wal_lo _ _ _ (fun _ => by simp)]; simp [va, dv]) 8
theorem fmx_le {f : Nat → List Ver} {n : Nat} (h : Inv f n) : ∀ m, m ≤ 8 → 0 ≤ fmx f m ∧ fmx f m ≤ n := by
  intro m
  induction m with
  | zero => intro _; simp [fmx]
  | succ m ih =>
    intro hm
    have h1 := ih (by omega)
    have h2 := (h.rise m (by omega)).le (Nat.zero_le ((f m).length - 1)) (by have := h.pos m (by omega); omega)
    have h3 := h.hi m (by omega)
    simp only [fmx]
    split <;> omega
/-- Where all is known nothing is refused. -/
theorem tr_known {f : Nat → List Ver} {n : Nat} {y : Int} (h : Inv f n) (h1 : fmx f 8 ≤ y) (h2 : y ≤ n) {k : Nat} (hk : k < 8) : (tr f n k y).a = 0 := by
  have h3 := fmx_ge f 8 k hk
  have h4 := (fmx_le h 8 (Nat.le_refl _)).1
  unfold tr
  rw [if_pos ⟨by simp [keyB]; omega, h2⟩]
  unfold rd3
  rw [Int.toNat_natCast, if_neg (by omega), if_neg (by omega)]

/-- What is so of a vault's table and its log. -/
structure VI (f : Nat → List Ver) (n : Nat) (cs : List (List Ver)) : Prop where
  sfx : Sfx f (wal0 cs)
  len : n = cs.length
theorem VI.crash {cs : List (List Ver)} (h : LInv cs) : VI (wal0 cs) cs.length cs := ⟨sfx_refl (inv_wal0 h), rfl⟩
theorem VI.clear {f : Nat → List Ver} {n : Nat} {cs : List (List Ver)} (h : VI f n cs) (hi : Inv f n) (y : Int) : VI (clm f y 8) n cs := ⟨h.sfx.clear y hi, h.len⟩
theorem VI.commit {f : Nat → List Ver} {n : Nat} {cs : List (List Ver)} (h : VI f n cs) (ps : List Ver) : VI (wst f n ps) (n + 1) (cs ++ [ps]) := by
  refine ⟨?_, by rw [h.len]; simp⟩
  rw [wal0_snoc, ← h.len]
  exact h.sfx.write n ps
theorem vi_new : VI (fun _ => [dv]) 0 [] := ⟨sfx_refl inv_dv, rfl⟩

/-- Begin: the code; the commit behind which the deed begins. -/
def bcode (f : Nat → List Ver) (n : Nat) (md at_ : Int) : Int :=
  if 1 ≤ md ∧ md ≤ 3 then (if md = 3 then (if at_ < 0 ∨ (n : Int) < at_ then 1 else if at_ < fmx f 8 then 12 else 0) else 0) else 3
def bat (n : Nat) (md at_ : Int) : Int := if md = 3 then at_ else n

/-- Commit: its code, whether it makes a commit, what it leaves, its number. -/
def vcode (f : Nat → List Ver) (cs : List (List Ver)) (md y : Int) (rs : List Int) (ws : List Ver) : Int :=
  if dm f md y rs ws = 0 then (if (wk ws 8).length = 0 then 0 else lcode cs (wk ws 8)) else dm f md y rs ws
def vdone (f : Nat → List Ver) (cs : List (List Ver)) (md y : Int) (rs : List Int) (ws : List Ver) : Bool :=
  decide (dm f md y rs ws = 0 ∧ (wk ws 8).length ≠ 0 ∧ lcode cs (wk ws 8) = 0)
def vf (f : Nat → List Ver) (n : Nat) (cs : List (List Ver)) (md y : Int) (rs : List Int) (ws : List Ver) : Nat → List Ver := if vdone f cs md y rs ws = true then wst f n (wk ws 8) else f
def vn (f : Nat → List Ver) (n : Nat) (cs : List (List Ver)) (md y : Int) (rs : List Int) (ws : List Ver) : Nat := if vdone f cs md y rs ws = true then n + 1 else n
def vcs (f : Nat → List Ver) (cs : List (List Ver)) (md y : Int) (rs : List Int) (ws : List Ver) : List (List Ver) := if vdone f cs md y rs ws = true then cs ++ [wk ws 8] else cs
def vnum (f : Nat → List Ver) (n : Nat) (cs : List (List Ver)) (md y : Int) (rs : List Int) (ws : List Ver) : Int := if vdone f cs md y rs ws = true then (n : Int) + 1 else 0

section
variable {f : Nat → List Ver} {n : Nat} {cs : List (List Ver)} {md y : Int} {rs : List Int} {ws : List Ver}
theorem v_may (h : ¬ dm f md y rs ws = 0) : vcode f cs md y rs ws = dm f md y rs ws ∧ vdone f cs md y rs ws = false := by
  unfold vcode vdone
  rw [if_neg h]
  exact ⟨rfl, by simp [h]⟩
theorem v_none (h : dm f md y rs ws = 0) (h2 : (wk ws 8).length = 0) : vcode f cs md y rs ws = 0 ∧ vdone f cs md y rs ws = false := by
  unfold vcode vdone
  rw [if_pos h, if_pos h2]
  exact ⟨rfl, by simp [h2]⟩
theorem v_full (h : dm f md y rs ws = 0) (h2 : ¬ (wk ws 8).length = 0) (h3 : ¬ lcode cs (wk ws 8) = 0) : vcode f cs md y rs ws = lcode cs (wk ws 8) ∧ vdone f cs md y rs ws = false := by
  unfold vcode vdone
  rw [if_pos h, if_neg h2]
  exact ⟨rfl, by simp [h3]⟩
theorem v_yes (h : dm f md y rs ws = 0) (h2 : ¬ (wk ws 8).length = 0) (h3 : lcode cs (wk ws 8) = 0) : vcode f cs md y rs ws = 0 ∧ vdone f cs md y rs ws = true := by
  unfold vcode vdone
  rw [if_pos h, if_neg h2]
  exact ⟨h3, by simp [h, h2, h3]⟩
theorem v_not (h : vdone f cs md y rs ws = false) : vf f n cs md y rs ws = f ∧ vn f n cs md y rs ws = n ∧ vcs f cs md y rs ws = cs ∧ vnum f n cs md y rs ws = 0 := by
  unfold vf vn vcs vnum
  rw [h]
  exact ⟨rfl, rfl, rfl, rfl⟩
theorem v_did (h : vdone f cs md y rs ws = true) : vf f n cs md y rs ws = wst f n (wk ws 8) ∧ vn f n cs md y rs ws = n + 1 ∧ vcs f cs md y rs ws = cs ++ [wk ws 8] ∧ vnum f n cs md y rs ws = (n : Int) + 1 := by
  unfold vf vn vcs vnum
  rw [h]
  exact ⟨rfl, rfl, rfl, rfl⟩
theorem VI.done (h : VI f n cs) : VI (vf f n cs md y rs ws) (vn f n cs md y rs ws) (vcs f cs md y rs ws) := by
  cases hd : vdone f cs md y rs ws with
  | false =>
    obtain ⟨h1, h2, h3, _⟩ := v_not (n := n) hd
    rw [h1, h2, h3]
    exact h
  | true =>
    obtain ⟨h1, h2, h3, _⟩ := v_did (n := n) hd
    rw [h1, h2, h3]
    exact h.commit _
/-- A commit for which the log has room: the table has room, too. -/
theorem VI.room (h : VI f n cs) {ps : List Ver} (hc : lcode cs ps = 0) : wcode n ps = 0 ∧ wn n ps = n + 1 ∧ wnum n ps = (n : Int) + 1 := by
  obtain ⟨h1, h2, _⟩ := lcode_zero hc
  have h3 := h.len
  obtain ⟨e1, e2⟩ := wcode_ok (n := n) h1 (by omega)
  exact ⟨e1, e2, by unfold wnum; rw [if_pos e1]⟩
end

/-- Tear: the commits behind it; its number. -/
def tcs (f : Nat → List Ver) (cs : List (List Ver)) (md y : Int) (rs : List Int) (ws : List Ver) (keep : Int) : List (List Ver) :=
  if dm f md y rs ws = 0 ∧ (wk ws 8).length ≠ 0 then ltear cs (wk ws 8) keep else cs
def tnum (f : Nat → List Ver) (cs : List (List Ver)) (md y : Int) (rs : List Int) (ws : List Ver) (keep : Int) : Int :=
  if cs.length < (tcs f cs md y rs ws keep).length then ((tcs f cs md y rs ws keep).length : Int) else 0
section
variable {f : Nat → List Ver} {n : Nat} {cs : List (List Ver)} {md y : Int} {rs : List Int} {ws : List Ver} {keep : Int}
theorem t_may (h : ¬ dm f md y rs ws = 0) : tcs f cs md y rs ws keep = cs := by unfold tcs; rw [if_neg (fun q => h q.1)]
theorem t_none (h2 : (wk ws 8).length = 0) : tcs f cs md y rs ws keep = cs := by unfold tcs; rw [if_neg (fun q => q.2 h2)]
theorem t_tear (h : dm f md y rs ws = 0) (h2 : ¬ (wk ws 8).length = 0) : tcs f cs md y rs ws keep = ltear cs (wk ws 8) keep := by unfold tcs; rw [if_pos ⟨h, h2⟩]
theorem tcs_cases : tcs f cs md y rs ws keep = cs ∨ (tcs f cs md y rs ws keep = cs ++ [wk ws 8] ∧ vcode f cs md y rs ws = 0 ∧ dm f md y rs ws = 0 ∧ (wk ws 8).length ≠ 0 ∧ lcode cs (wk ws 8) = 0) := by
  unfold tcs
  split
  · rename_i q
    unfold ltear
    split
    · rename_i q2
      exact .inr ⟨rfl, (v_yes q.1 q.2 q2.1).1, q.1, q.2, q2.1⟩
    · exact .inl rfl
  · exact .inl rfl
theorem LInv.tcs (h : LInv cs) : LInv (Ytehhpmfeaeabgac.tcs f cs md y rs ws keep) := by
  unfold Ytehhpmfeaeabgac.tcs
  split
  · exact h.tear keep
  · exact h
theorem tcs_code (h : ¬ vcode f cs md y rs ws = 0) : tcs f cs md y rs ws keep = cs := by
  rcases tcs_cases (f := f) (cs := cs) (md := md) (y := y) (rs := rs) (ws := ws) (keep := keep) with e | e
  · exact e
  · exact absurd e.2.1 h
theorem tnum_same (h : tcs f cs md y rs ws keep = cs) : tnum f cs md y rs ws keep = 0 := by unfold tnum; rw [h, if_neg (by omega)]
theorem tnum_more (h : tcs f cs md y rs ws keep = cs ++ [wk ws 8]) : tnum f cs md y rs ws keep = (cs.length : Int) + 1 := by unfold tnum; rw [h, if_pos (by simp)]; simp
end
end Go.Proofs.Ytehhpmfeaeabgac

/- Put and Clear of a line that lies at a place of a greater box, by their contracts. -/
namespace Go.Proofs.Ytehhpmfeaeabgac
open Go.RowKit
set_option maxRecDepth 20000
attribute [local go_sem ↓] Go.wp_at_zero Go.wp_at_succ

theorem set_same {cs : Array Value} {i : Nat} {v : Value} (h : cs[i]? = some v) : cs.setIfInBounds i v = cs := by
  have hi : i < cs.size := (Array.getElem?_eq_some_iff.1 h).1
  apply Array.ext_getElem?
  intro j
  rw [Array.getElem?_setIfInBounds]
  split
  · rename_i e; subst e; rw [h]
  · rfl
theorem set_at {cs : Array Value} {i : Nat} {v : Value} (u : Value) (h : cs[i]? = some v) : (cs.setIfInBounds i u)[i]? = some u := by
  have hi : i < cs.size := (Array.getElem?_eq_some_iff.1 h).1
  rw [Array.getElem?_setIfInBounds, if_pos rfl, if_pos hi]
theorem heap_set_at {w : World} {b : Nat} {cs : Array Value} {t : TypeId} (i : Nat) (v : Value) (h : w.heap[b]? = some (.cells cs t (0, 0))) : (w.setCell ⟨b, i, none⟩ v).heap[b]? = some (.cells (cs.setIfInBounds i v) t (0, 0)) := by
  simp only [World.setCell, Array.getElem?_modify, h, if_true, Option.map_some]
  simp

/-- A line's memory: the place i of the box r holds the slice of its versions. -/
structure LinX (B : Nat) (w : World) (r : Nat) (cs : Array Value) (ty : TypeId) (i g o cap : Nat) (vs : List Ver) : Prop where
  box : w.heap[r]? = some (.cells cs ty (0, 0))
  here : cs[i]? = some (.slice (some ⟨g, o, none⟩) vs.length cap)
  sla : SlA w g o vs
  ne : r ≠ g
  hr : B ≤ r
  hg : B ≤ g
  pos : 0 < vs.length
  cap : vs.length ≤ cap

section
variable {B : Nat} {w : World} {r : Nat} {cs : Array Value} {ty : TypeId} {i g o cap : Nat} {vs : List Ver}
theorem LinX.rlt (h : LinX B w r cs ty i g o cap vs) : r < w.heap.size := (Array.getElem?_eq_some_iff.1 h.box).1
theorem LinX.glt (h : LinX B w r cs ty i g o cap vs) : g < w.heap.size := h.sla.lt h.pos
theorem LinX.cell (h : LinX B w r cs ty i g o cap vs) : w.cell? ⟨r, i, none⟩ = some (.slice (some ⟨g, o, none⟩) vs.length cap) := by
  rw [cell_of_row w r i _ _ _ h.box]; exact h.here
theorem LinX.frozen (h : LinX B w r cs ty i g o cap vs) : w.frozen? ⟨r, i, none⟩ = false := by simp [World.frozen?, h.box]
theorem LinX.kp {S : List Nat} {w' : World} (h : LinX B w r cs ty i g o cap vs) (hk : Kp S w w') (hr : r ∉ S) (hg : g ∉ S) : LinX B w' r cs ty i g o cap vs :=
  ⟨by rw [hk.block r h.rlt hr]; exact h.box, h.here, h.sla.kp hk hg, h.ne, h.hr, h.hg, h.pos, h.cap⟩
end

theorem lputx_facts {B r i g o cap : Nat} {cs : Array Value} {ty : TypeId} {vs : List Ver} {w w1 : World} {x y : Value} (h : LinX B w r cs ty i g o cap vs) (hk : Kp [] (w.alloc (.cells #[x, y] 31)) w1) :
    w1.cell? ⟨r, i, none⟩ = some (.slice (some ⟨g, o, none⟩) vs.length cap) ∧ w1.frozen? ⟨r, i, none⟩ = false ∧ w1.cell? ⟨w.heap.size, 0, none⟩ = some x ∧ w1.cell? ⟨w.heap.size, 1, none⟩ = some y := by
  have h2 := h.kp (((Kp.refl [] w).alloc _).trans0 hk) (by simp) (by simp)
  exact ⟨h2.cell, h2.frozen, hk.cell (by simp) (by simp), hk.cell (by simp) (by simp)⟩

theorem far3_facts {wc w4 : World} {b i g n cap : Nat} {v : Value} (hg : wc.grownBy w4 (Value.slice (some ⟨g, 0, none⟩) n cap).ownBlock) (hne : b ≠ g)
    (q0 : wc.cell? ⟨b, i, none⟩ = some v) (q1 : wc.frozen? ⟨b, i, none⟩ = false) : w4.cell? ⟨b, i, none⟩ = some v ∧ w4.frozen? ⟨b, i, none⟩ = false := by
  have hb := World.block_lt_of_cell? wc _ q0
  have hn : some b ≠ (Value.slice (some ⟨g, 0, none⟩) n cap).ownBlock := by simp [Value.ownBlock, hne]
  exact ⟨by rw [hg.cell_far _ hb hn]; exact q0, by rw [hg.frozen_far _ hb hn]; exact q1⟩

theorem linx_put {B r i g o cap : Nat} {cs : Array Value} {ty : TypeId} {vs : List Ver} {w2 wc w4 : World} (h : LinX B w2 r cs ty i g o cap vs) (hk : Kp [] w2 wc) {x : Int} {t : Bool} {s : ByteArray} {g1 cap1 g2 cap2 : Nat}
    (hown : w4.ownsRow B 128 3 (.slice (some ⟨g2, 0, none⟩) (vs.length + 1) cap2) (vs.length + 1) (vcells vs ++ [.int .i64 x, .bool t, .string s]))
    (hg : wc.grownBy w4 (Value.slice (some ⟨g1, 0, none⟩) vs.length cap1).ownBlock) (hg1 : w2.heap.size ≤ g1) (hat : (Value.slice (some ⟨g1, 0, none⟩) vs.length cap1).ownBlock = some g2 ∨ g2 = wc.heap.size) :
    w4.cell? ⟨r, i, none⟩ = some (.slice (some ⟨g, o, none⟩) vs.length cap) ∧ w4.frozen? ⟨r, i, none⟩ = false ∧ w2.heap.size ≤ g2 ∧
      Hid (LinX B (w4.setCell ⟨r, i, none⟩ (.slice (some ⟨g2, 0, none⟩) (vs.length + 1) cap2)) r (cs.setIfInBounds i (.slice (some ⟨g2, 0, none⟩) (vs.length + 1) cap2)) ty i g2 0 cap2 (vs ++ [⟨x, t, s⟩])) ∧ Hid (Kp [r] w2 (w4.setCell ⟨r, i, none⟩ (.slice (some ⟨g2, 0, none⟩) (vs.length + 1) cap2))) := by
  have hrl := h.rlt
  have hc := h.kp hk (by simp) (by simp)
  have hg2 : w2.heap.size ≤ g2 := by
    rcases hat with e | e
    · have : g1 = g2 := by simpa [Value.ownBlock] using e
      omega
    · have := hk.size; omega
  obtain ⟨f0, f1⟩ := far3_facts hg (show r ≠ g1 by omega) hc.cell hc.frozen
  have hb4 : w4.heap[r]? = some (.cells cs ty (0, 0)) := by
    rw [hg.block r hc.rlt (by simp [Value.ownBlock]; omega)]; exact hc.box
  have hk4 : Kp [r] w2 w4 := (hk.mono (T := [r]) (by simp)).grown hg (fun k hk => by right; have : g1 = k := by simpa [Value.ownBlock] using hk
                                                                                     omega)
  have hcap : vs.length + 1 ≤ cap2 := by
    rcases hown.2 with ⟨e, _⟩ | ⟨g3, c3, cur, e, q1, q2, q3, q4, q5, q6⟩
    · simp at e
    · simp only [Value.slice.injEq, Option.some.injEq, Addr.mk.injEq, and_true, true_and] at e
      obtain ⟨rfl, rfl⟩ := e
      exact q3
  have hv : vcells vs ++ [.int .i64 x, .bool t, .string s] = vcells (vs ++ [⟨x, t, s⟩]) := by rw [vcells_append]; rfl
  have hl : vs.length + 1 = (vs ++ [(⟨x, t, s⟩ : Ver)]).length := by simp
  have hB2 := (hown.lt g2 rfl).1
  rw [hv, hl] at hown
  have hs := sla_own hown
  rw [hl] at hcap ⊢
  refine ⟨f0, f1, hg2, ⟨heap_set_at i _ hb4, set_at _ h.here, ?_, by omega, h.hr, hB2, by simp, hcap⟩, hk4.setCell (.inl (by simp)) _⟩
  intro j u hu
  rw [World.cell?_setCell_other _ _ _ _ (by intro e; have := congrArg Addr.block e; simp at this; omega)]
  exact hs j u hu

set_option maxHeartbeats 1000000 in
theorem lputx26 {B r i g o cap : Nat} {cs : Array Value} {ty : TypeId} {vs : List Ver} (x : Int) (t : Bool) (s : ByteArray) (w : World) (h : LinX B w r cs ty i g o cap vs) (hm : vs.length ≤ 900) (hs : s.size ≤ maxLen) (hB : B ≤ w.heap.size) :
    Calls Try.prog 98 #[.pointer (some ⟨r, i, none⟩), .int .i64 x, .agg #[.bool t, .string s]] w fun e w' => e = .returned (.int .i64 (pcode vs x t s)) ∧ ∃ g' o' cap', LinX B w' r (cs.setIfInBounds i (.slice (some ⟨g', o', none⟩) (pvers vs x t s).length cap')) ty i g' o' cap' (pvers vs x t s) ∧ (g' = g ∨ w.heap.size ≤ g') ∧ Kp [r] w w' := by
  obtain ⟨i0, hi0, hz0, hz1, hz2⟩ := info_parts Try.info128
  have hrl := h.rlt
  have hp0 := h.pos
  have HC := hide h
  clear h
  by_cases hc : chk t s = 0
  · by_cases hl : x ≤ va vs (vs.length - 1)
    · have hp : pcode vs x t s = 5 := by unfold pcode; rw [if_pos hc, if_pos hl]
      have hv : pvers vs x t s = vs := by unfold pvers; rw [if_neg (by rw [hp]; decide)]
      rw [hp, hv]
      clear hp hv
      go_enter Try.func98, Try.ntmps98
      go_wp2_with fail
      refine (fault14 t s _ hs).mono ?_
      rintro e w1 ⟨rfl, hk⟩
      rw [hc]
      obtain ⟨q0, q1, q2, q3⟩ := lputx_facts (unhide HC) hk
      have HK := hide hk
      have HCC := hide hc
      clear hc hk
      go_wp2_with fail
      have h1 := (unhide HC).kp (((Kp.refl [] w).alloc _).trans0 (unhide HK)) (by simp) (by simp)
      refine (llast16 g o cap _ h1.sla hp0 (by omega)).mono ?_
      rintro e w2 ⟨rfl, rfl⟩
      have H1 := hide h1
      clear h1
      go_wp2
      go_ret
      exact ⟨rfl, g, o, cap, by rw [set_same (unhide H1).here]; exact unhide H1, .inl rfl, (((Kp.refl [] w).alloc _).trans0 (unhide HK)).mono (by simp)⟩
    · have hp : pcode vs x t s = 0 := by unfold pcode; rw [if_pos hc, if_neg hl]
      have hv : pvers vs x t s = vs ++ [⟨x, t, s⟩] := by unfold pvers; rw [if_pos hp]
      rw [hp, hv]
      clear hp hv
      go_enter Try.func98, Try.ntmps98
      go_wp2_with fail
      refine (fault14 t s _ hs).mono ?_
      rintro e w1 ⟨rfl, hk⟩
      rw [hc]
      obtain ⟨q0, q1, q2, q3⟩ := lputx_facts (unhide HC) hk
      have HK := hide hk
      have HCC := hide hc
      clear hc hk
      go_wp2_with fail
      have h1 := (unhide HC).kp (((Kp.refl [] w).alloc _).trans0 (unhide HK)) (by simp) (by simp)
      refine (llast16 g o cap _ h1.sla hp0 (by omega)).mono ?_
      rintro e w2 ⟨rfl, rfl⟩
      have hr1 := h1.rlt
      have hp1 : w.heap.size < w2.heap.size := by have := (unhide HK).size; simp at this; omega
      have N0 := hide (h1.sla.kp (Kp.refl [] w2).drew (by simp)).news
      have N1 := hide (h1.sla.kp ((Kp.refl [] w2).alloc (.cells #[.int .i64 x, .bool t, .string s] 128)).drew (by simp)).news
      have H1 := hide h1
      clear h1
      go_wp2_with fail
      go_region_law (first | (refine step_append_lies _ (by rfl) _ _ 49 (by rfl) B 128 i0 _ 3 32 Try.underlying49 hi0 hz0 hz1 hz2 rfl (by omega) (.slice none 0 0) 0 [] (by rfl) (World.ownsRow_nil _ _ _ _) ⟨g, o, none⟩ vs.length cap (vcells vs) (by rfl) (vcells_length vs) (by first | exact unhide N0 | exact unhide N1) (vcells_one vs) hp0 (by unfold maxLen; omega) (by omega) (by simp; omega) _ rfl ?_; intro g1 cap1 w3 hown1 hgrow1 hat1 hlt1; have hk3 : Kp [] w2 w3 := (by first | exact kp_none (Kp.refl [] w2).drew hgrow1 | exact kp_none ((Kp.refl [] w2).alloc _).drew hgrow1); have c0 := hk3.cell (p := ⟨r, i, none⟩) (by simp) q0; have c1 : w3.frozen? ⟨r, i, none⟩ = false := (by rw [hk3.frozen hr1 (by simp)]; exact q1); have c2 := hk3.cell (p := ⟨w.heap.size, 0, none⟩) (by simp) q2; have c3 := hk3.cell (p := ⟨w.heap.size, 1, none⟩) (by simp) q3; simp only [Nat.zero_add, List.nil_append] at hown1; have hg1 : w2.heap.size ≤ g1 := (by rcases hat1 with e | e; simp [Value.ownBlock] at e; simp at e; omega); have hr3 := Nat.lt_of_lt_of_le hr1 hk3.size; have HO1 := hide hown1; have HG1 := hide hgrow1; have HA1 := hide hat1; have HK3 := hide hk3; clear hown1 hgrow1 hat1 hk3) | (refine step_append_lies _ (by rfl) _ _ 49 (by rfl) B 128 i0 _ 3 32 Try.underlying49 hi0 hz0 hz1 hz2 rfl (by omega) (.slice (some ⟨g1, 0, none⟩) vs.length cap1) vs.length (vcells vs) (by rfl) ((unhide HO1).alloc _) ⟨w3.heap.size, 0, none⟩ 1 1 [.int .i64 x, .bool t, .string s] (by rfl) (by rfl) (World.news_of_block (cs := #[.int .i64 x, .bool t, .string s]) (t := 128) (fr := (0, 0)) (heap_alloc_new w3 _)) (by simp [Value.oneCell']) (by omega) (by unfold maxLen; omega) (by omega) (by simp; omega) _ rfl ?_; intro g2 cap2 w4 hown2 hgrow2 hat2 hlt2; obtain ⟨f0, f1, f2, F3, F4⟩ := linx_put (unhide H1) ((unhide HK3).alloc _) hown2 hgrow2 hg1 hat2; clear hown2 hgrow2 hat2) | (refine step_append_lies _ (by rfl) _ _ 49 (by rfl) B 128 i0 _ 3 32 Try.underlying49 hi0 hz0 hz1 hz2 rfl (by omega) (.slice (some ⟨g1, 0, none⟩) vs.length cap1) vs.length (vcells vs) (by rfl) (unhide HO1) ⟨w2.heap.size, 0, none⟩ 1 1 [.int .i64 x, .bool t, .string s] (by rfl) (by rfl) (World.news_of_block (cs := #[.int .i64 x, .bool t, .string s]) (t := 128) (fr := (0, 0)) (block_none (wc := (w2.alloc (.cells #[.int .i64 x, .bool t, .string s] 128)).drew) (heap_alloc_new w2 _) (unhide HG1))) (by simp [Value.oneCell']) (by omega) (by unfold maxLen; omega) (by omega) (by omega) _ rfl ?_; intro g2 cap2 w4 hown2 hgrow2 hat2 hlt2; obtain ⟨f0, f1, f2, F3, F4⟩ := linx_put (unhide H1) (unhide HK3) hown2 hgrow2 hg1 hat2; clear hown2 hgrow2 hat2))
      all_goals
        go_wp2
        go_ret
        exact ⟨rfl, g2, 0, cap2, by simpa using unhide F3, .inr (by omega), ((((Kp.refl [] w).alloc _).trans0 (unhide HK)).mono (by simp)).trans (unhide F4) (by simp)⟩
  · have hp : pcode vs x t s = chk t s := by unfold pcode; rw [if_neg hc]
    have hv : pvers vs x t s = vs := by unfold pvers; rw [if_neg (by rw [hp]; exact hc)]
    rw [hp, hv]
    clear hp hv
    generalize hq : chk t s = q at *
    have HQ := hide hq
    clear hq
    go_enter Try.func98, Try.ntmps98
    go_wp2_with fail
    refine (fault14 t s _ hs).mono ?_
    rintro e w1 ⟨rfl, hk⟩
    rw [unhide HQ]
    have HK := hide hk
    clear hk
    go_wp2
    go_ret
    have h1 := (unhide HC).kp (((Kp.refl [] w).alloc _).trans0 (unhide HK)) (by simp) (by simp)
    exact ⟨rfl, g, o, cap, by rw [set_same h1.here]; exact h1, .inl rfl, (((Kp.refl [] w).alloc _).trans0 (unhide HK)).mono (by simp)⟩
end Go.Proofs.Ytehhpmfeaeabgac

/- Clear of a line that lies at a place of a greater box, by its contract. -/
namespace Go.Proofs.Ytehhpmfeaeabgac
open Go.RowKit
set_option maxRecDepth 20000
attribute [local go_sem ↓] Go.wp_at_zero Go.wp_at_succ

def LClrX (B r g : Nat) (cs : Array Value) (ty : TypeId) (i : Nat) (vs : List Ver) (y : Int) (w : World) (e : Ending) (w' : World) : Prop :=
  ∃ c : Nat, IsCnt vs y c ∧ e = .returned (.int .i64 ((c - 1 : Nat) : Int)) ∧ ∃ o' cap', LinX B w' r (cs.setIfInBounds i (.slice (some ⟨g, o', none⟩) (vs.drop (c - 1)).length cap')) ty i g o' cap' (vs.drop (c - 1)) ∧ Kp [r] w w'

def ClX (B r g : Nat) (cs : Array Value) (ty : TypeId) (i : Nat) (vs : List Ver) (o cap d : Nat) (w : World) : Prop :=
  LinX B w r (cs.setIfInBounds i (.slice (some ⟨g, o + d * 3, none⟩) (vs.drop d).length (cap - d))) ty i g (o + d * 3) (cap - d) (vs.drop d)

theorem linx_step {B r i g o cap d : Nat} {cs : Array Value} {ty : TypeId} {vs : List Ver} {w : World} (h : ClX B r g cs ty i vs o cap d w) (h2 : d + 1 < vs.length) :
    ClX B r g cs ty i vs o cap (d + 1) (w.setCell ⟨r, i, none⟩ (.slice (some ⟨g, o + d * 3 + 3, none⟩) (vs.length - d - 1) (cap - d - 1))) := by
  have e1 : o + (d + 1) * 3 = o + d * 3 + 3 := by omega
  have e2 : (vs.drop (d + 1)).length = vs.length - d - 1 := by simp; omega
  have e3 : cap - (d + 1) = cap - d - 1 := by omega
  have hc := h.cap
  simp only [List.length_drop] at hc
  unfold ClX
  rw [e1, e3, e2]
  refine ⟨?_, ?_, ?_, h.ne, h.hr, h.hg, by omega, by omega⟩
  · rw [heap_set_at i _ h.box, Array.setIfInBounds_setIfInBounds]
  · rw [e2]
    have := set_at (.slice (some ⟨g, o + d * 3 + 3, none⟩) (vs.length - d - 1) (cap - d - 1)) h.here
    rwa [Array.setIfInBounds_setIfInBounds] at this
  · have hs := h.sla.drop 1
    rw [List.drop_drop, Nat.one_mul] at hs
    intro j u hu
    rw [World.cell?_setCell_other _ _ _ _ (by intro e; have := congrArg Addr.block e; exact h.ne this)]
    exact hs j u hu

theorem lclrx_mk {B r i g o cap d : Nat} {cs : Array Value} {ty : TypeId} {vs : List Ver} {y : Int} {w w' : World} (hr : Rise vs) (hd : d < vs.length) (hlo : 0 < d → va vs d ≤ y) (hhi : d + 1 < vs.length → y < va vs (d + 1))
    (h : ClX B r g cs ty i vs o cap d w') (hk : Kp [r] w w') : LClrX B r g cs ty i vs y w (.returned (.int .i64 (d : Int))) w' := by
  obtain ⟨c, hc, e⟩ := cnt_clear hr hd hlo hhi
  exact ⟨c, hc, by rw [e], o + d * 3, cap - d, by rw [e]; exact h, hk⟩

set_option maxHeartbeats 400000 in
theorem lclearx27 {B r i g o cap : Nat} {cs : Array Value} {ty : TypeId} {vs : List Ver} (y : Int) (w : World) (h : LinX B w r cs ty i g o cap vs) (hr : Rise vs) (hm : vs.length ≤ 900) :
    Calls Try.prog 80 #[.pointer (some ⟨r, i, none⟩), .int .i64 y] w fun e w' => LClrX B r g cs ty i vs y w e w' := by
  have hp := h.pos
  have H0 : Hid (ClX B r g cs ty i vs o cap 0 w) := by
    show ClX B r g cs ty i vs o cap 0 w
    unfold ClX
    simp only [Nat.zero_mul, Nat.add_zero, Nat.sub_zero, List.drop_zero]
    rw [set_same h.here]; exact h
  have HR := hide hr
  clear h hr
  go_enter Try.func80, Try.ntmps80
  go_wp2_with fail
  go_loopw [5] (fun j wr => ∃ d : Nat, d < vs.length ∧ j = .int .i64 d ∧ Hid (0 < d → va vs d ≤ y) ∧ Hid (ClX B r g cs ty i vs o cap d wr) ∧ Hid (Kp [r] w wr)) (fun j _ => vs.length - (intOf j).toNat)
  case atStart => exact ⟨0, hp, rfl, fun h => by omega, H0, Kp.refl _ _⟩
  case round =>
    obtain ⟨d, hd, rfl, HD, HL, HK⟩ := hrel
    have q0 := (unhide HL).cell
    have q1 := (unhide HL).frozen
    rw [List.length_drop] at q0
    have hcp := (unhide HL).cap
    rw [List.length_drop] at hcp
    by_cases hlt : d + 1 < vs.length
    · have q2 := (unhide HL).sla.at0 1 (by rw [List.length_drop]; omega)
      have e2 : va (vs.drop d) 1 = va vs (d + 1) := by simp [va]
      rw [e2, Nat.one_mul] at q2
      have e3 : cap - d ≠ 1 := by omega
      have e4 : (1 : Int) < ((vs.length - d : Nat) : Int) := by omega
      have e5 : (1 : Int) ≤ ((cap - d : Nat) : Int) := by omega
      by_cases hy : va vs (d + 1) ≤ y
      · go_wp2_with fail
        exact ⟨⟨d + 1, hlt, by go_num, fun _ => hy, linx_step (unhide HL) hlt, (unhide HK).setCell (.inl (by simp)) _⟩, by simp [intOf]; omega⟩
      · go_wp2_with fail
        go_ret
        exact lclrx_mk (unhide HR) hd (unhide HD) (fun _ => by omega) (unhide HL) (unhide HK)
    · have e4 : ¬ (1 : Int) < ((vs.length - d : Nat) : Int) := by omega
      go_wp2_with fail
      go_ret
      exact lclrx_mk (unhide HR) hd (unhide HD) (fun h => absurd h hlt) (unhide HL) (unhide HK)
end Go.Proofs.Ytehhpmfeaeabgac

/- The document's own sheet of lines: its memory; Since, Read, First and Clear, by their contracts. -/
namespace Go.Proofs.Ytehhpmfeaeabgac
open Go.RowKit
set_option maxRecDepth 20000
attribute [local go_sem ↓] Go.wp_at_zero Go.wp_at_succ

def scell (g o cap : Nat → Nat) (f : Nat → List Ver) : Nat → Value := fun k => .slice (some ⟨g k, o k, none⟩) (f k).length (cap k)

/-- A sheet's memory: the box sb holds the lines and the number of commits; G: all blocks that are the sheet's own. -/
structure ShtL (B : Nat) (w : World) (sb : Nat) (G : List Nat) (g o cap : Nat → Nat) (f : Nat → List Ver) (n : Nat) : Prop where
  box : w.heap[sb]? = some (.cells (tcells (scell g o cap f) n) 52 (0, 0))
  sla : ∀ k, k < 8 → SlA w (g k) (o k) (f k)
  cap : ∀ k, k < 8 → (f k).length ≤ cap k
  ne : ∀ k, k < 8 → sb ≠ g k
  sG : sb ∈ G
  gG : ∀ k, k < 8 → g k ∈ G
  lo : ∀ x, x ∈ G → B ≤ x ∧ x < w.heap.size
  inv : Inv f n
  hB : B ≤ w.heap.size
def Sht (B : Nat) (w : World) (sb : Nat) (G : List Nat) (f : Nat → List Ver) (n : Nat) : Prop := ∃ g o cap, ShtL B w sb G g o cap f n

section
variable {B : Nat} {w w' : World} {sb : Nat} {G S : List Nat} {g o cap : Nat → Nat} {f : Nat → List Ver} {n : Nat}
theorem ShtL.kp (h : ShtL B w sb G g o cap f n) (hk : Kp S w w') (hS : ∀ x, x ∈ G → x ∉ S) : ShtL B w' sb G g o cap f n :=
  ⟨by rw [hk.block sb (h.lo sb h.sG).2 (hS _ h.sG)]; exact h.box, fun k hk8 => (h.sla k hk8).kp hk (hS _ (h.gG k hk8)), h.cap, h.ne, h.sG, h.gG, fun x hx => ⟨(h.lo x hx).1, Nat.lt_of_lt_of_le (h.lo x hx).2 hk.size⟩, h.inv, Nat.le_trans h.hB hk.size⟩
theorem Sht.kp (h : Sht B w sb G f n) (hk : Kp S w w') (hS : ∀ x, x ∈ G → x ∉ S) : Sht B w' sb G f n := by
  obtain ⟨g, o, cap, h⟩ := h
  exact ⟨g, o, cap, h.kp hk hS⟩
theorem Sht.kp0 (h : Sht B w sb G f n) (hk : Kp [] w w') : Sht B w' sb G f n := h.kp hk (fun _ _ => by simp)
theorem Sht.lo (h : Sht B w sb G f n) : ∀ x, x ∈ G → B ≤ x ∧ x < w.heap.size := by
  obtain ⟨g, o, cap, h⟩ := h
  exact h.lo
theorem ShtL.ncell (h : ShtL B w sb G g o cap f n) : w.cell? ⟨sb, 8, none⟩ = some (.int .i64 n) := cell_of_block h.box (tcells_n _ _)
theorem ShtL.kcell (h : ShtL B w sb G g o cap f n) {k : Nat} (hk : k < 8) : w.cell? ⟨sb, k, none⟩ = some (.slice (some ⟨g k, o k, none⟩) (f k).length (cap k)) := cell_of_block h.box (tcells_at _ _ hk)
theorem ShtL.lin (h : ShtL B w sb G g o cap f n) {k : Nat} (hk : k < 8) : LinX B w sb (tcells (scell g o cap f) n) 52 k (g k) (o k) (cap k) (f k) :=
  ⟨h.box, tcells_at _ _ hk, h.sla k hk, h.ne k hk, (h.lo sb h.sG).1, (h.lo _ (h.gG k hk)).1, h.inv.pos k hk, h.cap k hk⟩
theorem ShtL.step {k g' o' cap' : Nat} {vs : List Ver} (h : ShtL B w sb G g o cap f n) (hk : k < 8)
    (hl : LinX B w' sb ((tcells (scell g o cap f) n).setIfInBounds k (.slice (some ⟨g', o', none⟩) vs.length cap')) 52 k g' o' cap' vs) (hg : g' = g k ∨ w.heap.size ≤ g') (hkp : Kp [sb] w w') (hi : Inv (upd f k vs) n) :
    ShtL B w' sb (g' :: G) (upd g k g') (upd o k o') (upd cap k cap') (upd f k vs) n ∧ Kp G w w' ∧ ∀ x, x ∈ g' :: G → x ∈ G ∨ w.heap.size ≤ x := by
  have hb := hl.box
  rw [tcells_set _ _ hk] at hb
  refine ⟨⟨?_, fun j hj => ?_, fun j hj => ?_, fun j hj => ?_, List.mem_cons_of_mem _ h.sG, fun j hj => ?_, fun x hx => ?_, hi, Nat.le_trans h.hB hkp.size⟩, ?_, ?_⟩
  · rw [hb]
    congr 2
    refine tcells_congr _ (fun j _ => ?_)
    unfold scell
    by_cases e : j = k
    · subst e; simp [upd]
    · rw [upd_other _ _ _ e, upd_other _ _ _ e, upd_other _ _ _ e, upd_other _ _ _ e, upd_other _ _ _ e]
  · by_cases e : j = k
    · subst e; rw [upd_same, upd_same, upd_same]; exact hl.sla
    · rw [upd_other _ _ _ e, upd_other _ _ _ e, upd_other _ _ _ e]
      exact (h.sla j hj).kp hkp (by simp; exact fun e => h.ne j hj e.symm)
  · by_cases e : j = k
    · subst e; rw [upd_same, upd_same]; exact hl.cap
    · rw [upd_other _ _ _ e, upd_other _ _ _ e]; exact h.cap j hj
  · by_cases e : j = k
    · subst e; rw [upd_same]; exact hl.ne
    · rw [upd_other _ _ _ e]; exact h.ne j hj
  · by_cases e : j = k
    · subst e; rw [upd_same]; exact List.mem_cons_self
    · rw [upd_other _ _ _ e]; exact List.mem_cons_of_mem _ (h.gG j hj)
  · rcases List.mem_cons.1 hx with e | e
    · subst e; exact ⟨hl.hg, hl.glt⟩
    · exact ⟨(h.lo x e).1, Nat.lt_of_lt_of_le (h.lo x e).2 hkp.size⟩
  · exact hkp.mono (by simp; exact .inl h.sG)
  · intro x hx
    rcases List.mem_cons.1 hx with e | e
    · subst e
      rcases hg with e2 | e2
      · rw [e2]; exact .inl (h.gG k hk)
      · exact .inr e2
    · exact .inl e
end

set_option maxHeartbeats 400000 in
theorem ssince41 {B sb n : Nat} {G : List Nat} {f : Nat → List Ver} (k : Int) (w : World) (h : Sht B w sb G f n) :
    Calls Try.prog 31 #[.pointer (some ⟨sb, 0, none⟩), .int .i64 k] w fun e w' => e = .returned (.int .i64 (snc f k)) ∧ Kp [] w w' := by
  obtain ⟨g, o, cap, h⟩ := h
  by_cases hk : keyB k = true
  · have hs : snc f k = va (f k.toNat) ((f k.toNat).length - 1) := by unfold snc; rw [if_pos hk]
    obtain ⟨j, hj, rfl⟩ := keyB_nat hk
    rw [hs, Int.toNat_natCast]
    have q := h.kcell hj
    have HC := hide (h.sla j hj)
    have hl := h.inv.len41 hj
    have hp := h.inv.pos j hj
    clear h hs
    have i0 : (0 : Int) ≤ (j : Int) := by omega
    have i1 : (j : Int) < 8 := by omega
    go_enter Try.func31, Try.ntmps31
    go_wp2_with fail
    refine (key12 _ w).mono ?_
    rintro e w' ⟨rfl, rfl⟩
    rw [hk]
    clear hk
    go_wp2_with fail
    refine (llast16 (g j) (o j) (cap j) _ (unhide HC) hp (by omega)).mono ?_
    rintro e w' ⟨rfl, rfl⟩
    go_wp2
    go_ret
    exact ⟨rfl, (Kp.refl [] _)⟩
  · have hs : snc f k = -1 := by unfold snc; rw [if_neg hk]
    rw [hs]
    have hk2 : keyB k = false := by simpa using hk
    clear h hs hk
    go_enter Try.func31, Try.ntmps31
    go_wp2_with fail
    refine (key12 _ w).mono ?_
    rintro e w' ⟨rfl, rfl⟩
    rw [hk2]
    clear hk2
    go_wp2
    go_ret
    exact ⟨rfl, Kp.refl [] _⟩

set_option maxHeartbeats 400000 in
theorem sread33 {B sb n : Nat} {G : List Nat} {f : Nat → List Ver} (k y : Int) (w : World) (h : Sht B w sb G f n) :
    Calls Try.prog 29 #[.pointer (some ⟨sb, 0, none⟩), .int .i64 k, .int .i64 y] w fun e w' => e = .returned (.tuple #[.agg #[.bool (tr f n k y).t, .string (tr f n k y).s], .int .i64 (tr f n k y).a]) ∧ Kp [] w w' := by
  obtain ⟨g, o, cap, h⟩ := h
  by_cases hk : keyB k = true
  · by_cases hy : y ≤ n
    · have hs : tr f n k y = rd3 (f k.toNat) y := by unfold tr; rw [if_pos ⟨hk, hy⟩]
      obtain ⟨j, hj, rfl⟩ := keyB_nat hk
      rw [hs, Int.toNat_natCast]
      have hlt := (h.lo sb h.sG).2
      have q := h.kcell hj
      have q8 := h.ncell
      have HC := hide (h.sla j hj)
      have HI := hide h.inv
      have hl := h.inv.len41 hj
      clear h hs
      have i0 : (0 : Int) ≤ (j : Int) := by omega
      have i1 : (j : Int) < 8 := by omega
      go_enter Try.func29, Try.ntmps29
      go_wp2_with fail
      refine (key12 _ _).mono ?_
      rintro e w' ⟨rfl, rfl⟩
      rw [hk]
      clear hk
      go_wp2_with fail
      refine (lread10 (g j) (o j) (cap j) y _ ((unhide HC).kp ((Kp.refl [] w).alloc _) (by simp)) ((unhide HI).rise j hj) ((unhide HI).pos j hj) (by omega)).mono ?_
      rintro e w1 ⟨t, s, c, rfl, hrd, hkp⟩
      obtain ⟨rfl, rfl, rfl⟩ := rd3_of ((unhide HI).rise j hj) ((unhide HI).pos j hj) hrd
      have p0 : w1.cell? ⟨w.heap.size, 0, none⟩ = some (.bool false) := hkp.cell (by simp) (by simp)
      have p1 : w1.cell? ⟨w.heap.size, 1, none⟩ = some (.string ⟨#[]⟩) := hkp.cell (by simp) (by simp)
      have p2 : w1.frozen? ⟨w.heap.size, 0, none⟩ = false := by rw [hkp.frozen (by simp) (by simp)]; simp
      have p3 : w1.frozen? ⟨w.heap.size, 1, none⟩ = false := by rw [hkp.frozen (by simp) (by simp)]; simp
      have HK := hide hkp
      clear hrd hkp
      go_wp2
      refine bodyPost_ret (v := .tuple #[.agg #[.bool (rd3 (f j) y).t, .string (rd3 (f j) y).s], .int .i64 (rd3 (f j) y).a]) (by simp [results, Try.results29, go_sem, p0, p1]) rfl ⟨rfl, ?_⟩
      exact ((((Kp.refl [] w).alloc _).trans0 (unhide HK)).setCell (.inr (Nat.le_refl _)) _).setCell (.inr (Nat.le_refl _)) _
    · have hs : tr f n k y = ⟨1, false, ByteArray.empty⟩ := by unfold tr; rw [if_neg (fun h => hy h.2)]
      rw [hs]
      have q8 := h.ncell
      have hlt := (h.lo sb h.sG).2
      clear h hs
      go_enter Try.func29, Try.ntmps29
      go_wp2_with fail
      refine (key12 _ _).mono ?_
      rintro e w' ⟨rfl, rfl⟩
      rw [hk]
      clear hk
      go_wp2
      exact bodyPost_ret (v := .tuple #[.agg #[.bool false, .string ByteArray.empty], .int .i64 1]) (by simp [results, Try.results29, go_sem]; rfl) rfl ⟨rfl, ((Kp.refl [] w).alloc _)⟩
  · have hs : tr f n k y = ⟨1, false, ByteArray.empty⟩ := by unfold tr; rw [if_neg (fun h => hk h.1)]
    rw [hs]
    have hk2 : keyB k = false := by simpa using hk
    clear h hs hk
    go_enter Try.func29, Try.ntmps29
    go_wp2_with fail
    refine (key12 _ _).mono ?_
    rintro e w' ⟨rfl, rfl⟩
    rw [hk2]
    clear hk2
    go_wp2
    exact bodyPost_ret (v := .tuple #[.agg #[.bool false, .string ByteArray.empty], .int .i64 1]) (by simp [results, Try.results29, go_sem]; rfl) rfl ⟨rfl, ((Kp.refl [] w).alloc _)⟩

set_option maxHeartbeats 400000 in
theorem sfirst43 {B sb n : Nat} {G : List Nat} {f : Nat → List Ver} (w : World) (h : Sht B w sb G f n) :
    Calls Try.prog 19 #[.pointer (some ⟨sb, 0, none⟩)] w fun e w' => e = .returned (.int .i64 (fmx f 8)) ∧ w' = w := by
  obtain ⟨g, o, cap, h⟩ := h
  have H := hide h
  clear h
  go_enter Try.func19, Try.ntmps19
  go_wp2_with fail
  go_loop [3, 4] (fun x i => ∃ k : Nat, k ≤ 8 ∧ x = .int .i64 (fmx f k) ∧ i = .int .i64 k) (fun _ i => 8 - (intOf i).toNat)
  case atStart => exact ⟨0, by omega, rfl, rfl⟩
  case round =>
    obtain ⟨k, hk, rfl, rfl⟩ := hrel
    by_cases hlt : k < 8
    · have i0 : (0 : Int) ≤ (k : Int) := by omega
      have i1 : (k : Int) < 8 := by omega
      have q := (unhide H).kcell hlt
      have hp := (unhide H).inv.pos k hlt
      by_cases hx : fmx f k < va (f k) 0
      · have hs : fmx f (k + 1) = va (f k) 0 := by simp only [fmx]; rw [if_pos hx]
        have HS := hide hs
        have HX := hide hx
        clear hs hx
        go_wp2_with fail
        refine (lfirst18 (g k) (o k) (cap k) _ ((unhide H).sla k hlt) hp).mono ?_
        rintro e w' ⟨rfl, hw'⟩
        subst w'
        have hx := unhide HX
        go_wp2_with fail
        refine (lfirst18 (g k) (o k) (cap k) _ ((unhide H).sla k hlt) hp).mono ?_
        rintro e w' ⟨rfl, hw'⟩
        subst w'
        go_wp2_with fail
        exact ⟨⟨k + 1, by omega, by rw [unhide HS], by go_num⟩, by simp [intOf]; omega⟩
      · have hs : fmx f (k + 1) = fmx f k := by simp only [fmx]; rw [if_neg hx]
        have HS := hide hs
        have HX := hide hx
        clear hs hx
        go_wp2_with fail
        refine (lfirst18 (g k) (o k) (cap k) _ ((unhide H).sla k hlt) hp).mono ?_
        rintro e w' ⟨rfl, hw'⟩
        subst w'
        have hx := unhide HX
        go_wp2_with fail
        exact ⟨⟨k + 1, by omega, by rw [unhide HS], by go_num⟩, by simp [intOf]; omega⟩
    · have e : k = 8 := by omega
      subst e
      go_wp2
      go_ret
      exact ⟨rfl, rfl⟩

/-- The sheet at the head of a round of Clear, the first k lines cleared. -/
def SClI (B : Nat) (w : World) (sb : Nat) (G : List Nat) (f : Nat → List Ver) (n : Nat) (y : Int) (k : Nat) (wr : World) : Prop :=
  ∃ Gk, Sht B wr sb Gk (clm f y k) n ∧ Kp G w wr ∧ ∀ x, x ∈ Gk → x ∈ G ∨ w.heap.size ≤ x

theorem sclr_step {B sb n k : Nat} {w wr : World} {G : List Nat} {f : Nat → List Ver} {y : Int} (h : SClI B w sb G f n y k wr) (hi : Inv f n) (hk : k < 8) :
    Calls Try.prog 80 #[.pointer (some ⟨sb, k, none⟩), .int .i64 y] wr fun e w' => e = .returned (.int .i64 (cd (f k) y : Nat)) ∧ Hid (SClI B w sb G f n y (k + 1) w') := by
  obtain ⟨Gk, ⟨g, o, cap, ht⟩, hkp, hF⟩ := h
  have hl := ht.lin hk
  have hf : clm f y k k = f k := clm_at f y k
  rw [hf] at hl
  refine (lclearx27 y wr hl (hi.rise k hk) (by have := hi.len41 hk; omega)).mono ?_
  rintro e w' ⟨c, hcn, rfl, o', cap', h1, h3⟩
  have e1 := hcn.eqf (hi.rise k hk)
  subst e1
  refine ⟨rfl, ?_⟩
  have hinv := hi.clm y (k + 1) (by omega)
  rw [clm_succ] at hinv
  obtain ⟨z1, z2, z3⟩ := ht.step hk h1 (.inl rfl) h3 hinv
  refine ⟨_, ⟨_, _, _, by rw [clm_succ]; exact z1⟩, hkp.trans z2 hF, fun x hx => ?_⟩
  rcases z3 x hx with e | e
  · exact hF x e
  · right; have := hkp.size; omega

set_option maxHeartbeats 400000 in
theorem sclear57 {B sb n : Nat} {G : List Nat} {f : Nat → List Ver} (y : Int) (w : World) (h : Sht B w sb G f n) :
    Calls Try.prog 48 #[.pointer (some ⟨sb, 0, none⟩), .int .i64 y] w fun e w' => e = .returned (.int .i64 (cln f y 8 : Nat)) ∧ ∃ G', Sht B w' sb G' (clm f y 8) n ∧ Kp G w w' ∧ ∀ x, x ∈ G' → x ∈ G ∨ w.heap.size ≤ x := by
  have HI := hide (show Inv f n from by obtain ⟨_, _, _, h⟩ := h; exact h.inv)
  have H0 : Hid (SClI B w sb G f n y 0 w) := ⟨G, by rw [clm_zero]; exact h, Kp.refl _ _, fun x hx => .inl hx⟩
  clear h
  go_enter Try.func48, Try.ntmps48
  go_wp2_with fail
  go_loopw [5, 6] (fun x i wr => ∃ k : Nat, k ≤ 8 ∧ x = .int .i64 (cln f y k : Nat) ∧ i = .int .i64 k ∧ Hid (SClI B w sb G f n y k wr)) (fun _ i _ => 8 - (intOf i).toNat)
  case atStart => exact ⟨0, by omega, rfl, rfl, H0⟩
  case round =>
    obtain ⟨k, hk, rfl, rfl, HC⟩ := hrel
    by_cases hlt : k < 8
    · have i0 : (0 : Int) ≤ (k : Int) := by omega
      have i1 : (k : Int) < 8 := by omega
      have l1 := cln_le (unhide HI) y k hk
      have l2 := cln_le (unhide HI) y (k + 1) (by omega)
      have l3 : cln f y (k + 1) = cln f y k + cd (f k) y := rfl
      go_wp2_with fail
      refine (sclr_step (unhide HC) (unhide HI) hlt).mono ?_
      rintro e w' ⟨rfl, HC2⟩
      go_wp2_with fail
      exact ⟨⟨k + 1, by omega, by rw [l3]; go_num, by go_num, HC2⟩, by simp [intOf]; omega⟩
    · have e : k = 8 := by omega
      subst e
      go_wp2
      go_ret
      exact ⟨rfl, unhide HC⟩
end Go.Proofs.Ytehhpmfeaeabgac

/- NewSheet and Write of the document's own sheet, by their contracts. -/
namespace Go.Proofs.Ytehhpmfeaeabgac
open Go.RowKit
set_option maxRecDepth 20000
attribute [local go_sem ↓] Go.wp_at_zero Go.wp_at_succ

/-- A sheet under way: the first k lines are there. -/
structure SNewL (B : Nat) (w : World) (sb k : Nat) (wr : World) (g : Nat → Nat) : Prop where
  box : wr.heap[sb]? = some (.cells (tcells (fun j => if j < k then .slice (some ⟨g j, 0, none⟩) 1 1 else .slice none 0 0) 0) 52 (0, 0))
  sla : ∀ j, j < k → SlA wr (g j) 0 [dv]
  ab : ∀ j, j < k → sb < g j ∧ g j < wr.heap.size
  kp : Kp [] w wr
  hB : B = w.heap.size
  ht : B ≤ sb
def SNewI (B : Nat) (w : World) (sb k : Nat) (wr : World) : Prop := ∃ g, SNewL B w sb k wr g

theorem SNewL.kp0 {B : Nat} {w : World} {sb k : Nat} {wr wr' : World} {g : Nat → Nat} (h : SNewL B w sb k wr g) (hk : Kp [] wr wr') : SNewL B w sb k wr' g :=
  ⟨by rw [hk.block sb (lt_of_block h.box) (by simp)]; exact h.box, fun j hj => (h.sla j hj).kp hk (by simp), fun j hj => ⟨(h.ab j hj).1, Nat.lt_of_lt_of_le (h.ab j hj).2 hk.size⟩, h.kp.trans0 hk, h.hB, h.ht⟩

theorem snew_step {B sb k : Nat} {w wr : World} (W : World) (h : SNewI B w sb k wr) (hW : Kp [] wr W) (hk : k < 8) :
    Calls Try.prog 69 #[] W fun e w1 => ∃ g', e = .returned (.slice (some ⟨g', 0, none⟩) 1 1) ∧ w1.cell? ⟨sb, k, none⟩ = some (.slice none 0 0) ∧ w1.frozen? ⟨sb, k, none⟩ = false ∧
      Hid (SNewI B w sb (k + 1) (w1.setCell ⟨sb, k, none⟩ (.slice (some ⟨g', 0, none⟩) 1 1))) := by
  obtain ⟨g, h⟩ := h
  have h0 := h.kp0 hW
  refine (lnew25 W).mono ?_
  rintro e w1 ⟨rfl, hs, hkp⟩
  have h1 := h0.kp0 hkp
  have hlt := lt_of_block h0.box
  have hgl := hs.lt (by simp)
  have kS : Kp [sb] w1 (w1.setCell ⟨sb, k, none⟩ (.slice (some ⟨W.heap.size, 0, none⟩) 1 1)) := (Kp.refl [sb] w1).setCell (.inl (by simp)) _
  have hsz := kS.size
  refine ⟨_, rfl, cell_of_block h1.box (by rw [tcells_at _ _ hk]; simp), frozen_of_block _ h1.box, upd g k W.heap.size, ?_, fun j hj => ?_, fun j hj => ?_, ?_, h.hB, h.ht⟩
  · rw [heap_setCell_at k _ h1.box, tcells_set _ _ hk]
    congr 2
    refine tcells_congr _ (fun j _ => ?_)
    by_cases e : j = k
    · subst e; simp [upd]
    · rw [upd_other _ _ _ e, upd_other _ _ _ e]
      by_cases e2 : j < k
      · rw [if_pos e2, if_pos (by omega)]
      · rw [if_neg e2, if_neg (by omega)]
  · by_cases e : j = k
    · subst e
      rw [upd_same]
      exact hs.kp kS (by simp; omega)
    · rw [upd_other _ _ _ e]
      have := h.ab j (by omega)
      exact (h1.sla j (by omega)).kp kS (by simp; omega)
  · by_cases e : j = k
    · subst e; rw [upd_same]; omega
    · rw [upd_other _ _ _ e]
      have := h1.ab j (by omega)
      omega
  · have := h.ht
    have := h.hB
    exact h1.kp.setCell (.inr (by show w.heap.size ≤ sb; omega)) _

theorem snew_end {B sb : Nat} {w wr : World} (h : SNewI B w sb 8 wr) : ∃ G, Sht B wr sb G (fun _ => [dv]) 0 := by
  obtain ⟨g, h⟩ := h
  have hin : ∀ k, k < 8 → k ∈ List.range 8 := fun k hk => List.mem_range.2 hk
  refine ⟨sb :: (List.range 8).map g, g, fun _ => 0, fun _ => 1, ?_, h.sla, fun k hk => by simp, fun k hk => ?_, by simp, fun k hk => ?_, fun x hx => ?_, invD, by rw [h.hB]; exact h.kp.size⟩
  · rw [h.box]
    congr 2
  · have := h.ab k hk
    omega
  · exact List.mem_cons_of_mem _ (List.mem_map.2 ⟨k, hin k hk, rfl⟩)
  · have ht := h.ht
    rcases List.mem_cons.1 hx with e | e
    · subst e; exact ⟨h.ht, lt_of_block h.box⟩
    · obtain ⟨k, hk, rfl⟩ := List.mem_map.1 e
      have := h.ab k (List.mem_range.1 hk)
      omega

theorem snew_start (w : World) : SNewI w.heap.size w w.heap.size 0 (w.alloc (.cells #[.slice none 0 0, .slice none 0 0, .slice none 0 0, .slice none 0 0, .slice none 0 0, .slice none 0 0, .slice none 0 0, .slice none 0 0, .int .i64 0] 52)) := by
  refine ⟨fun _ => 0, ?_, fun j hj => by omega, fun j hj => by omega, (Kp.refl [] w).alloc _, rfl, Nat.le_refl _⟩
  have := heap_alloc_new w (.cells #[.slice none 0 0, .slice none 0 0, .slice none 0 0, .slice none 0 0, .slice none 0 0, .slice none 0 0, .slice none 0 0, .slice none 0 0, .int .i64 0] 52)
  rw [this]
  rfl

set_option maxHeartbeats 1000000 in
theorem snew55 (w : World) :
    Calls Try.prog 41 #[] w fun e w' => e = .returned (.pointer (some ⟨w.heap.size, 0, none⟩)) ∧ (∃ G, Sht w.heap.size w' w.heap.size G (fun _ => [dv]) 0) ∧ Kp [] w w' := by
  have H0 := hide (snew_start w)
  go_enter Try.func41, Try.ntmps41
  go_wp2_with fail
  generalize htb : w.heap.size = tb at *
  have HTB := hide htb
  clear htb
  go_loopw [2] (fun i wr => ∃ k : Nat, k ≤ 8 ∧ i = .int .i64 k ∧ Hid (SNewI tb w tb k wr)) (fun i _ => 8 - (intOf i).toNat)
  case atStart => exact ⟨0, by omega, rfl, H0⟩
  case round =>
    obtain ⟨k, hk, rfl, HN⟩ := hrel
    by_cases hlt : k < 8
    · have i0 : (0 : Int) ≤ (k : Int) := by omega
      have i1 : (k : Int) < 8 := by omega
      go_wp2_with fail
      go_region_with (go_at_call 69; refine (snew_step _ (unhide HN) (Kp.refl [] _).drew hlt).mono ?_; rintro e w1 ⟨b', rfl, y1, y2, HN2⟩)
      all_goals
        go_wp2_with fail
        exact ⟨⟨k + 1, by omega, by go_num, HN2⟩, by simp [intOf]; omega⟩
    · have e : k = 8 := by omega
      subst e
      go_wp2
      go_ret
      obtain ⟨g, hN⟩ := unhide HN
      rw [unhide HTB]
      exact ⟨rfl, snew_end (unhide HN), hN.kp⟩

/-- The sheet at the head of a round of Write, behind the first k pairs. -/
def SWrI (B : Nat) (w : World) (sb : Nat) (G : List Nat) (f : Nat → List Ver) (m : Nat) (ps : List Ver) (k : Nat) (wr : World) : Prop :=
  ∃ fk Gk, Sht B wr sb Gk fk m ∧ wrs fk m (ps.drop k) = wrs f m ps ∧ Kp G w wr ∧ ∀ x, x ∈ Gk → x ∈ G ∨ w.heap.size ≤ x

theorem swr_step {B sb m k j : Nat} {w wr W : World} {G Gk : List Nat} {f fk : Nat → List Ver} {ps : List Ver} (ht : Sht B wr sb Gk fk m) (he : wrs fk m (ps.drop k) = wrs f m ps)
    (hkp : Kp G w wr) (hF : ∀ x, x ∈ Gk → x ∈ G ∨ w.heap.size ≤ x) (hW : Kp [] wr W) (hk : k < ps.length) (hj : j < 8) (hv : va ps k = (j : Int)) (hs : (vb ps k).size ≤ maxLen) :
    Calls Try.prog 98 #[.pointer (some ⟨sb, j, none⟩), .int .i64 m, .agg #[.bool (vt ps k), .string (vb ps k)]] W fun e w2 => ∃ c, e = .returned (.int .i64 c) ∧ Hid (SWrI B w sb G f m ps (k + 1) w2) := by
  obtain ⟨g, o, cap, h0⟩ := ht.kp0 hW
  refine (lputx26 (m : Int) (vt ps k) (vb ps k) W (h0.lin hj) (by have := h0.inv.len41 hj; omega) hs h0.hB).mono ?_
  rintro e w2 ⟨rfl, g', o', cap', h1, h2, h3⟩
  obtain ⟨z1, z2, z3⟩ := h0.step hj h1 h2 h3 (h0.inv.put hj _ _)
  refine ⟨_, rfl, _, g' :: Gk, ⟨_, _, _, z1⟩, ?_, (hkp.trans0 hW).trans z2 hF, fun x hx => ?_⟩
  · rw [← he, wrs_at hk, hv, Int.toNat_natCast]
  · rcases z3 x hx with e | e
    · exact hF x e
    · right; have := (hkp.trans0 hW).size; omega

theorem ShtL.count {B : Nat} {w : World} {sb : Nat} {G : List Nat} {g o cap : Nat → Nat} {f : Nat → List Ver} {n : Nat} (h : ShtL B w sb G g o cap f n) (m : Nat) (hi : Inv f m) :
    ShtL B (w.setCell ⟨sb, 8, none⟩ (.int .i64 m)) sb G g o cap f m ∧ Kp G w (w.setCell ⟨sb, 8, none⟩ (.int .i64 m)) := by
  have hk : Kp [sb] w (w.setCell ⟨sb, 8, none⟩ (.int .i64 m)) := (Kp.refl [sb] w).setCell (.inl (by simp)) _
  refine ⟨⟨?_, fun k hk8 => ?_, h.cap, h.ne, h.sG, h.gG, fun x hx => ⟨(h.lo x hx).1, Nat.lt_of_lt_of_le (h.lo x hx).2 hk.size⟩, hi, Nat.le_trans h.hB hk.size⟩, hk.mono (by simp; exact .inl h.sG)⟩
  · rw [heap_setCell_at 8 _ h.box, tcells_setn]
  · exact (h.sla k hk8).kp hk (by simp; exact fun e => h.ne k hk8 e.symm)

set_option maxHeartbeats 2000000 in
theorem swrite56 {B sb n : Nat} {G : List Nat} {f : Nat → List Ver} (a : Option Addr) (c : Nat) (ps : List Ver) (w : World) (h : Sht B w sb G f n) (hp : Prs w a ps) (hpF : 0 < ps.length → ∀ g o, a = some ⟨g, o, none⟩ → g ∉ G) (hm : ps.length ≤ 1000) :
    Calls Try.prog 82 #[.pointer (some ⟨sb, 0, none⟩), .slice a ps.length c] w fun e w' => e = .returned (.tuple #[.int .i64 (wnum n ps), .int .i64 (wcode n ps)]) ∧
      ∃ G', Sht B w' sb G' (wst f n ps) (wn n ps) ∧ Kp G w w' ∧ ∀ x, x ∈ G' → x ∈ G ∨ w.heap.size ≤ x := by
  have HT := hide h
  have HP := hide hp
  have HPF := hide hpF
  clear h hp hpF
  by_cases hc : pf (-1) ps = 0
  · by_cases hn : 40 ≤ n
    · have e1 : wcode n ps = 9 := by unfold wcode; rw [if_pos hc, if_pos hn]
      have e2 : wn n ps = n := by unfold wn; rw [if_neg (by rw [e1]; decide)]
      have e3 : wnum n ps = 0 := by unfold wnum; rw [if_neg (by rw [e1]; decide)]
      have e4 : wst f n ps = f := by unfold wst; rw [if_neg (by rw [e1]; decide)]
      rw [e1, e2, e3, e4]
      clear e1 e2 e3 e4
      go_enter Try.func82, Try.ntmps82
      go_wp2_with fail
      refine (pfault37 a c ps w (unhide HP) hm).mono ?_
      rintro e w1 ⟨rfl, hk⟩
      rw [hc]
      clear hc
      obtain ⟨g, o, cap, ht⟩ := (unhide HT).kp0 hk
      have q8 := ht.ncell
      have HT1 := hide ht
      have HK := hide hk
      clear ht hk
      go_wp2_with fail
      go_ret2
      exact ⟨rfl, G, ⟨_, _, _, unhide HT1⟩, (unhide HK).mono (by simp), fun x hx => .inl hx⟩
    · have e1 : wcode n ps = 0 := by unfold wcode; rw [if_pos hc, if_neg hn]
      have e2 : wn n ps = n + 1 := by unfold wn; rw [if_pos e1]
      have e3 : wnum n ps = (n : Int) + 1 := by unfold wnum; rw [if_pos e1]
      have e4 : wst f n ps = wrs f ((n + 1 : Nat) : Int) ps := by unfold wst; rw [if_pos e1]; simp
      rw [e1, e2, e3, e4]
      clear e1 e2 e3 e4
      have hkeys := pf_keys hc
      go_enter Try.func82, Try.ntmps82
      go_wp2_with fail
      refine (pfault37 a c ps w (unhide HP) hm).mono ?_
      rintro e w1 ⟨rfl, hk⟩
      rw [hc]
      clear hc
      have HKEY := hide hkeys
      clear hkeys
      obtain ⟨g, o, cap, ht⟩ := (unhide HT).kp0 hk
      have q8 := ht.ncell
      have f8 : w1.frozen? ⟨sb, 8, none⟩ = false := frozen_of_block _ ht.box
      obtain ⟨y1, y2⟩ := ht.count (n + 1) (ht.inv.mono (Nat.le_succ n) (by omega))
      have HW0 : Hid (SWrI B w sb G f (n + 1) ps 0 (w1.setCell ⟨sb, 8, none⟩ (.int .i64 ((n + 1 : Nat) : Int)))) := ⟨f, G, ⟨_, _, _, y1⟩, by simp, (hk.mono (by simp)).trans y2 (fun x hx => .inl hx), fun x hx => .inl hx⟩
      clear ht hk y1 y2
      push_cast at HW0
      go_wp2_with fail
      clear q8 f8
      generalize w1.setCell { block := sb, off := 8 } (Value.int IntKind.i64 (↑n + 1)) = w2 at *
      go_loopw [7] (fun i wr => ∃ k : Nat, k ≤ ps.length ∧ i = .int .i64 k ∧ Hid (SWrI B w sb G f (n + 1) ps k wr)) (fun i _ => ps.length - (intOf i).toNat)
      case atStart => exact ⟨0, by omega, rfl, HW0⟩
      case round =>
        obtain ⟨k, hk, rfl, HW⟩ := hrel
        obtain ⟨fk, Gk, ⟨g, o, cap, ht⟩, he, hkp, hF⟩ := unhide HW
        have q8 := ht.ncell
        push_cast at q8
        by_cases hlt : k < ps.length
        · obtain ⟨pg, po, rfl, hs⟩ := (unhide HP).mem (by omega)
          have hs2 := hs.kp hkp ((unhide HPF) (by omega) pg po rfl)
          have p0 := hs2.at0 k hlt
          have p1 := hs2.at1 k hlt
          have p2 : wr.cell? ⟨pg, po + k * 3 + 1 + 1, none⟩ = some (.string (vb ps k)) := hs2.at2 k hlt
          have hsz := (unhide HP).str k hlt
          have hkk := (unhide HKEY) k hlt
          obtain ⟨j, hj, hv⟩ : ∃ j : Nat, j < 8 ∧ va ps k = (j : Int) := ⟨(va ps k).toNat, by omega, by omega⟩
          have htl := (ht.lo sb ht.sG).2
          rw [hv] at p0
          have i0 : (0 : Int) ≤ (k : Int) := by omega
          have i1 : (k : Int) < (ps.length : Int) := by omega
          have j0 : (0 : Int) ≤ (j : Int) := by omega
          have j1 : (j : Int) < 8 := by omega
          have HT2 : Hid (Sht B wr sb Gk fk (n + 1)) := ⟨_, _, _, ht⟩
          have HE := hide he
          have HK2 := hide hkp
          have HF := hide hF
          have HV := hide hv
          clear ht he hkp hF hs hs2 hv hkk
          go_wp2_with fail
          go_region_with (go_at_call 98; refine (swr_step (unhide HT2) (unhide HE) (unhide HK2) (unhide HF) (Kp.refl [] wr).drew hlt hj (unhide HV) hsz).mono ?_; rintro e w3 ⟨cc, rfl, HW3⟩)
          all_goals
            go_wp2_with fail
            exact ⟨⟨k + 1, by omega, by go_num, HW3⟩, by simp [intOf]; omega⟩
        · have HT2 := hide ht
          have HE := hide he
          have HK2 := hide hkp
          have HF := hide hF
          clear ht he hkp hF
          go_wp2_with fail
          go_ret2
          have he := unhide HE
          rw [List.drop_eq_nil_of_le (by omega)] at he
          refine ⟨rfl, Gk, ⟨g, o, cap, ?_⟩, unhide HK2, unhide HF⟩
          rw [← he]
          exact unhide HT2
  · have e1 : wcode n ps = pf (-1) ps := by unfold wcode; rw [if_neg hc]
    have e2 : wn n ps = n := by unfold wn; rw [if_neg (by rw [e1]; exact hc)]
    have e3 : wnum n ps = 0 := by unfold wnum; rw [if_neg (by rw [e1]; exact hc)]
    have e4 : wst f n ps = f := by unfold wst; rw [if_neg (by rw [e1]; exact hc)]
    rw [e1, e2, e3, e4]
    clear e1 e2 e3 e4
    generalize hq : pf (-1) ps = q at *
    have HQ := hide hq
    clear hq
    go_enter Try.func82, Try.ntmps82
    go_wp2_with fail
    refine (pfault37 a c ps w (unhide HP) hm).mono ?_
    rintro e w1 ⟨rfl, hk⟩
    rw [unhide HQ]
    have HT1 := hide ((unhide HT).kp0 hk)
    have HK := hide hk
    clear hk
    go_wp2_with fail
    go_ret2
    exact ⟨rfl, G, unhide HT1, (unhide HK).mono (by simp), fun x hx => .inl hx⟩
end Go.Proofs.Ytehhpmfeaeabgac

/- List of the document's own sheet, by its contract. -/
namespace Go.Proofs.Ytehhpmfeaeabgac
open Go.RowKit
set_option maxRecDepth 20000
attribute [local go_sem ↓] Go.wp_at_zero Go.wp_at_succ

end Go.Proofs.Ytehhpmfeaeabgac

/- The values of all keys, as an array by value: its cells, and that it equals itself. -/
namespace Go.Proofs.Ytehhpmfeaeabgac
open Go.RowKit
set_option maxRecDepth 20000

/-- The cells of all keys' values. -/
def wagg (v : Nat → Ver) : Array Value :=
  #[.bool (v 0).t, .string (v 0).s, .bool (v 1).t, .string (v 1).s, .bool (v 2).t, .string (v 2).s, .bool (v 3).t, .string (v 3).s, .bool (v 4).t, .string (v 4).s, .bool (v 5).t, .string (v 5).s, .bool (v 6).t, .string (v 6).s, .bool (v 7).t, .string (v 7).s]

theorem wagg_at0 (v : Nat → Ver) {k : Nat} (hk : k < 8) : (wagg v)[k * 2]? = some (.bool (v k).t) := by
  rcases lt8 hk with rfl | rfl | rfl | rfl | rfl | rfl | rfl | rfl <;> rfl
theorem wagg_at1 (v : Nat → Ver) {k : Nat} (hk : k < 8) : (wagg v)[k * 2 + 1]? = some (.string (v k).s) := by
  rcases lt8 hk with rfl | rfl | rfl | rfl | rfl | rfl | rfl | rfl <;> rfl
theorem wagg_set (v : Nat → Ver) {k : Nat} (hk : k < 8) (u : Ver) : ((wagg v).setIfInBounds (k * 2) (.bool u.t)).setIfInBounds (k * 2 + 1) (.string u.s) = wagg (upd v k u) := by
  rcases lt8 hk with rfl | rfl | rfl | rfl | rfl | rfl | rfl | rfl <;> rfl
theorem wagg_congr {v u : Nat → Ver} (h : ∀ k, k < 8 → (v k).t = (u k).t ∧ (v k).s = (u k).s) : wagg v = wagg u := by
  unfold wagg
  rw [(h 0 (by omega)).1, (h 0 (by omega)).2, (h 1 (by omega)).1, (h 1 (by omega)).2, (h 2 (by omega)).1, (h 2 (by omega)).2, (h 3 (by omega)).1, (h 3 (by omega)).2, (h 4 (by omega)).1, (h 4 (by omega)).2, (h 5 (by omega)).1, (h 5 (by omega)).2, (h 6 (by omega)).1, (h 6 (by omega)).2, (h 7 (by omega)).1, (h 7 (by omega)).2]
theorem wagg_one (v : Nat → Ver) : (wagg v).all (·.oneCell') = true := by
  simp [wagg, Value.oneCell']

theorem Try.info31 : (Try.prog.info? 31).map (fun i => (i.zero, i.size, i.bytes)) = some (some (.agg #[.bool false, .string ByteArray.empty]), 2, 24) := by kernel_rfl
theorem Try.size72 : (Try.prog.info? 72).map (·.size) = some 16 := by kernel_rfl
theorem Try.cel31 : Try.prog.cellsOf 31 = 2 := by kernel_rfl
theorem Try.held31 : Try.prog.stoodInHeld 31 = false := by kernel_rfl

theorem part24 (v : Nat → Ver) {k : Nat} (hk : k < 8) (w : World) : (part 31 (wagg v) (k * 2)).run Try.prog w = .ok (.agg #[.bool (v k).t, .string (v k).s]) w := by
  have h1 : (isAgg 31).run Try.prog w = .ok true w := by
    unfold isAgg
    rw [Sem.run_bind, run_underlying Try.underlying31 w]
    rfl
  have h3 : (wagg v).extract (k * 2) (k * 2 + 2) = #[.bool (v k).t, .string (v k).s] := by
    rcases lt8 hk with rfl | rfl | rfl | rfl | rfl | rfl | rfl | rfl <;> rfl
  unfold part
  simp [Sem.run_bind, h1, h3]

theorem eq24 (d : Nat) (t : Bool) (s : ByteArray) (w : World) : (Op.equalIn (d + 2) 31 (.agg #[.bool t, .string s]) (.agg #[.bool t, .string s])).run Try.prog w = .ok true w := by
  have hu : Try.prog.underlying 31 = some (.struct (Try.prog.fieldsOf 31)) := by simp [Program.fieldsOf, Try.underlying31]
  rw [run_equalIn_struct w (d + 1) 31 _ _ hu Try.held31]
  simp [Program.fieldsOf, Try.underlying31, Op.eqFields, go_sem, Try.underlying4, Try.underlying9]

theorem items24 (d : Nat) (v : Nat → Ver) : ∀ (is : List Nat) (w : World), (∀ i, i ∈ is → i < 8) → (Op.eqItems (d + 2) 31 2 (wagg v) (wagg v) is).run Try.prog w = .ok true w := by
  intro is
  induction is with
  | nil => intro w _; simp [Op.eqItems]
  | cons i is ih =>
    intro w h
    have hi := h i (by simp)
    simp only [Op.eqItems, Sem.run_bind, part24 v hi w, eq24, Result.andThen_ok]
    simpa using ih w (fun j hj => h j (by simp [hj]))

theorem eq66 (v : Nat → Ver) (w : World) : (Op.equalIn 10000 72 (.agg (wagg v)) (.agg (wagg v))).run Try.prog w = .ok true w := by
  obtain ⟨i0, hi0, hz0, hz1, hz2⟩ := info_parts Try.info31
  have h := run_equalIn_array (P := Try.prog) w 9999 (wagg v) (wagg v) Try.underlying72 hi0
  rw [Try.cel31] at h
  rw [show (10000 : Nat) = 9999 + 1 from rfl, h]
  exact items24 9997 v (List.range 8) w (fun i hi => List.mem_range.1 hi)

theorem wload {w : World} {p : Nat} {v : Nat → Ver} (h : w.heap[p]? = some (.cells (wagg v) 72 (0, 0))) : (loadVar 72 ⟨p, 0, none⟩).run Try.prog w = .ok (.agg (wagg v)) w :=
  run_loadVar_row w p 72 72 (wagg v) (0, 0) _ h Try.underlying72 rfl Try.size72
end Go.Proofs.Ytehhpmfeaeabgac

/- greatPairs and SamePairs, by their contracts. -/
namespace Go.Proofs.Ytehhpmfeaeabgac
open Go.RowKit
set_option maxRecDepth 20000
attribute [local go_sem ↓] Go.wp_at_zero Go.wp_at_succ

def GpEnd (ps : List Ver) (w : World) (e : Ending) (w' : World) : Prop := ∃ q : Bool, e = .returned (.bool q) ∧ (q = false → ps.length ≤ 50) ∧ w' = w
theorem gpEnd_mk {ps : List Ver} {w : World} (q : Bool) (h : q = false → ps.length ≤ 50) : GpEnd ps w (.returned (.bool q)) w := ⟨q, rfl, h, rfl⟩

/-- The pairs lie behind the slice's address. -/
def SlO (w : World) (a : Option Addr) (vs : List Ver) : Prop := 0 < vs.length → ∃ g o, a = some ⟨g, o, none⟩ ∧ SlA w g o vs
theorem SlO.kp0 {w w' : World} {a : Option Addr} {vs : List Ver} (h : SlO w a vs) (hk : Kp [] w w') : SlO w' a vs := fun hp => by
  obtain ⟨g, o, e, hs⟩ := h hp
  exact ⟨g, o, e, hs.kp hk (by simp)⟩
theorem slo_own {B n : Nat} {w : World} {a : Option Addr} {cap : Nat} {vs : List Ver} (h : w.ownsRow B 79 3 (.slice a n cap) n (vcells vs)) (hn : n = vs.length) : SlO w a vs := by
  intro hp
  rcases h.2 with ⟨e, _⟩ | ⟨g, c, cur, e, _⟩
  · simp only [Value.slice.injEq] at e; omega
  · simp only [Value.slice.injEq] at e
    obtain ⟨rfl, _, _⟩ := e
    refine ⟨g, 0, rfl, ?_⟩
    intro j u hu
    subst hn
    have := h.cellAt j (by rw [← vcells_length]; exact (List.getElem?_eq_some_iff.1 hu).1)
    rw [Nat.zero_add, this]; exact hu

set_option maxHeartbeats 400000 in
theorem same39 {vs : List Ver} (a a' : Option Addr) (cap cap' : Nat) (w : World) (h : SlO w a vs) (h' : SlO w a' vs) (hm : vs.length ≤ 1000) :
    Calls Try.prog 37 #[.slice a vs.length cap, .slice a' vs.length cap'] w fun e w' => e = .returned (.bool true) ∧ ∃ m, w' = w.drewN m := by
  have HS := hide h
  have HS' := hide h'
  clear h h'
  go_enter Try.func37, Try.ntmps37
  go_wp2_with fail
  go_loopw [5] (fun i wr => ∃ d m : Nat, d ≤ vs.length ∧ i = .int .i64 d ∧ wr = w.drewN m) (fun i _ => vs.length - (intOf i).toNat)
  case atStart => exact ⟨0, 0, Nat.zero_le _, rfl, rfl⟩
  case round =>
    obtain ⟨d, m, hd, rfl, rfl⟩ := hrel
    by_cases hlt : d < vs.length
    · obtain ⟨g, o, rfl, hs⟩ := unhide HS (by omega)
      obtain ⟨g', o', rfl, hs'⟩ := unhide HS' (by omega)
      have q0 := hs.at0 d hlt
      have q1 := hs.at1 d hlt
      have q2 : w.cell? ⟨g, o + d * 3 + 1 + 1, none⟩ = some (.string (vb vs d)) := hs.at2 d hlt
      have p0 := hs'.at0 d hlt
      have p1 := hs'.at1 d hlt
      have p2 : w.cell? ⟨g', o' + d * 3 + 1 + 1, none⟩ = some (.string (vb vs d)) := hs'.at2 d hlt
      have i0 : (0 : Int) ≤ (d : Int) := by omega
      have i1 : (d : Int) < (vs.length : Int) := by omega
      clear hs hs'
      go_wp2_with fail
      go_quiet (fail)
      go_wp2
      exact ⟨⟨d + 1, m + nq, by omega, by go_num, rfl⟩, by simp [intOf]; omega⟩
    · go_wp2
      go_ret
      exact ⟨rfl, _, rfl⟩

end Go.Proofs.Ytehhpmfeaeabgac

/- Steps that are handed in; greatPairs, greatTable and SamePairs, by their contracts. -/
namespace Go.Proofs.Ytehhpmfeaeabgac
open Go.RowKit
set_option maxRecDepth 20000
attribute [local go_sem ↓] Go.wp_at_zero Go.wp_at_succ

/-- A step: 0 Write of the pairs, 1 Clear of l. -/
structure TStep where
  d : Int
  l : Int
  a : Option Addr
  c : Nat
  ps : List Ver

/-- The steps lie in block b from o on, n of them, and behind each its pairs. -/
def StT (w : World) (b o n : Nat) (st : Nat → TStep) : Prop := ∀ i, i < n →
  w.cell? ⟨b, o + i * 3, none⟩ = some (.int .i64 (st i).d) ∧ w.cell? ⟨b, o + i * 3 + 1, none⟩ = some (.int .i64 (st i).l) ∧ w.cell? ⟨b, o + i * 3 + 2, none⟩ = some (.slice (st i).a (st i).ps.length (st i).c) ∧ Prs w (st i).a (st i).ps
def TSts (w : World) (a : Option Addr) (n : Nat) (st : Nat → TStep) : Prop := n ≤ maxLen ∧ (0 < n → ∃ b o, a = some ⟨b, o, none⟩ ∧ StT w b o n st)

theorem StT.kp0 {w w' : World} {b o n : Nat} {st : Nat → TStep} (h : StT w b o n st) (hk : Kp [] w w') : StT w' b o n st := by
  intro i hi
  obtain ⟨h1, h2, h3, h4⟩ := h i hi
  exact ⟨hk.cell (p := ⟨b, o + i * 3, none⟩) (by simp) h1, hk.cell (p := ⟨b, o + i * 3 + 1, none⟩) (by simp) h2, hk.cell (p := ⟨b, o + i * 3 + 2, none⟩) (by simp) h3, h4.kp0 hk⟩
theorem TSts.kp0 {w w' : World} {a : Option Addr} {n : Nat} {st : Nat → TStep} (h : TSts w a n st) (hk : Kp [] w w') : TSts w' a n st := by
  refine ⟨h.1, fun hp => ?_⟩
  obtain ⟨b, o, e, hs⟩ := h.2 hp
  exact ⟨b, o, e, hs.kp0 hk⟩

def GtEnd (n : Nat) (st : Nat → TStep) (w : World) (e : Ending) (w' : World) : Prop := ∃ q : Bool, e = .returned (.bool q) ∧ (q = false → n ≤ 80 ∧ ∀ i, i < n → (st i).ps.length ≤ 50) ∧ w' = w
theorem gtEnd_mk {n : Nat} {st : Nat → TStep} {w : World} (q : Bool) (h : q = false → n ≤ 80 ∧ ∀ i, i < n → (st i).ps.length ≤ 50) : GtEnd n st w (.returned (.bool q)) w := ⟨q, rfl, h, rfl⟩

end Go.Proofs.Ytehhpmfeaeabgac

/- tables: a table and a sheet, by steps, tell the same, step by step. -/
namespace Go.Proofs.Ytehhpmfeaeabgac
open Go.RowKit
set_option maxRecDepth 20000
attribute [local go_sem ↓] Go.wp_at_zero Go.wp_at_succ

theorem Sht.base {B C : Nat} {w : World} {sb : Nat} {G : List Nat} {f : Nat → List Ver} {n : Nat} (h : Sht B w sb G f n) (hC : C ≤ B) : Sht C w sb G f n := by
  obtain ⟨g, o, cap, h⟩ := h
  exact ⟨g, o, cap, h.box, h.sla, h.cap, h.ne, h.sG, h.gG, fun x hx => ⟨Nat.le_trans hC (h.lo x hx).1, (h.lo x hx).2⟩, h.inv, Nat.le_trans hC h.hB⟩

/-- A table and a sheet beside it that share no memory, both made since w0, all that was there as it was. -/
def Bth (w0 wr : World) (tb sb : Nat) (f g : Nat → List Ver) (n m : Nat) : Prop :=
  ∃ F G, Tbl w0.heap.size wr tb F f n ∧ Sht w0.heap.size wr sb G g m ∧ (∀ x, x ∈ F → x ∉ G) ∧ Kp [] w0 wr

theorem Bth.kp {w0 wr : World} {tb sb : Nat} {f g : Nat → List Ver} {n m : Nat} (h : Bth w0 wr tb sb f g n m) : Kp [] w0 wr := by
  obtain ⟨_, _, _, _, _, h⟩ := h
  exact h
theorem Bth.kp0 {w0 wr wr' : World} {tb sb : Nat} {f g : Nat → List Ver} {n m : Nat} (h : Bth w0 wr tb sb f g n m) (hk : Kp [] wr wr') : Bth w0 wr' tb sb f g n m := by
  obtain ⟨F, G, h1, h2, h3, h4⟩ := h
  exact ⟨F, G, h1.kp0 hk, h2.kp0 hk, h3, h4.trans0 hk⟩

theorem bth_start {w0 w1 w2 : World} {F G : List Nat} {tb sb : Nat} {f g : Nat → List Ver} {n m : Nat} (h1 : Tbl w0.heap.size w1 tb F f n) (k1 : Kp [] w0 w1) (h2 : Sht w1.heap.size w2 sb G g m) (k2 : Kp [] w1 w2) : Bth w0 w2 tb sb f g n m := by
  refine ⟨F, G, h1.kp0 k2, h2.base k1.size, fun x hx hg => ?_, k1.trans0 k2⟩
  have := (h1.lo x hx).2
  have := (h2.lo x hg).1
  omega

theorem bth_table {w0 wr w' : World} {tb sb : Nat} {F G F' : List Nat} {f' g : Nat → List Ver} {n' m : Nat} (hF : ∀ x, x ∈ F → w0.heap.size ≤ x) (h2 : Sht w0.heap.size wr sb G g m) (h3 : ∀ x, x ∈ F → x ∉ G) (h4 : Kp [] w0 wr)
    (k1 : Tbl w0.heap.size w' tb F' f' n') (k2 : Kp F wr w') (k3 : ∀ x, x ∈ F' → x ∈ F ∨ wr.heap.size ≤ x) : Bth w0 w' tb sb f' g n' m := by
  refine ⟨F', G, k1, h2.kp k2 (fun x hx hf => h3 x hf hx), fun x hx hg => ?_, h4.trans k2 (fun x hx => .inr (hF x hx))⟩
  rcases k3 x hx with e | e
  · exact h3 x e hg
  · have := (h2.lo x hg).2; omega
theorem bth_sheet {w0 wr w' : World} {tb sb : Nat} {F G G' : List Nat} {f g' : Nat → List Ver} {n m' : Nat} (hG : ∀ x, x ∈ G → w0.heap.size ≤ x) (h1 : Tbl w0.heap.size wr tb F f n) (h3 : ∀ x, x ∈ F → x ∉ G) (h4 : Kp [] w0 wr)
    (k1 : Sht w0.heap.size w' sb G' g' m') (k2 : Kp G wr w') (k3 : ∀ x, x ∈ G' → x ∈ G ∨ wr.heap.size ≤ x) : Bth w0 w' tb sb f g' n m' := by
  refine ⟨F, G', h1.kp k2 h3, k1, fun x hx hg => ?_, h4.trans k2 (fun x hx => .inr (hG x hx))⟩
  rcases k3 x hg with e | e
  · exact h3 x hx e
  · have := (h1.lo x hx).2; omega

theorem Prs.far {w0 : World} {a : Option Addr} {ps : List Ver} {F : List Nat} (h : Prs w0 a ps) (hF : ∀ x, x ∈ F → w0.heap.size ≤ x) : 0 < ps.length → ∀ g o, a = some ⟨g, o, none⟩ → g ∉ F := by
  intro hp g o e hg
  obtain ⟨g', o', e', hs⟩ := h.mem hp
  rw [e] at e'
  simp only [Option.some.injEq, Addr.mk.injEq, and_true] at e'
  have := hs.lt hp
  have := hF g hg
  omega

theorem bth_write {w0 wr : World} {tb sb : Nat} {f g : Nat → List Ver} {n m : Nat} (a : Option Addr) (c : Nat) (ps : List Ver) (h : Bth w0 wr tb sb f g n m) (hp : Prs w0 a ps) (hm : ps.length ≤ 1000) :
    Calls Try.prog 91 #[.pointer (some ⟨tb, 0, none⟩), .slice a ps.length c] wr fun e w' => e = .returned (.tuple #[.int .i64 (wnum n ps), .int .i64 (wcode n ps)]) ∧ Hid (Bth w0 w' tb sb (wst f n ps) g (wn n ps) m) := by
  obtain ⟨F, G, h1, h2, h3, h4⟩ := h
  have hF : ∀ x, x ∈ F → w0.heap.size ≤ x := fun x hx => (h1.lo x hx).1
  refine (twrite45 a c ps wr h1 (hp.kp0 h4) (hp.far hF) hm).mono ?_
  rintro e w' ⟨rfl, F', k1, k2, k3⟩
  exact ⟨rfl, bth_table hF h2 h3 h4 k1 k2 k3⟩
theorem bth_swrite {w0 wr : World} {tb sb : Nat} {f g : Nat → List Ver} {n m : Nat} (a : Option Addr) (c : Nat) (ps : List Ver) (h : Bth w0 wr tb sb f g n m) (hp : Prs w0 a ps) (hm : ps.length ≤ 1000) :
    Calls Try.prog 82 #[.pointer (some ⟨sb, 0, none⟩), .slice a ps.length c] wr fun e w' => e = .returned (.tuple #[.int .i64 (wnum m ps), .int .i64 (wcode m ps)]) ∧ Hid (Bth w0 w' tb sb f (wst g m ps) n (wn m ps)) := by
  obtain ⟨F, G, h1, h2, h3, h4⟩ := h
  have hG : ∀ x, x ∈ G → w0.heap.size ≤ x := fun x hx => (h2.lo x hx).1
  refine (swrite56 a c ps wr h2 (hp.kp0 h4) (hp.far hG) hm).mono ?_
  rintro e w' ⟨rfl, G', k1, k2, k3⟩
  exact ⟨rfl, bth_sheet hG h1 h3 h4 k1 k2 k3⟩
theorem bth_clear {w0 wr : World} {tb sb : Nat} {f g : Nat → List Ver} {n m : Nat} (y : Int) (h : Bth w0 wr tb sb f g n m) :
    Calls Try.prog 42 #[.pointer (some ⟨tb, 0, none⟩), .int .i64 y] wr fun e w' => e = .returned (.int .i64 (cln f y 8 : Nat)) ∧ Hid (Bth w0 w' tb sb (clm f y 8) g n m) := by
  obtain ⟨F, G, h1, h2, h3, h4⟩ := h
  have hF : ∀ x, x ∈ F → w0.heap.size ≤ x := fun x hx => (h1.lo x hx).1
  refine (tclear46 y wr h1).mono ?_
  rintro e w' ⟨rfl, F', k1, k2, k3⟩
  exact ⟨rfl, bth_table hF h2 h3 h4 k1 k2 k3⟩
theorem bth_sclear {w0 wr : World} {tb sb : Nat} {f g : Nat → List Ver} {n m : Nat} (y : Int) (h : Bth w0 wr tb sb f g n m) :
    Calls Try.prog 48 #[.pointer (some ⟨sb, 0, none⟩), .int .i64 y] wr fun e w' => e = .returned (.int .i64 (cln g y 8 : Nat)) ∧ Hid (Bth w0 w' tb sb f (clm g y 8) n m) := by
  obtain ⟨F, G, h1, h2, h3, h4⟩ := h
  have hG : ∀ x, x ∈ G → w0.heap.size ≤ x := fun x hx => (h2.lo x hx).1
  refine (sclear57 y wr h2).mono ?_
  rintro e w' ⟨rfl, G', k1, k2, k3⟩
  exact ⟨rfl, bth_sheet hG h1 h3 h4 k1 k2 k3⟩

theorem rclearT {w0 wr : World} {tb sb lb lo k n1 : Nat} {st : Nat → TStep} {f : Nat → List Ver} {n : Nat} (h : Bth w0 wr tb sb f f n n) (hs : StT w0 lb lo n1 st) (hk : k < n1) :
    Calls Try.prog 42 #[.pointer (some ⟨tb, 0, none⟩), .int .i64 (st k).l] wr fun e w' => e = .returned (.int .i64 (cln f (st k).l 8 : Nat)) ∧ w'.cell? ⟨lb, lo + k * 3 + 1, none⟩ = some (.int .i64 (st k).l) ∧ Hid (Bth w0 w' tb sb (clm f (st k).l 8) f n n) := by
  refine (bth_clear (st k).l h).mono ?_
  rintro e w' ⟨rfl, hb⟩
  exact ⟨rfl, ((hs.kp0 (unhide hb).kp) k hk).2.1, hb⟩
theorem rclearS {w0 wr : World} {tb sb lb lo k n1 : Nat} {st : Nat → TStep} {f : Nat → List Ver} {n : Nat} (h : Bth w0 wr tb sb (clm f (st k).l 8) f n n) (hs : StT w0 lb lo n1 st) (hk : k < n1) :
    Calls Try.prog 48 #[.pointer (some ⟨sb, 0, none⟩), .int .i64 (st k).l] wr fun e w' => e = .returned (.int .i64 (cln f (st k).l 8 : Nat)) ∧ w'.cell? ⟨lb, lo + k * 3 + 1, none⟩ = some (.int .i64 (st k).l) ∧ Hid (Bth w0 w' tb sb (clm f (st k).l 8) (clm f (st k).l 8) n n) := by
  refine (bth_sclear (st k).l h).mono ?_
  rintro e w' ⟨rfl, hb⟩
  exact ⟨rfl, ((hs.kp0 (unhide hb).kp) k hk).2.1, hb⟩

def TbEnd (w : World) (e : Ending) (w' : World) : Prop := ∃ tb sb f n, e = .returned (.tuple #[.pointer (some ⟨tb, 0, none⟩), .pointer (some ⟨sb, 0, none⟩), .bool true]) ∧ Hid (Bth w w' tb sb f f n n)

end Go.Proofs.Ytehhpmfeaeabgac

/- sheet: what all keys had behind a commit, by its contract. -/
namespace Go.Proofs.Ytehhpmfeaeabgac
open Go.RowKit
set_option maxRecDepth 20000
attribute [local go_sem ↓] Go.wp_at_zero Go.wp_at_succ

/-- What sheet has of the first k keys. -/
def shw (f : Nat → List Ver) (n : Nat) (y : Int) (k : Nat) : Nat → Ver := fun j => if j < k then tr f n j y else dv
/-- k: how many keys, from the first on, tell no code. -/
structure ShK (f : Nat → List Ver) (n : Nat) (y : Int) (k : Nat) : Prop where
  le : k ≤ 8
  lo : ∀ j : Nat, j < k → (tr f n j y).a = 0
  hi : k < 8 → (tr f n k y).a ≠ 0
theorem ShK.uniq {f : Nat → List Ver} {n : Nat} {y : Int} {k l : Nat} (h : ShK f n y k) (h' : ShK f n y l) : k = l := by
  rcases Nat.lt_trichotomy k l with e | e | e
  · exact absurd (h'.lo k e) (h.hi (by have := h'.le; omega))
  · exact e
  · exact absurd (h.lo l e) (h'.hi (by have := h.le; omega))
def ShEnd (f : Nat → List Ver) (n : Nat) (y : Int) (w : World) (e : Ending) (w' : World) : Prop :=
  ∃ k, ShK f n y k ∧ e = .returned (.tuple #[.agg (wagg (shw f n y k)), .bool (decide (k = 8))]) ∧ Kp [] w w'

/-- What stands at the head of a round of sheet. -/
structure ShI (f : Nat → List Ver) (n : Nat) (y : Int) (w : World) (p q k : Nat) (wr : World) : Prop where
  kp : Kp [] w wr
  res : wr.heap[p]? = some (.cells (wagg (fun _ => dv)) 72 (0, 0))
  var : wr.heap[q]? = some (.cells (wagg (shw f n y k)) 72 (0, 0))
  ne : p ≠ q
  hp : w.heap.size ≤ p
  hq : w.heap.size ≤ q
  lo : ∀ j : Nat, j < k → (tr f n j y).a = 0

theorem ShI.kp0 {f : Nat → List Ver} {n : Nat} {y : Int} {w : World} {p q k : Nat} {wr w1 : World} (h : ShI f n y w p q k wr) (hk : Kp [] wr w1) : ShI f n y w p q k w1 :=
  ⟨h.kp.trans0 hk, by rw [hk.block p (lt_of_block h.res) (by simp)]; exact h.res, by rw [hk.block q (lt_of_block h.var) (by simp)]; exact h.var, h.ne, h.hp, h.hq, h.lo⟩

theorem ShI.next {f : Nat → List Ver} {n : Nat} {y : Int} {w : World} {p q k : Nat} {wr : World} (h : ShI f n y w p q k wr) (hk : k < 8) (h0 : (tr f n k y).a = 0) :
    ShI f n y w p q (k + 1) ((wr.setCell ⟨q, k * 2, none⟩ (.bool (tr f n k y).t)).setCell ⟨q, k * 2 + 1, none⟩ (.string (tr f n k y).s)) := by
  have k1 : Kp [q] wr ((wr.setCell ⟨q, k * 2, none⟩ (.bool (tr f n k y).t)).setCell ⟨q, k * 2 + 1, none⟩ (.string (tr f n k y).s)) := ((Kp.refl [q] wr).setCell (.inl (by simp)) _).setCell (.inl (by simp)) _
  refine ⟨h.kp.trans k1 (fun x hx => .inr (by have : x = q := by simpa using hx
                                              rw [this]; exact h.hq)), ?_, ?_, h.ne, h.hp, h.hq, fun j hj => ?_⟩
  · rw [k1.block p (lt_of_block h.res) (by simp; exact h.ne)]; exact h.res
  · rw [heap_setCell_at _ _ (heap_setCell_at _ _ h.var), wagg_set _ hk]
    congr 2
    refine wagg_congr (fun j hj => ?_)
    by_cases e : j = k
    · subst e; rw [upd_same]; simp [shw]
    · rw [upd_other _ _ _ e]
      unfold shw
      by_cases e2 : j < k
      · rw [if_pos e2, if_pos (by omega)]; exact ⟨rfl, rfl⟩
      · rw [if_neg e2, if_neg (by omega)]; exact ⟨rfl, rfl⟩
  · rcases Nat.lt_or_ge j k with e | e
    · exact h.lo j e
    · have : j = k := by omega
      rw [this]; exact h0

theorem setRow_kp {w : World} {p : Nat} {old cs : Array Value} {t : TypeId} (h : w.heap[p]? = some (.cells old t (0, 0))) : (w.setRow p cs).heap[p]? = some (.cells cs t (0, 0)) ∧ Kp [p] w (w.setRow p cs) := by
  refine ⟨setRow_heap w p old cs t (0, 0) h, rfl, rfl, rfl, by simp [World.setRow], fun k hk hn => ?_⟩
  have hne : p ≠ k := fun e => hn (by simp [e])
  simp only [World.setRow, Array.getElem?_modify]
  rw [if_neg hne]

theorem sh_start (f : Nat → List Ver) (n : Nat) (y : Int) (w : World) : ShI f n y w w.heap.size (w.heap.size + 1) 0 ((w.alloc (.cells (wagg (fun _ => dv)) 72)).alloc (.cells (wagg (fun _ => dv)) 72)) := by
  have h1 := heap_alloc_new w (.cells (wagg (fun _ => dv)) 72)
  have h2 := heap_alloc_new (w.alloc (.cells (wagg (fun _ => dv)) 72)) (.cells (wagg (fun _ => dv)) 72)
  refine ⟨((Kp.refl [] w).alloc _).alloc _, ?_, ?_, by omega, by omega, by omega, fun j hj => by omega⟩
  · rw [heap_alloc_old _ _ (by simp)]; exact h1
  · have e : shw f n y 0 = fun _ => dv := by funext j; simp [shw]
    rw [e]
    simpa using h2

set_option maxHeartbeats 2000000 in
theorem sheet44 {B tb n : Nat} {F : List Nat} {f : Nat → List Ver} (y : Int) (w : World) (h : Tbl B w tb F f n) :
    Calls Try.prog 34 #[.pointer (some ⟨tb, 0, none⟩), .int .i64 y] w fun e w' => ShEnd f n y w e w' := by
  have HT := hide h
  have H0 := hide (sh_start f n y w)
  clear h
  go_enter Try.func34, Try.ntmps34
  go_wp2_with fail
  generalize hp : w.heap.size = p at *
  have HP := hide hp
  clear hp
  generalize p + 1 = q at *
  go_loopw [7] (fun i wr => ∃ k : Nat, k ≤ 8 ∧ i = .int .i64 k ∧ Hid (ShI f n y w p q k wr)) (fun i _ => 8 - (intOf i).toNat)
  case atStart => exact ⟨0, by omega, rfl, H0⟩
  case round =>
    obtain ⟨k, hk, rfl, HI⟩ := hrel
    by_cases hlt : k < 8
    · have i0 : (0 : Int) ≤ (k : Int) := by omega
      have i1 : (k : Int) < 8 := by omega
      go_wp2_with fail
      refine (tread32 k y _ ((unhide HT).kp0 (unhide HI).kp)).mono ?_
      rintro e w1 ⟨rfl, hk1⟩
      have HI1 := hide ((unhide HI).kp0 (hk1.alloc (.cells #[.bool (tr f n k y).t, .string (tr f n k y).s] 31)))
      have hq := lt_of_block ((unhide HI).kp0 hk1).var
      have hqn : q ≠ w1.heap.size := by omega
      clear hk1 hq
      by_cases h0 : (tr f n k y).a = 0
      · have HI2 := hide ((unhide HI1).next hlt h0)
        rw [h0]
        clear h0
        have c0 := cell_of_block (unhide HI1).var (wagg_at0 _ hlt)
        have c1 := cell_of_block (unhide HI1).var (wagg_at1 _ hlt)
        have f0 := frozen_of_block (k * 2) (unhide HI1).var
        have f1 := frozen_of_block (k * 2 + 1) (unhide HI1).var
        go_wp2_with fail
        exact ⟨⟨k + 1, by omega, by go_num, HI2⟩, by simp [intOf]; omega⟩
      · have HN := hide h0
        generalize hcode : (tr f n k y).a = code at *
        go_wp2_with (first | (refine wpList_load_row rfl 72 _ rfl q rfl 72 _ (0, 0) _ (unhide HI1).var Try.underlying72 rfl Try.size72 ?_) | (refine wpList_store_row rfl 72 _ _ rfl p (wagg (shw f n y k)) rfl rfl 72 _ (unhide HI1).res Try.size72 rfl (wagg_one _) ?_))
        obtain ⟨z1, z2⟩ := setRow_kp (cs := wagg (shw f n y k)) (unhide HI1).res
        have hld := wload z1
        have e8 : decide (k = 8) = false := decide_eq_false (by omega)
        refine bodyPost_ret (v := .tuple #[.agg (wagg (shw f n y k)), .bool (decide (k = 8))]) (by rw [results_cell_tmp Try.results34]; simp [asAddr, Result.andThen, hld, e8]) rfl ⟨k, ⟨hk, (unhide HI1).lo, fun _ => by rw [hcode]; exact h0⟩, rfl, ?_⟩
        exact (unhide HI1).kp.trans z2 (fun x hx => .inr (by have : x = p := by simpa using hx
                                                             rw [this]; exact (unhide HI1).hp))
    · have e8 : k = 8 := by omega
      subst e8
      go_wp2_with (first | (refine wpList_load_row rfl 72 _ rfl q rfl 72 _ (0, 0) _ (unhide HI).var Try.underlying72 rfl Try.size72 ?_) | (refine wpList_store_row rfl 72 _ _ rfl p (wagg (shw f n y 8)) rfl rfl 72 _ (unhide HI).res Try.size72 rfl (wagg_one _) ?_))
      obtain ⟨z1, z2⟩ := setRow_kp (cs := wagg (shw f n y 8)) (unhide HI).res
      have hld := wload z1
      refine bodyPost_ret (v := .tuple #[.agg (wagg (shw f n y 8)), .bool (decide (8 = 8))]) (by rw [results_cell_tmp Try.results34]; simp [asAddr, Result.andThen, hld]) rfl ⟨8, ⟨hk, (unhide HI).lo, fun h => by omega⟩, rfl, ?_⟩
      exact (unhide HI).kp.trans z2 (fun x hx => .inr (by have : x = p := by simpa using hx
                                                          rw [this]; exact (unhide HI).hp))
end Go.Proofs.Ytehhpmfeaeabgac

/- A table since w0, and blocks beside it that are not its own; each call with what it keeps of them. -/
namespace Go.Proofs.Ytehhpmfeaeabgac
open Go.RowKit
set_option maxRecDepth 20000

/-- A table that was made since w0, all that was there as it was; the blocks of X are later ones, and none of its own. -/
def Tbx (w0 w : World) (tb : Nat) (f : Nat → List Ver) (n : Nat) (X : List Nat) : Prop :=
  ∃ F, Tbl w0.heap.size w tb F f n ∧ Kp [] w0 w ∧ ∀ x, x ∈ X → x ∉ F ∧ w0.heap.size ≤ x ∧ x < w.heap.size
/-- The blocks of X are as they were. -/
def SameX (X : List Nat) (w w' : World) : Prop := ∀ x, x ∈ X → w'.heap[x]? = w.heap[x]?

section
variable {w0 w w' : World} {tb : Nat} {f : Nat → List Ver} {n : Nat} {X : List Nat}
theorem Tbx.kp (h : Tbx w0 w tb f n X) : Kp [] w0 w := by
  obtain ⟨_, _, h, _⟩ := h
  exact h
theorem Tbx.inv (h : Tbx w0 w tb f n X) : Inv f n := by
  obtain ⟨_, h, _, _⟩ := h
  exact h.inv
theorem Tbx.lo (h : Tbx w0 w tb f n X) : ∀ x, x ∈ X → w0.heap.size ≤ x ∧ x < w.heap.size := by
  obtain ⟨F, h1, h2, h3⟩ := h
  exact fun x hx => (h3 x hx).2
theorem Tbx.kp0 (h : Tbx w0 w tb f n X) (hk : Kp [] w w') : Tbx w0 w' tb f n X := by
  obtain ⟨F, h1, h2, h3⟩ := h
  exact ⟨F, h1.kp0 hk, h2.trans0 hk, fun x hx => ⟨(h3 x hx).1, (h3 x hx).2.1, Nat.lt_of_lt_of_le (h3 x hx).2.2 hk.size⟩⟩
theorem Tbx.sub {Y : List Nat} (h : Tbx w0 w tb f n X) (hY : ∀ x, x ∈ Y → x ∈ X) : Tbx w0 w tb f n Y := by
  obtain ⟨F, h1, h2, h3⟩ := h
  exact ⟨F, h1, h2, fun x hx => h3 x (hY x hx)⟩
theorem Tbx.fresh (h : Tbx w0 w tb f n X) (hk : Kp [] w w') {b : Nat} (hb : w.heap.size ≤ b) (hb' : b < w'.heap.size) : Tbx w0 w' tb f n (b :: X) := by
  obtain ⟨F, h1, h2, h3⟩ := h
  refine ⟨F, h1.kp0 hk, h2.trans0 hk, fun x hx => ?_⟩
  rcases List.mem_cons.1 hx with e | e
  · subst e
    refine ⟨fun hF => ?_, Nat.le_trans h2.size hb, hb'⟩
    have := (h1.lo x hF).2
    omega
  · exact ⟨(h3 x e).1, (h3 x e).2.1, Nat.lt_of_lt_of_le (h3 x e).2.2 hk.size⟩
theorem Tbx.alloc (h : Tbx w0 w tb f n X) (o : Obj) : Tbx w0 (w.alloc o) tb f n (w.heap.size :: X) := h.fresh ((Kp.refl [] w).alloc o) (Nat.le_refl _) (by simp)
theorem Tbx.set (h : Tbx w0 w tb f n X) {S : List Nat} (hk : Kp S w w') (hS : ∀ x, x ∈ S → x ∈ X) : Tbx w0 w' tb f n X := by
  obtain ⟨F, h1, h2, h3⟩ := h
  exact ⟨F, h1.kp hk (fun x hx hs => (h3 x (hS x hs)).1 hx), h2.trans hk (fun x hx => .inr (h3 x (hS x hx)).2.1), fun x hx => ⟨(h3 x hx).1, (h3 x hx).2.1, Nat.lt_of_lt_of_le (h3 x hx).2.2 hk.size⟩⟩
theorem SameX.of_kp (h : Tbx w0 w tb f n X) (hk : Kp [] w w') : SameX X w w' := fun x hx => hk.block x (h.lo x hx).2 (by simp)
theorem tbx_turn {F F' : List Nat} {f' : Nat → List Ver} {n' : Nat} (h1 : Tbl w0.heap.size w tb F f n) (h2 : Kp [] w0 w) (h3 : ∀ x, x ∈ X → x ∉ F ∧ w0.heap.size ≤ x ∧ x < w.heap.size)
    (k1 : Tbl w0.heap.size w' tb F' f' n') (k2 : Kp F w w') (k3 : ∀ x, x ∈ F' → x ∈ F ∨ w.heap.size ≤ x) : Tbx w0 w' tb f' n' X ∧ SameX X w w' := by
  refine ⟨⟨F', k1, h2.trans k2 (fun x hx => .inr (h1.lo x hx).1), fun x hx => ⟨fun hf => ?_, (h3 x hx).2.1, Nat.lt_of_lt_of_le (h3 x hx).2.2 k2.size⟩⟩, fun x hx => k2.block x (h3 x hx).2.2 (h3 x hx).1⟩
  rcases k3 x hf with e | e
  · exact (h3 x hx).1 e
  · have := (h3 x hx).2.2; omega
end
theorem Bth.tbx {w0 wr : World} {tb sb : Nat} {f g : Nat → List Ver} {n m : Nat} (h : Bth w0 wr tb sb f g n m) : Tbx w0 wr tb f n [] := by
  obtain ⟨F, G, h1, h2, h3, h4⟩ := h
  exact ⟨F, h1, h4, fun x hx => by simp at hx⟩

theorem tbx_new (w0 w : World) (h : Kp [] w0 w) : Calls Try.prog 67 #[] w fun e w' => ∃ tb, e = .returned (.pointer (some ⟨tb, 0, none⟩)) ∧ Hid (Tbx w0 w' tb (fun _ => [dv]) 0 []) := by
  refine (tnew47 w).mono ?_
  rintro e w' ⟨rfl, ⟨F, b, g, cap, ht⟩, hk⟩
  have hs := h.size
  refine ⟨_, rfl, F, ⟨b, g, cap, ht.box, fun k hk8 => ?_, ht.bb, ht.gg, ht.bg, ht.tne, ht.tF, ht.bF, ht.gF, fun x hx => ⟨Nat.le_trans hs (ht.lo x hx).1, (ht.lo x hx).2⟩, ht.inv, Nat.le_trans hs ht.hB⟩, h.trans0 hk, fun x hx => by simp at hx⟩
  have hc := ht.chn k hk8
  exact ⟨own_base hc.own hs, hc.box, hc.ne, Nat.le_trans hs hc.hb, hc.pos⟩

section
variable {w0 w : World} {tb : Nat} {f : Nat → List Ver} {n : Nat} {X : List Nat}
theorem tbx_write (a : Option Addr) (c : Nat) (ps : List Ver) (h : Tbx w0 w tb f n X) (hp : Prs w a ps) (hm : ps.length ≤ 1000) (hf : 0 < ps.length → ∀ g o, a = some ⟨g, o, none⟩ → g < w0.heap.size ∨ g ∈ X) :
    Calls Try.prog 91 #[.pointer (some ⟨tb, 0, none⟩), .slice a ps.length c] w fun e w' => e = .returned (.tuple #[.int .i64 (wnum n ps), .int .i64 (wcode n ps)]) ∧ Hid (Tbx w0 w' tb (wst f n ps) (wn n ps) X) ∧ Hid (SameX X w w') := by
  obtain ⟨F, h1, h2, h3⟩ := h
  refine (twrite45 a c ps w h1 hp (fun hp0 g o e hg => ?_) hm).mono ?_
  · rcases hf hp0 g o e with q | q
    · have := (h1.lo g hg).1; omega
    · exact (h3 g q).1 hg
  · rintro e w' ⟨rfl, F', k1, k2, k3⟩
    exact ⟨rfl, tbx_turn h1 h2 h3 k1 k2 k3⟩
theorem tbx_clear (y : Int) (h : Tbx w0 w tb f n X) :
    Calls Try.prog 42 #[.pointer (some ⟨tb, 0, none⟩), .int .i64 y] w fun e w' => e = .returned (.int .i64 (cln f y 8 : Nat)) ∧ Hid (Tbx w0 w' tb (clm f y 8) n X) ∧ Hid (SameX X w w') := by
  obtain ⟨F, h1, h2, h3⟩ := h
  refine (tclear46 y w h1).mono ?_
  rintro e w' ⟨rfl, F', k1, k2, k3⟩
  exact ⟨rfl, tbx_turn h1 h2 h3 k1 k2 k3⟩
theorem tbx_read (k y : Int) (h : Tbx w0 w tb f n X) (v : Ver) (hv : tr f n k y = v) :
    Calls Try.prog 28 #[.pointer (some ⟨tb, 0, none⟩), .int .i64 k, .int .i64 y] w fun e w' => e = .returned (.tuple #[.agg #[.bool v.t, .string v.s], .int .i64 v.a]) ∧ Hid (Tbx w0 w' tb f n X) ∧ Hid (Kp [] w w') := by
  obtain ⟨F, h1, h2⟩ := h
  refine (tread32 k y w h1).mono ?_
  rintro e w' ⟨rfl, hk⟩
  exact ⟨by rw [hv], Tbx.kp0 ⟨F, h1, h2⟩ hk, hk⟩
theorem tbx_since (k : Int) (h : Tbx w0 w tb f n X) (v : Int) (hv : snc f k = v) :
    Calls Try.prog 30 #[.pointer (some ⟨tb, 0, none⟩), .int .i64 k] w fun e w' => e = .returned (.int .i64 v) ∧ Hid (Tbx w0 w' tb f n X) ∧ Hid (Kp [] w w') := by
  obtain ⟨F, h1, h2⟩ := h
  refine (tsince40 k w h1).mono ?_
  rintro e w' ⟨rfl, hk⟩
  exact ⟨by rw [hv], Tbx.kp0 ⟨F, h1, h2⟩ hk, hk⟩
theorem tbx_last (h : Tbx w0 w tb f n X) : Calls Try.prog 17 #[.pointer (some ⟨tb, 0, none⟩)] w fun e w' => e = .returned (.int .i64 n) ∧ w' = w := by
  obtain ⟨F, h1, h2⟩ := h
  exact tlast38 w h1
theorem tbx_first (h : Tbx w0 w tb f n X) (v : Int) (hv : fmx f 8 = v) : Calls Try.prog 18 #[.pointer (some ⟨tb, 0, none⟩)] w fun e w' => e = .returned (.int .i64 v) ∧ w' = w := by
  obtain ⟨F, h1, h2⟩ := h
  subst hv
  exact tfirst42 w h1
theorem tbx_sheet (y : Int) (h : Tbx w0 w tb f n X) :
    Calls Try.prog 34 #[.pointer (some ⟨tb, 0, none⟩), .int .i64 y] w fun e w' => ∃ k, Hid (ShK f n y k) ∧ e = .returned (.tuple #[.agg (wagg (shw f n y k)), .bool (decide (k = 8))]) ∧ Hid (Tbx w0 w' tb f n X) ∧ Hid (Kp [] w w') := by
  obtain ⟨F, h1, h2⟩ := h
  refine (sheet44 y w h1).mono ?_
  rintro e w' ⟨k, hk, rfl, hkp⟩
  exact ⟨k, hk, rfl, Tbx.kp0 ⟨F, h1, h2⟩ hkp, hkp⟩
end

theorem prs_one {w : World} {b : Nat} (k : Int) (t : Bool) (s : ByteArray) (hs : s.size ≤ maxLen) (h : w.heap[b]? = some (.cells #[.int .i64 k, .bool t, .string s] 79 (0, 0))) : Prs w (some ⟨b, 0, none⟩) [⟨k, t, s⟩] := by
  refine ⟨by simp [maxLen], fun j hj => ?_, fun _ => ⟨b, 0, rfl, fun j u hu => ?_⟩⟩
  · have : j = 0 := by simp at hj; omega
    subst this; exact hs
  · rw [Nat.zero_add]
    refine cell_of_block h ?_
    have e : (#[Value.int IntKind.i64 k, Value.bool t, Value.string s] : Array Value)[j]? = [Value.int IntKind.i64 k, Value.bool t, Value.string s][j]? := by simp
    exact e.trans hu

theorem tbx_write_lit {w0 W : World} {tb : Nat} {f : Nat → List Ver} {n : Nat} {X : List Nat} (k : Int) (t : Bool) (s : ByteArray) (hs : s.size ≤ maxLen) (h : Tbx w0 W tb f n X) :
    Calls Try.prog 91 #[.pointer (some ⟨tb, 0, none⟩), .slice (some ⟨W.heap.size, 0, none⟩) 1 1] (W.alloc (.cells #[.int .i64 k, .bool t, .string s] 79)) fun e w' =>
      e = .returned (.tuple #[.int .i64 (wnum n [⟨k, t, s⟩]), .int .i64 (wcode n [⟨k, t, s⟩])]) ∧ Hid (Tbx w0 w' tb (wst f n [⟨k, t, s⟩]) (wn n [⟨k, t, s⟩]) X) := by
  refine (tbx_write (some ⟨W.heap.size, 0, none⟩) 1 [⟨k, t, s⟩] (h.alloc (.cells #[.int .i64 k, .bool t, .string s] 79)) (prs_one k t s hs (heap_alloc_new _ _)) (by simp) (fun _ g o e => ?_)).mono ?_
  · right
    simp only [Option.some.injEq, Addr.mk.injEq, and_true] at e
    simp [e.1]
  · rintro e w' ⟨rfl, h1, _⟩
    exact ⟨rfl, (unhide h1).sub (fun x hx => by simp [hx])⟩
end Go.Proofs.Ytehhpmfeaeabgac

/- What a commit makes of the versions of all keys, key by key. -/
namespace Go.Proofs.Ytehhpmfeaeabgac

def fnd (ps : List Ver) (k : Nat) : Option Ver := ps.find? (fun p => p.a == (k : Int))

theorem pf_consX {a : Int} {p : Ver} {r : List Ver} (h : pf a (p :: r) = 0) : 0 ≤ p.a ∧ p.a < 8 ∧ a < p.a ∧ chk p.t p.s = 0 ∧ pf p.a r = 0 := by
  unfold pf at h
  split at h
  · simp at h
  · rename_i hk
    split at h
    · simp at h
    · split at h
      · simp [keyB] at hk
        exact ⟨by omega, by omega, by omega, by assumption, h⟩
      · rename_i h1; exact absurd h h1
theorem pf_gt {a : Int} {ps : List Ver} (h : pf a ps = 0) : ∀ q, q ∈ ps → a < q.a := by
  induction ps generalizing a with
  | nil => intro q hq; simp at hq
  | cons p r ih =>
    obtain ⟨h1, h2, h3, h4, h5⟩ := pf_consX h
    intro q hq
    rcases List.mem_cons.1 hq with e | e
    · subst e; exact h3
    · have := ih h5 q e; omega
theorem pvers_put {vs : List Ver} {x : Int} {t : Bool} {s : ByteArray} (hc : chk t s = 0) (hl : va vs (vs.length - 1) < x) : pvers vs x t s = vs ++ [⟨x, t, s⟩] := by
  have : pcode vs x t s = 0 := by unfold pcode; rw [if_pos hc, if_neg (by omega)]
  unfold pvers; rw [if_pos this]

theorem wrs_get {a x : Int} {ps : List Ver} {f : Nat → List Ver} (h : pf a ps = 0) (hl : ∀ j : Nat, a < j → j < 8 → va (f j) ((f j).length - 1) < x) (k : Nat) :
    wrs f x ps k = match fnd ps k with | none => f k | some p => f k ++ [⟨x, p.t, p.s⟩] := by
  induction ps generalizing a f with
  | nil => rfl
  | cons p r ih =>
    obtain ⟨h1, h2, h3, h4, h5⟩ := pf_consX h
    show wrs (wr1 f x p) x r k = _
    have hput : pvers (f p.a.toNat) x p.t p.s = f p.a.toNat ++ [⟨x, p.t, p.s⟩] := pvers_put h4 (hl p.a.toNat (by omega) (by omega))
    have ih1 := ih (f := wr1 f x p) h5 (fun j hj hj8 => by
      unfold wr1
      rw [upd_other _ _ _ (show j ≠ p.a.toNat by omega)]
      exact hl j (by omega) hj8)
    rw [ih1]
    by_cases e : p.a = (k : Int)
    · have hn : fnd r k = none := by
        unfold fnd
        rw [List.find?_eq_none]
        intro q hq
        have := pf_gt h5 q hq
        simp
        omega
      have hs : fnd (p :: r) k = some p := by simp [fnd, e]
      have hk : p.a.toNat = k := by omega
      rw [hn, hs]
      show wr1 f x p k = _
      unfold wr1
      rw [hk, upd_same, ← hk]
      rw [hput]
    · have hs : fnd (p :: r) k = fnd r k := by simp [fnd, e]
      have hk : k ≠ p.a.toNat := by omega
      have hw : wr1 f x p k = f k := by unfold wr1; rw [upd_other _ _ _ hk]
      rw [hs, hw]

theorem wst_get {f : Nat → List Ver} {n : Nat} {ps : List Ver} (hi : Inv f n) (hc : wcode n ps = 0) {k : Nat} : wst f n ps k = match fnd ps k with | none => f k | some p => f k ++ [⟨(n : Int) + 1, p.t, p.s⟩] := by
  unfold wst
  rw [if_pos hc]
  exact wrs_get (wcode_zero hc).1 (fun j _ hj8 => by have := hi.hi j hj8; omega) k

theorem wst_not {f : Nat → List Ver} {n : Nat} {ps : List Ver} (hc : ¬ wcode n ps = 0) : wst f n ps = f ∧ wn n ps = n ∧ wnum n ps = 0 := by
  unfold wst wn wnum
  rw [if_neg hc, if_neg hc, if_neg hc]
  exact ⟨rfl, rfl, rfl⟩
theorem wst_yes {n : Nat} {ps : List Ver} (hc : wcode n ps = 0) : wn n ps = n + 1 ∧ wnum n ps = (n : Int) + 1 := by
  unfold wn wnum
  rw [if_pos hc, if_pos hc]
  exact ⟨rfl, rfl⟩

theorem fnd_none {ps : List Ver} {k : Nat} (h : fnd ps k = none) : ∀ i, i < ps.length → va ps i ≠ (k : Int) := by
  intro i hi e
  unfold fnd at h
  rw [List.find?_eq_none] at h
  have := h ps[i] (List.getElem_mem hi)
  simp [va, List.getD_eq_getElem?_getD, List.getElem?_eq_getElem hi] at e
  simp [e] at this
theorem fnd_some {ps : List Ver} {k : Nat} {p : Ver} (h : fnd ps k = some p) : ∃ i, i < ps.length ∧ va ps i = (k : Int) ∧ vt ps i = p.t ∧ vb ps i = p.s := by
  unfold fnd at h
  have hm := List.mem_of_find?_eq_some h
  have hp := List.find?_some h
  obtain ⟨i, hi, e⟩ := List.getElem_of_mem hm
  refine ⟨i, hi, ?_, ?_, ?_⟩
  all_goals simp [va, vt, vb, List.getD_eq_getElem?_getD, List.getElem?_eq_getElem hi, e]
  simpa using hp

/-- What since is behind the first j pairs. -/
def sj (ps : List Ver) (k x s0 : Int) : Nat → Int
  | 0 => s0
  | j + 1 => if va ps j = k then x else sj ps k x s0 j
theorem sj_no {ps : List Ver} {k x s0 : Int} : ∀ j, (∀ i, i < j → va ps i ≠ k) → sj ps k x s0 j = s0 := by
  intro j
  induction j with
  | zero => intro _; rfl
  | succ j ih =>
    intro h
    simp only [sj]
    rw [if_neg (h j (by omega))]
    exact ih (fun i hi => h i (by omega))
theorem sj_yes {ps : List Ver} {k x s0 : Int} {i : Nat} (hv : va ps i = k) : ∀ j, i < j → sj ps k x s0 j = x := by
  intro j
  induction j with
  | zero => intro h; omega
  | succ j ih =>
    intro h
    simp only [sj]
    by_cases e : va ps j = k
    · rw [if_pos e]
    · rw [if_neg e]
      refine ih ?_
      rcases Nat.lt_or_ge i j with q | q
      · exact q
      · have : i = j := by omega
        subst this; exact absurd hv e

theorem snc_write {f : Nat → List Ver} {n : Nat} {ps : List Ver} (hi : Inv f n) (hc : wcode n ps = 0) {k : Nat} (hk : k < 8) : snc (wst f n ps) k = sj ps k ((n : Int) + 1) (snc f k) ps.length := by
  have hkb : keyB (k : Int) = true := by simp [keyB]; omega
  unfold snc
  rw [if_pos hkb, if_pos hkb, Int.toNat_natCast, wst_get hi hc]
  cases hf : fnd ps k with
  | none =>
    simp only
    rw [sj_no _ (fnd_none hf)]
  | some p =>
    obtain ⟨i, hi1, hi2, _⟩ := fnd_some hf
    simp only
    rw [sj_yes hi2 _ hi1]
    simp only [List.length_append, List.length_cons, List.length_nil, Nat.zero_add, Nat.add_sub_cancel]
    exact va_concat _ _
theorem snc_clm {f : Nat → List Ver} {n : Nat} (hi : Inv f n) (y : Int) {k : Nat} (hk : k < 8) : snc (clm f y 8) k = snc f k := by
  have hkb : keyB (k : Int) = true := by simp [keyB]; omega
  unfold snc
  rw [if_pos hkb, if_pos hkb, Int.toNat_natCast]
  unfold clm
  rw [if_pos hk, va_drop, List.length_drop]
  have := cd_lt y (hi.rise k hk) (hi.pos k hk)
  congr 1
  omega
end Go.Proofs.Ytehhpmfeaeabgac

/- What Clear leaves to be read; what is read of the last commit, and behind a later one. -/
namespace Go.Proofs.Ytehhpmfeaeabgac

theorem vt_drop (vs : List Ver) (d i : Nat) : vt (vs.drop d) i = vt vs (d + i) := by simp [vt, List.getD_eq_getElem?_getD, List.getElem?_drop]
theorem vb_drop (vs : List Ver) (d i : Nat) : vb (vs.drop d) i = vb vs (d + i) := by simp [vb, List.getD_eq_getElem?_getD, List.getElem?_drop]

theorem IsCnt.drop {vs : List Ver} {y : Int} {c d : Nat} (h : IsCnt vs y c) (hd : d ≤ c) : IsCnt (vs.drop d) y (c - d) := by
  have hl := h.le
  refine ⟨by simp; omega, fun k hk => ?_, fun k h1 h2 => ?_⟩
  · rw [va_drop]; exact h.lo _ (by omega)
  · rw [va_drop]; simp only [List.length_drop] at h2; exact h.hi _ (by omega) (by omega)
theorem IsCnt.mono {vs : List Ver} {x y : Int} {c d : Nat} (h : IsCnt vs x c) (k : IsCnt vs y d) (hxy : x ≤ y) : c ≤ d := by
  rcases Nat.lt_or_ge d c with e | e
  · have h1 := h.lo d e
    have h2 := k.hi d (Nat.le_refl _) (by have := h.le; omega)
    omega
  · exact e

theorem cd_again {vs : List Ver} (y : Int) (hr : Rise vs) : cd (vs.drop (cd vs y)) y = 0 := by
  have hc := cntf_is y hr
  have h2 := (hc.drop (d := cd vs y) (by unfold cd; omega)).eqf (hr.drop _)
  unfold cd at h2 ⊢
  omega
theorem cln_again {f : Nat → List Ver} {n : Nat} (h : Inv f n) (y : Int) : ∀ m, m ≤ 8 → cln (clm f y 8) y m = 0 := by
  intro m
  induction m with
  | zero => intro _; rfl
  | succ m ih =>
    intro hm
    simp only [cln]
    rw [ih (by omega)]
    have : clm f y 8 m = (f m).drop (cd (f m) y) := by unfold clm; rw [if_pos (by omega)]
    rw [this, cd_again y (h.rise m (by omega))]

theorem rd3_drop {vs : List Ver} {l y : Int} (hr : Rise vs) (hp : 0 < vs.length) (hly : l ≤ y) : rd3 (vs.drop (cd vs l)) y = rd3 vs y := by
  have hl := cntf_is l hr
  have hy := cntf_is y hr
  have hle := hl.mono hy hly
  have hd := (hy.drop (d := cd vs l) (by unfold cd; omega)).eqf (hr.drop _)
  unfold rd3
  by_cases h0 : y < 0
  · rw [if_pos h0, if_pos h0]
  · rw [if_neg h0, if_neg h0]
    by_cases h1 : y < va vs 0
    · have hz : cd vs l = 0 := by
        have : cntf vs l = 0 := by
          rcases Nat.eq_zero_or_pos (cntf vs l) with e | e
          · exact e
          · have := hl.lo 0 e; omega
        unfold cd; omega
      rw [hz, List.drop_zero]
    · have h2 : ¬ y < va (vs.drop (cd vs l)) 0 := by
        rw [va_drop, Nat.add_zero]
        rcases Nat.eq_zero_or_pos (cd vs l) with e | e
        · rw [e]; exact h1
        · have := hl.lo (cd vs l) (by unfold cd at e ⊢; omega)
          omega
      have hpos := hy.pos hp (by omega)
      rw [if_neg h1, if_neg h2, ← hd, vt_drop, vb_drop]
      have e : cd vs l + (cntf vs y - cd vs l - 1) = cntf vs y - 1 := by unfold cd; omega
      rw [e]

theorem tr_clm {f : Nat → List Ver} {n : Nat} (h : Inv f n) {l y : Int} (hly : l ≤ y) {j : Nat} (hj : j < 8) : tr (clm f l 8) n j y = tr f n j y := by
  unfold tr
  split
  · rw [Int.toNat_natCast]
    have : clm f l 8 j = (f j).drop (cd (f j) l) := by unfold clm; rw [if_pos hj]
    rw [this, rd3_drop (h.rise j hj) (h.pos j hj) hly]
  · rfl

theorem ShK.congr {f g : Nat → List Ver} {n m : Nat} {y : Int} {k : Nat} (h : ShK f n y k) (he : ∀ j : Nat, j < 8 → tr g m j y = tr f n j y) : ShK g m y k :=
  ⟨h.le, fun j hj => by rw [he j (by have := h.le; omega)]; exact h.lo j hj, fun hk => by rw [he k hk]; exact h.hi hk⟩
theorem shw_congr {f g : Nat → List Ver} {n m : Nat} {y : Int} {k : Nat} (hk : k ≤ 8) (he : ∀ j : Nat, j < 8 → tr g m j y = tr f n j y) : shw g m y k = shw f n y k := by
  funext j
  unfold shw
  split
  · exact he j (by omega)
  · rfl

theorem cntf_all {vs : List Ver} {y : Int} (hr : Rise vs) (hp : 0 < vs.length) (hy : va vs (vs.length - 1) ≤ y) : cntf vs y = vs.length := by
  have h : IsCnt vs y vs.length := ⟨Nat.le_refl _, fun k hk => by have := hr.le (show k ≤ vs.length - 1 by omega) (by omega); omega, fun k h1 h2 => by omega⟩
  exact (h.eqf hr).symm

/-- What is read of the last commit. -/
theorem tr_last {f : Nat → List Ver} {n : Nat} (h : Inv f n) {j : Nat} (hj : j < 8) : tr f n j n = ⟨0, vt (f j) ((f j).length - 1), vb (f j) ((f j).length - 1)⟩ := by
  have hkb : keyB (j : Int) = true := by simp [keyB]; omega
  have hp := h.pos j hj
  have h1 := (h.rise j hj).le (Nat.zero_le ((f j).length - 1)) (by omega)
  have h2 := h.hi j hj
  unfold tr
  rw [if_pos ⟨hkb, Int.le_refl _⟩, Int.toNat_natCast]
  unfold rd3
  rw [if_neg (by omega), if_neg (by omega), cntf_all (h.rise j hj) hp h2]
theorem shk_last {f : Nat → List Ver} {n : Nat} (h : Inv f n) : ShK f n n 8 := ⟨Nat.le_refl _, fun j hj => by rw [tr_last h hj], fun h => by omega⟩

theorem rd3_append {vs : List Ver} {v : Ver} {y : Int} (hr : Rise vs) (hr2 : Rise (vs ++ [v])) (hp : 0 < vs.length) (hv : y < v.a) : rd3 (vs ++ [v]) y = rd3 vs y := by
  have hc := cntf_is y hr
  have hl := hc.le
  have h2 : IsCnt (vs ++ [v]) y (cntf vs y) := by
    refine ⟨by simp; omega, fun k hk => ?_, fun k h1 h2 => ?_⟩
    · rw [va_append_left _ _ (by omega)]; exact hc.lo k hk
    · rcases Nat.lt_or_ge k vs.length with e | e
      · rw [va_append_left _ _ e]; exact hc.hi k h1 e
      · have : k = vs.length := by simp at h2; omega
        rw [this, va_concat]; exact hv
  have he := h2.eqf hr2
  unfold rd3
  rw [va_append_left _ _ hp, ← he]
  by_cases h0 : y < 0
  · rw [if_pos h0, if_pos h0]
  · rw [if_neg h0, if_neg h0]
    by_cases h1 : y < va vs 0
    · rw [if_pos h1, if_pos h1]
    · have hpos := hc.pos hp (by omega)
      rw [if_neg h1, if_neg h1, vt_append_left _ _ (by omega), vb_append_left _ _ (by omega)]

/-- A later commit changes nothing of what is read behind an earlier one. -/
theorem tr_later {f : Nat → List Ver} {n : Nat} (h : Inv f n) (ps : List Ver) {y : Int} (hy : y ≤ n) {j : Nat} (hj : j < 8) : tr (wst f n ps) (wn n ps) j y = tr f n j y := by
  by_cases hc : wcode n ps = 0
  · have hw := (h.write ps).rise j hj
    have e := (wst_yes hc).1
    unfold tr
    by_cases hk : keyB (j : Int) = true
    · rw [if_pos ⟨hk, by rw [e]; push_cast; omega⟩, if_pos ⟨hk, hy⟩, Int.toNat_natCast]
      rw [wst_get h hc] at hw ⊢
      cases hf : fnd ps j with
      | none => rfl
      | some p =>
        rw [hf] at hw
        simp only at hw ⊢
        exact rd3_append (h.rise j hj) hw (h.pos j hj) (by show y < (n : Int) + 1; omega)
    · rw [if_neg (fun h => hk h.1), if_neg (fun h => hk h.1)]
  · obtain ⟨e1, e2, _⟩ := wst_not (f := f) hc
    rw [e1, e2]

/-- The values of all keys with pairs laid over them. -/
def wvs (v : Nat → Ver) : List Ver → Nat → Ver
  | [] => v
  | p :: r => wvs (upd v p.a.toNat ⟨0, p.t, p.s⟩) r
theorem wvs_get {a : Int} {ps : List Ver} {v : Nat → Ver} (h : pf a ps = 0) (k : Nat) : wvs v ps k = match fnd ps k with | none => v k | some p => ⟨0, p.t, p.s⟩ := by
  induction ps generalizing a v with
  | nil => rfl
  | cons p r ih =>
    obtain ⟨h1, h2, h3, h4, h5⟩ := pf_consX h
    show wvs (upd v p.a.toNat ⟨0, p.t, p.s⟩) r k = _
    rw [ih (v := upd v p.a.toNat ⟨0, p.t, p.s⟩) h5]
    by_cases e : p.a = (k : Int)
    · have hn : fnd r k = none := by
        unfold fnd
        rw [List.find?_eq_none]
        intro q hq
        have := pf_gt h5 q hq
        simp
        omega
      have hs : fnd (p :: r) k = some p := by simp [fnd, e]
      have hk : p.a.toNat = k := by omega
      rw [hn, hs, hk]
      exact upd_same _ _ _
    · have hs : fnd (p :: r) k = fnd r k := by simp [fnd, e]
      have hk : k ≠ p.a.toNat := by omega
      rw [hs, upd_other _ _ _ hk]
theorem wvs_at {v : Nat → Ver} {ps : List Ver} {k : Nat} (h : k < ps.length) : wvs v (ps.drop k) = wvs (upd v (va ps k).toNat ⟨0, vt ps k, vb ps k⟩) (ps.drop (k + 1)) := by
  rw [ver_drop h]; rfl

/-- Behind a commit all keys have what they had, but those that it wrote. -/
theorem shots_now {f : Nat → List Ver} {n : Nat} {ps : List Ver} (h : Inv f n) (hc : wcode n ps = 0) : wagg (wvs (shw f n n 8) ps) = wagg (shw (wst f n ps) (n + 1) ((n : Int) + 1) 8) := by
  have hi := h.write ps
  rw [(wst_yes hc).1] at hi
  refine wagg_congr (fun k hk => ?_)
  have e1 : shw (wst f n ps) (n + 1) ((n : Int) + 1) 8 k = ⟨0, vt (wst f n ps k) ((wst f n ps k).length - 1), vb (wst f n ps k) ((wst f n ps k).length - 1)⟩ := by
    unfold shw
    rw [if_pos hk]
    have := tr_last hi hk
    push_cast at this
    exact this
  have e2 : shw f n n 8 k = ⟨0, vt (f k) ((f k).length - 1), vb (f k) ((f k).length - 1)⟩ := by
    unfold shw
    rw [if_pos hk, tr_last h hk]
  rw [wvs_get (wcode_zero hc).1, e1, wst_get h hc]
  cases hf : fnd ps k with
  | none => simp only; rw [e2]; exact ⟨rfl, rfl⟩
  | some p =>
    simp only [List.length_append, List.length_cons, List.length_nil, Nat.zero_add, Nat.add_sub_cancel]
    rw [vt_concat, vb_concat]
    exact ⟨rfl, rfl⟩
end Go.Proofs.Ytehhpmfeaeabgac

/- tables, as the laws meet it; an array of all keys' values in a variable: its cells, one by one. -/
namespace Go.Proofs.Ytehhpmfeaeabgac
open Go.RowKit
set_option maxRecDepth 20000

structure W16 (w : World) (p : Nat) (v : Nat → Ver) : Prop where
  c0 : w.cell? ⟨p, 0, none⟩ = some (.bool (v 0).t)
  c1 : w.cell? ⟨p, 1, none⟩ = some (.string (v 0).s)
  c2 : w.cell? ⟨p, 2, none⟩ = some (.bool (v 1).t)
  c3 : w.cell? ⟨p, 3, none⟩ = some (.string (v 1).s)
  c4 : w.cell? ⟨p, 4, none⟩ = some (.bool (v 2).t)
  c5 : w.cell? ⟨p, 5, none⟩ = some (.string (v 2).s)
  c6 : w.cell? ⟨p, 6, none⟩ = some (.bool (v 3).t)
  c7 : w.cell? ⟨p, 7, none⟩ = some (.string (v 3).s)
  c8 : w.cell? ⟨p, 8, none⟩ = some (.bool (v 4).t)
  c9 : w.cell? ⟨p, 9, none⟩ = some (.string (v 4).s)
  c10 : w.cell? ⟨p, 10, none⟩ = some (.bool (v 5).t)
  c11 : w.cell? ⟨p, 11, none⟩ = some (.string (v 5).s)
  c12 : w.cell? ⟨p, 12, none⟩ = some (.bool (v 6).t)
  c13 : w.cell? ⟨p, 13, none⟩ = some (.string (v 6).s)
  c14 : w.cell? ⟨p, 14, none⟩ = some (.bool (v 7).t)
  c15 : w.cell? ⟨p, 15, none⟩ = some (.string (v 7).s)
theorem w16 {w : World} {p : Nat} {v : Nat → Ver} (h : w.heap[p]? = some (.cells (wagg v) 72 (0, 0))) : W16 w p v :=
  ⟨cell_of_block h rfl, cell_of_block h rfl, cell_of_block h rfl, cell_of_block h rfl, cell_of_block h rfl, cell_of_block h rfl, cell_of_block h rfl, cell_of_block h rfl, cell_of_block h rfl, cell_of_block h rfl, cell_of_block h rfl, cell_of_block h rfl, cell_of_block h rfl, cell_of_block h rfl, cell_of_block h rfl, cell_of_block h rfl⟩

theorem eq66' (v : Nat → Ver) : ∀ w : World, (Op.equalIn 10000 72 (.agg #[.bool (v 0).t, .string (v 0).s, .bool (v 1).t, .string (v 1).s, .bool (v 2).t, .string (v 2).s, .bool (v 3).t, .string (v 3).s, .bool (v 4).t, .string (v 4).s, .bool (v 5).t, .string (v 5).s, .bool (v 6).t, .string (v 6).s, .bool (v 7).t, .string (v 7).s]) (.agg #[.bool (v 0).t, .string (v 0).s, .bool (v 1).t, .string (v 1).s, .bool (v 2).t, .string (v 2).s, .bool (v 3).t, .string (v 3).s, .bool (v 4).t, .string (v 4).s, .bool (v 5).t, .string (v 5).s, .bool (v 6).t, .string (v 6).s, .bool (v 7).t, .string (v 7).s])).run Try.prog w = .ok true w := fun w => eq66 v w

theorem tbx_var {w0 w : World} {tb : Nat} {f : Nat → List Ver} {n : Nat} {X : List Nat} (h : Tbx w0 w tb f n X) (v : Nat → Ver) :
    Hid (Tbx w0 (w.alloc (.cells (wagg v) 72)) tb f n (w.heap.size :: X)) ∧ Hid ((w.alloc (.cells (wagg v) 72)).heap[w.heap.size]? = some (.cells (wagg v) 72 (0, 0))) :=
  ⟨h.alloc _, heap_alloc_new w _⟩
end Go.Proofs.Ytehhpmfeaeabgac

/- What stands at the heads of the loops of TableShots. -/
namespace Go.Proofs.Ytehhpmfeaeabgac
open Go.RowKit
set_option maxRecDepth 20000

theorem inside_of {w0 : World} {a : Option Addr} {ps : List Ver} (h : Prs w0 a ps) (X : List Nat) : 0 < ps.length → ∀ g o, a = some ⟨g, o, none⟩ → g < w0.heap.size ∨ g ∈ X := by
  intro hp g o e
  obtain ⟨g', o', e', hs⟩ := h.mem hp
  rw [e] at e'
  simp only [Option.some.injEq, Addr.mk.injEq, and_true] at e'
  have := hs.lt hp
  left; omega

/-- was is turned pair by pair; now stands. -/
structure Lp1 (w wr : World) (tb : Nat) (f : Nat → List Ver) (m p r : Nat) (v u : Nat → Ver) (ps : List Ver) (i : Nat) : Prop where
  tbx : Tbx w wr tb f m [r, p]
  now : wr.heap[r]? = some (.cells (wagg u) 72 (0, 0))
  ne : p ≠ r
  was : ∃ vk, wr.heap[p]? = some (.cells (wagg vk) 72 (0, 0)) ∧ wvs vk (ps.drop i) = wvs v ps

theorem Lp1.next {w wr W : World} {tb : Nat} {f : Nat → List Ver} {m p r : Nat} {v u : Nat → Ver} {ps : List Ver} {i j : Nat} (h : Lp1 w wr tb f m p r v u ps i) (hW : Kp [] wr W) (hi : i < ps.length) (hj : j < 8) (hv : va ps i = (j : Int)) :
    (∃ x, W.cell? ⟨p, j * 2, none⟩ = some x) ∧ (∃ x, W.cell? ⟨p, j * 2 + 1, none⟩ = some x) ∧ W.frozen? ⟨p, j * 2, none⟩ = false ∧ W.frozen? ⟨p, j * 2 + 1, none⟩ = false ∧
      Hid (Lp1 w ((W.setCell ⟨p, j * 2, none⟩ (.bool (vt ps i))).setCell ⟨p, j * 2 + 1, none⟩ (.string (vb ps i))) tb f m p r v u ps (i + 1)) := by
  obtain ⟨vk, h1, h2⟩ := h.was
  have hb : W.heap[p]? = some (.cells (wagg vk) 72 (0, 0)) := by rw [hW.block p (lt_of_block h1) (by simp)]; exact h1
  have hr : W.heap[r]? = some (.cells (wagg u) 72 (0, 0)) := by rw [hW.block r (lt_of_block h.now) (by simp)]; exact h.now
  have hk : Kp [p] W ((W.setCell ⟨p, j * 2, none⟩ (.bool (vt ps i))).setCell ⟨p, j * 2 + 1, none⟩ (.string (vb ps i))) := ((Kp.refl [p] W).setCell (.inl (by simp)) _).setCell (.inl (by simp)) _
  refine ⟨⟨_, cell_of_block hb (wagg_at0 _ hj)⟩, ⟨_, cell_of_block hb (wagg_at1 _ hj)⟩, frozen_of_block _ hb, frozen_of_block _ hb, (h.tbx.kp0 hW).set hk (by simp), ?_, h.ne, upd vk j ⟨0, vt ps i, vb ps i⟩, ?_, ?_⟩
  · rw [hk.block r (lt_of_block hr) (by simp; exact fun e => h.ne e.symm)]; exact hr
  · rw [heap_setCell_at _ _ (heap_setCell_at _ _ hb)]
    rw [wagg_set vk hj ⟨0, vt ps i, vb ps i⟩]
  · rw [← h2, wvs_at hi, hv, Int.toNat_natCast]

theorem Lp1.done {w wr : World} {tb : Nat} {f : Nat → List Ver} {m p r : Nat} {v u : Nat → Ver} {ps : List Ver} {i : Nat} (h : Lp1 w wr tb f m p r v u ps i) (hi : ps.length ≤ i) (he : wagg (wvs v ps) = wagg u) : wr.heap[p]? = some (.cells (wagg u) 72 (0, 0)) := by
  obtain ⟨vk, h1, h2⟩ := h.was
  rw [List.drop_eq_nil_of_le hi] at h2
  rw [← he, ← h2]; exact h1

theorem shots_now' {f : Nat → List Ver} {n : Nat} {ps : List Ver} (h : Inv f n) (hc : wcode n ps = 0) : wagg (wvs (shw f n n 8) ps) = wagg (shw (wst f n ps) (n + 1) ((n + 1 : Nat) : Int) 8) := by
  have := shots_now h hc
  push_cast
  exact this

/-- Later commits: what was read behind the commit m stands. -/
def Lp2 (w wr : World) (tb r : Nat) (u : Nat → Ver) (f : Nat → List Ver) (m : Nat) : Prop :=
  ∃ f2 m2, Tbx w wr tb f2 m2 [r] ∧ wr.heap[r]? = some (.cells (wagg u) 72 (0, 0)) ∧ m ≤ m2 ∧ ∀ j : Nat, j < 8 → tr f2 m2 j m = tr f m j m

theorem lp2_write {w wr : World} {tb r : Nat} {u : Nat → Ver} {f : Nat → List Ver} {m : Nat} {b o n1 k : Nat} {st : Nat → TStep} (h : Lp2 w wr tb r u f m) (hs : StT w b o n1 st) (hk : k < n1) (h50 : (st k).ps.length ≤ 50) :
    Calls Try.prog 91 #[.pointer (some ⟨tb, 0, none⟩), .slice (st k).a (st k).ps.length (st k).c] wr fun e w' => ∃ x y, e = .returned (.tuple #[.int .i64 x, .int .i64 y]) ∧ Hid (Lp2 w w' tb r u f m) := by
  obtain ⟨f2, m2, h1, h2, h3, h4⟩ := h
  refine (tbx_write (st k).a (st k).c (st k).ps h1 ((hs.kp0 h1.kp) k hk).2.2.2 (by omega) (inside_of (hs k hk).2.2.2 _)).mono ?_
  rintro e w' ⟨rfl, t1, t2⟩
  refine ⟨_, _, rfl, _, _, unhide t1, ((unhide t2) r (by simp)).trans h2, ?_, fun j hj => ?_⟩
  · unfold wn; split <;> omega
  · rw [tr_later h1.inv _ (by omega) hj]; exact h4 j hj

theorem lp2_sheet {w wr : World} {tb r : Nat} {f : Nat → List Ver} {m : Nat} (h : Lp2 w wr tb r (shw f m m 8) f m) (hi : Inv f m) :
    Calls Try.prog 34 #[.pointer (some ⟨tb, 0, none⟩), .int .i64 m] wr fun e w' => e = .returned (.tuple #[.agg (wagg (shw f m m 8)), .bool true]) ∧ w'.heap[r]? = some (.cells (wagg (shw f m m 8)) 72 (0, 0)) ∧ Hid (Kp [] w w') := by
  obtain ⟨f2, m2, h1, h2, h3, h4⟩ := h
  refine (tbx_sheet (m : Int) h1).mono ?_
  rintro e w' ⟨k, hk, rfl, t1, t2⟩
  have e8 := (unhide hk).uniq ((shk_last hi).congr h4)
  subst e8
  refine ⟨by rw [shw_congr (Nat.le_refl _) h4]; simp, ?_, (unhide t1).kp⟩
  rw [(unhide t2).block r (lt_of_block h2) (by simp)]; exact h2

/-- A whole array out of a variable, behind a guard too. -/
theorem wpList_load66 {ops : Array Oper} {rest : List Oper} {o : Oper} {a : Act} {w : World} {Q : Exit → Act → World → Prop} (hw : Region.wanted o (yielded ops a.tmps) = true) (x : Operand) (ho : o.op = .load 72 x)
    (g : Nat) (hx : a.eval x = .pointer (some ⟨g, 0, none⟩)) (v : Nat → Ver) (hg : w.heap[g]? = some (.cells (wagg v) 72 (0, 0))) (h : wpList Try.prog ops Q rest (a.put o.dst (.agg (wagg v))) w) : wpList Try.prog ops Q (o :: rest) a w :=
  wpList_step fun K hK => by
    rw [if_pos hw]
    exact wp_load_row 72 x ho g hx 72 (wagg v) (0, 0) _ hg Try.underlying72 rfl Try.size72 (hK _ _ h)

theorem tbx_sheet_last {w0 w : World} {tb : Nat} {f : Nat → List Ver} {n : Nat} {X : List Nat} (h : Tbx w0 w tb f n X) :
    Calls Try.prog 34 #[.pointer (some ⟨tb, 0, none⟩), .int .i64 n] w fun e w' => e = .returned (.tuple #[.agg (wagg (shw f n n 8)), .bool true]) ∧ Hid (Tbx w0 w' tb f n X) ∧ Hid (SameX X w w') := by
  refine (tbx_sheet (n : Int) h).mono ?_
  rintro e w' ⟨k, hk, rfl, t1, t2⟩
  have e8 := (unhide hk).uniq (shk_last h.inv)
  subst e8
  exact ⟨by simp, t1, SameX.of_kp h (unhide t2)⟩
end Go.Proofs.Ytehhpmfeaeabgac
