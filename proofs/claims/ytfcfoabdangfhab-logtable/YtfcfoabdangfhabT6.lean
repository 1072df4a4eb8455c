/- Write of a table, by its contract. -/
import Derived.Test.YtfcfoabdangfhabT5
namespace Go.Proofs.Ytfcfoabdangfhab
open Go.RowKit
set_option maxRecDepth 20000
attribute [local go_sem ↓] Go.wp_at_zero Go.wp_at_succ

/-- The table at the head of a round of Write, behind the first k pairs. -/
def WrI (B : Nat) (w : World) (tb : Nat) (F : List Nat) (f : Nat → List Ver) (m : Nat) (ps : List Ver) (k : Nat) (wr : World) : Prop :=
  ∃ fk Fk, Tbl B wr tb Fk fk m ∧ wrs fk m (ps.drop k) = wrs f m ps ∧ Kp F w wr ∧ ∀ x, x ∈ Fk → x ∈ F ∨ w.heap.size ≤ x

theorem wrs_at {f : Nat → List Ver} {x : Int} {ps : List Ver} {k : Nat} (h : k < ps.length) : wrs f x (ps.drop k) = wrs (upd f (va ps k).toNat (pvers (f (va ps k).toNat) x (vt ps k) (vb ps k))) x (ps.drop (k + 1)) := by
  rw [ver_drop h]; rfl

theorem wr_step {B tb m k j : Nat} {w wr W : World} {F Fk : List Nat} {b g cap : Nat → Nat} {f fk : Nat → List Ver} {ps : List Ver} (ht : TblL B wr tb Fk b g cap fk m) (he : wrs fk m (ps.drop k) = wrs f m ps)
    (hkp : Kp F w wr) (hF : ∀ x, x ∈ Fk → x ∈ F ∨ w.heap.size ≤ x) (hW : Kp [] wr W) (hk : k < ps.length) (hj : j < 8) (hv : va ps k = (j : Int)) (hs : (vb ps k).size ≤ maxLen) :
    Calls Try.prog 56 #[.pointer (some ⟨b j, 0, none⟩), .int .i64 m, .agg #[.bool (vt ps k), .string (vb ps k)]] W fun e w2 => ∃ c, e = .returned (.int .i64 c) ∧ Hid (WrI B w tb F f m ps (k + 1) w2) := by
  have h0 := ht.kp hW (fun _ _ => by simp)
  refine (put21 (m : Int) (vt ps k) (vb ps k) W (h0.chn j hj) (by have := h0.inv.len41 hj; omega) hs h0.hB).mono ?_
  rintro e w2 ⟨rfl, g', cap', h1, h2, h3⟩
  obtain ⟨z1, z2, z3⟩ := h0.step hj h1 h2 h3 (h0.inv.put hj _ _)
  refine ⟨_, rfl, _, g' :: Fk, ⟨_, _, _, z1⟩, ?_, (hkp.trans0 hW).trans z2 hF, fun x hx => ?_⟩
  · rw [← he, wrs_at hk, hv, Int.toNat_natCast]
  · rcases z3 x hx with e | e
    · exact hF x e
    · right; have := (hkp.trans0 hW).size; omega

theorem TblL.count {B : Nat} {w : World} {tb : Nat} {F : List Nat} {b g cap : Nat → Nat} {f : Nat → List Ver} {n : Nat} (h : TblL B w tb F b g cap f n) (m : Nat) (hi : Inv f m) :
    TblL B (w.setCell ⟨tb, 8, none⟩ (.int .i64 m)) tb F b g cap f m ∧ Kp F w (w.setCell ⟨tb, 8, none⟩ (.int .i64 m)) := by
  have hk : Kp [tb] w (w.setCell ⟨tb, 8, none⟩ (.int .i64 m)) := (Kp.refl [tb] w).setCell (.inl (by simp)) _
  refine ⟨⟨?_, fun k hk8 => ?_, h.bb, h.gg, h.bg, h.tne, h.tF, h.bF, h.gF, fun x hx => ⟨(h.lo x hx).1, Nat.lt_of_lt_of_le (h.lo x hx).2 hk.size⟩, hi, Nat.le_trans h.hB hk.size⟩, hk.mono (by simp; exact .inl h.tF)⟩
  · rw [heap_setCell_at 8 _ h.box, tcells_setn]
  · have := h.tne k hk8
    exact (h.chn k hk8).kp hk (by simp; exact fun e => this.1 e.symm) (by simp; exact fun e => this.2 e.symm)

set_option maxHeartbeats 2000000 in
theorem twrite45 {B tb n : Nat} {F : List Nat} {f : Nat → List Ver} (a : Option Addr) (c : Nat) (ps : List Ver) (w : World) (h : Tbl B w tb F f n) (hp : Prs w a ps) (hpF : 0 < ps.length → ∀ g o, a = some ⟨g, o, none⟩ → g ∉ F) (hm : ps.length ≤ 1000) :
    Calls Try.prog 47 #[.pointer (some ⟨tb, 0, none⟩), .slice a ps.length c] w fun e w' => e = .returned (.tuple #[.int .i64 (wnum n ps), .int .i64 (wcode n ps)]) ∧
      ∃ F', Tbl B w' tb F' (wst f n ps) (wn n ps) ∧ Kp F w w' ∧ ∀ x, x ∈ F' → x ∈ F ∨ w.heap.size ≤ x := by
  have HT := hide h
  have HP := hide hp
  have HPF := hide hpF
  clear h hp hpF
  by_cases hc : pf (-1) ps = 0
  · by_cases hn : 40 ≤ n
    · have e1 : wcode n ps = 9 := by unfold wcode; rw [if_pos hc, if_pos hn]
      have e2 : wn n ps = n := by unfold wn; rw [if_neg (by rw [e1]; decide)]
      have e3 : wnum n ps = 0 := by unfold wnum; rw [if_neg (by rw [e1]; decide)]
      have e4 : wst f n ps = f := by unfold wst; rw [if_neg (by rw [e1]; decide)]
      rw [e1, e2, e3, e4]
      clear e1 e2 e3 e4
      go_enter Try.func47, Try.ntmps47
      go_wp2_with fail
      refine (tcheck36 a c ps w (unhide HP) hm).mono ?_
      rintro e w1 ⟨rfl, hk⟩
      rw [hc]
      clear hc
      obtain ⟨b, g, cap, ht⟩ := (unhide HT).kp0 hk
      have q8 := ht.ncell
      have HT1 := hide ht
      have HK := hide hk
      clear ht hk
      go_wp2_with fail
      go_ret2
      exact ⟨rfl, F, ⟨_, _, _, unhide HT1⟩, (unhide HK).mono (by simp), fun x hx => .inl hx⟩
    · have e1 : wcode n ps = 0 := by unfold wcode; rw [if_pos hc, if_neg hn]
      have e2 : wn n ps = n + 1 := by unfold wn; rw [if_pos e1]
      have e3 : wnum n ps = (n : Int) + 1 := by unfold wnum; rw [if_pos e1]
      have e4 : wst f n ps = wrs f ((n + 1 : Nat) : Int) ps := by unfold wst; rw [if_pos e1]; simp
      rw [e1, e2, e3, e4]
      clear e1 e2 e3 e4
      have hkeys := pf_keys hc
      go_enter Try.func47, Try.ntmps47
      go_wp2_with fail
      refine (tcheck36 a c ps w (unhide HP) hm).mono ?_
      rintro e w1 ⟨rfl, hk⟩
      rw [hc]
      clear hc
      have HKEY := hide hkeys
      clear hkeys
      obtain ⟨b, g, cap, ht⟩ := (unhide HT).kp0 hk
      have q8 := ht.ncell
      have f8 : w1.frozen? ⟨tb, 8, none⟩ = false := frozen_of_block _ ht.box
      obtain ⟨y1, y2⟩ := ht.count (n + 1) (ht.inv.mono (Nat.le_succ n) (by omega))
      have HW0 : Hid (WrI B w tb F f (n + 1) ps 0 (w1.setCell ⟨tb, 8, none⟩ (.int .i64 ((n + 1 : Nat) : Int)))) := ⟨f, F, ⟨_, _, _, y1⟩, by simp, (hk.mono (by simp)).trans y2 (fun x hx => .inl hx), fun x hx => .inl hx⟩
      clear ht hk y1 y2
      push_cast at HW0
      go_wp2_with fail
      clear q8 f8
      generalize w1.setCell { block := tb, off := 8 } (Value.int IntKind.i64 (↑n + 1)) = w2 at *
      go_loopw [28] (fun i wr => ∃ k : Nat, k ≤ ps.length ∧ i = .int .i64 k ∧ Hid (WrI B w tb F f (n + 1) ps k wr)) (fun i _ => ps.length - (intOf i).toNat)
      case atStart => exact ⟨0, by omega, rfl, HW0⟩
      case round =>
        obtain ⟨k, hk, rfl, HW⟩ := hrel
        obtain ⟨fk, Fk, ⟨b, g, cap, ht⟩, he, hkp, hF⟩ := unhide HW
        have q8 := ht.ncell
        push_cast at q8
        by_cases hlt : k < ps.length
        · obtain ⟨pg, po, rfl, hs⟩ := (unhide HP).mem (by omega)
          have hs2 := hs.kp hkp ((unhide HPF) (by omega) pg po rfl)
          have p0 := hs2.at0 k hlt
          have p1 := hs2.at1 k hlt
          have p2 : _ = _ := hs2.at2 k hlt
          have hsz := (unhide HP).str k hlt
          have hkk := (unhide HKEY) k hlt
          obtain ⟨j, hj, hv⟩ : ∃ j : Nat, j < 8 ∧ va ps k = (j : Int) := ⟨(va ps k).toNat, by omega, by omega⟩
          have qj := ht.kcell hj
          have htl := (ht.lo tb ht.tF).2
          rw [hv] at p0
          have i0 : (0 : Int) ≤ (k : Int) := by omega
          have i1 : (k : Int) < (ps.length : Int) := by omega
          have j0 : (0 : Int) ≤ (j : Int) := by omega
          have j1 : (j : Int) < 8 := by omega
          have HT2 := hide ht
          have HE := hide he
          have HK2 := hide hkp
          have HF := hide hF
          have HV := hide hv
          clear ht he hkp hF hs hs2 hv hkk
          go_wp2_with fail
          go_region_with (go_at_call 56; refine (wr_step (unhide HT2) (unhide HE) (unhide HK2) (unhide HF) ((Kp.refl [] wr).alloc _).drew hlt hj (unhide HV) hsz).mono ?_; rintro e w3 ⟨cc, rfl, HW3⟩)
          all_goals
            go_wp2_with fail
            exact ⟨⟨k + 1, by omega, by go_num, HW3⟩, by simp [intOf]; omega⟩
        · have HT2 := hide ht
          have HE := hide he
          have HK2 := hide hkp
          have HF := hide hF
          clear ht he hkp hF
          go_wp2_with fail
          go_ret2
          have he := unhide HE
          rw [List.drop_eq_nil_of_le (by omega)] at he
          refine ⟨rfl, Fk, ⟨b, g, cap, ?_⟩, unhide HK2, unhide HF⟩
          rw [← he]
          exact unhide HT2
  · have e1 : wcode n ps = pf (-1) ps := by unfold wcode; rw [if_neg hc]
    have e2 : wn n ps = n := by unfold wn; rw [if_neg (by rw [e1]; exact hc)]
    have e3 : wnum n ps = 0 := by unfold wnum; rw [if_neg (by rw [e1]; exact hc)]
    have e4 : wst f n ps = f := by unfold wst; rw [if_neg (by rw [e1]; exact hc)]
    rw [e1, e2, e3, e4]
    clear e1 e2 e3 e4
    generalize hq : pf (-1) ps = q at *
    have HQ := hide hq
    clear hq
    go_enter Try.func47, Try.ntmps47
    go_wp2_with fail
    refine (tcheck36 a c ps w (unhide HP) hm).mono ?_
    rintro e w1 ⟨rfl, hk⟩
    rw [unhide HQ]
    have HT1 := hide ((unhide HT).kp0 hk)
    have HK := hide hk
    clear hk
    go_wp2_with fail
    go_ret2
    exact ⟨rfl, F, unhide HT1, (unhide HK).mono (by simp), fun x hx => .inl hx⟩
end Go.Proofs.Ytfcfoabdangfhab
