/- NewSheet and Write of the document's own sheet, by their contracts. -/
import Derived.Test.YtfcfoabdangfhabS1
namespace Go.Proofs.Ytfcfoabdangfhab
open Go.RowKit
set_option maxRecDepth 20000
attribute [local go_sem ↓] Go.wp_at_zero Go.wp_at_succ

/-- A sheet under way: the first k lines are there. -/
structure SNewL (B : Nat) (w : World) (sb k : Nat) (wr : World) (g : Nat → Nat) : Prop where
  box : wr.heap[sb]? = some (.cells (tcells (fun j => if j < k then .slice (some ⟨g j, 0, none⟩) 1 1 else .slice none 0 0) 0) 62 (0, 0))
  sla : ∀ j, j < k → SlA wr (g j) 0 [dv]
  ab : ∀ j, j < k → sb < g j ∧ g j < wr.heap.size
  kp : Kp [] w wr
  hB : B = w.heap.size
  ht : B ≤ sb
def SNewI (B : Nat) (w : World) (sb k : Nat) (wr : World) : Prop := ∃ g, SNewL B w sb k wr g

theorem SNewL.kp0 {B : Nat} {w : World} {sb k : Nat} {wr wr' : World} {g : Nat → Nat} (h : SNewL B w sb k wr g) (hk : Kp [] wr wr') : SNewL B w sb k wr' g :=
  ⟨by rw [hk.block sb (lt_of_block h.box) (by simp)]; exact h.box, fun j hj => (h.sla j hj).kp hk (by simp), fun j hj => ⟨(h.ab j hj).1, Nat.lt_of_lt_of_le (h.ab j hj).2 hk.size⟩, h.kp.trans0 hk, h.hB, h.ht⟩

theorem snew_step {B sb k : Nat} {w wr : World} (W : World) (h : SNewI B w sb k wr) (hW : Kp [] wr W) (hk : k < 8) :
    Calls Try.prog 51 #[] W fun e w1 => ∃ g', e = .returned (.slice (some ⟨g', 0, none⟩) 1 1) ∧ w1.cell? ⟨sb, k, none⟩ = some (.slice none 0 0) ∧ w1.frozen? ⟨sb, k, none⟩ = false ∧
      Hid (SNewI B w sb (k + 1) (w1.setCell ⟨sb, k, none⟩ (.slice (some ⟨g', 0, none⟩) 1 1))) := by
  obtain ⟨g, h⟩ := h
  have h0 := h.kp0 hW
  refine (lnew25 W).mono ?_
  rintro e w1 ⟨rfl, hs, hkp⟩
  have h1 := h0.kp0 hkp
  have hlt := lt_of_block h0.box
  have hgl := hs.lt (by simp)
  have kS : Kp [sb] w1 (w1.setCell ⟨sb, k, none⟩ (.slice (some ⟨W.heap.size, 0, none⟩) 1 1)) := (Kp.refl [sb] w1).setCell (.inl (by simp)) _
  have hsz := kS.size
  refine ⟨_, rfl, cell_of_block h1.box (by rw [tcells_at _ _ hk]; simp), frozen_of_block _ h1.box, upd g k W.heap.size, ?_, fun j hj => ?_, fun j hj => ?_, ?_, h.hB, h.ht⟩
  · rw [heap_setCell_at k _ h1.box, tcells_set _ _ hk]
    congr 2
    refine tcells_congr _ (fun j _ => ?_)
    by_cases e : j = k
    · subst e; simp [upd]
    · rw [upd_other _ _ _ e, upd_other _ _ _ e]
      by_cases e2 : j < k
      · rw [if_pos e2, if_pos (by omega)]
      · rw [if_neg e2, if_neg (by omega)]
  · by_cases e : j = k
    · subst e
      rw [upd_same]
      exact hs.kp kS (by simp; omega)
    · rw [upd_other _ _ _ e]
      have := h.ab j (by omega)
      exact (h1.sla j (by omega)).kp kS (by simp; omega)
  · by_cases e : j = k
    · subst e; rw [upd_same]; omega
    · rw [upd_other _ _ _ e]
      have := h1.ab j (by omega)
      omega
  · have := h.ht
    have := h.hB
    exact h1.kp.setCell (.inr (by show w.heap.size ≤ sb; omega)) _

theorem snew_end {B sb : Nat} {w wr : World} (h : SNewI B w sb 8 wr) : ∃ G, Sht B wr sb G (fun _ => [dv]) 0 := by
  obtain ⟨g, h⟩ := h
  have hin : ∀ k, k < 8 → k ∈ List.range 8 := fun k hk => List.mem_range.2 hk
  refine ⟨sb :: (List.range 8).map g, g, fun _ => 0, fun _ => 1, ?_, h.sla, fun k hk => by simp, fun k hk => ?_, by simp, fun k hk => ?_, fun x hx => ?_, invD, by rw [h.hB]; exact h.kp.size⟩
  · rw [h.box]
    congr 2
  · have := h.ab k hk
    omega
  · exact List.mem_cons_of_mem _ (List.mem_map.2 ⟨k, hin k hk, rfl⟩)
  · have ht := h.ht
    rcases List.mem_cons.1 hx with e | e
    · subst e; exact ⟨h.ht, lt_of_block h.box⟩
    · obtain ⟨k, hk, rfl⟩ := List.mem_map.1 e
      have := h.ab k (List.mem_range.1 hk)
      omega

theorem snew_start (w : World) : SNewI w.heap.size w w.heap.size 0 (w.alloc (.cells #[.slice none 0 0, .slice none 0 0, .slice none 0 0, .slice none 0 0, .slice none 0 0, .slice none 0 0, .slice none 0 0, .slice none 0 0, .int .i64 0] 62)) := by
  refine ⟨fun _ => 0, ?_, fun j hj => by omega, fun j hj => by omega, (Kp.refl [] w).alloc _, rfl, Nat.le_refl _⟩
  have := heap_alloc_new w (.cells #[.slice none 0 0, .slice none 0 0, .slice none 0 0, .slice none 0 0, .slice none 0 0, .slice none 0 0, .slice none 0 0, .slice none 0 0, .int .i64 0] 62)
  rw [this]
  rfl

set_option maxHeartbeats 1000000 in
theorem snew55 (w : World) :
    Calls Try.prog 33 #[] w fun e w' => e = .returned (.pointer (some ⟨w.heap.size, 0, none⟩)) ∧ (∃ G, Sht w.heap.size w' w.heap.size G (fun _ => [dv]) 0) ∧ Kp [] w w' := by
  have H0 := hide (snew_start w)
  go_enter Try.func33, Try.ntmps33
  go_wp2_with fail
  generalize htb : w.heap.size = tb at *
  have HTB := hide htb
  clear htb
  go_loopw [2] (fun i wr => ∃ k : Nat, k ≤ 8 ∧ i = .int .i64 k ∧ Hid (SNewI tb w tb k wr)) (fun i _ => 8 - (intOf i).toNat)
  case atStart => exact ⟨0, by omega, rfl, H0⟩
  case round =>
    obtain ⟨k, hk, rfl, HN⟩ := hrel
    by_cases hlt : k < 8
    · have i0 : (0 : Int) ≤ (k : Int) := by omega
      have i1 : (k : Int) < 8 := by omega
      go_wp2_with fail
      go_region_with (go_at_call 51; refine (snew_step _ (unhide HN) (Kp.refl [] _).drew hlt).mono ?_; rintro e w1 ⟨b', rfl, y1, y2, HN2⟩)
      all_goals
        go_wp2_with fail
        exact ⟨⟨k + 1, by omega, by go_num, HN2⟩, by simp [intOf]; omega⟩
    · have e : k = 8 := by omega
      subst e
      go_wp2
      go_ret
      obtain ⟨g, hN⟩ := unhide HN
      rw [unhide HTB]
      exact ⟨rfl, snew_end (unhide HN), hN.kp⟩

/-- The sheet at the head of a round of Write, behind the first k pairs. -/
def SWrI (B : Nat) (w : World) (sb : Nat) (G : List Nat) (f : Nat → List Ver) (m : Nat) (ps : List Ver) (k : Nat) (wr : World) : Prop :=
  ∃ fk Gk, Sht B wr sb Gk fk m ∧ wrs fk m (ps.drop k) = wrs f m ps ∧ Kp G w wr ∧ ∀ x, x ∈ Gk → x ∈ G ∨ w.heap.size ≤ x

theorem swr_step {B sb m k j : Nat} {w wr W : World} {G Gk : List Nat} {f fk : Nat → List Ver} {ps : List Ver} (ht : Sht B wr sb Gk fk m) (he : wrs fk m (ps.drop k) = wrs f m ps)
    (hkp : Kp G w wr) (hF : ∀ x, x ∈ Gk → x ∈ G ∨ w.heap.size ≤ x) (hW : Kp [] wr W) (hk : k < ps.length) (hj : j < 8) (hv : va ps k = (j : Int)) (hs : (vb ps k).size ≤ maxLen) :
    Calls Try.prog 52 #[.pointer (some ⟨sb, j, none⟩), .int .i64 m, .agg #[.bool (vt ps k), .string (vb ps k)]] W fun e w2 => ∃ c, e = .returned (.int .i64 c) ∧ Hid (SWrI B w sb G f m ps (k + 1) w2) := by
  obtain ⟨g, o, cap, h0⟩ := ht.kp0 hW
  refine (lputx26 (m : Int) (vt ps k) (vb ps k) W (h0.lin hj) (by have := h0.inv.len41 hj; omega) hs h0.hB).mono ?_
  rintro e w2 ⟨rfl, g', o', cap', h1, h2, h3⟩
  obtain ⟨z1, z2, z3⟩ := h0.step hj h1 h2 h3 (h0.inv.put hj _ _)
  refine ⟨_, rfl, _, g' :: Gk, ⟨_, _, _, z1⟩, ?_, (hkp.trans0 hW).trans z2 hF, fun x hx => ?_⟩
  · rw [← he, wrs_at hk, hv, Int.toNat_natCast]
  · rcases z3 x hx with e | e
    · exact hF x e
    · right; have := (hkp.trans0 hW).size; omega

theorem ShtL.count {B : Nat} {w : World} {sb : Nat} {G : List Nat} {g o cap : Nat → Nat} {f : Nat → List Ver} {n : Nat} (h : ShtL B w sb G g o cap f n) (m : Nat) (hi : Inv f m) :
    ShtL B (w.setCell ⟨sb, 8, none⟩ (.int .i64 m)) sb G g o cap f m ∧ Kp G w (w.setCell ⟨sb, 8, none⟩ (.int .i64 m)) := by
  have hk : Kp [sb] w (w.setCell ⟨sb, 8, none⟩ (.int .i64 m)) := (Kp.refl [sb] w).setCell (.inl (by simp)) _
  refine ⟨⟨?_, fun k hk8 => ?_, h.cap, h.ne, h.sG, h.gG, fun x hx => ⟨(h.lo x hx).1, Nat.lt_of_lt_of_le (h.lo x hx).2 hk.size⟩, hi, Nat.le_trans h.hB hk.size⟩, hk.mono (by simp; exact .inl h.sG)⟩
  · rw [heap_setCell_at 8 _ h.box, tcells_setn]
  · exact (h.sla k hk8).kp hk (by simp; exact fun e => h.ne k hk8 e.symm)

set_option maxHeartbeats 2000000 in
theorem swrite56 {B sb n : Nat} {G : List Nat} {f : Nat → List Ver} (a : Option Addr) (c : Nat) (ps : List Ver) (w : World) (h : Sht B w sb G f n) (hp : Prs w a ps) (hpF : 0 < ps.length → ∀ g o, a = some ⟨g, o, none⟩ → g ∉ G) (hm : ps.length ≤ 1000) :
    Calls Try.prog 34 #[.pointer (some ⟨sb, 0, none⟩), .slice a ps.length c] w fun e w' => e = .returned (.tuple #[.int .i64 (wnum n ps), .int .i64 (wcode n ps)]) ∧
      ∃ G', Sht B w' sb G' (wst f n ps) (wn n ps) ∧ Kp G w w' ∧ ∀ x, x ∈ G' → x ∈ G ∨ w.heap.size ≤ x := by
  have HT := hide h
  have HP := hide hp
  have HPF := hide hpF
  clear h hp hpF
  by_cases hc : pf (-1) ps = 0
  · by_cases hn : 40 ≤ n
    · have e1 : wcode n ps = 9 := by unfold wcode; rw [if_pos hc, if_pos hn]
      have e2 : wn n ps = n := by unfold wn; rw [if_neg (by rw [e1]; decide)]
      have e3 : wnum n ps = 0 := by unfold wnum; rw [if_neg (by rw [e1]; decide)]
      have e4 : wst f n ps = f := by unfold wst; rw [if_neg (by rw [e1]; decide)]
      rw [e1, e2, e3, e4]
      clear e1 e2 e3 e4
      go_enter Try.func34, Try.ntmps34
      go_wp2_with fail
      refine (pfault37 a c ps w (unhide HP) hm).mono ?_
      rintro e w1 ⟨rfl, hk⟩
      rw [hc]
      clear hc
      obtain ⟨g, o, cap, ht⟩ := (unhide HT).kp0 hk
      have q8 := ht.ncell
      have HT1 := hide ht
      have HK := hide hk
      clear ht hk
      go_wp2_with fail
      go_ret2
      exact ⟨rfl, G, ⟨_, _, _, unhide HT1⟩, (unhide HK).mono (by simp), fun x hx => .inl hx⟩
    · have e1 : wcode n ps = 0 := by unfold wcode; rw [if_pos hc, if_neg hn]
      have e2 : wn n ps = n + 1 := by unfold wn; rw [if_pos e1]
      have e3 : wnum n ps = (n : Int) + 1 := by unfold wnum; rw [if_pos e1]
      have e4 : wst f n ps = wrs f ((n + 1 : Nat) : Int) ps := by unfold wst; rw [if_pos e1]; simp
      rw [e1, e2, e3, e4]
      clear e1 e2 e3 e4
      have hkeys := pf_keys hc
      go_enter Try.func34, Try.ntmps34
      go_wp2_with fail
      refine (pfault37 a c ps w (unhide HP) hm).mono ?_
      rintro e w1 ⟨rfl, hk⟩
      rw [hc]
      clear hc
      have HKEY := hide hkeys
      clear hkeys
      obtain ⟨g, o, cap, ht⟩ := (unhide HT).kp0 hk
      have q8 := ht.ncell
      have f8 : w1.frozen? ⟨sb, 8, none⟩ = false := frozen_of_block _ ht.box
      obtain ⟨y1, y2⟩ := ht.count (n + 1) (ht.inv.mono (Nat.le_succ n) (by omega))
      have HW0 : Hid (SWrI B w sb G f (n + 1) ps 0 (w1.setCell ⟨sb, 8, none⟩ (.int .i64 ((n + 1 : Nat) : Int)))) := ⟨f, G, ⟨_, _, _, y1⟩, by simp, (hk.mono (by simp)).trans y2 (fun x hx => .inl hx), fun x hx => .inl hx⟩
      clear ht hk y1 y2
      push_cast at HW0
      go_wp2_with fail
      clear q8 f8
      generalize w1.setCell { block := sb, off := 8 } (Value.int IntKind.i64 (↑n + 1)) = w2 at *
      go_loopw [7] (fun i wr => ∃ k : Nat, k ≤ ps.length ∧ i = .int .i64 k ∧ Hid (SWrI B w sb G f (n + 1) ps k wr)) (fun i _ => ps.length - (intOf i).toNat)
      case atStart => exact ⟨0, by omega, rfl, HW0⟩
      case round =>
        obtain ⟨k, hk, rfl, HW⟩ := hrel
        obtain ⟨fk, Gk, ⟨g, o, cap, ht⟩, he, hkp, hF⟩ := unhide HW
        have q8 := ht.ncell
        push_cast at q8
        by_cases hlt : k < ps.length
        · obtain ⟨pg, po, rfl, hs⟩ := (unhide HP).mem (by omega)
          have hs2 := hs.kp hkp ((unhide HPF) (by omega) pg po rfl)
          have p0 := hs2.at0 k hlt
          have p1 := hs2.at1 k hlt
          have p2 : wr.cell? ⟨pg, po + k * 3 + 1 + 1, none⟩ = some (.string (vb ps k)) := hs2.at2 k hlt
          have hsz := (unhide HP).str k hlt
          have hkk := (unhide HKEY) k hlt
          obtain ⟨j, hj, hv⟩ : ∃ j : Nat, j < 8 ∧ va ps k = (j : Int) := ⟨(va ps k).toNat, by omega, by omega⟩
          have htl := (ht.lo sb ht.sG).2
          rw [hv] at p0
          have i0 : (0 : Int) ≤ (k : Int) := by omega
          have i1 : (k : Int) < (ps.length : Int) := by omega
          have j0 : (0 : Int) ≤ (j : Int) := by omega
          have j1 : (j : Int) < 8 := by omega
          have HT2 : Hid (Sht B wr sb Gk fk (n + 1)) := ⟨_, _, _, ht⟩
          have HE := hide he
          have HK2 := hide hkp
          have HF := hide hF
          have HV := hide hv
          clear ht he hkp hF hs hs2 hv hkk
          go_wp2_with fail
          go_region_with (go_at_call 52; refine (swr_step (unhide HT2) (unhide HE) (unhide HK2) (unhide HF) (Kp.refl [] wr).drew hlt hj (unhide HV) hsz).mono ?_; rintro e w3 ⟨cc, rfl, HW3⟩)
          all_goals
            go_wp2_with fail
            exact ⟨⟨k + 1, by omega, by go_num, HW3⟩, by simp [intOf]; omega⟩
        · have HT2 := hide ht
          have HE := hide he
          have HK2 := hide hkp
          have HF := hide hF
          clear ht he hkp hF
          go_wp2_with fail
          go_ret2
          have he := unhide HE
          rw [List.drop_eq_nil_of_le (by omega)] at he
          refine ⟨rfl, Gk, ⟨g, o, cap, ?_⟩, unhide HK2, unhide HF⟩
          rw [← he]
          exact unhide HT2
  · have e1 : wcode n ps = pf (-1) ps := by unfold wcode; rw [if_neg hc]
    have e2 : wn n ps = n := by unfold wn; rw [if_neg (by rw [e1]; exact hc)]
    have e3 : wnum n ps = 0 := by unfold wnum; rw [if_neg (by rw [e1]; exact hc)]
    have e4 : wst f n ps = f := by unfold wst; rw [if_neg (by rw [e1]; exact hc)]
    rw [e1, e2, e3, e4]
    clear e1 e2 e3 e4
    generalize hq : pf (-1) ps = q at *
    have HQ := hide hq
    clear hq
    go_enter Try.func34, Try.ntmps34
    go_wp2_with fail
    refine (pfault37 a c ps w (unhide HP) hm).mono ?_
    rintro e w1 ⟨rfl, hk⟩
    rw [unhide HQ]
    have HT1 := hide ((unhide HT).kp0 hk)
    have HK := hide hk
    clear hk
    go_wp2_with fail
    go_ret2
    exact ⟨rfl, G, unhide HT1, (unhide HK).mono (by simp), fun x hx => .inl hx⟩
end Go.Proofs.Ytfcfoabdangfhab
