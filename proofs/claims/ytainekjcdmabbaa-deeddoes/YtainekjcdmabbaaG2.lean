/- Get and Put of the document's deed, by their contracts. -/
import Derived.Test.YtainekjcdmabbaaG1
import Derived.Deep.RegionLaw
namespace Go.Proofs.Ytainekjcdmabbaa
open Go.RowKit
set_option maxRecDepth 20000
attribute [local go_sem ↓] Go.wp_at_zero Go.wp_at_succ

theorem far_cell {W w2 : World} {ob : Option Nat} {b i : Nat} {v : Value} (hg : W.grownBy w2 ob) (hne : some b ≠ ob) (q0 : W.cell? ⟨b, i, none⟩ = some v) : w2.cell? ⟨b, i, none⟩ = some v := by
  rw [hg.cell_far _ (World.block_lt_of_cell? W _ q0) hne]; exact q0
theorem far_frozen {W w2 : World} {ob : Option Nat} {b i : Nat} (hg : W.grownBy w2 ob) (hne : some b ≠ ob) (hb : b < W.heap.size) (q1 : W.frozen? ⟨b, i, none⟩ = false) : w2.frozen? ⟨b, i, none⟩ = false := by
  rw [hg.frozen_far _ hb hne]; exact q1

section
variable {B : Nat} {W w2 : World} {wb : Nat} {H : List Nat} {ra : Option Addr} {rc : Nat} {wa : Option Addr} {wc : Nat} {md y : Int} {rs : List Int} {ws : List Ver} {g2 cap2 : Nat}
theorem wrk_read {k : Int} (h : WrkL B W wb H ra rc wa wc md y rs ws) (hown : w2.ownsRow B 3 1 (.slice (some ⟨g2, 0, none⟩) (rs.length + 1) cap2) (rs.length + 1) (icells rs ++ [.int .i64 k]))
    (hg : W.grownBy w2 (Value.slice ra rs.length rc).ownBlock) (hat : (Value.slice ra rs.length rc).ownBlock = some g2 ∨ g2 = W.heap.size) (hlt : g2 < w2.heap.size) :
    WrkL B (w2.setCell ⟨wb, 2, none⟩ (.slice (some ⟨g2, 0, none⟩) (rs.length + 1) cap2)) wb (g2 :: H) (some ⟨g2, 0, none⟩) cap2 wa wc md y (rs ++ [k]) ws ∧ Kp H W (w2.setCell ⟨wb, 2, none⟩ (.slice (some ⟨g2, 0, none⟩) (rs.length + 1) cap2)) ∧ (g2 ∈ H ∨ g2 = W.heap.size) := by
  have hwl := lt_of_block h.box
  have hwB := h.lo wb h.bH
  have hne : g2 ≠ wb := by
    rcases hat with e | e
    · exact (h.rb g2 e).1
    · omega
  have hin : g2 ∈ H ∨ g2 = W.heap.size := by
    rcases hat with e | e
    · exact .inl (h.rb g2 e).2
    · exact .inr e
  have hbox : w2.heap[wb]? = some (.cells #[.int .i64 md, .int .i64 y, .slice ra rs.length rc, .slice wa ws.length wc] 87 (0, 0)) := by
    rw [hg.block wb hwl (fun e => (h.rb wb e.symm).1 rfl)]; exact h.box
  have hkH : Kp H W w2 := (Kp.refl H W).grown hg (fun x hx => .inl (h.rb x hx).2)
  have hks : Kp [wb] w2 (w2.setCell ⟨wb, 2, none⟩ (.slice (some ⟨g2, 0, none⟩) (rs.length + 1) cap2)) := (Kp.refl _ _).setCell (.inl (by simp)) _
  have hsz := hks.size
  have hsz2 := hg.size
  refine ⟨⟨?_, ?_, ?_, ?_, fun g hg2 => ⟨(h.ab g hg2).1, List.mem_cons_of_mem _ (h.ab g hg2).2⟩, ?_, List.mem_cons_of_mem _ h.bH, fun x hx => ?_⟩, hkH.trans hks (by simp; exact .inl h.bH), hin⟩
  · rw [heap_setCell_at 2 _ hbox, List.length_append]; rfl
  · rw [List.length_append]
    have e : icells rs ++ [.int .i64 k] = icells (rs ++ [k]) := by rw [icells_append]; rfl
    rw [e] at hown
    refine own_kp hown hks (fun g hg2 => ?_)
    have : g2 = g := by simpa [Value.ownBlock] using hg2
    simp; omega
  · refine own_kp (own_kp h.wo (S := (Value.slice ra rs.length rc).ownBlock.toList) ((Kp.refl _ W).grown hg (fun x hx => .inl (by simp [hx]))) (fun g hg2 hm => ?_)) hks (fun g hg2 => by have := (h.ab g hg2).1; simp; omega)
    exact h.rw g g (by simpa using hm) hg2 rfl
  · intro g hg2
    have : g2 = g := by simpa [Value.ownBlock] using hg2
    subst this
    exact ⟨hne, by simp⟩
  · intro g g' hg2 hg3
    have : g2 = g := by simpa [Value.ownBlock] using hg2
    subst this
    rcases hat with e | e
    · exact h.rw _ _ e hg3
    · have := (h.lo g' (h.ab g' hg3).2).2; omega
  · rcases List.mem_cons.1 hx with e | e
    · subst e
      refine ⟨?_, by omega⟩
      rcases hin with q | q
      · exact (h.lo _ q).1
      · omega
    · have := h.lo x e; omega

theorem wrk_write {k : Int} {t : Bool} {s : ByteArray} (h : WrkL B W wb H ra rc wa wc md y rs ws) (hown : w2.ownsRow B 72 3 (.slice (some ⟨g2, 0, none⟩) (ws.length + 1) cap2) (ws.length + 1) (vcells ws ++ [.int .i64 k, .bool t, .string s]))
    (hg : W.grownBy w2 (Value.slice wa ws.length wc).ownBlock) (hat : (Value.slice wa ws.length wc).ownBlock = some g2 ∨ g2 = W.heap.size) (hlt : g2 < w2.heap.size) :
    WrkL B (w2.setCell ⟨wb, 3, none⟩ (.slice (some ⟨g2, 0, none⟩) (ws.length + 1) cap2)) wb (g2 :: H) ra rc (some ⟨g2, 0, none⟩) cap2 md y rs (ws ++ [⟨k, t, s⟩]) ∧ Kp H W (w2.setCell ⟨wb, 3, none⟩ (.slice (some ⟨g2, 0, none⟩) (ws.length + 1) cap2)) ∧ (g2 ∈ H ∨ g2 = W.heap.size) := by
  have hwl := lt_of_block h.box
  have hwB := h.lo wb h.bH
  have hne : g2 ≠ wb := by
    rcases hat with e | e
    · exact (h.ab g2 e).1
    · omega
  have hin : g2 ∈ H ∨ g2 = W.heap.size := by
    rcases hat with e | e
    · exact .inl (h.ab g2 e).2
    · exact .inr e
  have hbox : w2.heap[wb]? = some (.cells #[.int .i64 md, .int .i64 y, .slice ra rs.length rc, .slice wa ws.length wc] 87 (0, 0)) := by
    rw [hg.block wb hwl (fun e => (h.ab wb e.symm).1 rfl)]; exact h.box
  have hkH : Kp H W w2 := (Kp.refl H W).grown hg (fun x hx => .inl (h.ab x hx).2)
  have hks : Kp [wb] w2 (w2.setCell ⟨wb, 3, none⟩ (.slice (some ⟨g2, 0, none⟩) (ws.length + 1) cap2)) := (Kp.refl _ _).setCell (.inl (by simp)) _
  have hsz := hks.size
  have hsz2 := hg.size
  refine ⟨⟨?_, ?_, ?_, fun g hg2 => ⟨(h.rb g hg2).1, List.mem_cons_of_mem _ (h.rb g hg2).2⟩, ?_, ?_, List.mem_cons_of_mem _ h.bH, fun x hx => ?_⟩, hkH.trans hks (by simp; exact .inl h.bH), hin⟩
  · rw [heap_setCell_at 3 _ hbox, List.length_append]; rfl
  · refine own_kp (own_kp h.ro (S := (Value.slice wa ws.length wc).ownBlock.toList) ((Kp.refl _ W).grown hg (fun x hx => .inl (by simp [hx]))) (fun g hg2 hm => ?_)) hks (fun g hg2 => by have := (h.rb g hg2).1; simp; omega)
    exact h.rw g g hg2 (by simpa using hm) rfl
  · rw [List.length_append]
    have e : vcells ws ++ [.int .i64 k, .bool t, .string s] = vcells (ws ++ [⟨k, t, s⟩]) := by rw [vcells_append]; rfl
    rw [e] at hown
    refine own_kp hown hks (fun g hg2 => ?_)
    have : g2 = g := by simpa [Value.ownBlock] using hg2
    simp; omega
  · intro g hg2
    have : g2 = g := by simpa [Value.ownBlock] using hg2
    subst this
    exact ⟨hne, by simp⟩
  · intro g g' hg2 hg3
    have : g2 = g' := by simpa [Value.ownBlock] using hg3
    subst this
    rcases hat with e | e
    · exact h.rw _ _ hg2 e
    · have := (h.lo g (h.rb g hg2).2).2; omega
  · rcases List.mem_cons.1 hx with e | e
    · subst e
      refine ⟨?_, by omega⟩
      rcases hin with q | q
      · exact (h.lo _ q).1
      · omega
    · have := h.lo x e; omega
end

/-- What Get of the document's deed tells and leaves. -/
def WgEnd (B : Nat) (w : World) (wb : Nat) (H : List Nat) (md y : Int) (rs : List Int) (ws : List Ver) (v : Value) (e : Ending) (w' : World) : Prop :=
  e = .returned v ∧ ∃ H', Wrk B w' wb H' md y rs ws ∧ Kp H w w' ∧ ∀ x, x ∈ H' → x ∈ H ∨ w.heap.size ≤ x
theorem wgEnd_kp {B : Nat} {w w' : World} {wb : Nat} {H : List Nat} {md y : Int} {rs : List Int} {ws : List Ver} {v : Value} {e : Ending} (he : e = .returned v) (h : Wrk B w wb H md y rs ws) (hk : Kp [] w w') : WgEnd B w wb H md y rs ws v e w' :=
  ⟨he, H, h.kp0 hk, hk.mono (by simp), fun _ hx => .inl hx⟩

/-- A variable of two cells: a value. -/
def Two (w : World) (p : Nat) (t : Bool) (s : ByteArray) : Prop := w.heap[p]? = some (.cells #[.bool t, .string s] 24 (0, 0))
section
variable {w w' : World} {p : Nat} {t : Bool} {s : ByteArray}
theorem Two.kp {S : List Nat} (h : Two w p t s) (hk : Kp S w w') (hS : p ∉ S) : Two w' p t s := by
  unfold Two at h ⊢
  rw [hk.block p (lt_of_block h) hS]; exact h
theorem Two.kp0 (h : Two w p t s) (hk : Kp [] w w') : Two w' p t s := h.kp hk (by simp)
theorem Two.c0 (h : Two w p t s) : w.cell? ⟨p, 0, none⟩ = some (.bool t) := cell_of_block h rfl
theorem Two.c1 (h : Two w p t s) : w.cell? ⟨p, 1, none⟩ = some (.string s) := cell_of_block h rfl
theorem Two.f0 (h : Two w p t s) : w.frozen? ⟨p, 0, none⟩ = false := frozen_of_block 0 h
theorem Two.f1 (h : Two w p t s) : w.frozen? ⟨p, 1, none⟩ = false := frozen_of_block 1 h
theorem Two.lt (h : Two w p t s) : p < w.heap.size := lt_of_block h
theorem Two.grown {ob : Option Nat} (h : Two w p t s) (hg : w.grownBy w' ob) (hne : some p ≠ ob) : Two w' p t s := by
  unfold Two at h ⊢
  rw [hg.block p (lt_of_block h) hne]; exact h
end
theorem two_new (w : World) (t : Bool) (s : ByteArray) : Two (w.alloc (.cells #[.bool t, .string s] 24)) w.heap.size t s := heap_alloc_new w _

/-- Behind the append of Get: what it stores to, and what it loads. -/
theorem get_far {B : Nat} {w2 w3 : World} {wb : Nat} {H : List Nat} {ra : Option Addr} {rc : Nat} {wa : Option Addr} {wc : Nat} {md y : Int} {rs : List Int} {ws : List Ver} {R : Nat} {t : Bool} {s : ByteArray} {o : Obj}
    (h : WrkL B w2 wb H ra rc wa wc md y rs ws) (hR : Two w2 R false ⟨#[]⟩) (hRH : R ∉ H) (hg : ((w2.alloc (.cells #[.bool t, .string s] 24)).alloc o).grownBy w3 (Value.slice ra rs.length rc).ownBlock) :
    w3.cell? ⟨wb, 2, none⟩ = some (.slice ra rs.length rc) ∧ w3.frozen? ⟨wb, 2, none⟩ = false ∧ w3.cell? ⟨w2.heap.size, 0, none⟩ = some (.bool t) ∧ w3.cell? ⟨w2.heap.size, 1, none⟩ = some (.string s) ∧
      w3.cell? ⟨R, 0, none⟩ = some (.bool false) ∧ w3.cell? ⟨R, 1, none⟩ = some (.string ⟨#[]⟩) ∧ w3.frozen? ⟨R, 0, none⟩ = false ∧ w3.frozen? ⟨R, 1, none⟩ = false := by
  have hk : Kp [] w2 ((w2.alloc (.cells #[.bool t, .string s] 24)).alloc o) := ((Kp.refl [] w2).alloc _).alloc _
  have h' := h.kp0 hk
  have hbox : w3.heap[wb]? = some (.cells #[.int .i64 md, .int .i64 y, .slice ra rs.length rc, .slice wa ws.length wc] 87 (0, 0)) := by
    rw [hg.block wb (lt_of_block h'.box) (fun e => (h.rb wb e.symm).1 rfl)]; exact h'.box
  have hv : Two w3 w2.heap.size t s := ((two_new w2 t s).kp0 ((Kp.refl [] _).alloc o)).grown hg (fun e => by have := (h.lo _ (h.rb _ e.symm).2).2; omega)
  have hr : Two w3 R false ⟨#[]⟩ := (hR.kp0 hk).grown hg (fun e => hRH (h.rb _ e.symm).2)
  exact ⟨cell_of_block hbox rfl, frozen_of_block 2 hbox, hv.c0, hv.c1, hr.c0, hr.c1, hr.f0, hr.f1⟩

theorem wget_end {B : Nat} {w w2 w3 : World} {wb : Nat} {H : List Nat} {ra : Option Addr} {rc : Nat} {wa : Option Addr} {wc : Nat} {md y : Int} {rs : List Int} {ws : List Ver} {t : Bool} {s : ByteArray} {k : Int} {o : Obj} {g2 cap2 : Nat} {v : Value} {e : Ending} (he : e = .returned v)
    (h : WrkL B w2 wb H ra rc wa wc md y rs ws) (hH : ∀ x, x ∈ H → x < w.heap.size) (hkw : Kp [] w w2) (hlt : w.heap.size < w2.heap.size)
    (hown : w3.ownsRow B 3 1 (.slice (some ⟨g2, 0, none⟩) (rs.length + 1) cap2) (rs.length + 1) (icells rs ++ [.int .i64 k]))
    (hg : ((w2.alloc (.cells #[.bool t, .string s] 24)).alloc o).grownBy w3 (Value.slice ra rs.length rc).ownBlock) (hat : (Value.slice ra rs.length rc).ownBlock = some g2 ∨ g2 = ((w2.alloc (.cells #[.bool t, .string s] 24)).alloc o).heap.size) (hl3 : g2 < w3.heap.size) :
    WgEnd B w wb H md y (rs ++ [k]) ws v e (((w3.setCell ⟨wb, 2, none⟩ (.slice (some ⟨g2, 0, none⟩) (rs.length + 1) cap2)).setCell ⟨w.heap.size, 0, none⟩ (.bool t)).setCell ⟨w.heap.size, 1, none⟩ (.string s)) := by
  have hk : Kp [] w2 ((w2.alloc (.cells #[.bool t, .string s] 24)).alloc o) := ((Kp.refl [] w2).alloc _).alloc _
  obtain ⟨z1, z2, z3⟩ := wrk_read (h.kp0 hk) hown hg hat hl3
  have hsz : w2.heap.size ≤ ((w2.alloc (.cells #[.bool t, .string s] 24)).alloc o).heap.size := hk.size
  have hin : ∀ x, x ∈ g2 :: H → x ∈ H ∨ w.heap.size < x := by
    intro x hx
    rcases List.mem_cons.1 hx with e | e
    · subst e
      rcases z3 with q | q
      · exact .inl q
      · right; omega
    · exact .inl e
  refine ⟨he, g2 :: H, ⟨_, _, _, _, z1.kp (S := [w.heap.size]) (((Kp.refl _ _).setCell (.inl (by simp)) _).setCell (.inl (by simp)) _) (fun x hx => ?_)⟩, ?_, fun x hx => ?_⟩
  · rcases hin x hx with q | q
    · have := hH x q; simp; omega
    · simp; omega
  · exact ((((hkw.trans0 hk).mono (T := H) (by simp)).trans z2 (fun x hx => .inl hx)).setCell (.inr (Nat.le_refl _)) _).setCell (.inr (Nat.le_refl _)) _
  · rcases hin x hx with q | q
    · exact .inl q
    · right; omega

set_option maxHeartbeats 2000000 in
theorem wget56 {B sb n wb : Nat} {G H : List Nat} {f : Nat → List Ver} {md y : Int} {rs : List Int} {ws : List Ver} (k : Int) (w : World) (h : Sht B w sb G f n) (hw : Wrk B w wb H md y rs ws) (hrl : rs.length ≤ 900) (hwl : ws.length ≤ 900) :
    Calls Try.prog 56 #[.pointer (some ⟨wb, 0, none⟩), .pointer (some ⟨sb, 0, none⟩), .int .i64 k] w fun e w' => WgEnd B w wb H md y (dr f n y rs ws k) ws (.tuple #[.agg #[.bool (dg f n y ws k).t, .string (dg f n y ws k).s], .int .i64 (dg f n y ws k).a]) e w' := by
  obtain ⟨in0, hi0, hz0, hz1, hz2⟩ := info_parts Try.info3
  have HT := hide h
  have HW := hide hw
  clear h hw
  by_cases hk : keyB k = true
  · cases hv : lwr ws k with
    | some v =>
      rw [dg_own hk hv, dr_own hv]
      have HV := hide hv
      clear hv
      go_enter Try.func56, Try.ntmps56
      go_wp2_with fail
      refine (key12 _ _).mono ?_
      rintro e w' ⟨rfl, rfl⟩
      rw [hk]
      clear hk
      go_wp2_with fail
      refine (wlast81 k _ ((unhide HW).kp0 ((Kp.refl [] w).alloc _)) (by omega)).mono ?_
      rintro e w1 ⟨rfl, hkp⟩
      rw [unhide HV]
      simp only [Option.isSome_some, Option.getD_some]
      have p0 : w1.cell? ⟨w.heap.size, 0, none⟩ = some (.bool false) := hkp.cell (by simp) (by simp)
      have p1 : w1.cell? ⟨w.heap.size, 1, none⟩ = some (.string ⟨#[]⟩) := hkp.cell (by simp) (by simp)
      have p2 : w1.frozen? ⟨w.heap.size, 0, none⟩ = false := by rw [hkp.frozen (by simp) (by simp)]; simp
      have p3 : w1.frozen? ⟨w.heap.size, 1, none⟩ = false := by rw [hkp.frozen (by simp) (by simp)]; simp
      have hRs : w.heap.size < w1.heap.size := by have := hkp.size; simp at this; omega
      have HK1 := hide (((Kp.refl [] w).alloc (.cells #[.bool false, .string ⟨#[]⟩] 24)).trans0 hkp)
      clear hkp
      go_wp2
      refine bodyPost_ret (v := .tuple #[.agg #[.bool v.t, .string v.s], .int .i64 0]) (by simp [results, Try.results56, go_sem, p0, p1, hRs]) rfl (wgEnd_kp rfl (unhide HW) ?_)
      exact (((unhide HK1).setCell (p := ⟨w.heap.size, 0, none⟩) (.inr (Nat.le_refl _)) _).setCell (p := ⟨w.heap.size, 1, none⟩) (.inr (Nat.le_refl _)) _).alloc _
    | none =>
      rw [dg_tbl hk hv]
      by_cases h0 : (tr f n k y).a = 0
      · rw [dr_tbl hk hv h0, h0]
        have HV := hide hv
        have H0 := hide h0
        clear hv h0
        go_enter Try.func56, Try.ntmps56
        go_wp2_with fail
        refine (key12 _ _).mono ?_
        rintro e w' ⟨rfl, rfl⟩
        rw [hk]
        clear hk
        go_wp2_with fail
        refine (wlast81 k _ ((unhide HW).kp0 ((Kp.refl [] w).alloc _)) (by omega)).mono ?_
        rintro e w1 ⟨rfl, hkp⟩
        rw [unhide HV]
        simp only [Option.isSome_none, Option.getD_none]
        have hkp1 := ((Kp.refl [] w).alloc (.cells #[.bool false, .string ⟨#[]⟩] 24)).trans0 hkp
        have hR := (two_new w false ⟨#[]⟩).kp0 hkp
        obtain ⟨ra, rc, wa, wc, hw1⟩ := (unhide HW).kp0 hkp1
        have q1 := hw1.c1
        have hl1 := lt_of_block hw1.box
        have HW1 := hide hw1
        have HR := hide hR
        have HK1 := hide hkp1
        clear hkp hkp1 hw1 hR
        go_wp2_with fail
        refine (sread33 k y _ ((unhide HT).kp0 ((unhide HK1).alloc _))).mono ?_
        rintro e w2 ⟨rfl, hkp⟩
        have hkp2 := ((Kp.refl [] w1).alloc (.cells #[.bool false, .string ⟨#[]⟩] 24)).trans0 hkp
        have hw2 := (unhide HW1).kp0 hkp2
        have hR := (unhide HR).kp0 hkp2
        have c2 := hw2.c2
        have hlb := lt_of_block hw2.box
        have hlR := hR.lt
        have hHw := (unhide HW).lo
        have hbw : wb < w.heap.size := (hHw wb hw2.bH).2
        have hBb : B ≤ wb := (hHw wb hw2.bH).1
        have n1 : wb ≠ w.heap.size := by omega
        have n2 : wb ≠ w2.heap.size := by omega
        have n3 : w.heap.size ≠ w2.heap.size := by omega
        have hRH : w.heap.size ∉ H := fun hm => by have := (hHw _ hm).2; omega
        rw [unhide H0]
        generalize hvv : tr f n k y = v at *
        have HVV := hide hvv
        have HO := hide (own_kp0 hw2.ro (((Kp.refl [] w2).alloc (.cells #[.bool v.t, .string v.s] 24)).alloc (.cells #[.int .i64 k] 3)))
        have HW2 := hide hw2
        have HR2 := hide hR
        have HRH := hide hRH
        have HHW := hide hHw
        have HK2 := hide ((unhide HK1).trans0 hkp2)
        clear hvv hw2 hR hkp hkp2 hRH hHw q1
        go_wp2_with (at_builtin; refine wpList_append_lies _ rfl _ _ 85 rfl B 3 in0 _ 1 8 Try.underlying85 hi0 hz0 hz1 hz2 rfl (by omega) (.slice ra rs.length rc) rs.length (icells rs) rfl (unhide HO) ⟨w2.heap.size + 1, 0, none⟩ 1 1 [.int .i64 k] (by rfl) (by rfl) (World.news_of_block (cs := #[.int .i64 k]) (t := 3) (fr := (0, 0)) (by have := heap_alloc_new (w2.alloc (.cells #[.bool v.t, .string v.s] 24)) (.cells #[.int .i64 k] 3); simpa using this)) (by simp [Value.oneCell']) (by omega) (by unfold maxLen; omega) (by omega) (by simp; omega) _ rfl ?_; intro g2 cap2 w3 hown hgrow hat hlt3; obtain ⟨r0, r1, r2, r3, r4, r5, r6, r7⟩ := get_far (unhide HW2) (unhide HR2) (unhide HRH) hgrow; have HOW := hide hown; have HGR := hide hgrow; have HAT := hide hat; clear hown hgrow hat c2)
        refine bodyPost_ret (v := .tuple #[.agg #[.bool v.t, .string v.s], .int .i64 0]) (by simp [results, Try.results56, go_sem, r4, r5]) rfl ?_
        exact wget_end (by rw [unhide HVV]) (unhide HW2) (fun x hx => (unhide HHW x hx).2) (unhide HK2) hlR (unhide HOW) (unhide HGR) (unhide HAT) hlt3
      · rw [dr_code h0]
        have HV := hide hv
        have HN0 := hide h0
        clear hv h0
        go_enter Try.func56, Try.ntmps56
        go_wp2_with fail
        refine (key12 _ _).mono ?_
        rintro e w' ⟨rfl, rfl⟩
        rw [hk]
        clear hk
        go_wp2_with fail
        refine (wlast81 k _ ((unhide HW).kp0 ((Kp.refl [] w).alloc _)) (by omega)).mono ?_
        rintro e w1 ⟨rfl, hkp⟩
        rw [unhide HV]
        simp only [Option.isSome_none, Option.getD_none]
        have hkp1 := ((Kp.refl [] w).alloc (.cells #[.bool false, .string ⟨#[]⟩] 24)).trans0 hkp
        have hR := (two_new w false ⟨#[]⟩).kp0 hkp
        obtain ⟨ra, rc, wa, wc, hw1⟩ := (unhide HW).kp0 hkp1
        have q1 := hw1.c1
        have hl1 := lt_of_block hw1.box
        have HW1 := hide hw1
        have HR := hide hR
        have HK1 := hide hkp1
        clear hkp hkp1 hw1 hR
        go_wp2_with fail
        refine (sread33 k y _ ((unhide HT).kp0 ((unhide HK1).alloc _))).mono ?_
        rintro e w2 ⟨rfl, hkp⟩
        have hkp2 := ((Kp.refl [] w1).alloc (.cells #[.bool false, .string ⟨#[]⟩] 24)).trans0 hkp
        have hR := (unhide HR).kp0 hkp2
        have p0 := hR.c0
        have p1 := hR.c1
        have p2 := hR.f0
        have p3 := hR.f1
        have hlR := hR.lt
        have HK2 := hide ((unhide HK1).trans0 hkp2)
        have h0 := unhide HN0
        clear hR hkp hkp2 q1
        generalize hvv : tr f n k y = v at *
        have HVV := hide hvv
        clear hvv
        go_wp2
        refine bodyPost_ret (v := .tuple #[.agg #[.bool v.t, .string v.s], .int .i64 v.a]) (by simp [results, Try.results56, go_sem, p0, p1, hlR]) rfl (wgEnd_kp (by rw [unhide HVV]) (unhide HW) ?_)
        exact (((unhide HK2).setCell (p := ⟨w.heap.size, 0, none⟩) (.inr (Nat.le_refl _)) _).setCell (p := ⟨w.heap.size, 1, none⟩) (.inr (Nat.le_refl _)) _).alloc _
  · have hk2 : keyB k = false := by simpa using hk
    rw [dg_out hk2, dr_out hk2]
    clear hk
    go_enter Try.func56, Try.ntmps56
    go_wp2_with fail
    refine (key12 _ _).mono ?_
    rintro e w' ⟨rfl, rfl⟩
    rw [hk2]
    clear hk2
    go_wp2
    refine bodyPost_ret (v := .tuple #[.agg #[.bool false, .string ByteArray.empty], .int .i64 1]) (by simp [results, Try.results56, go_sem]; rfl) rfl (wgEnd_kp rfl (unhide HW) ?_)
    exact (Kp.refl [] w).alloc _
end Go.Proofs.Ytainekjcdmabbaa
