/- The document's own deed: its memory; In, SameInts and last, by their contracts. -/
import Derived.Test.YtainekjcdmabbaaD3
namespace Go.Proofs.Ytainekjcdmabbaa
open Go.RowKit
set_option maxRecDepth 20000
attribute [local go_sem ↓] Go.wp_at_zero Go.wp_at_succ

def ig (l : List Int) (k : Nat) : Int := l.getD k 0
/-- The numbers lie behind the slice's address. -/
def SlI (w : World) (a : Option Addr) (l : List Int) : Prop := 0 < l.length → ∃ g o, a = some ⟨g, o, none⟩ ∧ ∀ j, j < l.length → w.cell? ⟨g, o + j, none⟩ = some (.int .i64 (ig l j))
theorem SlI.kp0 {w w' : World} {a : Option Addr} {l : List Int} (h : SlI w a l) (hk : Kp [] w w') : SlI w' a l := fun hp => by
  obtain ⟨g, o, e, hs⟩ := h hp
  exact ⟨g, o, e, fun j hj => hk.cell (p := ⟨g, o + j, none⟩) (by simp) (hs j hj)⟩
theorem icells_at {l : List Int} {j : Nat} (h : j < l.length) : (icells l)[j]? = some (.int .i64 (ig l j)) := by
  simp [icells, ig, List.getD_eq_getElem?_getD, h]
theorem sli_own {B n : Nat} {w : World} {a : Option Addr} {cap : Nat} {l : List Int} (h : w.ownsRow B 3 1 (.slice a n cap) n (icells l)) (hn : n = l.length) : SlI w a l := by
  intro hp
  rcases h.2 with ⟨e, _⟩ | ⟨g, c, cur, e, _⟩
  · simp only [Value.slice.injEq] at e; omega
  · simp only [Value.slice.injEq] at e
    obtain ⟨rfl, _, _⟩ := e
    refine ⟨g, 0, rfl, fun j hj => ?_⟩
    subst hn
    have := h.cellAt j (by omega)
    rw [Nat.zero_add, this]; exact icells_at hj

theorem mem_ig {l : List Int} {x : Int} : x ∈ l ↔ ∃ j, j < l.length ∧ ig l j = x := by
  constructor
  · intro h
    obtain ⟨j, hj, e⟩ := List.mem_iff_getElem.1 h
    exact ⟨j, hj, by simp [ig, List.getD_eq_getElem?_getD, hj, e]⟩
  · rintro ⟨j, hj, e⟩
    refine List.mem_iff_getElem.2 ⟨j, hj, ?_⟩
    simpa [ig, List.getD_eq_getElem?_getD, hj] using e

set_option maxHeartbeats 400000 in
theorem in72 {l : List Int} (a : Option Addr) (cap : Nat) (x : Int) (w : World) (h : SlI w a l) (hm : l.length ≤ 1000) :
    Calls Try.prog 72 #[.slice a l.length cap, .int .i64 x] w fun e w' => e = .returned (.bool (decide (x ∈ l))) ∧ w' = w := by
  have HS := hide h
  clear h
  go_enter Try.func72, Try.ntmps72
  go_wp2_with fail
  go_loop [5] (fun i => ∃ d : Nat, d ≤ l.length ∧ i = .int .i64 d ∧ Hid (∀ j, j < d → ig l j ≠ x)) (fun i => l.length - (intOf i).toNat)
  case atStart => exact ⟨0, Nat.zero_le _, rfl, fun j hj => by omega⟩
  case round =>
    obtain ⟨d, hd, rfl, HN⟩ := hrel
    by_cases hlt : d < l.length
    · obtain ⟨g, o, rfl, hs⟩ := unhide HS (by omega)
      have q0 := hs d hlt
      have i0 : (0 : Int) ≤ (d : Int) := by omega
      have i1 : (d : Int) < (l.length : Int) := by omega
      clear hs
      by_cases hx : ig l d = x
      · have HM : Hid (decide (x ∈ l) = true) := decide_eq_true (mem_ig.2 ⟨d, hlt, hx⟩)
        rw [hx] at q0
        clear hx
        go_wp2
        go_ret
        exact ⟨ret_bool (unhide HM).symm, rfl⟩
      · have HN2 : Hid (∀ j, j < d + 1 → ig l j ≠ x) := fun j hj => by
          by_cases e : j = d
          · subst e; exact hx
          · exact unhide HN j (by omega)
        have ex : (ig l d == x) = false := beq_eq_false_iff_ne.2 hx
        clear hx
        go_wp2
        exact ⟨⟨d + 1, by omega, by go_num, HN2⟩, by simp [intOf]; omega⟩
    · have HM : Hid (decide (x ∈ l) = false) := decide_eq_false (fun hm => by
        obtain ⟨j, hj, e⟩ := mem_ig.1 hm
        exact unhide HN j (by omega) e)
      go_wp2
      go_ret
      exact ⟨ret_bool (unhide HM).symm, rfl⟩

set_option maxHeartbeats 400000 in
theorem sameints63 {l : List Int} (a a' : Option Addr) (cap cap' : Nat) (w : World) (h : SlI w a l) (h' : SlI w a' l) (hm : l.length ≤ 1000) :
    Calls Try.prog 63 #[.slice a l.length cap, .slice a' l.length cap'] w fun e w' => e = .returned (.bool true) ∧ ∃ m, w' = w.drewN m := by
  have HS := hide h
  have HS' := hide h'
  clear h h'
  go_enter Try.func63, Try.ntmps63
  go_wp2_with fail
  go_loopw [5] (fun i wr => ∃ d m : Nat, d ≤ l.length ∧ i = .int .i64 d ∧ wr = w.drewN m) (fun i _ => l.length - (intOf i).toNat)
  case atStart => exact ⟨0, 0, Nat.zero_le _, rfl, rfl⟩
  case round =>
    obtain ⟨d, m, hd, rfl, rfl⟩ := hrel
    by_cases hlt : d < l.length
    · obtain ⟨g, o, rfl, hs⟩ := unhide HS (by omega)
      obtain ⟨g', o', rfl, hs'⟩ := unhide HS' (by omega)
      have q0 := hs d hlt
      have p0 := hs' d hlt
      have i0 : (0 : Int) ≤ (d : Int) := by omega
      have i1 : (d : Int) < (l.length : Int) := by omega
      clear hs hs'
      go_wp2_with fail
      go_quiet (fail)
      go_wp2
      exact ⟨⟨d + 1, m + nq, by omega, by go_num, rfl⟩, by simp [intOf]; omega⟩
    · go_wp2
      go_ret
      exact ⟨rfl, _, rfl⟩

/-- The document's deed: the box wb holds the mode, the commit, what was read and what was written; H: all blocks that are its own. -/
structure WrkL (B : Nat) (w : World) (wb : Nat) (H : List Nat) (ra : Option Addr) (rc : Nat) (wa : Option Addr) (wc : Nat) (md y : Int) (rs : List Int) (ws : List Ver) : Prop where
  box : w.heap[wb]? = some (.cells #[.int .i64 md, .int .i64 y, .slice ra rs.length rc, .slice wa ws.length wc] 87 (0, 0))
  ro : w.ownsRow B 3 1 (.slice ra rs.length rc) rs.length (icells rs)
  wo : w.ownsRow B 72 3 (.slice wa ws.length wc) ws.length (vcells ws)
  rb : ∀ g, (Value.slice ra rs.length rc).ownBlock = some g → g ≠ wb ∧ g ∈ H
  ab : ∀ g, (Value.slice wa ws.length wc).ownBlock = some g → g ≠ wb ∧ g ∈ H
  rw : ∀ g g', (Value.slice ra rs.length rc).ownBlock = some g → (Value.slice wa ws.length wc).ownBlock = some g' → g ≠ g'
  bH : wb ∈ H
  lo : ∀ x, x ∈ H → B ≤ x ∧ x < w.heap.size
def Wrk (B : Nat) (w : World) (wb : Nat) (H : List Nat) (md y : Int) (rs : List Int) (ws : List Ver) : Prop := ∃ ra rc wa wc, WrkL B w wb H ra rc wa wc md y rs ws

section
variable {B : Nat} {w w' : World} {wb : Nat} {H : List Nat} {ra : Option Addr} {rc : Nat} {wa : Option Addr} {wc : Nat} {md y : Int} {rs : List Int} {ws : List Ver}
theorem WrkL.kp {S : List Nat} (h : WrkL B w wb H ra rc wa wc md y rs ws) (hk : Kp S w w') (hS : ∀ x, x ∈ H → x ∉ S) : WrkL B w' wb H ra rc wa wc md y rs ws :=
  ⟨by rw [hk.block wb (lt_of_block h.box) (hS _ h.bH)]; exact h.box, own_kp h.ro hk (fun g hg => hS g (h.rb g hg).2), own_kp h.wo hk (fun g hg => hS g (h.ab g hg).2), h.rb, h.ab, h.rw, h.bH, fun x hx => ⟨(h.lo x hx).1, Nat.lt_of_lt_of_le (h.lo x hx).2 hk.size⟩⟩
theorem WrkL.kp0 (h : WrkL B w wb H ra rc wa wc md y rs ws) (hk : Kp [] w w') : WrkL B w' wb H ra rc wa wc md y rs ws := h.kp hk (fun _ _ => by simp)
theorem Wrk.kp {S : List Nat} (h : Wrk B w wb H md y rs ws) (hk : Kp S w w') (hS : ∀ x, x ∈ H → x ∉ S) : Wrk B w' wb H md y rs ws := by
  obtain ⟨ra, rc, wa, wc, h⟩ := h
  exact ⟨ra, rc, wa, wc, h.kp hk hS⟩
theorem Wrk.kp0 (h : Wrk B w wb H md y rs ws) (hk : Kp [] w w') : Wrk B w' wb H md y rs ws := h.kp hk (fun _ _ => by simp)
theorem Wrk.lo (h : Wrk B w wb H md y rs ws) : ∀ x, x ∈ H → B ≤ x ∧ x < w.heap.size := by
  obtain ⟨ra, rc, wa, wc, h⟩ := h
  exact h.lo
theorem WrkL.c0 (h : WrkL B w wb H ra rc wa wc md y rs ws) : w.cell? ⟨wb, 0, none⟩ = some (.int .i64 md) := cell_of_block h.box rfl
theorem WrkL.c1 (h : WrkL B w wb H ra rc wa wc md y rs ws) : w.cell? ⟨wb, 1, none⟩ = some (.int .i64 y) := cell_of_block h.box rfl
theorem WrkL.c2 (h : WrkL B w wb H ra rc wa wc md y rs ws) : w.cell? ⟨wb, 2, none⟩ = some (.slice ra rs.length rc) := cell_of_block h.box rfl
theorem WrkL.c3 (h : WrkL B w wb H ra rc wa wc md y rs ws) : w.cell? ⟨wb, 3, none⟩ = some (.slice wa ws.length wc) := cell_of_block h.box rfl
theorem WrkL.rsl (h : WrkL B w wb H ra rc wa wc md y rs ws) : SlI w ra rs := sli_own h.ro rfl
theorem WrkL.wsl (h : WrkL B w wb H ra rc wa wc md y rs ws) : SlO w wa ws := slo_own h.wo rfl
end

theorem lw_here {ws : List Ver} {k : Int} {i : Nat} (h : va ws i = k) : lw ws k (i + 1) = some ⟨k, vt ws i, vb ws i⟩ := by simp only [lw]; rw [if_pos h]
theorem lw_past {ws : List Ver} {k : Int} {i : Nat} (h : ¬ va ws i = k) : lw ws k (i + 1) = lw ws k i := by simp only [lw]; rw [if_neg h]

set_option maxHeartbeats 1000000 in
theorem wlast81 {B wb : Nat} {H : List Nat} {md y : Int} {rs : List Int} {ws : List Ver} (k : Int) (w : World) (h : Wrk B w wb H md y rs ws) (hm : ws.length ≤ 1000) :
    Calls Try.prog 81 #[.pointer (some ⟨wb, 0, none⟩), .int .i64 k] w fun e w' => e = .returned (.tuple #[.agg #[.bool ((lwr ws k).getD dv).t, .string ((lwr ws k).getD dv).s], .bool (lwr ws k).isSome]) ∧ Kp [] w w' := by
  obtain ⟨ra, rc, wa, wc, h⟩ := h
  have hlt := lt_of_block h.box
  have q3 := h.c3
  have HS := hide h.wsl
  clear h
  go_enter Try.func81, Try.ntmps81
  go_wp2_with fail
  go_loop [6] (fun i => ∃ d : Nat, d ≤ ws.length ∧ i = .int .i64 ((d : Int) - 1) ∧ Hid (lw ws k d = lwr ws k)) (fun i => (intOf i + 1).toNat)
  case atStart => exact ⟨ws.length, Nat.le_refl _, rfl, rfl⟩
  case round =>
    obtain ⟨d, hd, rfl, HE⟩ := hrel
    by_cases hd0 : 0 < d
    · obtain ⟨c, rfl⟩ : ∃ c, d = c + 1 := ⟨d - 1, by omega⟩
      have hc1 : ((c + 1 : Nat) : Int) - 1 = (c : Int) := by omega
      rw [hc1]
      obtain ⟨g, o, rfl, hs⟩ := unhide HS (by omega)
      have p0 := hs.at0 c (by omega)
      have p1 := hs.at1 c (by omega)
      have p2 : w.cell? ⟨g, o + c * 3 + 1 + 1, none⟩ = some (.string (vb ws c)) := hs.at2 c (by omega)
      have hgl := hs.lt (by omega)
      have i0 : (0 : Int) ≤ (c : Int) := by omega
      have i1 : (c : Int) < (ws.length : Int) := by omega
      clear hs
      by_cases hx : va ws c = k
      · have HV := hide ((unhide HE).symm.trans (lw_here hx))
        rw [hx] at p0
        clear hx
        go_wp2
        refine bodyPost_ret (v := .tuple #[.agg #[.bool (vt ws c), .string (vb ws c)], .bool true]) (by simp [results, Try.results81, go_sem]) rfl ⟨by rw [unhide HV]; rfl, ?_⟩
        exact (Kp.refl [] w).alloc _
      · have HE2 := hide ((lw_past hx).symm.trans (unhide HE))
        have ex : (va ws c == k) = false := beq_eq_false_iff_ne.2 hx
        clear hx
        go_wp2
        exact ⟨⟨c, by omega, by go_num, HE2⟩, by simp [intOf]⟩
    · have e : d = 0 := by omega
      subst e
      have HV : Hid (lwr ws k = none) := (unhide HE).symm
      go_wp2
      refine bodyPost_ret (v := .tuple #[.agg #[.bool false, .string ByteArray.empty], .bool false]) (by simp [results, Try.results81, go_sem]; rfl) rfl ⟨by rw [unhide HV]; rfl, ?_⟩
      exact (Kp.refl [] w).alloc _
end Go.Proofs.Ytainekjcdmabbaa
