/- What stands at the heads of the loops of TableShots. -/
import Derived.Test.YtcfogkdpkpehaabX3
namespace Go.Proofs.Ytcfogkdpkpehaab
open Go.RowKit
set_option maxRecDepth 20000

theorem inside_of {w0 : World} {a : Option Addr} {ps : List Ver} (h : Prs w0 a ps) (X : List Nat) : 0 < ps.length → ∀ g o, a = some ⟨g, o, none⟩ → g < w0.heap.size ∨ g ∈ X := by
  intro hp g o e
  obtain ⟨g', o', e', hs⟩ := h.mem hp
  rw [e] at e'
  simp only [Option.some.injEq, Addr.mk.injEq, and_true] at e'
  have := hs.lt hp
  left; omega

/-- was is turned pair by pair; now stands. -/
structure Lp1 (w wr : World) (tb : Nat) (f : Nat → List Ver) (m p r : Nat) (v u : Nat → Ver) (ps : List Ver) (i : Nat) : Prop where
  tbx : Tbx w wr tb f m [r, p]
  now : wr.heap[r]? = some (.cells (wagg u) 89 (0, 0))
  ne : p ≠ r
  was : ∃ vk, wr.heap[p]? = some (.cells (wagg vk) 89 (0, 0)) ∧ wvs vk (ps.drop i) = wvs v ps

theorem Lp1.next {w wr W : World} {tb : Nat} {f : Nat → List Ver} {m p r : Nat} {v u : Nat → Ver} {ps : List Ver} {i j : Nat} (h : Lp1 w wr tb f m p r v u ps i) (hW : Kp [] wr W) (hi : i < ps.length) (hj : j < 8) (hv : va ps i = (j : Int)) :
    (∃ x, W.cell? ⟨p, j * 2, none⟩ = some x) ∧ (∃ x, W.cell? ⟨p, j * 2 + 1, none⟩ = some x) ∧ W.frozen? ⟨p, j * 2, none⟩ = false ∧ W.frozen? ⟨p, j * 2 + 1, none⟩ = false ∧
      Hid (Lp1 w ((W.setCell ⟨p, j * 2, none⟩ (.bool (vt ps i))).setCell ⟨p, j * 2 + 1, none⟩ (.string (vb ps i))) tb f m p r v u ps (i + 1)) := by
  obtain ⟨vk, h1, h2⟩ := h.was
  have hb : W.heap[p]? = some (.cells (wagg vk) 89 (0, 0)) := by rw [hW.block p (lt_of_block h1) (by simp)]; exact h1
  have hr : W.heap[r]? = some (.cells (wagg u) 89 (0, 0)) := by rw [hW.block r (lt_of_block h.now) (by simp)]; exact h.now
  have hk : Kp [p] W ((W.setCell ⟨p, j * 2, none⟩ (.bool (vt ps i))).setCell ⟨p, j * 2 + 1, none⟩ (.string (vb ps i))) := ((Kp.refl [p] W).setCell (.inl (by simp)) _).setCell (.inl (by simp)) _
  refine ⟨⟨_, cell_of_block hb (wagg_at0 _ hj)⟩, ⟨_, cell_of_block hb (wagg_at1 _ hj)⟩, frozen_of_block _ hb, frozen_of_block _ hb, (h.tbx.kp0 hW).set hk (by simp), ?_, h.ne, upd vk j ⟨0, vt ps i, vb ps i⟩, ?_, ?_⟩
  · rw [hk.block r (lt_of_block hr) (by simp; exact fun e => h.ne e.symm)]; exact hr
  · rw [heap_setCell_at _ _ (heap_setCell_at _ _ hb)]
    rw [wagg_set vk hj ⟨0, vt ps i, vb ps i⟩]
  · rw [← h2, wvs_at hi, hv, Int.toNat_natCast]

theorem Lp1.done {w wr : World} {tb : Nat} {f : Nat → List Ver} {m p r : Nat} {v u : Nat → Ver} {ps : List Ver} {i : Nat} (h : Lp1 w wr tb f m p r v u ps i) (hi : ps.length ≤ i) (he : wagg (wvs v ps) = wagg u) : wr.heap[p]? = some (.cells (wagg u) 89 (0, 0)) := by
  obtain ⟨vk, h1, h2⟩ := h.was
  rw [List.drop_eq_nil_of_le hi] at h2
  rw [← he, ← h2]; exact h1

theorem shots_now' {f : Nat → List Ver} {n : Nat} {ps : List Ver} (h : Inv f n) (hc : wcode n ps = 0) : wagg (wvs (shw f n n 8) ps) = wagg (shw (wst f n ps) (n + 1) ((n + 1 : Nat) : Int) 8) := by
  have := shots_now h hc
  push_cast
  exact this

/-- Later commits: what was read behind the commit m stands. -/
def Lp2 (w wr : World) (tb r : Nat) (u : Nat → Ver) (f : Nat → List Ver) (m : Nat) : Prop :=
  ∃ f2 m2, Tbx w wr tb f2 m2 [r] ∧ wr.heap[r]? = some (.cells (wagg u) 89 (0, 0)) ∧ m ≤ m2 ∧ ∀ j : Nat, j < 8 → tr f2 m2 j m = tr f m j m

theorem lp2_write {w wr : World} {tb r : Nat} {u : Nat → Ver} {f : Nat → List Ver} {m : Nat} {b o n1 k : Nat} {st : Nat → TStep} (h : Lp2 w wr tb r u f m) (hs : StT w b o n1 st) (hk : k < n1) (h50 : (st k).ps.length ≤ 50) :
    Calls Try.prog 66 #[.pointer (some ⟨tb, 0, none⟩), .slice (st k).a (st k).ps.length (st k).c] wr fun e w' => ∃ x y, e = .returned (.tuple #[.int .i64 x, .int .i64 y]) ∧ Hid (Lp2 w w' tb r u f m) := by
  obtain ⟨f2, m2, h1, h2, h3, h4⟩ := h
  refine (tbx_write (st k).a (st k).c (st k).ps h1 ((hs.kp0 h1.kp) k hk).2.2.2 (by omega) (inside_of (hs k hk).2.2.2 _)).mono ?_
  rintro e w' ⟨rfl, t1, t2⟩
  refine ⟨_, _, rfl, _, _, unhide t1, ((unhide t2) r (by simp)).trans h2, ?_, fun j hj => ?_⟩
  · unfold wn; split <;> omega
  · rw [tr_later h1.inv _ (by omega) hj]; exact h4 j hj

theorem lp2_sheet {w wr : World} {tb r : Nat} {f : Nat → List Ver} {m : Nat} (h : Lp2 w wr tb r (shw f m m 8) f m) (hi : Inv f m) :
    Calls Try.prog 46 #[.pointer (some ⟨tb, 0, none⟩), .int .i64 m] wr fun e w' => e = .returned (.tuple #[.agg (wagg (shw f m m 8)), .bool true]) ∧ w'.heap[r]? = some (.cells (wagg (shw f m m 8)) 89 (0, 0)) ∧ Hid (Kp [] w w') := by
  obtain ⟨f2, m2, h1, h2, h3, h4⟩ := h
  refine (tbx_sheet (m : Int) h1).mono ?_
  rintro e w' ⟨k, hk, rfl, t1, t2⟩
  have e8 := (unhide hk).uniq ((shk_last hi).congr h4)
  subst e8
  refine ⟨by rw [shw_congr (Nat.le_refl _) h4]; simp, ?_, (unhide t1).kp⟩
  rw [(unhide t2).block r (lt_of_block h2) (by simp)]; exact h2

/-- A whole array out of a variable, behind a guard too. -/
theorem wpList_load66 {ops : Array Oper} {rest : List Oper} {o : Oper} {a : Act} {w : World} {Q : Exit → Act → World → Prop} (hw : Region.wanted o (yielded ops a.tmps) = true) (x : Operand) (ho : o.op = .load 89 x)
    (g : Nat) (hx : a.eval x = .pointer (some ⟨g, 0, none⟩)) (v : Nat → Ver) (hg : w.heap[g]? = some (.cells (wagg v) 89 (0, 0))) (h : wpList Try.prog ops Q rest (a.put o.dst (.agg (wagg v))) w) : wpList Try.prog ops Q (o :: rest) a w :=
  wpList_step fun K hK => by
    rw [if_pos hw]
    exact wp_load_row 89 x ho g hx 89 (wagg v) (0, 0) _ hg Try.underlying89 rfl Try.size89 (hK _ _ h)

theorem tbx_sheet_last {w0 w : World} {tb : Nat} {f : Nat → List Ver} {n : Nat} {X : List Nat} (h : Tbx w0 w tb f n X) :
    Calls Try.prog 46 #[.pointer (some ⟨tb, 0, none⟩), .int .i64 n] w fun e w' => e = .returned (.tuple #[.agg (wagg (shw f n n 8)), .bool true]) ∧ Hid (Tbx w0 w' tb f n X) ∧ Hid (SameX X w w') := by
  refine (tbx_sheet (n : Int) h).mono ?_
  rintro e w' ⟨k, hk, rfl, t1, t2⟩
  have e8 := (unhide hk).uniq (shk_last h.inv)
  subst e8
  exact ⟨by simp, t1, SameX.of_kp h (unhide t2)⟩
end Go.Proofs.Ytcfogkdpkpehaab
