/- sheet: what all keys had behind a commit, by its contract. -/
import Derived.Test.YtcfogkdpkpehaabE1
import Derived.Test.YtcfogkdpkpehaabM6
namespace Go.Proofs.Ytcfogkdpkpehaab
open Go.RowKit
set_option maxRecDepth 20000
attribute [local go_sem ↓] Go.wp_at_zero Go.wp_at_succ

/-- What sheet has of the first k keys. -/
def shw (f : Nat → List Ver) (n : Nat) (y : Int) (k : Nat) : Nat → Ver := fun j => if j < k then tr f n j y else dv
/-- k: how many keys, from the first on, tell no code. -/
structure ShK (f : Nat → List Ver) (n : Nat) (y : Int) (k : Nat) : Prop where
  le : k ≤ 8
  lo : ∀ j : Nat, j < k → (tr f n j y).a = 0
  hi : k < 8 → (tr f n k y).a ≠ 0
theorem ShK.uniq {f : Nat → List Ver} {n : Nat} {y : Int} {k l : Nat} (h : ShK f n y k) (h' : ShK f n y l) : k = l := by
  rcases Nat.lt_trichotomy k l with e | e | e
  · exact absurd (h'.lo k e) (h.hi (by have := h'.le; omega))
  · exact e
  · exact absurd (h.lo l e) (h'.hi (by have := h.le; omega))
def ShEnd (f : Nat → List Ver) (n : Nat) (y : Int) (w : World) (e : Ending) (w' : World) : Prop :=
  ∃ k, ShK f n y k ∧ e = .returned (.tuple #[.agg (wagg (shw f n y k)), .bool (decide (k = 8))]) ∧ Kp [] w w'

/-- What stands at the head of a round of sheet. -/
structure ShI (f : Nat → List Ver) (n : Nat) (y : Int) (w : World) (p q k : Nat) (wr : World) : Prop where
  kp : Kp [] w wr
  res : wr.heap[p]? = some (.cells (wagg (fun _ => dv)) 89 (0, 0))
  var : wr.heap[q]? = some (.cells (wagg (shw f n y k)) 89 (0, 0))
  ne : p ≠ q
  hp : w.heap.size ≤ p
  hq : w.heap.size ≤ q
  lo : ∀ j : Nat, j < k → (tr f n j y).a = 0

theorem ShI.kp0 {f : Nat → List Ver} {n : Nat} {y : Int} {w : World} {p q k : Nat} {wr w1 : World} (h : ShI f n y w p q k wr) (hk : Kp [] wr w1) : ShI f n y w p q k w1 :=
  ⟨h.kp.trans0 hk, by rw [hk.block p (lt_of_block h.res) (by simp)]; exact h.res, by rw [hk.block q (lt_of_block h.var) (by simp)]; exact h.var, h.ne, h.hp, h.hq, h.lo⟩

theorem ShI.next {f : Nat → List Ver} {n : Nat} {y : Int} {w : World} {p q k : Nat} {wr : World} (h : ShI f n y w p q k wr) (hk : k < 8) (h0 : (tr f n k y).a = 0) :
    ShI f n y w p q (k + 1) ((wr.setCell ⟨q, k * 2, none⟩ (.bool (tr f n k y).t)).setCell ⟨q, k * 2 + 1, none⟩ (.string (tr f n k y).s)) := by
  have k1 : Kp [q] wr ((wr.setCell ⟨q, k * 2, none⟩ (.bool (tr f n k y).t)).setCell ⟨q, k * 2 + 1, none⟩ (.string (tr f n k y).s)) := ((Kp.refl [q] wr).setCell (.inl (by simp)) _).setCell (.inl (by simp)) _
  refine ⟨h.kp.trans k1 (fun x hx => .inr (by have : x = q := by simpa using hx
                                              rw [this]; exact h.hq)), ?_, ?_, h.ne, h.hp, h.hq, fun j hj => ?_⟩
  · rw [k1.block p (lt_of_block h.res) (by simp; exact h.ne)]; exact h.res
  · rw [heap_setCell_at _ _ (heap_setCell_at _ _ h.var), wagg_set _ hk]
    congr 2
    refine wagg_congr (fun j hj => ?_)
    by_cases e : j = k
    · subst e; rw [upd_same]; simp [shw]
    · rw [upd_other _ _ _ e]
      unfold shw
      by_cases e2 : j < k
      · rw [if_pos e2, if_pos (by omega)]; exact ⟨rfl, rfl⟩
      · rw [if_neg e2, if_neg (by omega)]; exact ⟨rfl, rfl⟩
  · rcases Nat.lt_or_ge j k with e | e
    · exact h.lo j e
    · have : j = k := by omega
      rw [this]; exact h0

theorem setRow_kp {w : World} {p : Nat} {old cs : Array Value} {t : TypeId} (h : w.heap[p]? = some (.cells old t (0, 0))) : (w.setRow p cs).heap[p]? = some (.cells cs t (0, 0)) ∧ Kp [p] w (w.setRow p cs) := by
  refine ⟨setRow_heap w p old cs t (0, 0) h, rfl, rfl, rfl, by simp [World.setRow], fun k hk hn => ?_⟩
  have hne : p ≠ k := fun e => hn (by simp [e])
  simp only [World.setRow, Array.getElem?_modify]
  rw [if_neg hne]

theorem sh_start (f : Nat → List Ver) (n : Nat) (y : Int) (w : World) : ShI f n y w w.heap.size (w.heap.size + 1) 0 ((w.alloc (.cells (wagg (fun _ => dv)) 89)).alloc (.cells (wagg (fun _ => dv)) 89)) := by
  have h1 := heap_alloc_new w (.cells (wagg (fun _ => dv)) 89)
  have h2 := heap_alloc_new (w.alloc (.cells (wagg (fun _ => dv)) 89)) (.cells (wagg (fun _ => dv)) 89)
  refine ⟨((Kp.refl [] w).alloc _).alloc _, ?_, ?_, by omega, by omega, by omega, fun j hj => by omega⟩
  · rw [heap_alloc_old _ _ (by simp)]; exact h1
  · have e : shw f n y 0 = fun _ => dv := by funext j; simp [shw]
    rw [e]
    simpa using h2

set_option maxHeartbeats 2000000 in
theorem sheet44 {B tb n : Nat} {F : List Nat} {f : Nat → List Ver} (y : Int) (w : World) (h : Tbl B w tb F f n) :
    Calls Try.prog 46 #[.pointer (some ⟨tb, 0, none⟩), .int .i64 y] w fun e w' => ShEnd f n y w e w' := by
  have HT := hide h
  have H0 := hide (sh_start f n y w)
  clear h
  go_enter Try.func46, Try.ntmps46
  go_wp2_with fail
  generalize hp : w.heap.size = p at *
  have HP := hide hp
  clear hp
  generalize p + 1 = q at *
  go_loopw [7] (fun i wr => ∃ k : Nat, k ≤ 8 ∧ i = .int .i64 k ∧ Hid (ShI f n y w p q k wr)) (fun i _ => 8 - (intOf i).toNat)
  case atStart => exact ⟨0, by omega, rfl, H0⟩
  case round =>
    obtain ⟨k, hk, rfl, HI⟩ := hrel
    by_cases hlt : k < 8
    · have i0 : (0 : Int) ≤ (k : Int) := by omega
      have i1 : (k : Int) < 8 := by omega
      go_wp2_with fail
      refine (tread32 k y _ ((unhide HT).kp0 (unhide HI).kp)).mono ?_
      rintro e w1 ⟨rfl, hk1⟩
      have HI1 := hide ((unhide HI).kp0 (hk1.alloc (.cells #[.bool (tr f n k y).t, .string (tr f n k y).s] 38)))
      have hq := lt_of_block ((unhide HI).kp0 hk1).var
      have hqn : q ≠ w1.heap.size := by omega
      clear hk1 hq
      by_cases h0 : (tr f n k y).a = 0
      · have HI2 := hide ((unhide HI1).next hlt h0)
        rw [h0]
        clear h0
        have c0 := cell_of_block (unhide HI1).var (wagg_at0 _ hlt)
        have c1 := cell_of_block (unhide HI1).var (wagg_at1 _ hlt)
        have f0 := frozen_of_block (k * 2) (unhide HI1).var
        have f1 := frozen_of_block (k * 2 + 1) (unhide HI1).var
        go_wp2_with fail
        exact ⟨⟨k + 1, by omega, by go_num, HI2⟩, by simp [intOf]; omega⟩
      · have HN := hide h0
        generalize hcode : (tr f n k y).a = code at *
        go_wp2_with (first | (refine wpList_load_row rfl 89 _ rfl q rfl 89 _ (0, 0) _ (unhide HI1).var Try.underlying89 rfl Try.size89 ?_) | (refine wpList_store_row rfl 89 _ _ rfl p (wagg (shw f n y k)) rfl rfl 89 _ (unhide HI1).res Try.size89 rfl (wagg_one _) ?_))
        obtain ⟨z1, z2⟩ := setRow_kp (cs := wagg (shw f n y k)) (unhide HI1).res
        have hld := wload z1
        have e8 : decide (k = 8) = false := decide_eq_false (by omega)
        refine bodyPost_ret (v := .tuple #[.agg (wagg (shw f n y k)), .bool (decide (k = 8))]) (by rw [results_cell_tmp Try.results46]; simp [asAddr, Result.andThen, hld, e8]) rfl ⟨k, ⟨hk, (unhide HI1).lo, fun _ => by rw [hcode]; exact h0⟩, rfl, ?_⟩
        exact (unhide HI1).kp.trans z2 (fun x hx => .inr (by have : x = p := by simpa using hx
                                                             rw [this]; exact (unhide HI1).hp))
    · have e8 : k = 8 := by omega
      subst e8
      go_wp2_with (first | (refine wpList_load_row rfl 89 _ rfl q rfl 89 _ (0, 0) _ (unhide HI).var Try.underlying89 rfl Try.size89 ?_) | (refine wpList_store_row rfl 89 _ _ rfl p (wagg (shw f n y 8)) rfl rfl 89 _ (unhide HI).res Try.size89 rfl (wagg_one _) ?_))
      obtain ⟨z1, z2⟩ := setRow_kp (cs := wagg (shw f n y 8)) (unhide HI).res
      have hld := wload z1
      refine bodyPost_ret (v := .tuple #[.agg (wagg (shw f n y 8)), .bool (decide (8 = 8))]) (by rw [results_cell_tmp Try.results46]; simp [asAddr, Result.andThen, hld]) rfl ⟨8, ⟨hk, (unhide HI).lo, fun h => by omega⟩, rfl, ?_⟩
      exact (unhide HI).kp.trans z2 (fun x hx => .inr (by have : x = p := by simpa using hx
                                                          rw [this]; exact (unhide HI).hp))
end Go.Proofs.Ytcfogkdpkpehaab
