/- Five worlds in one variable. -/
import Derived.Test.YtehhpmfeaeabgacHv
namespace Go.Proofs.Ytehhpmfeaeabgac
open Go.RowKit
set_option maxRecDepth 20000

/-- Cells of an array, written one behind the other. -/
def sa : Array Value → Nat → List Value → Array Value
  | C, _, [] => C
  | C, o, v :: r => sa (C.setIfInBounds o v) (o + 1) r
theorem sa_at : ∀ (vs : List Value) (C : Array Value) (o i : Nat), o + vs.length ≤ C.size → (sa C o vs)[i]? = if o ≤ i ∧ i < o + vs.length then vs[i - o]? else C[i]? := by
  intro vs
  induction vs with
  | nil => intro C o i _; simp only [sa, List.length_nil]; rw [if_neg (by omega)]
  | cons v r ih =>
    intro C o i h
    simp only [List.length_cons] at h
    simp only [sa]
    rw [ih (C.setIfInBounds o v) (o + 1) i (by rw [Array.size_setIfInBounds]; omega), Array.getElem?_setIfInBounds]
    simp only [List.length_cons]
    by_cases e : o = i
    · subst e
      rw [if_neg (by omega), if_pos rfl, if_pos (by omega), if_pos (by omega)]
      simp
    · by_cases q : o + 1 ≤ i ∧ i < o + 1 + r.length
      · rw [if_pos q, if_pos (by omega)]
        rw [show i - o = (i - (o + 1)) + 1 by omega]
        simp
      · rw [if_neg q, if_neg e, if_neg (by omega)]
theorem sa_size : ∀ (vs : List Value) (C : Array Value) (o : Nat), (sa C o vs).size = C.size := by
  intro vs
  induction vs with
  | nil => intro C o; rfl
  | cons v r ih => intro C o; simp only [sa]; rw [ih, Array.size_setIfInBounds]
theorem heap_setCells_at : ∀ (vs : List Value) {w : World} {b : Nat} {C : Array Value} {t : TypeId} (o : Nat), w.heap[b]? = some (.cells C t (0, 0)) → (w.setCells b o vs).heap[b]? = some (.cells (sa C o vs) t (0, 0)) := by
  intro vs
  induction vs with
  | nil => intro w b C t o h; exact h
  | cons v r ih => intro w b C t o h; rw [World.setCells]; simp only [sa]; exact ih (o + 1) (heap_setCell_at o v h)
theorem kp_setCells : ∀ (vs : List Value) (w : World) (b o : Nat), Kp [b] w (w.setCells b o vs) := by
  intro vs
  induction vs with
  | nil => intro w b o; exact Kp.refl _ _
  | cons v r ih => intro w b o; rw [World.setCells]; exact ((Kp.refl [b] w).setCell (.inl (by simp)) v).trans (ih _ b (o + 1)) (fun x hx => .inl hx)

/-- What the cells of five worlds are. -/
def Wds (C : Array Value) (u : Nat → Nat → Ver) : Prop := C.size = 80 ∧ ∀ s, s < 5 → ∀ k, k < 8 → C[s * 16 + k * 2]? = some (.bool (u s k).t) ∧ C[s * 16 + k * 2 + 1]? = some (.string (u s k).s)
def WdsT (p : Nat) (u : Nat → Nat → Ver) : Thing where
  holds B w F := (∃ C, w.heap[p]? = some (.cells C 73 (0, 0)) ∧ Wds C u) ∧ F = [p] ∧ B ≤ p
  kp := fun ⟨⟨C, h1, h4⟩, h2, h3⟩ hk hS => ⟨⟨C, by rw [hk.block p (lt_of_block h1) (hS p (by rw [h2]; simp))]; exact h1, h4⟩, h2, h3⟩
  lo := fun ⟨⟨C, h1, h4⟩, h2, h3⟩ x hx => by rw [h2] at hx; simp at hx; rw [hx]; exact ⟨h3, lt_of_block h1⟩
  base := fun ⟨h1, h2, h3⟩ hC => ⟨h1, h2, Nat.le_trans hC h3⟩
section
variable {w0 w : World} {l1 r : List Thing} {p : Nat} {u : Nat → Nat → Ver}
theorem wds_of {C : Array Value} (hz : Zoo w0 w (l1 ++ BoxT p C 73 :: r)) (hC : Wds C u) : Zoo w0 w (l1 ++ WdsT p u :: r) := by
  obtain ⟨F, ⟨h1, h2, h3⟩, k2⟩ := hz.at_
  exact k2 _ _ ⟨F, ⟨⟨C, h1, hC⟩, h2, h3⟩, Kp.refl _ _, fun x hx => .inl hx⟩
theorem wds_cells (hz : Zoo w0 w (l1 ++ WdsT p u :: r)) {s k : Nat} (hs : s < 5) (hk : k < 8) : w.cell? ⟨p, s * 16 + k * 2, none⟩ = some (.bool (u s k).t) ∧ w.cell? ⟨p, s * 16 + k * 2 + 1, none⟩ = some (.string (u s k).s) ∧ w.frozen? ⟨p, s * 16 + k * 2, none⟩ = false ∧ w.frozen? ⟨p, s * 16 + k * 2 + 1, none⟩ = false := by
  obtain ⟨F, ⟨⟨C, h1, h4⟩, h2, h3⟩, _⟩ := hz.at_
  obtain ⟨c0, c1⟩ := h4.2 s hs k hk
  exact ⟨cell_of_block h1 c0, cell_of_block h1 c1, frozen_of_block _ h1, frozen_of_block _ h1⟩
theorem wds_set (hz : Zoo w0 w (l1 ++ WdsT p u :: r)) {s k : Nat} (hs : s < 5) (hk : k < 8) (t : Bool) (b : ByteArray) : Zoo w0 ((w.setCell ⟨p, s * 16 + k * 2, none⟩ (.bool t)).setCell ⟨p, s * 16 + k * 2 + 1, none⟩ (.string b)) (l1 ++ WdsT p (upd u s (upd (u s) k ⟨0, t, b⟩)) :: r) := by
  obtain ⟨F, ⟨⟨C, h1, h4⟩, h2, h3⟩, k2⟩ := hz.at_
  refine k2 _ _ ⟨F, ⟨⟨_, heap_setCell_at _ _ (heap_setCell_at _ _ h1), ?_⟩, h2, h3⟩, ?_, fun x hx => .inl hx⟩
  · refine ⟨by rw [Array.size_setIfInBounds, Array.size_setIfInBounds]; exact h4.1, fun s' hs' k' hk' => ?_⟩
    obtain ⟨c0, c1⟩ := h4.2 s' hs' k' hk'
    have hsz := h4.1
    simp only [Array.getElem?_setIfInBounds, Array.size_setIfInBounds]
    by_cases e : s' = s
    · subst e
      rw [upd_same]
      by_cases e2 : k' = k
      · subst e2
        rw [upd_same]
        rw [if_neg (by omega), if_pos rfl, if_pos (by omega), if_pos rfl, if_pos (by omega)]
        exact ⟨rfl, rfl⟩
      · rw [upd_other _ _ _ e2]
        rw [if_neg (by omega), if_neg (by omega), if_neg (by omega), if_neg (by omega)]
        exact ⟨c0, c1⟩
    · rw [upd_other _ _ _ e]
      rw [if_neg (by omega), if_neg (by omega), if_neg (by omega), if_neg (by omega)]
      exact ⟨c0, c1⟩
  · rw [h2]
    exact ((Kp.refl [p] w).setCell (.inl (by simp)) _).setCell (.inl (by simp)) _
theorem wds_store (hz : Zoo w0 w (l1 ++ WdsT p u :: r)) {s : Nat} (hs : s < 5) (v : Nat → Ver) : w.there p (s * 16) (wagg v).size ∧ Hid (Zoo w0 (w.setCells p (s * 16) (wagg v).toList) (l1 ++ WdsT p (upd u s v) :: r)) := by
  obtain ⟨F, ⟨⟨C, h1, h4⟩, h2, h3⟩, k2⟩ := hz.at_
  have hsz := h4.1
  have hl : (wagg v).toList.length = 16 := rfl
  refine ⟨fun j hj => ?_, k2 _ _ ⟨F, ⟨⟨_, heap_setCells_at _ _ h1, ?_⟩, h2, h3⟩, by rw [h2]; exact kp_setCells _ _ _ _, fun x hx => .inl hx⟩⟩
  · have hj' : j < 16 := hj
    refine ⟨?_, frozen_of_block _ h1⟩
    rw [cell_of_row w p _ _ _ _ h1]
    rw [Array.getElem?_eq_getElem (by omega)]
    rfl
  · refine ⟨by rw [sa_size]; exact hsz, fun s' hs' k' hk' => ?_⟩
    obtain ⟨c0, c1⟩ := h4.2 s' hs' k' hk'
    rw [sa_at _ _ _ _ (by rw [hl]; omega), sa_at _ _ _ _ (by rw [hl]; omega), hl]
    by_cases e : s' = s
    · subst e
      rw [upd_same, if_pos (by omega), if_pos (by omega)]
      rw [show s' * 16 + k' * 2 - s' * 16 = k' * 2 by omega, show s' * 16 + k' * 2 + 1 - s' * 16 = k' * 2 + 1 by omega]
      simp only [Array.getElem?_toList]
      exact ⟨wagg_at0 v hk', wagg_at1 v hk'⟩
    · rw [upd_other _ _ _ e, if_neg (by omega), if_neg (by omega)]
      exact ⟨c0, c1⟩
end
theorem Hall.setr2 {w0 w : World} {r : List Thing} {hb vb tb gb : Nat} {h : HSt} {st : Nat → Sd} {p : Nat} {c c' : Array Value} {T : TypeId} (hz : Hall w0 w hb vb tb gb h st (BoxT p c T :: r)) : Hall w0 (w.setRow p c') hb vb tb gb h st (BoxT p c' T :: r) := by
  obtain ⟨F, ⟨hbx, h2, h3⟩, k2⟩ := Hall.at_ (l1 := []) hz
  obtain ⟨z1, z2⟩ := setRow_kp (cs := c') hbx
  exact k2 _ _ ⟨F, ⟨z1, h2, h3⟩, by rw [h2]; exact z2, fun x hx => .inl hx⟩
theorem wds_zero : Wds (Array.replicate 40 #[Value.bool false, .string ⟨#[]⟩]).flatten (fun _ _ => dv) := by
  refine ⟨rfl, fun s hs k hk => ?_⟩
  rcases (show s = 0 ∨ s = 1 ∨ s = 2 ∨ s = 3 ∨ s = 4 by omega) with e | e | e | e | e <;> subst e <;> rcases lt8 hk with rfl | rfl | rfl | rfl | rfl | rfl | rfl | rfl <;> exact ⟨rfl, rfl⟩
end Go.Proofs.Ytehhpmfeaeabgac
