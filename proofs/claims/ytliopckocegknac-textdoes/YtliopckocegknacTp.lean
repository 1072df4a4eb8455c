/- Plain words for values as texts: what bytes are shown as, what a text means. -/
import Derived.WalkKit
import Derived.Lib.Bytealg
namespace Go.Proofs.Ytliopckocegknac
open Go.RowKit
set_option maxRecDepth 20000

/-- The digits, and a digit. -/
def dgs : List UInt8 := [48, 49, 50, 51, 52, 53, 54, 55, 56, 57, 97, 98, 99, 100, 101, 102]
def hxd (n : Nat) : UInt8 := dgs.getD n 0
/-- Is a byte shown as it is? -/
def pln (c : UInt8) : Bool := decide (33 ≤ c.toNat) && decide (c.toNat ≤ 126) && !decide (c.toNat = 92)
/-- What a byte is shown as. -/
def shb (c : UInt8) : List UInt8 := if pln c = true then [c] else [92, hxd (c.toNat / 16), hxd (c.toNat % 16)]
/-- What bytes are shown as. -/
def sh (l : List UInt8) : List UInt8 := l.flatMap shb
def idx (h : UInt8) : Int := Lib.indexByte dgs h
/-- The byte that a text shows first, and by how many bytes. -/
def mby : List UInt8 → Option (UInt8 × Nat)
  | [] => none
  | c :: r => if pln c = true then some (c, 1) else if c.toNat ≠ 92 then none else match r with
    | h :: l :: _ => if idx h < 0 ∨ idx l < 0 then none else if pln (UInt8.ofNat (16 * (idx h).toNat + (idx l).toNat)) = true then none else some (UInt8.ofNat (16 * (idx h).toNat + (idx l).toNat), 3)
    | _ => none
def mnf : Nat → List UInt8 → Option (List UInt8)
  | 0, l => if l = [] then some [] else none
  | f + 1, l => if l = [] then some [] else match mby l with
    | none => none
    | some (c, n) => (mnf f (l.drop n)).map (c :: ·)
/-- What a text means. -/
def mn (l : List UInt8) : Option (List UInt8) := mnf l.length l

theorem all8 {p : UInt8 → Prop} [DecidablePred p] (h : ∀ n : Fin 256, p (UInt8.ofNat n.val)) (c : UInt8) : p c := by
  have := h ⟨c.toNat, c.toNat_lt⟩
  rwa [UInt8.ofNat_toNat] at this
theorem sh_nil : sh [] = [] := rfl
theorem sh_cons (c : UInt8) (l : List UInt8) : sh (c :: l) = shb c ++ sh l := rfl
theorem sh_app (l m : List UInt8) : sh (l ++ m) = sh l ++ sh m := List.flatMap_append
theorem sh_snoc (l : List UInt8) (c : UInt8) : sh (l ++ [c]) = sh l ++ shb c := by rw [sh_app, sh_cons, sh_nil, List.append_nil]
theorem shb_len (c : UInt8) : (shb c).length = 1 ∨ (shb c).length = 3 := by unfold shb; split <;> simp
theorem shb_range : ∀ c : UInt8, ∀ x ∈ shb c, 33 ≤ x.toNat ∧ x.toNat ≤ 126 := all8 (p := fun c => ∀ x ∈ shb c, 33 ≤ x.toNat ∧ x.toNat ≤ 126) (by decide)
theorem sh_range (l : List UInt8) : ∀ x ∈ sh l, 33 ≤ x.toNat ∧ x.toNat ≤ 126 := fun x hx => by
  obtain ⟨c, _, h⟩ := List.mem_flatMap.1 hx
  exact shb_range c x h
theorem sh_len (l : List UInt8) : l.length ≤ (sh l).length ∧ (sh l).length ≤ 3 * l.length := by
  induction l with
  | nil => simp [sh]
  | cons c l ih =>
    rw [sh_cons, List.length_append, List.length_cons]
    rcases shb_len c with h | h <;> omega
theorem idx_facts : ∀ h : UInt8, idx h < 0 ∨ (idx h < 16 ∧ hxd (idx h).toNat = h) := all8 (p := fun h => idx h < 0 ∨ (idx h < 16 ∧ hxd (idx h).toNat = h)) (by decide)
theorem idx_ge (h : UInt8) : -1 ≤ idx h := Lib.indexByte_ge _ _
theorem mby_shb : ∀ c : UInt8, mby (shb c) = some (c, (shb c).length) := all8 (p := fun c => mby (shb c) = some (c, (shb c).length)) (by decide)
/-- What stands behind a byte's text changes nothing. -/
theorem mby_app (c : UInt8) (r : List UInt8) : mby (shb c ++ r) = some (c, (shb c).length) := by
  have h := mby_shb c
  unfold shb at h ⊢
  split
  · rename_i e
    simp [mby, e]
  · rename_i e
    rw [if_neg e] at h
    exact h
theorem mby_pre {l : List UInt8} {c : UInt8} {n : Nat} (h : mby l = some (c, n)) : n = (shb c).length ∧ l = shb c ++ l.drop n := by
  cases l with
  | nil => simp [mby] at h
  | cons x r =>
    simp only [mby] at h
    by_cases e : pln x = true
    · rw [if_pos e] at h
      simp only [Option.some.injEq, Prod.mk.injEq] at h
      obtain ⟨rfl, rfl⟩ := h
      simp [shb, e]
    · rw [if_neg e] at h
      by_cases e2 : x.toNat ≠ 92
      · rw [if_pos e2] at h; simp at h
      · rw [if_neg e2] at h
        match r, h with
        | [], h => simp at h
        | [_], h => simp at h
        | a :: b :: t, h =>
          simp only at h
          by_cases e3 : idx a < 0 ∨ idx b < 0
          · rw [if_pos e3] at h; simp at h
          · rw [if_neg e3] at h
            by_cases e4 : pln (UInt8.ofNat (16 * (idx a).toNat + (idx b).toNat)) = true
            · rw [if_pos e4] at h; simp at h
            · rw [if_neg e4] at h
              simp only [Option.some.injEq, Prod.mk.injEq] at h
              obtain ⟨rfl, rfl⟩ := h
              have ha := idx_facts a
              have hb := idx_facts b
              have hx : x = 92 := by
                have : x.toNat = 92 := by omega
                exact UInt8.toNat_inj.1 this
              obtain ⟨a1, a2⟩ := ha.resolve_left (fun q => e3 (.inl q))
              obtain ⟨b1, b2⟩ := hb.resolve_left (fun q => e3 (.inr q))
              have t : (UInt8.ofNat (16 * (idx a).toNat + (idx b).toNat)).toNat = 16 * (idx a).toNat + (idx b).toNat := by
                rw [UInt8.toNat_ofNat']; omega
              have d1 : (16 * (idx a).toNat + (idx b).toNat) / 16 = (idx a).toNat := by omega
              have d2 : (16 * (idx a).toNat + (idx b).toNat) % 16 = (idx b).toNat := by omega
              generalize UInt8.ofNat (16 * (idx a).toNat + (idx b).toNat) = z at *
              rw [shb, if_neg e4, t, d1, d2, a2, b2, hx]
              exact ⟨rfl, rfl⟩
theorem mby_none {l : List UInt8} (h : mby l = none) (c : UInt8) (r : List UInt8) : l ≠ shb c ++ r := fun e => by
  rw [e, mby_app] at h
  simp at h
theorem mnf_nil (f : Nat) : mnf f [] = some [] := by cases f <;> simp [mnf]
theorem mnf_fuel : ∀ (f g : Nat) (l : List UInt8), l.length ≤ f → l.length ≤ g → mnf f l = mnf g l := by
  intro f
  induction f with
  | zero =>
    intro g l hf hg
    have : l = [] := List.eq_nil_of_length_eq_zero (by omega)
    subst this
    rw [mnf_nil, mnf_nil]
  | succ f ih =>
    intro g l hf hg
    by_cases hl : l = []
    · subst hl; rw [mnf_nil, mnf_nil]
    · have hp : 0 < l.length := by
        rcases Nat.eq_zero_or_pos l.length with e | e
        · exact absurd (List.eq_nil_of_length_eq_zero e) hl
        · exact e
      cases g with
      | zero => omega
      | succ g =>
        simp only [mnf, if_neg hl]
        cases hm : mby l with
        | none => rfl
        | some x =>
          obtain ⟨c, n⟩ := x
          obtain ⟨e1, e2⟩ := mby_pre hm
          have hn : 1 ≤ n := by rcases shb_len c with h | h <;> omega
          simp only
          rw [ih g (l.drop n) (by rw [List.length_drop]; omega) (by rw [List.length_drop]; omega)]
theorem mn_nil : mn [] = some [] := rfl
theorem mn_step {l : List UInt8} (hl : l ≠ []) : mn l = match mby l with | none => none | some (c, n) => (mn (l.drop n)).map (c :: ·) := by
  have hp : 0 < l.length := by
    rcases Nat.eq_zero_or_pos l.length with e | e
    · exact absurd (List.eq_nil_of_length_eq_zero e) hl
    · exact e
  unfold mn
  rw [mnf_fuel l.length (l.length + 1) l (Nat.le_refl _) (by omega)]
  simp only [mnf, if_neg hl]
  cases hm : mby l with
  | none => rfl
  | some x =>
    obtain ⟨c, n⟩ := x
    simp only
    rw [mnf_fuel l.length (l.drop n).length (l.drop n) (by rw [List.length_drop]; omega) (Nat.le_refl _)]
theorem shb_ne (c : UInt8) (l : List UInt8) : shb c ++ l ≠ [] := fun e => by
  have := congrArg List.length e
  rw [List.length_append, List.length_nil] at this
  rcases shb_len c with h | h <;> omega
theorem mn_sh (l : List UInt8) : mn (sh l) = some l := by
  induction l with
  | nil => rfl
  | cons c l ih =>
    rw [sh_cons, mn_step (shb_ne c _), mby_app]
    simp [ih]
theorem sh_mn : ∀ (m : Nat) (l y : List UInt8), l.length ≤ m → mn l = some y → sh y = l := by
  intro m
  induction m with
  | zero =>
    intro l y hl h
    have : l = [] := List.eq_nil_of_length_eq_zero (by omega)
    subst this
    rw [mn_nil] at h
    cases h
    rfl
  | succ m ih =>
    intro l y hl h
    by_cases e : l = []
    · subst e
      rw [mn_nil] at h
      cases h
      rfl
    · rw [mn_step e] at h
      cases hm : mby l with
      | none => rw [hm] at h; simp at h
      | some x =>
        obtain ⟨c, n⟩ := x
        obtain ⟨e1, e2⟩ := mby_pre hm
        rw [hm] at h
        simp only [Option.map_eq_some_iff] at h
        obtain ⟨z, hz, rfl⟩ := h
        have hn : 1 ≤ n := by rcases shb_len c with h | h <;> omega
        have hp : 0 < l.length := by
          rcases Nat.eq_zero_or_pos l.length with q | q
          · exact absurd (List.eq_nil_of_length_eq_zero q) e
          · exact q
        rw [sh_cons, ih (l.drop n) z (by rw [List.length_drop]; omega) hz]
        exact e2.symm
theorem sh_inj {l m : List UInt8} (h : sh l = sh m) : l = m := by
  have h1 := mn_sh l
  rw [h, mn_sh] at h1
  cases h1
  rfl
end Go.Proofs.Ytliopckocegknac
