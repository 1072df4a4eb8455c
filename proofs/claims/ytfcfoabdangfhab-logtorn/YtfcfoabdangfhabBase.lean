/- Plain words for the chain's proofs: versions as data, the cells that they lie in, what a call keeps of memory; no statement of the program yet. -/
import Derived.WalkKit
import Derived.WalkSpells
import Derived.WalkLawsBesides
import Derived.Deep.QuietTactic
import Derived.Deep.AppendLies
namespace Go.Proofs.Ytfcfoabdangfhab
open Go.RowKit
set_option maxRecDepth 20000

theorem hide {p : Prop} (h : p) : Hid p := h
theorem unhide {p : Prop} (h : Hid p) : p := h

/-- A version: since the commit a it has a value (t) of those bytes (s). -/
structure Ver where
  a : Int
  t : Bool
  s : ByteArray

def dv : Ver := ⟨0, false, ByteArray.empty⟩

/-- The k-th version's commit, whether it has a value, and its bytes. -/
def va (vs : List Ver) (k : Nat) : Int := (vs.getD k dv).a
def vt (vs : List Ver) (k : Nat) : Bool := (vs.getD k dv).t
def vb (vs : List Ver) (k : Nat) : ByteArray := (vs.getD k dv).s

def vcells : List Ver → List Value
  | [] => []
  | v :: r => .int .i64 v.a :: .bool v.t :: .string v.s :: vcells r

theorem vcells_length (vs : List Ver) : (vcells vs).length = vs.length * 3 := by
  induction vs with
  | nil => rfl
  | cons v r ih => simp only [vcells, List.length_cons, ih]; omega

theorem vcells_append (xs ys : List Ver) : vcells (xs ++ ys) = vcells xs ++ vcells ys := by
  induction xs with
  | nil => rfl
  | cons v r ih => simp only [List.cons_append, vcells, ih]

theorem vcells_drop (vs : List Ver) : ∀ k, vcells (vs.drop k) = (vcells vs).drop (k * 3) := by
  induction vs with
  | nil => intro k; simp [vcells]
  | cons v r ih =>
    intro k
    cases k with
    | zero => simp
    | succ k =>
      have e : (k + 1) * 3 = k * 3 + 1 + 1 + 1 := by omega
      rw [List.drop_succ_cons, ih k, e]
      simp only [vcells, List.drop_succ_cons]

theorem vcells_at (vs : List Ver) : ∀ k, k < vs.length →
    (vcells vs)[k * 3]? = some (.int .i64 (va vs k)) ∧ (vcells vs)[k * 3 + 1]? = some (.bool (vt vs k)) ∧ (vcells vs)[k * 3 + 2]? = some (.string (vb vs k)) := by
  induction vs with
  | nil => intro k h; simp at h
  | cons v r ih =>
    intro k h
    cases k with
    | zero => simp [vcells, va, vt, vb]
    | succ k =>
      have e : (k + 1) * 3 = k * 3 + 1 + 1 + 1 := by omega
      have hk : k < r.length := by simpa using h
      obtain ⟨h1, h2, h3⟩ := ih k hk
      have ea : va (v :: r) (k + 1) = va r k := by simp [va]
      have et : vt (v :: r) (k + 1) = vt r k := by simp [vt]
      have eb : vb (v :: r) (k + 1) = vb r k := by simp [vb]
      rw [ea, et, eb, e]
      refine ⟨by simpa [vcells] using h1, ?_, ?_⟩
      · have e2 : k * 3 + 1 + 1 + 1 + 1 = (k * 3 + 1) + 1 + 1 + 1 := by omega
        rw [e2]; simpa [vcells] using h2
      · have e2 : k * 3 + 1 + 1 + 1 + 2 = (k * 3 + 2) + 1 + 1 + 1 := by omega
        rw [e2]; simpa [vcells] using h3

theorem vcells_one (vs : List Ver) : ∀ u ∈ vcells vs, u.oneCell' = true := by
  induction vs with
  | nil => intro u h; simp [vcells] at h
  | cons v r ih =>
    intro u h
    simp only [vcells, List.mem_cons] at h
    rcases h with h | h | h | h
    · subst h; rfl
    · subst h; rfl
    · subst h; rfl
    · exact ih u h

/-- The versions lie in block g from offset o on. -/
def SlA (w : World) (g o : Nat) (vs : List Ver) : Prop := ∀ j u, (vcells vs)[j]? = some u → w.cell? ⟨g, o + j, none⟩ = some u

theorem SlA.at0 {w : World} {g o : Nat} {vs : List Ver} (h : SlA w g o vs) (k : Nat) (hk : k < vs.length) : w.cell? ⟨g, o + k * 3, none⟩ = some (.int .i64 (va vs k)) := h _ _ (vcells_at vs k hk).1
theorem SlA.at1 {w : World} {g o : Nat} {vs : List Ver} (h : SlA w g o vs) (k : Nat) (hk : k < vs.length) : w.cell? ⟨g, o + k * 3 + 1, none⟩ = some (.bool (vt vs k)) := h _ _ (vcells_at vs k hk).2.1
theorem SlA.at2 {w : World} {g o : Nat} {vs : List Ver} (h : SlA w g o vs) (k : Nat) (hk : k < vs.length) : w.cell? ⟨g, o + k * 3 + 2, none⟩ = some (.string (vb vs k)) := h _ _ (vcells_at vs k hk).2.2

theorem SlA.drop {w : World} {g o : Nat} {vs : List Ver} (h : SlA w g o vs) (k : Nat) : SlA w g (o + k * 3) (vs.drop k) := by
  intro j u hu
  rw [vcells_drop, List.getElem?_drop] at hu
  have := h _ _ hu
  rwa [← Nat.add_assoc] at this

theorem SlA.lt {w : World} {g o : Nat} {vs : List Ver} (h : SlA w g o vs) (hp : 0 < vs.length) : g < w.heap.size := World.block_lt_of_cell? w _ (h.at0 0 hp)

/-- All that was there is as it was, but the blocks of S; blocks may have come. -/
structure Kp (S : List Nat) (w w' : World) : Prop where
  os : w'.os = w.os
  tape : w'.tape = w.tape
  output : w'.output = w.output
  size : w.heap.size ≤ w'.heap.size
  block : ∀ k, k < w.heap.size → k ∉ S → w'.heap[k]? = w.heap[k]?

theorem Kp.refl (S : List Nat) (w : World) : Kp S w w := ⟨rfl, rfl, rfl, Nat.le_refl _, fun _ _ _ => rfl⟩

theorem Kp.trans {S T : List Nat} {a b c : World} (h : Kp S a b) (k : Kp T b c) (hT : ∀ x ∈ T, x ∈ S ∨ a.heap.size ≤ x) : Kp S a c :=
  ⟨k.os.trans h.os, k.tape.trans h.tape, k.output.trans h.output, Nat.le_trans h.size k.size, fun i hi hS =>
    (k.block i (Nat.lt_of_lt_of_le hi h.size) (fun hm => by rcases hT i hm with h1 | h1; exact hS h1; omega)).trans (h.block i hi hS)⟩

theorem Kp.trans0 {S : List Nat} {a b c : World} (h : Kp S a b) (k : Kp [] b c) : Kp S a c := h.trans k (fun _ hx => by simp at hx)

theorem Kp.mono {S T : List Nat} {a b : World} (h : Kp S a b) (hT : ∀ x ∈ S, x ∈ T ∨ a.heap.size ≤ x) : Kp T a b := (Kp.refl T a).trans h hT

theorem Kp.drewN {S : List Nat} {a w : World} (h : Kp S a w) (n : Nat) : Kp S a (w.drewN n) := ⟨h.os, h.tape, h.output, h.size, h.block⟩
theorem Kp.drew {S : List Nat} {a w : World} (h : Kp S a w) : Kp S a w.drew := ⟨h.os, h.tape, h.output, h.size, h.block⟩

theorem Kp.alloc {S : List Nat} {a w : World} (h : Kp S a w) (o : Obj) : Kp S a (w.alloc o) :=
  h.trans0 ⟨rfl, rfl, rfl, by simp, fun _ hk _ => Below.heap_alloc _ _ _ hk⟩

theorem Kp.setCell {S : List Nat} {a w : World} (h : Kp S a w) {p : Addr} (hp : p.block ∈ S ∨ a.heap.size ≤ p.block) (u : Value) : Kp S a (w.setCell p u) :=
  h.trans (T := [p.block]) ⟨rfl, rfl, rfl, by simp [World.setCell], fun k _ hn => Below.heap_setCell _ _ _ _ (by simpa using hn)⟩ (by simpa using hp)

theorem Kp.grown {S : List Nat} {a w w' : World} {row : Option Nat} (h : Kp S a w) (hg : w.grownBy w' row) (hr : ∀ k, row = some k → k ∈ S ∨ a.heap.size ≤ k) : Kp S a w' := by
  refine ⟨hg.os.trans h.os, hg.tape.trans h.tape, hg.output.trans h.output, Nat.le_trans h.size hg.size, fun i hi hS => ?_⟩
  rw [hg.block i (Nat.lt_of_lt_of_le hi h.size) (fun e => by rcases hr i e.symm with h1 | h1; exact hS h1; omega)]
  exact h.block i hi hS

theorem Kp.of_below {w w' : World} (h : Below w.heap.size w w') : Kp [] w w' := ⟨h.os, h.tape, h.output, h.size, fun k hk _ => h.block k hk⟩
theorem Kp.below {S : List Nat} {w w' : World} {B : Nat} (h : Kp S w w') (hB : B ≤ w.heap.size) (hS : ∀ x ∈ S, B ≤ x) : Below B w w' :=
  ⟨h.os, h.tape, h.output, h.size, fun k hk => h.block k (by omega) (fun hm => by have := hS k hm; omega)⟩

theorem Kp.cell {S : List Nat} {w w' : World} (h : Kp S w w') {p : Addr} {v : Value} (hp : p.block ∉ S) (hc : w.cell? p = some v) : w'.cell? p = some v := by
  rw [World.cell?_of_block (w := w) (h.block p.block (World.block_lt_of_cell? w _ hc) hp)]; exact hc
theorem Kp.frozen {S : List Nat} {w w' : World} (h : Kp S w w') {p : Addr} (hlt : p.block < w.heap.size) (hp : p.block ∉ S) : w'.frozen? p = w.frozen? p :=
  World.frozen?_of_block (w := w) (h.block p.block hlt hp)

theorem SlA.kp {S : List Nat} {w w' : World} {g o : Nat} {vs : List Ver} (h : SlA w g o vs) (hk : Kp S w w') (hg : g ∉ S) : SlA w' g o vs :=
  fun j u hu => hk.cell (p := ⟨g, o + j, none⟩) hg (h j u hu)

/-- The versions' commits rise. -/
def Rise (vs : List Ver) : Prop := ∀ i j, i < j → j < vs.length → va vs i < va vs j

/-- c: how many versions are not above the commit x. -/
structure IsCnt (vs : List Ver) (x : Int) (c : Nat) : Prop where
  le : c ≤ vs.length
  lo : ∀ k, k < c → va vs k ≤ x
  hi : ∀ k, c ≤ k → k < vs.length → x < va vs k

theorem IsCnt.uniq {vs : List Ver} {x : Int} {c d : Nat} (h : IsCnt vs x c) (k : IsCnt vs x d) : c = d := by
  rcases Nat.lt_trichotomy c d with e | e | e
  · have h1 := k.lo c e; have h2 := h.hi c (Nat.le_refl _) (by have := k.le; omega); omega
  · exact e
  · have h1 := h.lo d e; have h2 := k.hi d (Nat.le_refl _) (by have := h.le; omega); omega

theorem Rise.le {vs : List Ver} (h : Rise vs) {i j : Nat} (hij : i ≤ j) (hj : j < vs.length) : va vs i ≤ va vs j := by
  rcases Nat.lt_or_ge i j with e | e
  · have := h i j e hj; omega
  · have : i = j := by omega
    subst this; omega

/-- What Check tells. -/
def chk (t : Bool) (s : ByteArray) : Int := if 12 < s.size then 2 else if t = false ∧ 0 < s.size then 4 else 0

/-- What Put tells, and what it makes of the versions. -/
def pcode (vs : List Ver) (x : Int) (t : Bool) (s : ByteArray) : Int := if chk t s = 0 then (if x ≤ va vs (vs.length - 1) then 5 else 0) else chk t s
def pvers (vs : List Ver) (x : Int) (t : Bool) (s : ByteArray) : List Ver := if pcode vs x t s = 0 then vs ++ [⟨x, t, s⟩] else vs

theorem Rise.put {vs : List Ver} (h : Rise vs) (hp : 0 < vs.length) (x : Int) (t : Bool) (s : ByteArray) : Rise (pvers vs x t s) := by
  unfold pvers
  split
  · rename_i hc
    have hlast : va vs (vs.length - 1) < x := by
      unfold pcode at hc
      split at hc
      · split at hc
        · simp at hc
        · omega
      · rename_i h1; exact absurd hc h1
    intro i j hij hj
    simp only [List.length_append, List.length_cons, List.length_nil] at hj
    by_cases hj2 : j < vs.length
    · have := h i j hij hj2
      simp only [va, List.getD_eq_getElem?_getD] at this ⊢
      rw [List.getElem?_append_left (by omega), List.getElem?_append_left (by omega)]; exact this
    · have hj3 : j = vs.length := by omega
      subst hj3
      have hi := h.le (i := i) (j := vs.length - 1) (by omega) (by omega)
      simp only [va, List.getD_eq_getElem?_getD] at hi hlast ⊢
      rw [List.getElem?_append_left (by omega), List.getElem?_concat_length]
      simp only [Option.getD_some]
      omega
  · exact h

theorem pvers_length (vs : List Ver) (x : Int) (t : Bool) (s : ByteArray) : vs.length ≤ (pvers vs x t s).length ∧ (pvers vs x t s).length ≤ vs.length + 1 := by
  unfold pvers; split <;> simp

theorem Rise.drop {vs : List Ver} (h : Rise vs) (k : Nat) : Rise (vs.drop k) := by
  intro i j hij hj
  simp only [List.length_drop] at hj
  have := h (k + i) (k + j) (by omega) (by omega)
  simpa [va, List.getD_eq_getElem?_getD, List.getElem?_drop] using this

end Go.Proofs.Ytfcfoabdangfhab
