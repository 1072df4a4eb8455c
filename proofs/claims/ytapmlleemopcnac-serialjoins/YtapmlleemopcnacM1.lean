/- Base, C0, P0, T3, T4, Pq, Q10, Q0, Own, Q1, Q2, J1, Pw, Zo, Chn, C1, C2, C3, C4, L1, L2: bound together for a claim. -/
import Derived.WalkKit
import Derived.WalkSpells
import Derived.WalkLawsBesides
import Derived.Deep.QuietTactic
import Derived.Deep.AppendLies
import Derived.Test.YtapmlleemopcnacRows
import Derived.BigQuiet
import Derived.Deep.RegionHeld3
import Derived.Deep.DrawnRows
import Derived.ChangeKeysEq
import Derived.Deep.AppendSrc
import Derived.Laws.IdiomStrings
import Derived.Deep.Upon
import Derived.Deep.RegionWith
import Derived.Deep.RegionLaw
/- Plain words for the chain's proofs: versions as data, the cells that they lie in, what a call keeps of memory; no statement of the program yet. -/
namespace Go.Proofs.Ytapmlleemopcnac
open Go.RowKit
set_option maxRecDepth 20000

theorem hide {p : Prop} (h : p) : Hid p := h
theorem unhide {p : Prop} (h : Hid p) : p := h

/-- A version: since the commit a it has a value (t) of those bytes (s). -/
structure Ver where
  a : Int
  t : Bool
  s : ByteArray

def dv : Ver := ⟨0, false, ByteArray.empty⟩

/-- The k-th version's commit, whether it has a value, and its bytes. -/
def va (vs : List Ver) (k : Nat) : Int := (vs.getD k dv).a
def vt (vs : List Ver) (k : Nat) : Bool := (vs.getD k dv).t
def vb (vs : List Ver) (k : Nat) : ByteArray := (vs.getD k dv).s

def vcells : List Ver → List Value
  | [] => []
  | v :: r => .int .i64 v.a :: .bool v.t :: .string v.s :: vcells r

theorem vcells_length (vs : List Ver) : (vcells vs).length = vs.length * 3 := by
  induction vs with
  | nil => rfl
  | cons v r ih => simp only [vcells, List.length_cons, ih]; omega

theorem vcells_append (xs ys : List Ver) : vcells (xs ++ ys) = vcells xs ++ vcells ys := by
  induction xs with
  | nil => rfl
  | cons v r ih => simp only [List.cons_append, vcells, ih]

theorem vcells_drop (vs : List Ver) : ∀ k, vcells (vs.drop k) = (vcells vs).drop (k * 3) := by
  induction vs with
  | nil => intro k; simp [vcells]
  | cons v r ih =>
    intro k
    cases k with
    | zero => simp
    | succ k =>
      have e : (k + 1) * 3 = k * 3 + 1 + 1 + 1 := by omega
      rw [List.drop_succ_cons, ih k, e]
      simp only [vcells, List.drop_succ_cons]

theorem vcells_at (vs : List Ver) : ∀ k, k < vs.length →
    (vcells vs)[k * 3]? = some (.int .i64 (va vs k)) ∧ (vcells vs)[k * 3 + 1]? = some (.bool (vt vs k)) ∧ (vcells vs)[k * 3 + 2]? = some (.string (vb vs k)) := by
  induction vs with
  | nil => intro k h; simp at h
  | cons v r ih =>
    intro k h
    cases k with
    | zero => simp [vcells, va, vt, vb]
    | succ k =>
      have e : (k + 1) * 3 = k * 3 + 1 + 1 + 1 := by omega
      have hk : k < r.length := by simpa using h
      obtain ⟨h1, h2, h3⟩ := ih k hk
      have ea : va (v :: r) (k + 1) = va r k := by simp [va]
      have et : vt (v :: r) (k + 1) = vt r k := by simp [vt]
      have eb : vb (v :: r) (k + 1) = vb r k := by simp [vb]
      rw [ea, et, eb, e]
      refine ⟨by simpa [vcells] using h1, ?_, ?_⟩
      · have e2 : k * 3 + 1 + 1 + 1 + 1 = (k * 3 + 1) + 1 + 1 + 1 := by omega
        rw [e2]; simpa [vcells] using h2
      · have e2 : k * 3 + 1 + 1 + 1 + 2 = (k * 3 + 2) + 1 + 1 + 1 := by omega
        rw [e2]; simpa [vcells] using h3

theorem vcells_one (vs : List Ver) : ∀ u ∈ vcells vs, u.oneCell' = true := by
  induction vs with
  | nil => intro u h; simp [vcells] at h
  | cons v r ih =>
    intro u h
    simp only [vcells, List.mem_cons] at h
    rcases h with h | h | h | h
    · subst h; rfl
    · subst h; rfl
    · subst h; rfl
    · exact ih u h

/-- The versions lie in block g from offset o on. -/
def SlA (w : World) (g o : Nat) (vs : List Ver) : Prop := ∀ j u, (vcells vs)[j]? = some u → w.cell? ⟨g, o + j, none⟩ = some u

theorem SlA.at0 {w : World} {g o : Nat} {vs : List Ver} (h : SlA w g o vs) (k : Nat) (hk : k < vs.length) : w.cell? ⟨g, o + k * 3, none⟩ = some (.int .i64 (va vs k)) := h _ _ (vcells_at vs k hk).1
theorem SlA.at1 {w : World} {g o : Nat} {vs : List Ver} (h : SlA w g o vs) (k : Nat) (hk : k < vs.length) : w.cell? ⟨g, o + k * 3 + 1, none⟩ = some (.bool (vt vs k)) := h _ _ (vcells_at vs k hk).2.1
theorem SlA.at2 {w : World} {g o : Nat} {vs : List Ver} (h : SlA w g o vs) (k : Nat) (hk : k < vs.length) : w.cell? ⟨g, o + k * 3 + 2, none⟩ = some (.string (vb vs k)) := h _ _ (vcells_at vs k hk).2.2

theorem SlA.drop {w : World} {g o : Nat} {vs : List Ver} (h : SlA w g o vs) (k : Nat) : SlA w g (o + k * 3) (vs.drop k) := by
  intro j u hu
  rw [vcells_drop, List.getElem?_drop] at hu
  have := h _ _ hu
  rwa [← Nat.add_assoc] at this

theorem SlA.lt {w : World} {g o : Nat} {vs : List Ver} (h : SlA w g o vs) (hp : 0 < vs.length) : g < w.heap.size := World.block_lt_of_cell? w _ (h.at0 0 hp)

/-- All that was there is as it was, but the blocks of S; blocks may have come. -/
structure Kp (S : List Nat) (w w' : World) : Prop where
  os : w'.os = w.os
  tape : w'.tape = w.tape
  output : w'.output = w.output
  size : w.heap.size ≤ w'.heap.size
  block : ∀ k, k < w.heap.size → k ∉ S → w'.heap[k]? = w.heap[k]?

theorem Kp.refl (S : List Nat) (w : World) : Kp S w w := ⟨rfl, rfl, rfl, Nat.le_refl _, fun _ _ _ => rfl⟩

theorem Kp.trans {S T : List Nat} {a b c : World} (h : Kp S a b) (k : Kp T b c) (hT : ∀ x ∈ T, x ∈ S ∨ a.heap.size ≤ x) : Kp S a c :=
  ⟨k.os.trans h.os, k.tape.trans h.tape, k.output.trans h.output, Nat.le_trans h.size k.size, fun i hi hS =>
    (k.block i (Nat.lt_of_lt_of_le hi h.size) (fun hm => by rcases hT i hm with h1 | h1; exact hS h1; omega)).trans (h.block i hi hS)⟩

theorem Kp.trans0 {S : List Nat} {a b c : World} (h : Kp S a b) (k : Kp [] b c) : Kp S a c := h.trans k (fun _ hx => by simp at hx)

theorem Kp.mono {S T : List Nat} {a b : World} (h : Kp S a b) (hT : ∀ x ∈ S, x ∈ T ∨ a.heap.size ≤ x) : Kp T a b := (Kp.refl T a).trans h hT

theorem Kp.drewN {S : List Nat} {a w : World} (h : Kp S a w) (n : Nat) : Kp S a (w.drewN n) := ⟨h.os, h.tape, h.output, h.size, h.block⟩
theorem Kp.drew {S : List Nat} {a w : World} (h : Kp S a w) : Kp S a w.drew := ⟨h.os, h.tape, h.output, h.size, h.block⟩

theorem Kp.alloc {S : List Nat} {a w : World} (h : Kp S a w) (o : Obj) : Kp S a (w.alloc o) :=
  h.trans0 ⟨rfl, rfl, rfl, by simp, fun _ hk _ => Below.heap_alloc _ _ _ hk⟩

theorem Kp.setCell {S : List Nat} {a w : World} (h : Kp S a w) {p : Addr} (hp : p.block ∈ S ∨ a.heap.size ≤ p.block) (u : Value) : Kp S a (w.setCell p u) :=
  h.trans (T := [p.block]) ⟨rfl, rfl, rfl, by simp [World.setCell], fun k _ hn => Below.heap_setCell _ _ _ _ (by simpa using hn)⟩ (by simpa using hp)

theorem Kp.grown {S : List Nat} {a w w' : World} {row : Option Nat} (h : Kp S a w) (hg : w.grownBy w' row) (hr : ∀ k, row = some k → k ∈ S ∨ a.heap.size ≤ k) : Kp S a w' := by
  refine ⟨hg.os.trans h.os, hg.tape.trans h.tape, hg.output.trans h.output, Nat.le_trans h.size hg.size, fun i hi hS => ?_⟩
  rw [hg.block i (Nat.lt_of_lt_of_le hi h.size) (fun e => by rcases hr i e.symm with h1 | h1; exact hS h1; omega)]
  exact h.block i hi hS

theorem Kp.of_below {w w' : World} (h : Below w.heap.size w w') : Kp [] w w' := ⟨h.os, h.tape, h.output, h.size, fun k hk _ => h.block k hk⟩
theorem Kp.below {S : List Nat} {w w' : World} {B : Nat} (h : Kp S w w') (hB : B ≤ w.heap.size) (hS : ∀ x ∈ S, B ≤ x) : Below B w w' :=
  ⟨h.os, h.tape, h.output, h.size, fun k hk => h.block k (by omega) (fun hm => by have := hS k hm; omega)⟩

theorem Kp.cell {S : List Nat} {w w' : World} (h : Kp S w w') {p : Addr} {v : Value} (hp : p.block ∉ S) (hc : w.cell? p = some v) : w'.cell? p = some v := by
  rw [World.cell?_of_block (w := w) (h.block p.block (World.block_lt_of_cell? w _ hc) hp)]; exact hc
theorem Kp.frozen {S : List Nat} {w w' : World} (h : Kp S w w') {p : Addr} (hlt : p.block < w.heap.size) (hp : p.block ∉ S) : w'.frozen? p = w.frozen? p :=
  World.frozen?_of_block (w := w) (h.block p.block hlt hp)

theorem SlA.kp {S : List Nat} {w w' : World} {g o : Nat} {vs : List Ver} (h : SlA w g o vs) (hk : Kp S w w') (hg : g ∉ S) : SlA w' g o vs :=
  fun j u hu => hk.cell (p := ⟨g, o + j, none⟩) hg (h j u hu)

/-- The versions' commits rise. -/
def Rise (vs : List Ver) : Prop := ∀ i j, i < j → j < vs.length → va vs i < va vs j

/-- c: how many versions are not above the commit x. -/
structure IsCnt (vs : List Ver) (x : Int) (c : Nat) : Prop where
  le : c ≤ vs.length
  lo : ∀ k, k < c → va vs k ≤ x
  hi : ∀ k, c ≤ k → k < vs.length → x < va vs k

theorem IsCnt.uniq {vs : List Ver} {x : Int} {c d : Nat} (h : IsCnt vs x c) (k : IsCnt vs x d) : c = d := by
  rcases Nat.lt_trichotomy c d with e | e | e
  · have h1 := k.lo c e; have h2 := h.hi c (Nat.le_refl _) (by have := k.le; omega); omega
  · exact e
  · have h1 := h.lo d e; have h2 := k.hi d (Nat.le_refl _) (by have := h.le; omega); omega

theorem Rise.le {vs : List Ver} (h : Rise vs) {i j : Nat} (hij : i ≤ j) (hj : j < vs.length) : va vs i ≤ va vs j := by
  rcases Nat.lt_or_ge i j with e | e
  · have := h i j e hj; omega
  · have : i = j := by omega
    subst this; omega

/-- What Check tells. -/
def chk (t : Bool) (s : ByteArray) : Int := if 12 < s.size then 2 else if t = false ∧ 0 < s.size then 4 else 0

/-- What Put tells, and what it makes of the versions. -/
def pcode (vs : List Ver) (x : Int) (t : Bool) (s : ByteArray) : Int := if chk t s = 0 then (if x ≤ va vs (vs.length - 1) then 5 else 0) else chk t s
def pvers (vs : List Ver) (x : Int) (t : Bool) (s : ByteArray) : List Ver := if pcode vs x t s = 0 then vs ++ [⟨x, t, s⟩] else vs

theorem Rise.put {vs : List Ver} (h : Rise vs) (hp : 0 < vs.length) (x : Int) (t : Bool) (s : ByteArray) : Rise (pvers vs x t s) := by
  unfold pvers
  split
  · rename_i hc
    have hlast : va vs (vs.length - 1) < x := by
      unfold pcode at hc
      split at hc
      · split at hc
        · simp at hc
        · omega
      · rename_i h1; exact absurd hc h1
    intro i j hij hj
    simp only [List.length_append, List.length_cons, List.length_nil] at hj
    by_cases hj2 : j < vs.length
    · have := h i j hij hj2
      simp only [va, List.getD_eq_getElem?_getD] at this ⊢
      rw [List.getElem?_append_left (by omega), List.getElem?_append_left (by omega)]; exact this
    · have hj3 : j = vs.length := by omega
      subst hj3
      have hi := h.le (i := i) (j := vs.length - 1) (by omega) (by omega)
      simp only [va, List.getD_eq_getElem?_getD] at hi hlast ⊢
      rw [List.getElem?_append_left (by omega), List.getElem?_concat_length]
      simp only [Option.getD_some]
      omega
  · exact h

theorem pvers_length (vs : List Ver) (x : Int) (t : Bool) (s : ByteArray) : vs.length ≤ (pvers vs x t s).length ∧ (pvers vs x t s).length ≤ vs.length + 1 := by
  unfold pvers; split <;> simp

theorem Rise.drop {vs : List Ver} (h : Rise vs) (k : Nat) : Rise (vs.drop k) := by
  intro i j hij hj
  simp only [List.length_drop] at hj
  have := h (k + i) (k + j) (by omega) (by omega)
  simpa [va, List.getD_eq_getElem?_getD, List.getElem?_drop] using this

end Go.Proofs.Ytapmlleemopcnac

/- Key, Check and the document's, each by a contract. -/
namespace Go.Proofs.Ytapmlleemopcnac
open Go.RowKit
set_option maxRecDepth 20000
attribute [local go_sem ↓] Go.wp_at_zero Go.wp_at_succ

theorem ret_int {k : IntKind} {a b : Int} (h : a = b) : Ending.returned (.int k a) = .returned (.int k b) := by rw [h]
theorem ret_bool {a b : Bool} (h : a = b) : Ending.returned (.bool a) = .returned (.bool b) := by rw [h]
theorem wrap_i64_id (x : Int) (h1 : -9223372036854775808 ≤ x) (h2 : x < 9223372036854775808) : IntKind.i64.wrap x = x := by rw [IntKind.wrap_i64]; omega

theorem isEmpty_bytes (s : ByteArray) : s.toList.isEmpty = decide (s.size = 0) := by
  rw [ByteArray.toList_eq]
  obtain ⟨⟨x⟩⟩ := s
  cases x <;> simp [ByteArray.size]

def keyB (k : Int) : Bool := decide (0 ≤ k ∧ k < 8)
set_option maxHeartbeats 400000 in
theorem key11 (k : Int) (w : World) :
    Calls Try.prog 70 #[.int .i64 k] w fun e w' => e = .returned (.bool (keyB k)) ∧ w' = w := by
  go_enter Try.func70, Try.ntmps70
  go_wp2
  all_goals
    go_ret
    exact ⟨ret_bool (by unfold keyB; simp; try omega), rfl⟩
set_option maxHeartbeats 400000 in
theorem key12 (k : Int) (w : World) :
    Calls Try.prog 38 #[.int .i64 k] w fun e w' => e = .returned (.bool (keyB k)) ∧ w' = w := by
  go_enter Try.func38, Try.ntmps38
  go_wp2
  all_goals
    go_ret
    exact ⟨ret_bool (by unfold keyB; simp; try omega), rfl⟩

theorem chk_long {t : Bool} {s : ByteArray} (h : 12 < (s.size : Int)) : 2 = chk t s := by unfold chk; rw [if_pos (by omega)]
theorem chk_true {s : ByteArray} (h : (s.size : Int) ≤ 12) : 0 = chk true s := by unfold chk; rw [if_neg (by omega)]; simp
theorem chk_form {s : ByteArray} (h : (s.size : Int) ≤ 12) (h2 : (!s.toList.isEmpty) = true) : 4 = chk false s := by
  rw [isEmpty_bytes] at h2
  simp only [Bool.not_eq_true', decide_eq_false_iff_not] at h2
  unfold chk; rw [if_neg (by omega), if_pos ⟨rfl, by omega⟩]
theorem chk_none {s : ByteArray} (h2 : (!s.toList.isEmpty) = false) : 0 = chk false s := by
  rw [isEmpty_bytes] at h2
  simp at h2
  subst h2
  rfl
set_option maxHeartbeats 400000 in
theorem check13 (t : Bool) (s : ByteArray) (w : World) (_hs : s.size ≤ maxLen) :
    Calls Try.prog 126 #[.agg #[.bool t, .string s]] w fun e w' => e = .returned (.int .i64 (chk t s)) ∧ Kp [] w w' := by
  go_enter Try.func126, Try.ntmps126
  go_wp2
  all_goals
    go_ret
    refine ⟨ret_int ?_, (Kp.refl _ _).alloc _⟩
    first | exact chk_long (by assumption) | (rw [show t = true by assumption]; exact chk_true (by assumption)) | (rw [show t = false by simpa using ‹¬ t = true›]; first | (exact chk_form (by assumption) (by assumption)) | (exact chk_none (by assumption)))

set_option maxHeartbeats 400000 in
theorem fault14 (t : Bool) (s : ByteArray) (w : World) (hs : s.size ≤ maxLen) :
    Calls Try.prog 110 #[.agg #[.bool t, .string s]] w fun e w' => e = .returned (.int .i64 (chk t s)) ∧ Kp [] w w' := by
  unfold maxLen at hs
  go_enter Try.func110, Try.ntmps110
  go_wp2
  all_goals
    go_ret
    refine ⟨ret_int ?_, (Kp.refl _ _).alloc _⟩
    simp_all [chk]
    try omega

set_option maxHeartbeats 400000 in
theorem has24 (s : ByteArray) (w : World) :
    Calls Try.prog 39 #[.string s] w fun e w' => e = .returned (.agg #[.bool true, .string s]) ∧ Kp [] w w' := by
  go_enter Try.func39, Try.ntmps39
  go_wp2
  exact bodyPost_ret (v := .agg #[.bool true, .string s]) (by simp [results, Try.results39, go_sem]) rfl ⟨rfl, ((Kp.refl [] w).alloc _)⟩

theorem addr_add (g o j : Nat) : (⟨g, o, none⟩ : Addr).add j = ⟨g, o + j, none⟩ := by unfold Addr.add; split <;> simp_all
theorem SlA.news {w : World} {g o : Nat} {vs : List Ver} (h : SlA w g o vs) : ∀ j u, (vcells vs)[j]? = some u → w.cell? ((⟨g, o, none⟩ : Addr).add j) = some u := fun j u hu => by
  rw [addr_add]; exact h j u hu

end Go.Proofs.Ytapmlleemopcnac

/- Plain words for pairs: what Check tells of them; no statement of the program yet. -/
namespace Go.Proofs.Ytapmlleemopcnac
open Go.RowKit
set_option maxRecDepth 20000

theorem va_cons_succ (v : Ver) (r : List Ver) (k : Nat) : va (v :: r) (k + 1) = va r k := by simp [va]
theorem va_cons_zero (v : Ver) (r : List Ver) : va (v :: r) 0 = v.a := by simp [va]

/-- What Check tells of pairs (a: the key), behind the key a. -/
def pf : Int → List Ver → Int
  | _, [] => 0
  | a, p :: r => if keyB p.a = false then 1 else if p.a ≤ a then 5 else if chk p.t p.s = 0 then pf p.a r else chk p.t p.s

theorem pf_keys {a : Int} {ps : List Ver} (h : pf a ps = 0) : ∀ i, i < ps.length → 0 ≤ va ps i ∧ va ps i < 8 := by
  induction ps generalizing a with
  | nil => intro i hi; simp at hi
  | cons p r ih =>
    unfold pf at h
    split at h
    · simp at h
    · rename_i hk
      split at h
      · simp at h
      · split at h
        · intro i hi
          cases i with
          | zero => rw [va_cons_zero]; simp [keyB] at hk; omega
          | succ i => rw [va_cons_succ]; exact ih h i (by simpa using hi)
        · rename_i h1; exact absurd h h1

end Go.Proofs.Ytapmlleemopcnac

/- Pairs that are handed in; Check of a table and PairsFault, by their contracts. -/
namespace Go.Proofs.Ytapmlleemopcnac
open Go.RowKit
set_option maxRecDepth 20000
attribute [local go_sem ↓] Go.wp_at_zero Go.wp_at_succ

/-- The pairs (a: the key) lie behind the slice's address. -/
structure Prs (w : World) (a : Option Addr) (ps : List Ver) : Prop where
  len : ps.length ≤ maxLen
  str : ∀ k, k < ps.length → (vb ps k).size ≤ maxLen
  mem : 0 < ps.length → ∃ g o, a = some ⟨g, o, none⟩ ∧ SlA w g o ps

theorem Prs.kp {S : List Nat} {w w' : World} {a : Option Addr} {ps : List Ver} (h : Prs w a ps) (hk : Kp S w w') (hS : ∀ g o, a = some ⟨g, o, none⟩ → g ∉ S) : Prs w' a ps := by
  refine ⟨h.len, h.str, fun hp => ?_⟩
  obtain ⟨g, o, e, hs⟩ := h.mem hp
  exact ⟨g, o, e, hs.kp hk (hS g o e)⟩
theorem Prs.kp0 {w w' : World} {a : Option Addr} {ps : List Ver} (h : Prs w a ps) (hk : Kp [] w w') : Prs w' a ps := h.kp hk (fun _ _ _ => by simp)

def prev (ps : List Ver) (k : Nat) : Int := if k = 0 then -1 else va ps (k - 1)
theorem prev_succ (ps : List Ver) (k : Nat) : prev ps (k + 1) = va ps k := by simp [prev]

theorem ver_drop {ps : List Ver} {k : Nat} (h : k < ps.length) : ps.drop k = ⟨va ps k, vt ps k, vb ps k⟩ :: ps.drop (k + 1) := by
  have e : (⟨va ps k, vt ps k, vb ps k⟩ : Ver) = ps[k] := by simp [va, vt, vb, List.getD_eq_getElem?_getD, List.getElem?_eq_getElem h]
  rw [e]
  exact List.drop_eq_getElem_cons h

theorem pf_at {ps : List Ver} {k : Nat} (a : Int) (h : k < ps.length) : pf a (ps.drop k) =
    if keyB (va ps k) = false then 1 else if va ps k ≤ a then 5 else if chk (vt ps k) (vb ps k) = 0 then pf (va ps k) (ps.drop (k + 1)) else chk (vt ps k) (vb ps k) := by
  rw [ver_drop h]; rfl

theorem pf_end {ps : List Ver} {k : Nat} (a : Int) (h : ¬ k < ps.length) : pf a (ps.drop k) = 0 := by
  rw [List.drop_eq_nil_of_le (by omega)]; rfl

set_option maxHeartbeats 1000000 in
theorem tcheck36 (a : Option Addr) (c : Nat) (ps : List Ver) (w : World) (h : Prs w a ps) (hm : ps.length ≤ 1000) :
    Calls Try.prog 139 #[.slice a ps.length c] w fun e w' => e = .returned (.int .i64 (pf (-1) ps)) ∧ Kp [] w w' := by
  have HP := hide h
  clear h
  go_enter Try.func139, Try.ntmps139
  go_wp2_with fail
  go_loopw [3, 9] (fun x i wr => ∃ k : Nat, k ≤ ps.length ∧ x = .int .i64 (prev ps k) ∧ i = .int .i64 k ∧ Hid (pf (prev ps k) (ps.drop k) = pf (-1) ps) ∧ Hid (Kp [] w wr)) (fun _ i _ => ps.length - (intOf i).toNat)
  case atStart => exact ⟨0, by omega, rfl, rfl, rfl, Kp.refl _ _⟩
  case round =>
    obtain ⟨k, hk, rfl, rfl, HE, HK⟩ := hrel
    by_cases hlt : k < ps.length
    · obtain ⟨g, o, rfl, hs⟩ := (unhide HP).mem (by omega)
      have hs2 := hs.kp (unhide HK) (by simp)
      have q0 := hs2.at0 k hlt
      have q1 := hs2.at1 k hlt
      have q2 : _ = _ := hs2.at2 k hlt
      have hsz := (unhide HP).str k hlt
      have i0 : (0 : Int) ≤ (k : Int) := by omega
      have i1 : (k : Int) < (ps.length : Int) := by omega
      clear hs hs2
      have hpe := unhide HE
      rw [pf_at _ hlt] at hpe
      by_cases hK : keyB (va ps k) = true
      · by_cases ha : va ps k ≤ prev ps k
        · rw [if_neg (by simp [hK]), if_pos ha] at hpe
          have HPE := hide hpe
          have HHA := hide ha
          clear hpe HE ha
          go_wp2_with fail
          refine (key11 _ _).mono ?_
          rintro e w' ⟨rfl, rfl⟩
          rw [hK]
          clear hK
          have ha := unhide HHA
          go_wp2_with fail
          go_ret
          exact ⟨ret_int (unhide HPE), (unhide HK).alloc _⟩
        · by_cases hc : chk (vt ps k) (vb ps k) = 0
          · rw [if_neg (by simp [hK]), if_neg ha, if_pos hc] at hpe
            have HPE := hide hpe
            have HHA := hide ha
            have HCC := hide hc
            clear hpe HE ha hc
            go_wp2_with fail
            refine (key11 _ _).mono ?_
            rintro e w' ⟨rfl, rfl⟩
            rw [hK]
            clear hK
            have ha := unhide HHA
            go_wp2_with fail
            refine (check13 _ _ _ hsz).mono ?_
            rintro e w2 ⟨rfl, hk2⟩
            have p0 := hk2.cell (p := ⟨wr.heap.size, 0, none⟩) (v := .int .i64 (va ps k)) (by simp) (by simp)
            have HK2 := hide (((unhide HK).alloc _).trans0 hk2)
            rw [unhide HCC]
            clear hk2
            go_wp2_with fail
            exact ⟨⟨k + 1, by omega, by rw [prev_succ], by go_num, by rw [prev_succ]; exact unhide HPE, HK2⟩, by simp [intOf]; omega⟩
          · rw [if_neg (by simp [hK]), if_neg ha, if_neg hc] at hpe
            have HPE := hide hpe
            have HHA := hide ha
            clear hpe HE ha
            go_wp2_with fail
            refine (key11 _ _).mono ?_
            rintro e w' ⟨rfl, rfl⟩
            rw [hK]
            clear hK
            have ha := unhide HHA
            go_wp2_with fail
            refine (check13 _ _ _ hsz).mono ?_
            rintro e w2 ⟨rfl, hk2⟩
            have HK2 := hide (((unhide HK).alloc _).trans0 hk2)
            clear hk2
            generalize chk (vt ps k) (vb ps k) = q at *
            go_wp2_with fail
            go_ret
            exact ⟨ret_int (unhide HPE), unhide HK2⟩
      · have hK2 : keyB (va ps k) = false := by simpa using hK
        rw [if_pos hK2] at hpe
        have HPE := hide hpe
        clear hpe HE hK
        go_wp2_with fail
        refine (key11 _ _).mono ?_
        rintro e w' ⟨rfl, rfl⟩
        rw [hK2]
        clear hK2
        go_wp2_with fail
        go_ret
        exact ⟨ret_int (unhide HPE), (unhide HK).alloc _⟩
    · have hpe := unhide HE
      rw [pf_end _ hlt] at hpe
      have HPE := hide hpe
      clear hpe HE
      go_wp2_with fail
      go_ret
      exact ⟨ret_int (unhide HPE), unhide HK⟩
end Go.Proofs.Ytapmlleemopcnac

/- PairsFault, by its contract. -/
namespace Go.Proofs.Ytapmlleemopcnac
open Go.RowKit
set_option maxRecDepth 20000
attribute [local go_sem ↓] Go.wp_at_zero Go.wp_at_succ

set_option maxHeartbeats 1000000 in
theorem pfault37 (a : Option Addr) (c : Nat) (ps : List Ver) (w : World) (h : Prs w a ps) (hm : ps.length ≤ 1000) :
    Calls Try.prog 130 #[.slice a ps.length c] w fun e w' => e = .returned (.int .i64 (pf (-1) ps)) ∧ Kp [] w w' := by
  have HP := hide h
  clear h
  go_enter Try.func130, Try.ntmps130
  go_wp2_with fail
  go_loopw [3] (fun i wr => ∃ k : Nat, k ≤ ps.length ∧ i = .int .i64 k ∧ Hid (pf (prev ps k) (ps.drop k) = pf (-1) ps) ∧ Hid (Kp [] w wr)) (fun i _ => ps.length - (intOf i).toNat)
  case atStart => exact ⟨0, by omega, rfl, rfl, Kp.refl _ _⟩
  case round =>
    obtain ⟨k, hk, rfl, HE, HK⟩ := hrel
    by_cases hlt : k < ps.length
    · obtain ⟨g, o, rfl, hs⟩ := (unhide HP).mem (by omega)
      have hs2 := hs.kp (unhide HK) (by simp)
      have q0 := hs2.at0 k hlt
      have q1 := hs2.at1 k hlt
      have q2 : wr.cell? ⟨g, o + k * 3 + 1 + 1, none⟩ = some (.string (vb ps k)) := hs2.at2 k hlt
      have hsz := (unhide HP).str k hlt
      have i0 : (0 : Int) ≤ (k : Int) := by omega
      have i1 : (k : Int) < (ps.length : Int) := by omega
      have hpe := unhide HE
      rw [pf_at _ hlt] at hpe
      by_cases hK : keyB (va ps k) = true
      · by_cases h0 : k = 0
        · subst h0
          have ha : ¬ va ps 0 ≤ prev ps 0 := by simp [keyB] at hK; simp [prev]; omega
          simp only [Nat.zero_mul, Nat.add_zero] at q0 q1 q2
          by_cases hc : chk (vt ps 0) (vb ps 0) = 0
          · rw [if_neg (by simp [hK]), if_neg ha, if_pos hc] at hpe
            have HPE := hide hpe
            have HCC := hide hc
            clear hpe HE ha hc hs hs2
            go_wp2_with fail
            refine (key12 _ _).mono ?_
            rintro e w' ⟨rfl, rfl⟩
            rw [hK]
            clear hK
            go_wp2_with fail
            go_quiet (fail)
            go_wp2_with fail
            refine (fault14 _ _ _ hsz).mono ?_
            rintro e w2 ⟨rfl, hk2⟩
            have HK2 := hide (((unhide HK).drewN nq).trans0 hk2)
            rw [unhide HCC]
            clear hk2
            go_wp2_with fail
            exact ⟨⟨1, by omega, by go_num, by rw [prev_succ]; exact unhide HPE, HK2⟩, by simp [intOf]; omega⟩
          · rw [if_neg (by simp [hK]), if_neg ha, if_neg hc] at hpe
            have HPE := hide hpe
            clear hpe HE ha hs hs2
            go_wp2_with fail
            refine (key12 _ _).mono ?_
            rintro e w' ⟨rfl, rfl⟩
            rw [hK]
            clear hK
            go_wp2_with fail
            go_quiet (fail)
            go_wp2_with fail
            refine (fault14 _ _ _ hsz).mono ?_
            rintro e w2 ⟨rfl, hk2⟩
            have HK2 := hide (((unhide HK).drewN nq).trans0 hk2)
            clear hk2
            generalize chk (vt ps 0) (vb ps 0) = q at *
            go_wp2_with fail
            go_ret
            exact ⟨ret_int (unhide HPE), unhide HK2⟩
        · obtain ⟨d, rfl⟩ : ∃ d, k = d + 1 := ⟨k - 1, by omega⟩
          have r0 := hs2.at0 d (by omega)
          have hp1 : prev ps (d + 1) = va ps d := prev_succ ps d
          have j1 : (0 : Int) < (d : Int) + 1 := by omega
          have j2 : (d : Int) < (ps.length : Int) := by omega
          have j3 : (d : Int) + 1 < (ps.length : Int) := by omega
          have j4 : (0 : Int) ≤ (d : Int) + 1 := by omega
          have j5 : (0 : Int) ≤ (d : Int) := by omega
          rw [hp1] at hpe
          by_cases ha : va ps (d + 1) ≤ va ps d
          · rw [if_neg (by simp [hK]), if_pos ha] at hpe
            have HPE := hide hpe
            have HHA := hide ha
            clear hpe HE hs hs2 ha
            go_wp2_with fail
            refine (key12 _ _).mono ?_
            rintro e w' ⟨rfl, rfl⟩
            rw [hK]
            clear hK
            have ha := unhide HHA
            go_wp2_with fail
            go_quiet (fail)
            go_wp2_with fail
            go_ret
            exact ⟨ret_int (unhide HPE), (unhide HK).drewN nq⟩
          · by_cases hc : chk (vt ps (d + 1)) (vb ps (d + 1)) = 0
            · rw [if_neg (by simp [hK]), if_neg ha, if_pos hc] at hpe
              have HPE := hide hpe
              have HCC := hide hc
              have HHA := hide ha
              clear hpe HE ha hc hs hs2
              go_wp2_with fail
              refine (key12 _ _).mono ?_
              rintro e w' ⟨rfl, rfl⟩
              rw [hK]
              clear hK
              have ha := unhide HHA
              go_wp2_with fail
              go_quiet (fail)
              go_wp2_with fail
              refine (fault14 _ _ _ hsz).mono ?_
              rintro e w2 ⟨rfl, hk2⟩
              have HK2 := hide (((unhide HK).drewN nq).trans0 hk2)
              rw [unhide HCC]
              clear hk2
              go_wp2_with fail
              exact ⟨⟨d + 1 + 1, by omega, by go_num, by rw [prev_succ]; exact unhide HPE, HK2⟩, by simp [intOf]; omega⟩
            · rw [if_neg (by simp [hK]), if_neg ha, if_neg hc] at hpe
              have HPE := hide hpe
              have HHA := hide ha
              clear hpe HE ha hs hs2
              go_wp2_with fail
              refine (key12 _ _).mono ?_
              rintro e w' ⟨rfl, rfl⟩
              rw [hK]
              clear hK
              have ha := unhide HHA
              go_wp2_with fail
              go_quiet (fail)
              go_wp2_with fail
              refine (fault14 _ _ _ hsz).mono ?_
              rintro e w2 ⟨rfl, hk2⟩
              have HK2 := hide (((unhide HK).drewN nq).trans0 hk2)
              clear hk2
              generalize chk (vt ps (d + 1)) (vb ps (d + 1)) = q at *
              go_wp2_with fail
              go_ret
              exact ⟨ret_int (unhide HPE), unhide HK2⟩
      · have hK2 : keyB (va ps k) = false := by simpa using hK
        rw [if_pos hK2] at hpe
        have HPE := hide hpe
        clear hpe HE hK hs hs2
        go_wp2_with fail
        refine (key12 _ _).mono ?_
        rintro e w' ⟨rfl, rfl⟩
        rw [hK2]
        clear hK2
        go_wp2_with fail
        go_ret
        exact ⟨ret_int (unhide HPE), unhide HK⟩
    · have hpe := unhide HE
      rw [pf_end _ hlt] at hpe
      have HPE := hide hpe
      clear hpe HE
      go_wp2_with fail
      go_ret
      exact ⟨ret_int (unhide HPE), unhide HK⟩
end Go.Proofs.Ytapmlleemopcnac

/- greatPairs and SamePairs, by their contracts. -/
namespace Go.Proofs.Ytapmlleemopcnac
open Go.RowKit
set_option maxRecDepth 20000
attribute [local go_sem ↓] Go.wp_at_zero Go.wp_at_succ

def GpEnd (ps : List Ver) (w : World) (e : Ending) (w' : World) : Prop := ∃ q : Bool, e = .returned (.bool q) ∧ (q = false → ps.length ≤ 50) ∧ w' = w
theorem gpEnd_mk {ps : List Ver} {w : World} (q : Bool) (h : q = false → ps.length ≤ 50) : GpEnd ps w (.returned (.bool q)) w := ⟨q, rfl, h, rfl⟩

set_option maxHeartbeats 400000 in
theorem gpairs30 (a : Option Addr) (c : Nat) (ps : List Ver) (w : World) (h : Prs w a ps) :
    Calls Try.prog 92 #[.slice a ps.length c] w fun e w' => GpEnd ps w e w' := by
  have hm := h.len
  unfold maxLen at hm
  have HP := hide h
  clear h
  go_enter Try.func92, Try.ntmps92
  go_wp2_with fail
  go_loop [3] (fun i => ∃ k : Nat, k ≤ ps.length ∧ k ≤ 100 ∧ i = .int .i64 k) (fun i => ps.length - (intOf i).toNat)
  case atStart => exact ⟨0, Nat.zero_le _, by omega, rfl⟩
  case round =>
    obtain ⟨k, hk, hk2, rfl⟩ := hrel
    by_cases hlt : k < ps.length
    · by_cases hlt2 : k < 100
      · obtain ⟨g, o, rfl, hs⟩ := (unhide HP).mem (by omega)
        have q2 : w.cell? ⟨g, o + k * 3 + 1 + 1, none⟩ = some (.string (vb ps k)) := hs.at2 k hlt
        have q4 := (unhide HP).str k hlt
        unfold maxLen at q4
        clear hs
        generalize vb ps k = s at *
        by_cases hs : 300 < s.size
        · go_wp2
          go_ret
          exact gpEnd_mk _ (fun h => by simp at h)
        · go_wp2
          go_round
          case rel => exact ⟨k + 1, by omega, by omega, by go_num⟩
          case measure => simp [intOf]; omega
      · go_wp2
        go_ret
        exact gpEnd_mk _ (fun h => by simp at h; omega)
    · go_wp2
      go_ret
      exact gpEnd_mk _ (fun h => by simp at h; omega)

/-- The pairs lie behind the slice's address. -/
def SlO (w : World) (a : Option Addr) (vs : List Ver) : Prop := 0 < vs.length → ∃ g o, a = some ⟨g, o, none⟩ ∧ SlA w g o vs
theorem SlO.kp0 {w w' : World} {a : Option Addr} {vs : List Ver} (h : SlO w a vs) (hk : Kp [] w w') : SlO w' a vs := fun hp => by
  obtain ⟨g, o, e, hs⟩ := h hp
  exact ⟨g, o, e, hs.kp hk (by simp)⟩
theorem slo_own {B n : Nat} {w : World} {a : Option Addr} {cap : Nat} {vs : List Ver} (h : w.ownsRow B 79 3 (.slice a n cap) n (vcells vs)) (hn : n = vs.length) : SlO w a vs := by
  intro hp
  rcases h.2 with ⟨e, _⟩ | ⟨g, c, cur, e, _⟩
  · simp only [Value.slice.injEq] at e; omega
  · simp only [Value.slice.injEq] at e
    obtain ⟨rfl, _, _⟩ := e
    refine ⟨g, 0, rfl, ?_⟩
    intro j u hu
    subst hn
    have := h.cellAt j (by rw [← vcells_length]; exact (List.getElem?_eq_some_iff.1 hu).1)
    rw [Nat.zero_add, this]; exact hu

set_option maxHeartbeats 400000 in
theorem same39 {vs : List Ver} (a a' : Option Addr) (cap cap' : Nat) (w : World) (h : SlO w a vs) (h' : SlO w a' vs) (hm : vs.length ≤ 1000) :
    Calls Try.prog 40 #[.slice a vs.length cap, .slice a' vs.length cap'] w fun e w' => e = .returned (.bool true) ∧ ∃ m, w' = w.drewN m := by
  have HS := hide h
  have HS' := hide h'
  clear h h'
  go_enter Try.func40, Try.ntmps40
  go_wp2_with fail
  go_loopw [5] (fun i wr => ∃ d m : Nat, d ≤ vs.length ∧ i = .int .i64 d ∧ wr = w.drewN m) (fun i _ => vs.length - (intOf i).toNat)
  case atStart => exact ⟨0, 0, Nat.zero_le _, rfl, rfl⟩
  case round =>
    obtain ⟨d, m, hd, rfl, rfl⟩ := hrel
    by_cases hlt : d < vs.length
    · obtain ⟨g, o, rfl, hs⟩ := unhide HS (by omega)
      obtain ⟨g', o', rfl, hs'⟩ := unhide HS' (by omega)
      have q0 := hs.at0 d hlt
      have q1 := hs.at1 d hlt
      have q2 : w.cell? ⟨g, o + d * 3 + 1 + 1, none⟩ = some (.string (vb vs d)) := hs.at2 d hlt
      have p0 := hs'.at0 d hlt
      have p1 := hs'.at1 d hlt
      have p2 : w.cell? ⟨g', o' + d * 3 + 1 + 1, none⟩ = some (.string (vb vs d)) := hs'.at2 d hlt
      have i0 : (0 : Int) ≤ (d : Int) := by omega
      have i1 : (d : Int) < (vs.length : Int) := by omega
      clear hs hs'
      go_wp2_with fail
      go_quiet (fail)
      go_wp2
      exact ⟨⟨d + 1, m + nq, by omega, by go_num, rfl⟩, by simp [intOf]; omega⟩
    · go_wp2
      go_ret
      exact ⟨rfl, _, rfl⟩

end Go.Proofs.Ytapmlleemopcnac

/- SamePairs of lists that may be others, by its contract. -/
namespace Go.Proofs.Ytapmlleemopcnac
open Go.RowKit
set_option maxRecDepth 20000
attribute [local go_sem ↓] Go.wp_at_zero Go.wp_at_succ

theorem Try.held79 : Try.prog.stoodInHeld 79 = false := by kernel_rfl
theorem toList_inj {s s' : ByteArray} (h : s.toList = s'.toList) : s = s' := by
  rw [ByteArray.toList_eq, ByteArray.toList_eq] at h
  exact ByteArray.ext (Array.toList_inj.1 h)
theorem eqPair (d : Nat) (x x' : Int) (t t' : Bool) (s s' : ByteArray) (hne : ¬ (x = x' ∧ t = t' ∧ s = s')) (W : World) :
    (Op.equalIn (d + 4) 79 (.agg #[.int .i64 x, .bool t, .string s]) (.agg #[.int .i64 x', .bool t', .string s'])).run Try.prog W = .ok false W := by
  have hu : Try.prog.underlying 79 = some (.struct (Try.prog.fieldsOf 79)) := by simp [Program.fieldsOf, Try.underlying79]
  rw [run_equalIn_struct W (d + 3) 79 _ _ hu Try.held79]
  simp [Program.fieldsOf, Try.underlying79, Op.eqFields, go_sem, Try.underlying4, Try.underlying9, Try.underlying31, Try.underlying3]
  intro e1 e2 e3
  exact hne ⟨e1, e2, toList_inj e3⟩
theorem neqPair (x x' : Int) (t t' : Bool) (s s' : ByteArray) (hne : ¬ (x = x' ∧ t = t' ∧ s = s')) (W : World) :
    (binOp .neq 79 (.agg #[.int .i64 x, .bool t, .string s]) (.agg #[.int .i64 x', .bool t', .string s'])).run Try.prog W = .ok (.bool true) W := by
  have h := eqPair 9996 x x' t t' s s' hne W
  simp only [binOp]
  simp [Op.equal, Op.maxDepth, h]

def SmEnd (vs us : List Ver) (w : World) (e : Ending) (w' : World) : Prop := ∃ q : Bool, e = .returned (.bool q) ∧ (q = true ↔ vs = us) ∧ ∃ m, w' = w.drewN m
theorem smEnd_mk {vs us : List Ver} {w : World} (q : Bool) (m : Nat) (h : q = true ↔ vs = us) : SmEnd vs us w (.returned (.bool q)) (w.drewN m) := ⟨q, rfl, h, m, rfl⟩

theorem ver_eta {vs : List Ver} {k : Nat} (h : k < vs.length) : vs[k]? = some ⟨va vs k, vt vs k, vb vs k⟩ := by
  rw [List.getElem?_eq_getElem h]
  simp [va, vt, vb, List.getD_eq_getElem?_getD, List.getElem?_eq_getElem h]
theorem vers_same {vs us : List Ver} (hl : vs.length = us.length) (h : ∀ k, k < vs.length → va vs k = va us k ∧ vt vs k = vt us k ∧ vb vs k = vb us k) : vs = us := by
  apply List.ext_getElem? 
  intro k
  by_cases hk : k < vs.length
  · obtain ⟨h1, h2, h3⟩ := h k hk
    rw [ver_eta hk, ver_eta (by omega), h1, h2, h3]
  · rw [List.getElem?_eq_none (by omega), List.getElem?_eq_none (by omega)]

set_option maxHeartbeats 1000000 in
theorem samep14 {vs us : List Ver} (a a' : Option Addr) (cap cap' : Nat) (w : World) (h : SlO w a vs) (h' : SlO w a' us) (hm : vs.length ≤ 1000) :
    Calls Try.prog 40 #[.slice a vs.length cap, .slice a' us.length cap'] w fun e w' => SmEnd vs us w e w' := by
  have HS := hide h
  have HS' := hide h'
  clear h h'
  by_cases hl : vs.length = us.length
  · have HL := hide hl
    have hl' : (vs.length : Int) = (us.length : Int) := by omega
    go_enter Try.func40, Try.ntmps40
    rw [← hl]
    clear hl hl'
    go_wp2_with fail
    go_loopw [5] (fun i wr => ∃ d m : Nat, d ≤ vs.length ∧ i = .int .i64 d ∧ wr = w.drewN m ∧ Hid (∀ k, k < d → va vs k = va us k ∧ vt vs k = vt us k ∧ vb vs k = vb us k)) (fun i _ => vs.length - (intOf i).toNat)
    case atStart => exact ⟨0, 0, Nat.zero_le _, rfl, rfl, fun k hk => by omega⟩
    case round =>
      obtain ⟨d, m, hd, rfl, rfl, HK⟩ := hrel
      by_cases hlt : d < vs.length
      · obtain ⟨g, o, rfl, hs⟩ := unhide HS (by omega)
        obtain ⟨g', o', rfl, hs'⟩ := unhide HS' (by have := unhide HL; omega)
        have q0 := hs.at0 d hlt
        have q1 := hs.at1 d hlt
        have q2 : w.cell? ⟨g, o + d * 3 + 1 + 1, none⟩ = some (.string (vb vs d)) := hs.at2 d hlt
        have p0 := hs'.at0 d (by have := unhide HL; omega)
        have p1 := hs'.at1 d (by have := unhide HL; omega)
        have p2 : w.cell? ⟨g', o' + d * 3 + 1 + 1, none⟩ = some (.string (vb us d)) := hs'.at2 d (by have := unhide HL; omega)
        have i0 : (0 : Int) ≤ (d : Int) := by omega
        have i1 : (d : Int) < (vs.length : Int) := by omega
        clear hs hs'
        by_cases e0 : va vs d = va us d ∧ vt vs d = vt us d ∧ vb vs d = vb us d
        · have HE : Hid (∀ k, k < d + 1 → va vs k = va us k ∧ vt vs k = vt us k ∧ vb vs k = vb us k) := fun k hk => by
            rcases Nat.lt_or_ge k d with e | e
            · exact unhide HK k e
            · have : k = d := by omega
              subst this; exact e0
          rw [← e0.1] at p0
          rw [← e0.2.1] at p1
          rw [← e0.2.2] at p2
          clear e0
          go_wp2_with fail
          go_quiet (fail)
          go_wp2
          exact ⟨⟨d + 1, m + nq, by omega, by go_num, rfl, HE⟩, by simp [intOf]; omega⟩
        · have HNE : Hid (¬ vs = us) := fun e => e0 (by rw [e]; exact ⟨rfl, rfl, rfl⟩)
          have hne := fun W => neqPair _ _ _ _ _ _ e0 W
          clear e0
          generalize va vs d = x at *
          generalize va us d = x' at *
          generalize vt vs d = t at *
          generalize vt us d = t' at *
          generalize vb vs d = s at *
          generalize vb us d = s' at *
          go_wp2_with fail
          go_quiet (fail)
          go_wp2
          go_ret
          exact ⟨false, rfl, ⟨fun h => by simp at h, fun h => absurd h (unhide HNE)⟩, m + nq, by simp⟩
      · go_wp2
        go_ret
        refine smEnd_mk _ _ ⟨fun _ => vers_same (unhide HL) (fun k hk => unhide HK k (by omega)), fun _ => rfl⟩
  · have hl' : ¬ (vs.length : Int) = (us.length : Int) := by omega
    have HL := hide hl
    go_enter Try.func40, Try.ntmps40
    go_wp2_with fail
    go_ret
    exact smEnd_mk false 0 ⟨fun h => by simp at h, fun h => absurd (by rw [h]) (unhide HL)⟩
end Go.Proofs.Ytapmlleemopcnac

/- Plain words for commits as bytes: what Encode and Decode tell of them; no statement of the program yet. -/
namespace Go.Proofs.Ytapmlleemopcnac
open Go.RowKit
set_option maxRecDepth 20000

/-- byte(n). -/
def b8 (n : Int) : UInt8 := UInt8.ofNat (n % 256).toNat
theorem b8_toNat (n : Int) : ((b8 n).toNat : Int) = n % 256 := by
  have h : (n % 256).toNat < 256 := by omega
  simp only [b8, UInt8.toNat_ofNat']
  omega
theorem b8_nat {n : Nat} (h : n < 256) : (b8 n).toNat = n := by
  have := b8_toNat n
  omega
theorem b8_back (u : UInt8) : b8 u.toNat = u := by
  apply UInt8.toNat_inj.1
  exact b8_nat u.toNat_lt

/-- The bytes of a pair, of pairs, of a commit. -/
def pb (p : Ver) : List UInt8 := b8 p.a :: (if p.t = true then b8 p.s.size :: p.s.data.toList else [255])
def pbs : List Ver → List UInt8
  | [] => []
  | p :: r => pb p ++ pbs r
def enc (ps : List Ver) : List UInt8 := b8 ((pbs ps).length + 2 : Nat) :: b8 ps.length :: pbs ps

theorem pbs_append (xs ys : List Ver) : pbs (xs ++ ys) = pbs xs ++ pbs ys := by
  induction xs with
  | nil => rfl
  | cons p r ih => simp only [List.cons_append, pbs, ih, List.append_assoc]

/-- That many pairs, if the bytes are just these. -/
def rp : Nat → List UInt8 → Option (List Ver)
  | 0, b => if b = [] then some [] else none
  | n + 1, k :: l :: r =>
    if l = 255 then (rp n r).map (⟨k.toNat, false, ByteArray.empty⟩ :: ·)
    else if r.length < l.toNat then none
    else (rp n (r.drop l.toNat)).map (⟨k.toNat, true, ⟨(r.take l.toNat).toArray⟩⟩ :: ·)
  | _ + 1, _ => none

/-- What Decode tells: the pairs, how many bytes, the code. -/
def dec (b : List UInt8) : List Ver × Nat × Int :=
  if b.length = 0 ∨ b.length < (b.getD 0 0).toNat then ([], 0, 6)
  else if (b.getD 0 0).toNat < 2 then ([], 0, 4)
  else match rp (b.getD 1 0).toNat ((b.take (b.getD 0 0).toNat).drop 2) with
    | none => ([], 0, 4)
    | some ws => if pf (-1) ws = 0 then (ws, (b.getD 0 0).toNat, 0) else ([], 0, pf (-1) ws)

theorem chk_zero {t : Bool} {s : ByteArray} (h : chk t s = 0) : s.size ≤ 12 ∧ (t = false → s = ByteArray.empty) := by
  unfold chk at h
  split at h
  · simp at h
  · split at h
    · simp at h
    · rename_i h1 h2
      refine ⟨by omega, fun ht => ?_⟩
      have hs : s.size = 0 := by
        rcases Nat.eq_zero_or_pos s.size with h3 | h3
        · exact h3
        · exact absurd ⟨ht, h3⟩ h2
      exact ByteArray.size_eq_zero_iff.1 hs

/-- What is so of pairs that may be. -/
theorem pf_cons {a : Int} {p : Ver} {r : List Ver} (h : pf a (p :: r) = 0) : 0 ≤ p.a ∧ p.a < 8 ∧ a < p.a ∧ chk p.t p.s = 0 ∧ pf p.a r = 0 := by
  unfold pf at h
  split at h
  · simp at h
  · rename_i h1
    split at h
    · simp at h
    · split at h
      · simp [keyB] at h1
        refine ⟨by omega, by omega, by omega, by assumption, h⟩
      · rename_i h2; exact absurd h h2

theorem pf_len {a : Int} {ps : List Ver} (h : pf a ps = 0) (ha : -1 ≤ a) : (ps.length : Int) ≤ if a < 7 then 7 - a else 0 := by
  induction ps generalizing a with
  | nil => simp; split <;> omega
  | cons p r ih =>
    obtain ⟨h1, h2, h3, _, h5⟩ := pf_cons h
    have := ih h5 (by omega)
    simp only [List.length_cons]
    split at this <;> (split <;> omega)
theorem pf_len8 {ps : List Ver} (h : pf (-1) ps = 0) : ps.length ≤ 8 := by
  have := pf_len h (by omega)
  simp at this
  omega

theorem bytes_size (s : ByteArray) : s.data.toList.length = s.size := by simp

theorem pb_len {p : Ver} (h : chk p.t p.s = 0) : (pb p).length = 2 + p.s.size := by
  obtain ⟨h1, h2⟩ := chk_zero h
  unfold pb
  split
  · simp; omega
  · rename_i ht
    rw [h2 (by simpa using ht)]
    rfl

theorem pbs_len {a : Int} {ps : List Ver} (h : pf a ps = 0) : (pbs ps).length ≤ 14 * ps.length := by
  induction ps generalizing a with
  | nil => simp [pbs]
  | cons p r ih =>
    obtain ⟨h1, h2, h3, h4, h5⟩ := pf_cons h
    have := ih h5
    have := pb_len h4
    have := (chk_zero h4).1
    simp only [pbs, List.length_append, List.length_cons]
    omega
theorem pbs_len112 {ps : List Ver} (h : pf (-1) ps = 0) : (pbs ps).length ≤ 112 := by
  have := pbs_len h
  have := pf_len8 h
  omega
theorem enc_length (ps : List Ver) : (enc ps).length = (pbs ps).length + 2 := by simp [enc]

/-- How many bytes pairs have in all. -/
def vsum : List Ver → Nat
  | [] => 0
  | p :: r => 2 + p.s.size + vsum r
theorem pbs_vsum {a : Int} {ps : List Ver} (h : pf a ps = 0) : (pbs ps).length = vsum ps := by
  induction ps generalizing a with
  | nil => rfl
  | cons p r ih =>
    obtain ⟨h1, h2, h3, h4, h5⟩ := pf_cons h
    have := ih h5
    have := pb_len h4
    simp only [pbs, List.length_append, vsum]
    omega

/-- There and back, of pairs. -/
theorem rp_pbs {a : Int} {ps : List Ver} (h : pf a ps = 0) : rp ps.length (pbs ps) = some ps := by
  induction ps generalizing a with
  | nil => rfl
  | cons p r ih =>
    obtain ⟨h1, h2, h3, h4, h5⟩ := pf_cons h
    obtain ⟨h6, h7⟩ := chk_zero h4
    have ih := ih h5
    obtain ⟨pa, pt, ps⟩ := p
    simp only at h1 h2 h3 h4 h6 h7
    have ek : ((b8 pa).toNat : Int) = pa := by rw [b8_toNat]; omega
    cases pt with
    | false =>
      have e := h7 rfl
      subst e
      simp [pbs, pb, rp, ih, ek]
    | true =>
      have el : (b8 ps.size).toNat = ps.size := b8_nat (by omega)
      have e1 : ¬ (b8 (ps.size : Int) = 255) := fun e => by
        rw [e] at el
        have : (255 : UInt8).toNat = 255 := rfl
        omega
      have hl : ps.data.toList.length = ps.size := bytes_size ps
      simp only [pbs, pb, if_true, List.cons_append, rp, List.length_cons, if_neg e1, el]
      rw [if_neg (by rw [List.length_append, hl]; omega)]
      have e2 : (ps.data.toList ++ pbs r).drop ps.size = pbs r := by rw [← hl]; exact List.drop_left
      have e3 : (ps.data.toList ++ pbs r).take ps.size = ps.data.toList := by rw [← hl]; exact List.take_left
      rw [e2, e3, ih, ek]
      simp

/-- Back and there. -/
theorem rp_back {n : Nat} {b : List UInt8} {ws : List Ver} (h : rp n b = some ws) : ws.length = n ∧ pbs ws = b ∧ ∀ p ∈ ws, p.s.size ≤ 255 := by
  induction n generalizing b ws with
  | zero =>
    unfold rp at h
    split at h
    · simp only [Option.some.injEq] at h; subst h; subst b; simp [pbs]
    · simp at h
  | succ n ih =>
    match b with
    | [] => simp [rp] at h
    | [_] => simp [rp] at h
    | k :: l :: r =>
      unfold rp at h
      split at h
      · rename_i hl
        simp only [Option.map_eq_some_iff] at h
        obtain ⟨us, hu, rfl⟩ := h
        obtain ⟨h1, h2, h3⟩ := ih hu
        refine ⟨by simp [h1], by simp [pbs, pb, h2, b8_back, hl], ?_⟩
        intro p hp
        rcases List.mem_cons.1 hp with e | e
        · subst e; simp
        · exact h3 p e
      · rename_i hl
        split at h
        · simp at h
        · rename_i hr
          simp only [Option.map_eq_some_iff] at h
          obtain ⟨us, hu, rfl⟩ := h
          obtain ⟨h1, h2, h3⟩ := ih hu
          have hsz : (⟨(r.take l.toNat).toArray⟩ : ByteArray).size = l.toNat := by simp [ByteArray.size]; omega
          refine ⟨by simp [h1], ?_, ?_⟩
          · simp only [pbs, pb, if_true, h2, b8_back, hsz]
            simp [List.take_append_drop]
          · intro p hp
            rcases List.mem_cons.1 hp with e | e
            · subst e
              have := l.toNat_lt
              simp only [hsz]; omega
            · exact h3 p e

theorem dec_enc {ps : List Ver} (b : List UInt8) (h : pf (-1) ps = 0) : dec (enc ps ++ b) = (ps, (enc ps).length, 0) := by
  have h1 := pbs_len112 h
  have h2 := pf_len8 h
  have e0 : ((enc ps ++ b).getD 0 0).toNat = (pbs ps).length + 2 := b8_nat (by omega)
  have e1 : ((enc ps ++ b).getD 1 0).toNat = ps.length := b8_nat (by omega)
  have hl := enc_length ps
  unfold dec
  rw [e0, e1, if_neg (by simp [hl]), if_neg (by omega)]
  have e2 : ((enc ps ++ b).take ((pbs ps).length + 2)).drop 2 = pbs ps := by
    rw [← hl, List.take_left]; rfl
  rw [e2, rp_pbs h]
  simp only [if_pos h, hl]

/-- What Decode tells without a code: the bytes begin with those of it. -/
theorem dec_ok {b : List UInt8} (h : (dec b).2.2 = 0) : pf (-1) (dec b).1 = 0 ∧ (dec b).2.1 ≤ b.length ∧ b.take (dec b).2.1 = enc (dec b).1 ∧ (dec b).2.1 = (enc (dec b).1).length := by
  unfold dec at h ⊢
  split at h
  · simp at h
  · rename_i h0
    rw [if_neg h0]
    split at h
    · simp at h
    · rename_i h1
      rw [if_neg h1]
      generalize hr : rp (b.getD 1 0).toNat ((b.take (b.getD 0 0).toNat).drop 2) = r at h ⊢
      match r, hr with
      | none, _ => simp at h
      | some ws, hr =>
        simp only at h ⊢
        split at h
        · rename_i hp
          simp only [if_pos hp]
          obtain ⟨q1, q2, _⟩ := rp_back hr
          have hlen : (b.take (b.getD 0 0).toNat).length = (b.getD 0 0).toNat := by simp only [List.length_take]; omega
          have e : b.take (b.getD 0 0).toNat = enc ws := by
            match b, h0, h1, q1, q2, hlen with
            | [], h0, _, _, _, _ => simp at h0
            | [x], h0, h1, _, _, _ => simp at h0 h1; omega
            | x :: y :: r, h0, h1, q1, q2, hlen =>
              simp only [List.getD_cons_zero, List.getD_cons_succ] at h0 h1 q1 q2 hlen ⊢
              have e2 : x.toNat = (x.toNat - 2) + 1 + 1 := by omega
              rw [e2] at q2 hlen ⊢
              simp only [List.take_succ_cons, List.drop_succ_cons, List.drop_zero, List.length_cons] at q2 hlen ⊢
              unfold enc
              rw [q2, q1, b8_back]
              congr 1
              have e3 : (r.take (x.toNat - 2)).length + 2 = x.toNat := by omega
              rw [e3, b8_back]
          exact ⟨hp, by omega, e, by rw [← e, hlen]⟩
        · rename_i hp; exact absurd h hp

theorem dec_bad {b : List UInt8} (h : (dec b).2.2 ≠ 0) : (dec b).1 = [] ∧ (dec b).2.1 = 0 := by
  unfold dec at h ⊢
  split
  · exact ⟨rfl, rfl⟩
  · split
    · exact ⟨rfl, rfl⟩
    · split
      · exact ⟨rfl, rfl⟩
      · split
        · rename_i h0 h1 _ ws hr hp
          rw [if_neg h0, if_neg h1, hr] at h
          simp [if_pos hp] at h
        · exact ⟨rfl, rfl⟩

theorem dec_len {b : List UInt8} : (dec b).1.length ≤ 8 := by
  by_cases h : (dec b).2.2 = 0
  · exact pf_len8 (dec_ok h).1
  · rw [(dec_bad h).1]; simp
theorem dec_str {b : List UInt8} : ∀ p ∈ (dec b).1, p.s.size ≤ 255 := by
  intro p hp
  unfold dec at hp
  split at hp
  · simp at hp
  · split at hp
    · simp at hp
    · split at hp
      · simp at hp
      · rename_i ws hr
        split at hp
        · exact (rp_back hr).2.2 p hp
        · simp at hp

/-- Cut, it is none. -/
theorem dec_cut {ps : List Ver} {k : Nat} (h : pf (-1) ps = 0) (hk : k < (enc ps).length) : dec ((enc ps).take k) = ([], 0, 6) := by
  have h1 := pbs_len112 h
  have hl := enc_length ps
  unfold dec
  rw [if_pos]
  by_cases hz : k = 0
  · left; simp [hz]
  · right
    have e0 : (((enc ps).take k).getD 0 0) = b8 ((pbs ps).length + 2 : Nat) := by
      obtain ⟨j, rfl⟩ := Nat.exists_eq_succ_of_ne_zero hz
      rfl
    rw [e0, b8_nat (by omega)]
    simp only [List.length_take]
    omega

theorem enc_inj {ps qs : List Ver} (h : pf (-1) ps = 0) (h' : pf (-1) qs = 0) (e : enc ps = enc qs) : ps = qs := by
  have e1 := dec_enc [] h
  have e2 := dec_enc [] h'
  rw [e] at e1
  rw [e1] at e2
  exact (Prod.mk.inj e2).1

end Go.Proofs.Ytapmlleemopcnac

/- Cells of a block that is known whole; rows that a call owns. -/
namespace Go.Proofs.Ytapmlleemopcnac
open Go.RowKit
set_option maxRecDepth 20000

theorem heap_setCell_at {w : World} {b : Nat} {cs : Array Value} {t : TypeId} (i : Nat) (v : Value) (h : w.heap[b]? = some (.cells cs t (0, 0))) : (w.setCell ⟨b, i, none⟩ v).heap[b]? = some (.cells (cs.setIfInBounds i v) t (0, 0)) := by
  simp only [World.setCell, Array.getElem?_modify, h, if_true, Option.map_some]
  simp
theorem cell_of_block {w : World} {b : Nat} {cs : Array Value} {t : TypeId} {i : Nat} {v : Value} (h : w.heap[b]? = some (.cells cs t (0, 0))) (hv : cs[i]? = some v) : w.cell? ⟨b, i, none⟩ = some v := by
  rw [cell_of_row w b i _ _ _ h]; exact hv
theorem frozen_of_block {w : World} {b : Nat} {cs : Array Value} {t : TypeId} (i : Nat) (h : w.heap[b]? = some (.cells cs t (0, 0))) : w.frozen? ⟨b, i, none⟩ = false := by
  simp [World.frozen?, h]
theorem lt_of_block {w : World} {b : Nat} {o : Obj} (h : w.heap[b]? = some o) : b < w.heap.size := (Array.getElem?_eq_some_iff.1 h).1
theorem own_kp {B : Nat} {S : List Nat} {w w' : World} {e : TypeId} {size n : Nat} {v : Value} {xs : List Value} (h : w.ownsRow B e size v n xs) (hk : Kp S w w') (hS : ∀ g, v.ownBlock = some g → g ∉ S) : w'.ownsRow B e size v n xs := by
  refine ⟨h.1, ?_⟩
  rcases h.2 with hn | ⟨g, cap, cur, rfl, h2, h3, h4⟩
  · exact .inl hn
  · refine .inr ⟨g, cap, cur, rfl, h2, ?_, h4⟩
    rw [hk.block g (lt_of_block h3) (hS g rfl)]; exact h3
theorem own_kp0 {B : Nat} {w w' : World} {e : TypeId} {size n : Nat} {v : Value} {xs : List Value} (h : w.ownsRow B e size v n xs) (hk : Kp [] w w') : w'.ownsRow B e size v n xs := own_kp h hk (fun _ _ => by simp)
theorem own_ge {B : Nat} {w : World} {e : TypeId} {size n g : Nat} {v : Value} {xs : List Value} (h : w.ownsRow B e size v n xs) (hg : v.ownBlock = some g) : B ≤ g := by
  rcases h.2 with ⟨hn, _⟩ | ⟨g', cap, cur, rfl, h2, h3, h4⟩
  · subst hn; simp [Value.ownBlock] at hg
  · have : g' = g := by simpa [Value.ownBlock] using hg
    omega
theorem own_base {B C : Nat} {w : World} {e : TypeId} {size n : Nat} {v : Value} {xs : List Value} (h : w.ownsRow B e size v n xs) (hC : C ≤ B) : w.ownsRow C e size v n xs := by
  refine ⟨h.1, ?_⟩
  rcases h.2 with hn | ⟨g, cap, cur, rfl, h2, h3⟩
  · exact .inl hn
  · exact .inr ⟨g, cap, cur, rfl, by omega, h3⟩
theorem Try.info79 : (Try.prog.info? 79).map (fun i => (i.zero, i.size, i.bytes)) = some (some (.agg #[.int .i64 0, .bool false, .string ByteArray.empty]), 3, 32) := by kernel_rfl

end Go.Proofs.Ytapmlleemopcnac

/- Bytes in memory; append onto them; string(b), b[i:j]. -/
namespace Go.Proofs.Ytapmlleemopcnac
open Go.RowKit
set_option maxRecDepth 20000

/-- The k-th byte, as a number. -/
def ub (bs : List UInt8) (k : Nat) : Nat := (bs.getD k 0).toNat
def bcells (bs : List UInt8) : List Value := bs.map fun b => Value.int .u8 b.toNat

theorem bcells_length (bs : List UInt8) : (bcells bs).length = bs.length := by simp [bcells]
theorem bcells_append (xs ys : List UInt8) : bcells (xs ++ ys) = bcells xs ++ bcells ys := by simp [bcells]
theorem bcells_at {bs : List UInt8} {k : Nat} (h : k < bs.length) : (bcells bs)[k]? = some (.int .u8 (ub bs k : Nat)) := by
  simp [bcells, ub, List.getD_eq_getElem?_getD, List.getElem?_eq_getElem h]
theorem bcells_one (bs : List UInt8) : ∀ u ∈ bcells bs, u.oneCell' = true := by
  intro u hu
  obtain ⟨_, _, rfl⟩ := List.mem_map.1 hu
  rfl
theorem ub_lt (bs : List UInt8) (k : Nat) : ub bs k < 256 := (bs.getD k 0).toNat_lt
theorem ub_drop (bs : List UInt8) (l k : Nat) : ub (bs.drop l) k = ub bs (l + k) := by simp [ub, List.getD_eq_getElem?_getD, List.getElem?_drop]
theorem ub_take (bs : List UInt8) {l k : Nat} (h : k < l) : ub (bs.take l) k = ub bs k := by simp [ub, List.getD_eq_getElem?_getD, h]

/-- The bytes lie in block g from offset o on. -/
def SlU (w : World) (g o : Nat) (bs : List UInt8) : Prop := ∀ j, j < bs.length → w.cell? ⟨g, o + j, none⟩ = some (.int .u8 (ub bs j : Nat))
theorem SlU.kp {S : List Nat} {w w' : World} {g o : Nat} {bs : List UInt8} (h : SlU w g o bs) (hk : Kp S w w') (hg : g ∉ S) : SlU w' g o bs :=
  fun j hj => hk.cell (p := ⟨g, o + j, none⟩) hg (h j hj)
theorem SlU.drop {w : World} {g o : Nat} {bs : List UInt8} (h : SlU w g o bs) (l : Nat) : SlU w g (o + l) (bs.drop l) := fun j hj => by
  rw [ub_drop, Nat.add_assoc]
  exact h (l + j) (by simp at hj; omega)
theorem SlU.take {w : World} {g o : Nat} {bs : List UInt8} (h : SlU w g o bs) (l : Nat) : SlU w g o (bs.take l) := fun j hj => by
  simp at hj
  rw [ub_take _ (by omega)]
  exact h j (by omega)
theorem SlU.news {w : World} {g o : Nat} {bs : List UInt8} (h : SlU w g o bs) : ∀ j u, (bcells bs)[j]? = some u → w.cell? ((⟨g, o, none⟩ : Addr).add j) = some u := fun j u hu => by
  have hj : j < bs.length := by rw [← bcells_length]; exact (List.getElem?_eq_some_iff.1 hu).1
  rw [addr_add, h j hj, ← bcells_at hj]; exact hu

/-- The bytes lie behind a slice's address. -/
def Byt (w : World) (a : Option Addr) (bs : List UInt8) : Prop := 0 < bs.length → ∃ g o, a = some ⟨g, o, none⟩ ∧ SlU w g o bs
theorem Byt.kp {S : List Nat} {w w' : World} {a : Option Addr} {bs : List UInt8} (h : Byt w a bs) (hk : Kp S w w') (hS : ∀ g o, a = some ⟨g, o, none⟩ → g ∉ S) : Byt w' a bs := fun hp => by
  obtain ⟨g, o, e, hs⟩ := h hp
  exact ⟨g, o, e, hs.kp hk (hS g o e)⟩
theorem Byt.kp0 {w w' : World} {a : Option Addr} {bs : List UInt8} (h : Byt w a bs) (hk : Kp [] w w') : Byt w' a bs := h.kp hk (fun _ _ _ => by simp)
theorem byt_nil (w : World) (a : Option Addr) : Byt w a [] := fun h => by simp at h

/-- A row of bytes that a call made since w0, and changed nothing else. -/
structure Row (w0 w : World) (g cap : Nat) (bs : List UInt8) : Prop where
  own : w.ownsRow w0.heap.size 5 1 (.slice (some ⟨g, 0, none⟩) bs.length cap) bs.length (bcells bs)
  kp : Kp [] w0 w
theorem Row.lt {w0 w : World} {g cap : Nat} {bs : List UInt8} (h : Row w0 w g cap bs) : w0.heap.size ≤ g ∧ g < w.heap.size := h.own.lt g rfl
theorem Row.cap {w0 w : World} {g cap : Nat} {bs : List UInt8} (h : Row w0 w g cap bs) : bs.length ≤ cap := by
  rcases h.own.2 with ⟨e, _⟩ | ⟨g2, c2, cur, e, q1, q2, q3, q4, q5, q6⟩
  · simp at e
  · simp only [Value.slice.injEq, Option.some.injEq, Addr.mk.injEq, and_true, true_and] at e
    obtain ⟨rfl, rfl⟩ := e
    exact q3
theorem Row.kp0 {w0 w w' : World} {g cap : Nat} {bs : List UInt8} (h : Row w0 w g cap bs) (hk : Kp [] w w') : Row w0 w' g cap bs := ⟨own_kp0 h.own hk, h.kp.trans0 hk⟩
theorem Row.since {w0 w1 w : World} {g cap : Nat} {bs : List UInt8} (h : Row w1 w g cap bs) (hk : Kp [] w0 w1) : Row w0 w g cap bs := ⟨own_base h.own hk.size, hk.trans0 h.kp⟩
theorem Row.slu {w0 w : World} {g cap : Nat} {bs : List UInt8} (h : Row w0 w g cap bs) : SlU w g 0 bs := fun j hj => by
  have := h.own.cellAt j (by omega)
  rw [Nat.zero_add, this, bcells_at hj]
theorem Row.byt {w0 w : World} {g cap : Nat} {bs : List UInt8} (h : Row w0 w g cap bs) : Byt w (some ⟨g, 0, none⟩) bs := fun _ => ⟨g, 0, rfl, h.slu⟩
theorem row_lit (w0 w : World) (hk : Kp [] w0 w) (bs : List UInt8) (cs : Array Value) (hc : cs.toList = bcells bs) (hm : bs.length ≤ 1000) : Row w0 (w.alloc (.cells cs 5)) w.heap.size bs.length bs := by
  refine ⟨⟨by rw [bcells_length]; omega, .inr ⟨w.heap.size, bs.length, cs, rfl, hk.size, heap_alloc_new w _, Nat.le_refl _, by unfold maxLen; omega, ?_, ?_⟩⟩, hk.alloc _⟩
  · rw [← Array.length_toList, hc, bcells_length]; omega
  · rw [hc, Nat.mul_one, ← bcells_length, List.take_length]

theorem Try.info5 : (Try.prog.info? 5).map (fun i => (i.zero, i.size, i.bytes)) = some (some (.int .u8 0), 1, 1) := by kernel_rfl

/-- What may be appended: bytes behind an address, a string. -/
theorem Byt.src {w : World} {a : Option Addr} {bs : List UInt8} (h : Byt w a bs) (c : Nat) : Src Try.prog 1 55 (.slice a bs.length c) bs.length (bcells bs) w := by
  by_cases hp : 0 < bs.length
  · obtain ⟨g, o, rfl, hs⟩ := h hp
    exact Src.ofSlice w Try.underlying55 ⟨g, o, none⟩ bs.length c (bcells bs) (by rw [bcells_length]; omega) hs.news (bcells_one bs)
  · have e : bs = [] := List.eq_nil_of_length_eq_zero (by omega)
    subst e
    cases a with
    | none => exact Src.ofNil w Try.underlying55 c
    | some a => exact Src.ofSlice w Try.underlying55 a 0 c [] (by simp) (by simp) (by simp)
theorem str_src (w : World) (s : ByteArray) : Src Try.prog 1 9 (.string s) s.data.toList.length (bcells s.data.toList) w := by
  rw [bytes_size]
  exact Src.ofString w Try.underlying9 s

theorem grown_row {w0 w : World} (hk : Kp [] w0 w) (bs : List UInt8) (cap : Nat) (hc : bs.length ≤ cap) (hcm : cap ≤ maxLen) (tl : Array Value) (ht : tl.size = cap - bs.length) :
    Row w0 (w.drew.alloc (.cells ((bcells bs).toArray ++ tl) 5)) w.heap.size cap bs := by
  refine ⟨⟨by rw [bcells_length]; omega, .inr ⟨w.heap.size, cap, _, rfl, hk.size, heap_alloc_new w.drew _, hc, hcm, ?_, ?_⟩⟩, hk.drew.alloc _⟩
  · simp only [Array.size_append, List.size_toArray, bcells_length, ht]; omega
  · simp only [Array.toList_append, Nat.mul_one]
    rw [← bcells_length bs]
    exact List.take_left

theorem run_app {w0 w : World} {g cap : Nat} {bs : List UInt8} (h : Row w0 w g cap bs) (tx ty : TypeId) (x : Value) (news : List UInt8) (hs : Src Try.prog 1 tx x news.length (bcells news) w) (hm : bs.length + news.length ≤ 100000) :
    ∃ g' cap' w', (Builtin.append_ #[55, tx] ty #[.slice (some ⟨g, 0, none⟩) bs.length cap, x]).run Try.prog w = .ok (.slice (some ⟨g', 0, none⟩) (bs ++ news).length cap') w' ∧
      Row w0 w' g' cap' (bs ++ news) ∧ Kp [g] w w' ∧ (g' = g ∨ g' = w.heap.size) := by
  obtain ⟨i0, hi0, hz0, hz1, hz2⟩ := info_parts Try.info5
  have hB := h.kp.size
  have hgl := h.lt
  rcases h.own.2 with ⟨e, _⟩ | ⟨g2, c2, cur, e, q1, q2, q3, q4, q5, q6⟩
  · simp at e
  · simp only [Value.slice.injEq, Option.some.injEq, Addr.mk.injEq, and_true, true_and] at e
    obtain ⟨rfl, rfl⟩ := e
    have hs' : Src Try.prog i0.size tx x news.length (bcells news) w := by rw [hz1]; exact hs
    simp only [Nat.mul_one] at q5 q6
    by_cases hroom : bs.length + news.length ≤ cap
    · have hst := run_storeCells_at Try.prog g bs.length 5 (bcells news) 0 cur w q2 (by rw [bcells_length]; omega) (bcells_one news)
      simp only [Nat.add_zero] at hst
      refine ⟨g, cap, w.setRow g (cur.toList.take bs.length ++ bcells news ++ cur.toList.drop (bs.length + (bcells news).length)).toArray, ?_, ⟨⟨?_, .inr ⟨g, cap, _, rfl, q1, setRow_heap w g cur _ 5 _ q2, by simp; omega, q4, ?_, ?_⟩⟩, ?_⟩, ?_, .inl rfl⟩
      · have hl : (bs ++ news).length = bs.length + news.length := by simp
        rw [hl]
        rcases hs'.kind with ⟨e', hk⟩ | hk <;> simp [Builtin.append_, run_underlying Try.underlying55, run_underlying hk, sizeOf, typeInfo, hi0, hz1, hs.len, hroom, hs.cells, Addr.add_lit, hst]
      · rw [bcells_length]; omega
      · simp only [List.size_toArray, List.length_append, List.length_take, List.length_drop, Array.length_toList, bcells_length]
        omega
      · rw [q6, Nat.mul_one]
        have hl : (bs ++ news).length = (bcells bs ++ bcells news).length := by simp [bcells_length]
        rw [hl, bcells_append]
        exact List.take_left
      · exact ⟨h.kp.os, h.kp.tape, h.kp.output, by simpa using h.kp.size, fun k hk hn => by rw [setRow_other w g k _ (by omega)]; exact h.kp.block k hk hn⟩
      · exact ⟨rfl, rfl, rfl, by simp, fun k _ hn => setRow_other w g k _ (by simpa using hn)⟩
    · have hfo := run_firstCells_some (P := Try.prog) w.drew i0.size bs.length ⟨g, 0, none⟩ bs.length cap (bcells bs) (by rw [bcells_length, hz1]; omega) (fun j u hu => by simpa using h.slu.news j u hu)
      have hge := grownCap_ge w (bs.length + news.length) cap 5
      have hfit : Builtin.nextslicecap (bs.length + news.length) cap * i0.bytes ≤ 281474976710656 := growslice_fits (by omega) (by rw [hz2]; omega)
      have hr := run_append_grow_src (P := Try.prog) w 55 tx ty 5 i0 _ Try.underlying55 hi0 hz0 (some ⟨g, 0, none⟩) bs.length cap (bcells bs) hfo x news.length (bcells news) hs' (by omega) (by omega) hfit
      have hl : (bs ++ news).length = bs.length + news.length := by simp
      rw [← bcells_append, ← hl] at hr
      refine ⟨w.heap.size, _, _, hr, grown_row h.kp (bs ++ news) _ (by rw [hl]; exact hge) (grownCap_le_maxLen w _ _ _ (by rw [hl]; unfold maxLen; omega)) _ ?_, ?_, .inr rfl⟩
      · rw [size_zeroCells]; simp [Value.cells]
      · exact ((Kp.refl [g] w).drew.alloc _)

theorem run_app_nil {w0 w : World} (hk : Kp [] w0 w) (tx ty : TypeId) (x : Value) (news : List UInt8) (hs : Src Try.prog 1 tx x news.length (bcells news) w) (hp : 0 < news.length) (hm : news.length ≤ 100000) :
    ∃ cap' w', (Builtin.append_ #[55, tx] ty #[.slice none 0 0, x]).run Try.prog w = .ok (.slice (some ⟨w.heap.size, 0, none⟩) news.length cap') w' ∧ Row w0 w' w.heap.size cap' news ∧ Kp [] w w' := by
  obtain ⟨i0, hi0, hz0, hz1, hz2⟩ := info_parts Try.info5
  have hs' : Src Try.prog i0.size tx x news.length (bcells news) w := by rw [hz1]; exact hs
  have hge := grownCap_ge w (0 + news.length) 0 5
  have hfit : Builtin.nextslicecap (0 + news.length) 0 * i0.bytes ≤ 281474976710656 := growslice_fits (by omega) (by rw [hz2]; omega)
  have hr := run_append_grow_src (P := Try.prog) w 55 tx ty 5 i0 _ Try.underlying55 hi0 hz0 none 0 0 [] (run_firstCells_none w.drew i0.size 0 0 0) x news.length (bcells news) hs' (by omega) (by omega) hfit
  rw [List.nil_append, Nat.zero_add] at hr
  refine ⟨_, _, hr, grown_row hk news _ (by rw [Nat.zero_add] at hge; exact hge) (grownCap_le_maxLen w _ _ _ (by unfold maxLen; omega)) _ ?_, ((Kp.refl [] w).drew.alloc _)⟩
  rw [size_zeroCells]; simp [Value.cells]

end Go.Proofs.Ytapmlleemopcnac

/- append onto bytes, at the operation; appendPair, by its contract. -/
namespace Go.Proofs.Ytapmlleemopcnac
open Go.RowKit
set_option maxRecDepth 20000
attribute [local go_sem ↓] Go.wp_at_zero Go.wp_at_succ

theorem wpList_app {ops : Array Oper} {rest : List Oper} {o : Oper} {a : Act} {w : World} {Q : Exit → Act → World → Prop} (hw : Region.wanted o (yielded ops a.tmps) = true) (s x : Operand) (tx : TypeId)
    (ho : o.op = .call { callee := .builtin .append, args := #[s, x], argTypes := #[55, tx] }) {w0 : World} {g cap : Nat} {bs : List UInt8} (h : Row w0 w g cap bs) (n : Nat) (hn : n = bs.length) (xv : Value) (news : List UInt8)
    (hs : a.eval s = .slice (some ⟨g, 0, none⟩) n cap) (hx : a.eval x = xv) (hsrc : Src Try.prog 1 tx xv news.length (bcells news) w) (hm : bs.length + news.length ≤ 100000)
    (k : ∀ g' cap' n' w', Hid (n' = (bs ++ news).length) → Hid (Row w0 w' g' cap' (bs ++ news)) → Hid (Kp [g] w w') → Hid (g' = g ∨ g' = w.heap.size) → wpList Try.prog ops Q rest (a.put o.dst (.slice (some ⟨g', 0, none⟩) n' cap')) w') : wpList Try.prog ops Q (o :: rest) a w := by
  subst hn
  obtain ⟨g', cap', w', hr, h1, h2, h3⟩ := run_app h tx o.type xv news hsrc hm
  refine wpList_step fun K hK => ?_
  rw [if_pos hw]
  unfold Oper.wp execOp
  simp only [ho, resolve, invoke, builtin, Sem.run_bind, Sem.run_pure, Result.andThen_ok, List.map_toArray, List.map_cons, List.map_nil, hs, hx, hr]
  exact hK _ _ (k g' cap' _ w' rfl h1 h2 h3)

theorem wpList_app_nil {ops : Array Oper} {rest : List Oper} {o : Oper} {a : Act} {w : World} {Q : Exit → Act → World → Prop} (hw : Region.wanted o (yielded ops a.tmps) = true) (s x : Operand) (tx : TypeId)
    (ho : o.op = .call { callee := .builtin .append, args := #[s, x], argTypes := #[55, tx] }) {w0 : World} (hk : Kp [] w0 w) (xv : Value) (news : List UInt8)
    (hs : a.eval s = .slice none 0 0) (hx : a.eval x = xv) (hsrc : Src Try.prog 1 tx xv news.length (bcells news) w) (hp : 0 < news.length) (hm : news.length ≤ 100000)
    (k : ∀ g' cap' n' w', Hid (n' = news.length) → Hid (Row w0 w' g' cap' news) → Hid (Kp [] w w') → Hid (g' = w.heap.size) → wpList Try.prog ops Q rest (a.put o.dst (.slice (some ⟨g', 0, none⟩) n' cap')) w') : wpList Try.prog ops Q (o :: rest) a w := by
  obtain ⟨cap', w', hr, h1, h2⟩ := run_app_nil hk tx o.type xv news hsrc hp hm
  refine wpList_step fun K hK => ?_
  rw [if_pos hw]
  unfold Oper.wp execOp
  simp only [ho, resolve, invoke, builtin, Sem.run_bind, Sem.run_pure, Result.andThen_ok, List.map_toArray, List.map_cons, List.map_nil, hs, hx, hr]
  exact hK _ _ (k w.heap.size cap' _ w' rfl h1 h2 rfl)

theorem mod_b8 (k : Int) : k % 256 = ((b8 k).toNat : Int) := (b8_toNat k).symm

/-- One byte, just laid into a block of its own. -/
theorem one_src {w : World} (b : Nat) (hb : b = w.heap.size) (u : UInt8) (x : Int) (h : x = (u.toNat : Int)) : Src Try.prog 1 55 (.slice (some ⟨b, 0, none⟩) 1 1) [u].length (bcells [u]) (w.alloc (.cells #[.int .u8 x] 5)) := by
  subst h
  subst hb
  exact (row_lit w w (Kp.refl _ _) [u] #[.int .u8 u.toNat] rfl (by simp)).byt.src 1

def ApEnd (w0 : World) (bs : List UInt8) (e : Ending) (w' : World) : Prop := ∃ g' cap' n', e = .returned (.slice (some ⟨g', 0, none⟩) n' cap') ∧ n' = bs.length ∧ Row w0 w' g' cap' bs
theorem apEnd_mk {w0 w' : World} {bs : List UInt8} {g' cap' n' : Nat} (hn : n' = bs.length) (h : Row w0 w' g' cap' bs) : ApEnd w0 bs (.returned (.slice (some ⟨g', 0, none⟩) n' cap')) w' := ⟨g', cap', n', rfl, hn, h⟩

theorem box_far {w w2 : World} {k x : Int} {t : Bool} {s : ByteArray} {g g2 : Nat} (hk : Kp [g] ((w.alloc (.cells #[.int .i64 k, .bool t, .string s] 79)).alloc (.cells #[.int .u8 x] 5)) w2)
    (hg2 : g2 = g ∨ g2 = ((w.alloc (.cells #[.int .i64 k, .bool t, .string s] 79)).alloc (.cells #[.int .u8 x] 5)).heap.size) (hg : g < w.heap.size) :
    w2.cell? ⟨w.heap.size, 1, none⟩ = some (.bool t) ∧ w2.cell? ⟨w.heap.size, 1 + 1, none⟩ = some (.string s) ∧ Hid (w.heap.size < w2.heap.size ∧ g2 ≠ w.heap.size) := by
  have h1 := hk.size
  simp at h1 hg2
  exact ⟨hk.cell (by simp; omega) (by simp), hk.cell (by simp; omega) (by simp), by omega, by omega⟩
theorem str_far {w2 w3 : World} {o : Obj} {s : ByteArray} {g2 q : Nat} (hk : Kp [g2] (w2.alloc o) w3) (hq : q < w2.heap.size ∧ g2 ≠ q) (h : w2.cell? ⟨q, 1 + 1, none⟩ = some (.string s)) : w3.cell? ⟨q, 1 + 1, none⟩ = some (.string s) :=
  hk.cell (by simp; omega) (((Kp.refl [] w2).alloc o).cell (by simp) h)

set_option maxHeartbeats 1000000 in
theorem appendPair17 {w0 w : World} {g cap n : Nat} {bs : List UInt8} (k : Int) (t : Bool) (s : ByteArray) (h : Row w0 w g cap bs) (hn : n = bs.length) (hm : bs.length ≤ 2000) (hs : s.size ≤ 300) :
    Calls Try.prog 147 #[.slice (some ⟨g, 0, none⟩) n cap, .agg #[.int .i64 k, .bool t, .string s]] w fun e w' => ApEnd w0 (bs ++ pb ⟨k, t, s⟩) e w' := by
  have hlt := h.lt
  have HR := hide (h.kp0 (((Kp.refl [] w).alloc (.cells #[.int .i64 k, .bool t, .string s] 79))))
  have HN := hide hn
  clear h hn
  cases t with
  | false =>
    go_enter Try.func147, Try.ntmps147
    go_wp2_with (first | (at_builtin; refine wpList_app (by rfl) (.tmp 5) (.tmp 9) 55 rfl ((unhide HR).kp0 ((Kp.refl [] _).alloc _)) n (unhide HN) (.slice (some ⟨w.heap.size + 1, 0, none⟩) 1 1) [b8 k] rfl rfl (one_src _ (by simp) (b8 k) _ (mod_b8 k)) (by simp; omega) ?_; intro g2 c2 n2 w2 hn2 hr2 hk2 hg2; obtain ⟨p1, p2, HQ2⟩ := box_far (unhide hk2) (unhide hg2) hlt.2) | (at_builtin; refine wpList_app (by rfl) (.tmp 15) (.tmp 16) 55 rfl ((unhide hr2).kp0 ((Kp.refl [] _).alloc _)) n2 (unhide hn2) (.slice (some ⟨w2.heap.size, 0, none⟩) 1 1) [255] rfl rfl (one_src _ rfl 255 _ rfl) (by simp; omega) ?_; intro g3 c3 n3 w3 hn3 hr3 hk3 hg3))
    go_ret
    exact apEnd_mk (by rw [unhide hn3]; simp [pb]) (by have := unhide hr3; simpa [pb] using this)
  | true =>
    go_enter Try.func147, Try.ntmps147
    go_wp2_with (first | (at_builtin; refine wpList_app (by rfl) (.tmp 5) (.tmp 9) 55 rfl ((unhide HR).kp0 ((Kp.refl [] _).alloc _)) n (unhide HN) (.slice (some ⟨w.heap.size + 1, 0, none⟩) 1 1) [b8 k] rfl rfl (one_src _ (by simp) (b8 k) _ (mod_b8 k)) (by simp; omega) ?_; intro g2 c2 n2 w2 hn2 hr2 hk2 hg2; obtain ⟨p1, p2, HQ2⟩ := box_far (unhide hk2) (unhide hg2) hlt.2) | (at_builtin; refine wpList_app (by rfl) (.tmp 18) (.tmp 24) 55 rfl ((unhide hr2).kp0 ((Kp.refl [] _).alloc _)) n2 (unhide hn2) (.slice (some ⟨w2.heap.size, 0, none⟩) 1 1) [b8 s.size] rfl rfl (one_src _ rfl (b8 s.size) _ (mod_b8 s.size)) (by simp; omega) ?_; intro g3 c3 n3 w3 hn3 hr3 hk3 hg3; have p3 := str_far (unhide hk3) (unhide HQ2) p2; clear p1 p2) | (at_builtin; refine wpList_app (by rfl) (.tmp 26) (.tmp 29) 9 rfl (unhide hr3) n3 (unhide hn3) (.string s) s.data.toList rfl rfl (str_src _ s) (by simp; omega) ?_; intro g4 c4 n4 w4 hn4 hr4 hk4 hg4))
    go_ret
    exact apEnd_mk (by rw [unhide hn4]; simp [pb]) (by have := unhide hr4; simpa [pb] using this)
end Go.Proofs.Ytapmlleemopcnac

/- append onto bytes that a call owns, whatever they are: nil, a row, nothing behind it. -/
namespace Go.Proofs.Ytapmlleemopcnac
open Go.RowKit
set_option maxRecDepth 20000
attribute [local go_sem ↓] Go.wp_at_zero Go.wp_at_succ

theorem kp_cut {w : World} {B : Nat} (h : B ≤ w.heap.size) : ∃ w0 : World, w0.heap.size = B ∧ Kp [] w0 w := by
  refine ⟨{ w with heap := w.heap.extract 0 B }, by simp; omega, rfl, rfl, rfl, by simp; omega, fun k hk _ => ?_⟩
  simp at hk
  simp only [Array.getElem?_extract]
  rw [if_pos (by omega), Nat.zero_add]

/-- The block behind an address. -/
def ob (a : Option Addr) : List Nat := match a with
  | none => []
  | some ad => [ad.block]
theorem ob_none : ob none = [] := rfl
theorem ob_some (g o : Nat) : ob (some ⟨g, o, none⟩) = [g] := rfl

/-- Bytes that a call owns since B. -/
def OwnU (B : Nat) (w : World) (a : Option Addr) (cap : Nat) (bs : List UInt8) : Prop := w.ownsRow B 5 1 (.slice a bs.length cap) bs.length (bcells bs)

section
variable {B : Nat} {w w' : World} {a : Option Addr} {cap : Nat} {bs : List UInt8}
theorem ownU_nil (B : Nat) (w : World) : OwnU B w none 0 [] := World.ownsRow_nil _ _ _ _
theorem OwnU.cases (h : OwnU B w a cap bs) : (a = none ∧ cap = 0 ∧ bs = []) ∨ ∃ g, a = some ⟨g, 0, none⟩ ∧ B ≤ g ∧ g < w.heap.size ∧ bs.length ≤ cap := by
  have h' := h
  rcases h.2 with ⟨e, _⟩ | ⟨g, c, cur, e, h1, h2, h3, _⟩
  · simp only [Value.slice.injEq] at e
    exact .inl ⟨e.1, e.2.2, List.eq_nil_of_length_eq_zero e.2.1⟩
  · simp only [Value.slice.injEq, true_and] at e
    obtain ⟨rfl, rfl⟩ := e
    exact .inr ⟨g, rfl, h1, lt_of_block h2, h3⟩
theorem OwnU.lo (h : OwnU B w a cap bs) : ∀ x ∈ ob a, B ≤ x ∧ x < w.heap.size := by
  intro x hx
  rcases h.cases with ⟨rfl, _⟩ | ⟨g, rfl, h1, h2, _⟩
  · simp [ob] at hx
  · simp [ob] at hx; omega
theorem OwnU.kp {S : List Nat} (h : OwnU B w a cap bs) (hk : Kp S w w') (hS : ∀ x ∈ ob a, x ∉ S) : OwnU B w' a cap bs := by
  refine own_kp h hk (fun g hg => ?_)
  rcases h.cases with ⟨rfl, _⟩ | ⟨g', rfl, _⟩
  · simp [Value.ownBlock] at hg
  · have : g' = g := by simpa [Value.ownBlock] using hg
    subst this
    exact hS g' (by simp [ob])
theorem OwnU.kp0 (h : OwnU B w a cap bs) (hk : Kp [] w w') : OwnU B w' a cap bs := h.kp hk (fun _ _ => by simp)
theorem OwnU.base {C : Nat} (h : OwnU B w a cap bs) (hC : C ≤ B) : OwnU C w a cap bs := own_base h hC
theorem OwnU.le (h : OwnU B w a cap bs) : bs.length ≤ cap := by
  rcases h.cases with ⟨_, rfl, rfl⟩ | ⟨_, _, _, _, h⟩
  · simp
  · exact h
theorem OwnU.row {w0 : World} {g : Nat} (h : OwnU w0.heap.size w (some ⟨g, 0, none⟩) cap bs) (hk : Kp [] w0 w) : Row w0 w g cap bs := ⟨h, hk⟩
theorem Row.ownU {w0 : World} {g : Nat} (h : Row w0 w g cap bs) : OwnU w0.heap.size w (some ⟨g, 0, none⟩) cap bs := h.own
theorem OwnU.byt (h : OwnU B w a cap bs) : Byt w a bs := by
  rcases h.cases with ⟨_, _, rfl⟩ | ⟨g, rfl, _⟩
  · exact byt_nil _ _
  · refine fun _ => ⟨g, 0, rfl, fun j hj => ?_⟩
    have := World.ownsRow.cellAt h j (by omega)
    rw [Nat.zero_add, this, bcells_at hj]
/-- The first bytes of a row are a row. -/
theorem OwnU.take (h : OwnU B w a cap bs) (k : Nat) (hk : k ≤ bs.length) : OwnU B w a cap (bs.take k) := by
  have hl : (bs.take k).length = k := by simp; omega
  refine ⟨by rw [bcells_length]; omega, ?_⟩
  rcases h.2 with ⟨e, e2⟩ | ⟨g, c, cur, e, h1, h2, h3, h4, h5, h6⟩
  · have : k = 0 := by omega
    subst this
    simp only [Value.slice.injEq] at e
    exact .inl ⟨by simp [e.1, e.2.2], by simp⟩
  · simp only [Value.slice.injEq, true_and] at e
    obtain ⟨rfl, rfl⟩ := e
    refine .inr ⟨g, cap, cur, rfl, h1, h2, by omega, h4, h5, ?_⟩
    simp only [Nat.mul_one] at h6 ⊢
    have e2 : cur.toList.take k = (cur.toList.take bs.length).take k := by rw [List.take_take, Nat.min_eq_left hk]
    rw [hl, e2, h6]
    simp [bcells, List.map_take]

theorem run_appx (h : OwnU B w a cap bs) (hB : B ≤ w.heap.size) (tx ty : TypeId) (x : Value) (news : List UInt8) (hs : Src Try.prog 1 tx x news.length (bcells news) w) (hm : bs.length + news.length ≤ 100000) :
    ∃ a' cap' w', (Builtin.append_ #[55, tx] ty #[.slice a bs.length cap, x]).run Try.prog w = .ok (.slice a' (bs ++ news).length cap') w' ∧
      OwnU B w' a' cap' (bs ++ news) ∧ Kp (ob a) w w' ∧ (∀ x ∈ ob a', x ∈ ob a ∨ w.heap.size ≤ x) := by
  obtain ⟨w0, e0, hk0⟩ := kp_cut hB
  rcases h.cases with ⟨rfl, rfl, rfl⟩ | ⟨g, rfl, h1, h2, h3⟩
  · by_cases hp : 0 < news.length
    · obtain ⟨cap', w', hr, h4, h5⟩ := run_app_nil hk0 tx ty x news hs hp (by omega)
      refine ⟨_, _, w', hr, ?_, h5, fun y hy => .inr (by simp [ob] at hy; omega)⟩
      have := h4.ownU
      rw [e0] at this
      exact this
    · have e : news = [] := List.eq_nil_of_length_eq_zero (by omega)
      subst e
      obtain ⟨i0, hi0, hz0, hz1, hz2⟩ := info_parts Try.info5
      have hs' : Src Try.prog i0.size tx x 0 [] w := by rw [hz1]; exact hs
      have hr := run_append_nothing (P := Try.prog) w 55 tx ty 5 i0 Try.underlying55 hi0 none 0 0 (Nat.le_refl _) x hs'
      exact ⟨none, 0, w, hr, h, Kp.refl _ _, fun y hy => .inl hy⟩
  · have hrow : Row w0 w g cap bs := ⟨by rw [e0]; exact h, hk0⟩
    obtain ⟨g', cap', w', hr, h4, h5, h6⟩ := run_app hrow tx ty x news hs hm
    refine ⟨_, _, w', hr, ?_, h5, fun y hy => ?_⟩
    · have := h4.ownU
      rw [e0] at this
      exact this
    · simp only [ob, List.mem_singleton] at hy ⊢
      subst hy
      rcases h6 with e | e
      · exact .inl e
      · exact .inr (by omega)
end

theorem wpList_appx {ops : Array Oper} {rest : List Oper} {o : Oper} {ac : Act} {w : World} {Q : Exit → Act → World → Prop} (hw : Region.wanted o (yielded ops ac.tmps) = true) (s x : Operand) (tx : TypeId)
    (ho : o.op = .call { callee := .builtin .append, args := #[s, x], argTypes := #[55, tx] }) {B : Nat} {a : Option Addr} {cap : Nat} {bs : List UInt8} (h : OwnU B w a cap bs) (hB : B ≤ w.heap.size) (n : Nat) (hn : n = bs.length) (xv : Value) (news : List UInt8)
    (hs : ac.eval s = .slice a n cap) (hx : ac.eval x = xv) (hsrc : Src Try.prog 1 tx xv news.length (bcells news) w) (hm : bs.length + news.length ≤ 100000)
    (k : ∀ a' cap' n' w', Hid (n' = (bs ++ news).length) → Hid (OwnU B w' a' cap' (bs ++ news)) → Hid (Kp (ob a) w w') → Hid (∀ x ∈ ob a', x ∈ ob a ∨ w.heap.size ≤ x) → wpList Try.prog ops Q rest (ac.put o.dst (.slice a' n' cap')) w') : wpList Try.prog ops Q (o :: rest) ac w := by
  subst hn
  obtain ⟨a', cap', w', hr, h1, h2, h3⟩ := run_appx h hB tx o.type xv news hsrc hm
  refine wpList_step fun K hK => ?_
  rw [if_pos hw]
  unfold Oper.wp execOp
  simp only [ho, resolve, invoke, builtin, Sem.run_bind, Sem.run_pure, Result.andThen_ok, List.map_toArray, List.map_cons, List.map_nil, hs, hx, hr]
  exact hK _ _ (k a' cap' _ w' rfl h1 h2 h3)

theorem step_appx {ops : Array Oper} {o : Oper} {ac : Act} {w : World} {K : Act → World → Prop} {Q : Exit → Act → World → Prop} {E : Prop} (hgd : o.guard = none) (s x : Operand) (tx : TypeId)
    (ho : o.op = .call { callee := .builtin .append, args := #[s, x], argTypes := #[55, tx] }) {B : Nat} {a : Option Addr} {cap : Nat} {bs : List UInt8} (h : OwnU B w a cap bs) (hB : B ≤ w.heap.size) (n : Nat) (hn : n = bs.length) (xv : Value) (news : List UInt8)
    (hs : ac.eval s = .slice a n cap) (hx : ac.eval x = xv) (hsrc : Src Try.prog 1 tx xv news.length (bcells news) w) (hm : bs.length + news.length ≤ 100000)
    (k : ∀ a' cap' n' w', Hid (n' = (bs ++ news).length) → Hid (OwnU B w' a' cap' (bs ++ news)) → Hid (Kp (ob a) w w') → Hid (∀ x ∈ ob a', x ∈ ob a ∨ w.heap.size ≤ x) → K (ac.put o.dst (.slice a' n' cap')) w') :
    if Region.wanted o (yielded ops ac.tmps) = true then Oper.wp Try.prog o ac w K Q else E := by
  subst hn
  have hw : Region.wanted o (yielded ops ac.tmps) = true := by simp [Region.wanted, hgd]
  obtain ⟨a', cap', w', hr, h1, h2, h3⟩ := run_appx h hB tx o.type xv news hsrc hm
  rw [if_pos hw]
  unfold Oper.wp execOp
  simp only [ho, resolve, invoke, builtin, Sem.run_bind, Sem.run_pure, Result.andThen_ok, List.map_toArray, List.map_cons, List.map_nil, hs, hx, hr]
  exact k a' cap' _ w' rfl h1 h2 h3

/-- Behind bytes of no length: a copy. -/
theorem run_app_zero (w : World) (a : Option Addr) (tx ty : TypeId) (x : Value) (news : List UInt8) (hs : Src Try.prog 1 tx x news.length (bcells news) w) (hm : news.length ≤ 100000) :
    ∃ a' cap' w', (Builtin.append_ #[55, tx] ty #[.slice a 0 0, x]).run Try.prog w = .ok (.slice a' news.length cap') w' ∧ news.length ≤ cap' ∧ Byt w' a' news ∧ Kp [] w w' := by
  obtain ⟨i0, hi0, hz0, hz1, hz2⟩ := info_parts Try.info5
  have hs' : Src Try.prog i0.size tx x news.length (bcells news) w := by rw [hz1]; exact hs
  by_cases hp : 0 < news.length
  · have hge := grownCap_ge w (0 + news.length) 0 5
    have hfit : Builtin.nextslicecap (0 + news.length) 0 * i0.bytes ≤ 281474976710656 := growslice_fits (by omega) (by rw [hz2]; omega)
    have hfc : (Builtin.firstCells i0.size 0 (.slice a 0 0)).run Try.prog w.drew = .ok ([] : List Value).toArray w.drew := by
      cases a with
      | none => exact run_firstCells_none w.drew i0.size 0 0 0
      | some ad => exact run_firstCells_some w.drew i0.size 0 ad 0 0 [] (by simp) (by simp)
    have hr := run_append_grow_src (P := Try.prog) w 55 tx ty 5 i0 _ Try.underlying55 hi0 hz0 a 0 0 [] hfc x news.length (bcells news) hs' (by omega) (by omega) hfit
    rw [List.nil_append, Nat.zero_add] at hr
    refine ⟨_, _, _, hr, by rw [Nat.zero_add] at hge; exact hge, ?_, ((Kp.refl [] w).drew.alloc _)⟩
    exact (grown_row (Kp.refl [] w) news _ (by rw [Nat.zero_add] at hge; exact hge) (grownCap_le_maxLen w _ _ _ (by unfold maxLen; omega)) _ (by rw [size_zeroCells]; simp [Value.cells])).byt
  · have e : news = [] := List.eq_nil_of_length_eq_zero (by omega)
    subst e
    have hr := run_append_nothing (P := Try.prog) w 55 tx ty 5 i0 Try.underlying55 hi0 a 0 0 (Nat.le_refl _) x hs'
    exact ⟨a, 0, w, hr, by simp, byt_nil _ _, Kp.refl _ _⟩

theorem wpList_app0 {ops : Array Oper} {rest : List Oper} {o : Oper} {ac : Act} {w : World} {Q : Exit → Act → World → Prop} (hw : Region.wanted o (yielded ops ac.tmps) = true) (s x : Operand) (tx : TypeId)
    (ho : o.op = .call { callee := .builtin .append, args := #[s, x], argTypes := #[55, tx] }) (a : Option Addr) (xv : Value) (news : List UInt8)
    (hs : ac.eval s = .slice a 0 0) (hx : ac.eval x = xv) (hsrc : Src Try.prog 1 tx xv news.length (bcells news) w) (hm : news.length ≤ 100000)
    (k : ∀ a' cap' n' w', Hid (n' = news.length) → Hid (n' ≤ cap') → Hid (Byt w' a' news) → Hid (Kp [] w w') → wpList Try.prog ops Q rest (ac.put o.dst (.slice a' n' cap')) w') : wpList Try.prog ops Q (o :: rest) ac w := by
  obtain ⟨a', cap', w', hr, h1, h2, h3⟩ := run_app_zero w a tx o.type xv news hsrc hm
  refine wpList_step fun K hK => ?_
  rw [if_pos hw]
  unfold Oper.wp execOp
  simp only [ho, resolve, invoke, builtin, Sem.run_bind, Sem.run_pure, Result.andThen_ok, List.map_toArray, List.map_cons, List.map_nil, hs, hx, hr]
  exact hK _ _ (k a' cap' _ w' rfl h1 h2 h3)
end Go.Proofs.Ytapmlleemopcnac

/- Rows of one-cell elements (pointers) of which a part may have been cut off: append onto them, and their first ones. -/
namespace Go.Proofs.Ytapmlleemopcnac
open Go.RowKit
set_option maxRecDepth 20000

/-- n elements lie from the beginning of a block of one's own on; the room (cap) is no more than the block has. -/
def PRow (e : TypeId) (B : Nat) (w : World) (a : Option Addr) (n cap : Nat) (xs : List Value) : Prop :=
  xs.length = n ∧ ((a = none ∧ n = 0 ∧ cap = 0) ∨ ∃ g cur, a = some ⟨g, 0, none⟩ ∧ B ≤ g ∧ w.heap[g]? = some (.cells cur e (0, 0)) ∧ n ≤ cap ∧ cap ≤ maxLen ∧ cap ≤ cur.size ∧ cur.toList.take n = xs)

section
variable {e : TypeId} {B : Nat} {w w' : World} {a : Option Addr} {n cap : Nat} {xs : List Value}
theorem prow_nil (e : TypeId) (B : Nat) (w : World) : PRow e B w none 0 0 [] := ⟨rfl, .inl ⟨rfl, rfl, rfl⟩⟩
theorem PRow.len (h : PRow e B w a n cap xs) : xs.length = n := h.1
theorem PRow.le (h : PRow e B w a n cap xs) : n ≤ cap := by
  rcases h.2 with ⟨_, e1, e2⟩ | ⟨g, cur, _, _, _, h1, _⟩
  · omega
  · exact h1
theorem PRow.lo (h : PRow e B w a n cap xs) : ∀ x ∈ ob a, B ≤ x ∧ x < w.heap.size := by
  intro x hx
  rcases h.2 with ⟨rfl, _⟩ | ⟨g, cur, rfl, h1, h2, _⟩
  · simp [ob] at hx
  · simp [ob] at hx
    have := lt_of_block h2
    omega
theorem PRow.kp {S : List Nat} (h : PRow e B w a n cap xs) (hk : Kp S w w') (hS : ∀ x ∈ ob a, x ∉ S) : PRow e B w' a n cap xs := by
  refine ⟨h.1, ?_⟩
  rcases h.2 with hn | ⟨g, cur, rfl, h1, h2, h3⟩
  · exact .inl hn
  · exact .inr ⟨g, cur, rfl, h1, by rw [hk.block g (lt_of_block h2) (hS g (by simp [ob]))]; exact h2, h3⟩
theorem PRow.kp0 (h : PRow e B w a n cap xs) (hk : Kp [] w w') : PRow e B w' a n cap xs := h.kp hk (fun _ _ => by simp)
theorem PRow.base {C : Nat} (h : PRow e B w a n cap xs) (hC : C ≤ B) : PRow e C w a n cap xs := by
  refine ⟨h.1, ?_⟩
  rcases h.2 with hn | ⟨g, cur, rfl, h1, h2⟩
  · exact .inl hn
  · exact .inr ⟨g, cur, rfl, by omega, h2⟩
theorem PRow.cell (h : PRow e B w a n cap xs) {k : Nat} {v : Value} (hk : xs[k]? = some v) : ∃ g, a = some ⟨g, 0, none⟩ ∧ w.cell? ⟨g, k, none⟩ = some v := by
  have hl : k < n := by rw [← h.1]; exact (List.getElem?_eq_some_iff.1 hk).1
  rcases h.2 with ⟨_, e1, _⟩ | ⟨g, cur, rfl, h1, h2, h3, h4, h5, h6⟩
  · omega
  · refine ⟨g, rfl, cell_of_block h2 ?_⟩
    rw [← h6, List.getElem?_take] at hk
    rw [if_pos hl] at hk
    simpa using hk
/-- 's[:k:k]'. -/
theorem PRow.cut (h : PRow e B w a n cap xs) (k : Nat) (hk : k ≤ n) : PRow e B w a k k (xs.take k) := by
  refine ⟨by rw [List.length_take, h.1]; omega, ?_⟩
  rcases h.2 with ⟨e1, e2, e3⟩ | ⟨g, cur, rfl, h1, h2, h3, h4, h5, h6⟩
  · exact .inl ⟨e1, by omega, by omega⟩
  · refine .inr ⟨g, cur, rfl, h1, h2, Nat.le_refl _, by omega, by omega, ?_⟩
    rw [← h6, List.take_take, Nat.min_eq_left hk]
/-- 's[k:]', as what is appended. -/
theorem PRow.src {t : TypeId} (hu : Try.prog.underlying t = some (.slice e)) (h : PRow e B w a n cap xs) (hx : ∀ u ∈ xs, u.oneCell' = true) {g k m c : Nat} (ha : a = some ⟨g, 0, none⟩) (hm : m = n - k) (_hk : k ≤ n) : Src Try.prog 1 t (.slice (some ⟨g, k, none⟩) m c) m (xs.drop k) w := by
  subst hm
  refine Src.ofSlice w hu ⟨g, k, none⟩ (n - k) c (xs.drop k) (by rw [List.length_drop, h.1]; omega) (fun j u hj => ?_) (fun u hu => hx u (List.mem_of_mem_drop hu))
  rw [List.getElem?_drop] at hj
  obtain ⟨g', e', hc⟩ := h.cell hj
  rw [ha] at e'
  simp only [Option.some.injEq, Addr.mk.injEq, and_true] at e'
  subst e'
  rw [addr_add]
  exact hc

theorem prow_app {t : TypeId} {z : Value} (hu : Try.prog.underlying t = some (.slice e)) (hi : (Try.prog.info? e).map (fun i => (i.zero, i.size, i.bytes)) = some (some z, 1, 8)) (hz : z.cells.size = 1)
    (h : PRow e B w a n cap xs) (hB : B ≤ w.heap.size) (ty : TypeId) (x : Value) (news : List Value) (m : Nat) (hs : Src Try.prog 1 t x m news w) (hl : n + m ≤ 100000) :
    ∃ a' cap' w', (Builtin.append_ #[t, t] ty #[.slice a n cap, x]).run Try.prog w = .ok (.slice a' (n + m) cap') w' ∧ PRow e B w' a' (n + m) cap' (xs ++ news) ∧ Kp (ob a) w w' ∧ ∀ y ∈ ob a', y ∈ ob a ∨ w.heap.size ≤ y := by
  obtain ⟨i0, hi0, hz0, hz1, hz2⟩ := info_parts hi
  have hs' : Src Try.prog i0.size t x m news w := by rw [hz1]; exact hs
  have hnl : news.length = m := by have := hs.newsLen; omega
  have hle := h.le
  by_cases hp : m = 0
  · subst hp
    have e0 : news = [] := List.eq_nil_of_length_eq_zero hnl
    subst e0
    have hr := run_append_nothing (P := Try.prog) w t t ty e i0 hu hi0 a n cap hle x hs'
    exact ⟨a, cap, w, hr, by rw [List.append_nil]; exact h, Kp.refl _ _, fun y hy => .inl hy⟩
  have hold : (Builtin.firstCells i0.size n (.slice a n cap)).run Try.prog w.drew = .ok xs.toArray w.drew := by
    rcases h.2 with ⟨rfl, rfl, rfl⟩ | ⟨g, cur, rfl, h1, h2, h3, h4, h5, h6⟩
    · have : xs = [] := List.eq_nil_of_length_eq_zero h.1
      subst this
      exact run_firstCells_none w.drew i0.size 0 0 0
    · refine run_firstCells_some (P := Try.prog) w.drew i0.size n ⟨g, 0, none⟩ n cap xs (by rw [hz1, h.1]; omega) (fun j u hj => ?_)
      obtain ⟨g', e', hc⟩ := h.cell hj
      simp only [Option.some.injEq, Addr.mk.injEq, and_true] at e'
      subst e'
      rw [addr_add, Nat.zero_add]
      exact hc
  by_cases hroom : n + m ≤ cap
  · rcases h.2 with ⟨_, _, _⟩ | ⟨g, cur, rfl, h1, h2, h3, h4, h5, h6⟩
    · omega
    · have hst := run_storeCells_at Try.prog g n e news 0 cur w h2 (by omega) hs.one
      simp only [Nat.add_zero] at hst
      refine ⟨some ⟨g, 0, none⟩, cap, w.setRow g (cur.toList.take n ++ news ++ cur.toList.drop (n + news.length)).toArray, ?_, ⟨by rw [List.length_append, h.1, hnl], .inr ⟨g, _, rfl, h1, setRow_heap w g cur _ e _ h2, hroom, h4, ?_, ?_⟩⟩, ?_, fun y hy => .inl hy⟩
      · rcases hs'.kind with ⟨e', hk⟩ | hk <;> simp [Builtin.append_, run_underlying hu, sizeOf, typeInfo, hi0, hz1, hs.len, hroom, hs.cells, Addr.add_lit, hst]
      · simp only [List.size_toArray, List.length_append, List.length_take, List.length_drop, Array.length_toList]
        omega
      · rw [h6]
        have hll : n + m = (xs ++ news).length := by rw [List.length_append, h.1, hnl]
        rw [hll]
        exact List.take_left
      · exact ⟨rfl, rfl, rfl, by simp, fun k _ hn => setRow_other w g k _ (by simpa [ob] using hn)⟩
  · have hge := grownCap_ge w (n + m) cap e
    have hfit : Builtin.nextslicecap (n + m) cap * i0.bytes ≤ 281474976710656 := growslice_fits (by omega) (by rw [hz2]; omega)
    have hr := run_append_grow_src (P := Try.prog) w t t ty e i0 _ hu hi0 hz0 a n cap xs hold x m news hs' (by omega) (by omega) hfit
    refine ⟨_, _, _, hr, ⟨by rw [List.length_append, h.1, hnl], .inr ⟨w.heap.size, _, rfl, hB, heap_alloc_new w.drew _, hge, grownCap_le_maxLen w _ _ _ (by unfold maxLen; omega), ?_, ?_⟩⟩, (Kp.refl _ w).drew.alloc _, fun y hy => .inr (by simp [ob] at hy; omega)⟩
    · rw [Array.size_append, size_zeroCells, hz]
      simp only [List.size_toArray, List.length_append, h.1, hnl]
      omega
    · simp only [Array.toList_append]
      have hll : n + m = (xs ++ news).length := by rw [List.length_append, h.1, hnl]
      rw [hll]
      exact List.take_left
end

theorem wpList_prow {ops : Array Oper} {rest : List Oper} {o : Oper} {ac : Act} {w : World} {Q : Exit → Act → World → Prop} (hw : Region.wanted o (yielded ops ac.tmps) = true) (s x : Operand) (t : TypeId)
    (ho : o.op = .call { callee := .builtin .append, args := #[s, x], argTypes := #[t, t] }) {e : TypeId} {z : Value} (hu : Try.prog.underlying t = some (.slice e)) (hi : (Try.prog.info? e).map (fun i => (i.zero, i.size, i.bytes)) = some (some z, 1, 8)) (hz : z.cells.size = 1)
    {B : Nat} {a : Option Addr} {n cap : Nat} {xs : List Value} (h : PRow e B w a n cap xs) (hB : B ≤ w.heap.size) (xv : Value) (news : List Value) (m : Nat)
    (hs : ac.eval s = .slice a n cap) (hx : ac.eval x = xv) (hsrc : Src Try.prog 1 t xv m news w) (hm : n + m ≤ 100000) (N : Nat) (hN : n + m = N)
    (k : ∀ a' cap' w', Hid (PRow e B w' a' N cap' (xs ++ news)) → Hid (Kp (ob a) w w') → Hid (∀ x ∈ ob a', x ∈ ob a ∨ w.heap.size ≤ x) → wpList Try.prog ops Q rest (ac.put o.dst (.slice a' N cap')) w') : wpList Try.prog ops Q (o :: rest) ac w := by
  subst hN
  obtain ⟨a', cap', w', hr, h1, h2, h3⟩ := prow_app hu hi hz h hB o.type xv news m hsrc hm
  refine wpList_step fun K hK => ?_
  rw [if_pos hw]
  unfold Oper.wp execOp
  simp only [ho, resolve, invoke, builtin, Sem.run_bind, Sem.run_pure, Result.andThen_ok, List.map_toArray, List.map_cons, List.map_nil, hs, hx, hr]
  exact hK _ _ (k a' cap' w' h1 h2 h3)

theorem step_prow {ops : Array Oper} {o : Oper} {ac : Act} {w : World} {K : Act → World → Prop} {Q : Exit → Act → World → Prop} {E : Prop} (hw : Region.wanted o (yielded ops ac.tmps) = true) (s x : Operand) (t : TypeId)
    (ho : o.op = .call { callee := .builtin .append, args := #[s, x], argTypes := #[t, t] }) {e : TypeId} {z : Value} (hu : Try.prog.underlying t = some (.slice e)) (hi : (Try.prog.info? e).map (fun i => (i.zero, i.size, i.bytes)) = some (some z, 1, 8)) (hz : z.cells.size = 1)
    {B : Nat} {a : Option Addr} {n cap : Nat} {xs : List Value} (h : PRow e B w a n cap xs) (hB : B ≤ w.heap.size) (xv : Value) (news : List Value) (m : Nat)
    (hs : ac.eval s = .slice a n cap) (hx : ac.eval x = xv) (hsrc : Src Try.prog 1 t xv m news w) (hm : n + m ≤ 100000) (N : Nat) (hN : n + m = N)
    (k : ∀ a' cap' w', Hid (PRow e B w' a' N cap' (xs ++ news)) → Hid (Kp (ob a) w w') → Hid (∀ x ∈ ob a', x ∈ ob a ∨ w.heap.size ≤ x) → K (ac.put o.dst (.slice a' N cap')) w') :
    if Region.wanted o (yielded ops ac.tmps) = true then Oper.wp Try.prog o ac w K Q else E := by
  subst hN
  obtain ⟨a', cap', w', hr, h1, h2, h3⟩ := prow_app hu hi hz h hB o.type xv news m hsrc hm
  rw [if_pos hw]
  unfold Oper.wp execOp
  simp only [ho, resolve, invoke, builtin, Sem.run_bind, Sem.run_pure, Result.andThen_ok, List.map_toArray, List.map_cons, List.map_nil, hs, hx, hr]
  exact k a' cap' w' h1 h2 h3
end Go.Proofs.Ytapmlleemopcnac

/- Many things in memory beside each other: each with its own blocks, no two sharing one; a call on one of them leaves the others. -/
namespace Go.Proofs.Ytapmlleemopcnac
open Go.RowKit
set_option maxRecDepth 20000

/-- A thing in memory: what is so of it (since B, in a world, with its own blocks F), and that it hangs on its own blocks alone. -/
structure Thing where
  holds : Nat → World → List Nat → Prop
  kp : ∀ {B : Nat} {w w' : World} {S F : List Nat}, holds B w F → Kp S w w' → (∀ x, x ∈ F → x ∉ S) → holds B w' F
  lo : ∀ {B : Nat} {w : World} {F : List Nat}, holds B w F → ∀ x, x ∈ F → B ≤ x ∧ x < w.heap.size
  base : ∀ {B C : Nat} {w : World} {F : List Nat}, holds B w F → C ≤ B → holds C w F

/-- The things of a list, X all their blocks. -/
def ZooF (B : Nat) (w : World) : List Thing → List Nat → Prop
  | [], X => X = []
  | o :: r, X => ∃ F Y, o.holds B w F ∧ ZooF B w r Y ∧ (∀ x, x ∈ F → x ∉ Y) ∧ X = F ++ Y

theorem ZooF.lo {B : Nat} {w : World} : ∀ {os : List Thing} {X : List Nat}, ZooF B w os X → ∀ x, x ∈ X → B ≤ x ∧ x < w.heap.size
  | [], X, h, x, hx => by rw [show X = [] from h] at hx; simp at hx
  | o :: _, X, ⟨F, Y, h1, h2, _, e⟩, x, hx => by
    subst e
    rcases List.mem_append.1 hx with q | q
    · exact o.lo h1 x q
    · exact ZooF.lo h2 x q
theorem ZooF.kp {B : Nat} {w w' : World} {S : List Nat} (hk : Kp S w w') : ∀ {os : List Thing} {X : List Nat}, ZooF B w os X → (∀ x, x ∈ X → x ∉ S) → ZooF B w' os X
  | [], _, h, _ => h
  | o :: _, X, ⟨F, Y, h1, h2, h3, e⟩, hS => by
    subst e
    exact ⟨F, Y, o.kp h1 hk (fun x hx => hS x (by simp [hx])), ZooF.kp hk h2 (fun x hx => hS x (by simp [hx])), h3, rfl⟩
theorem ZooF.base {B C : Nat} {w : World} (hC : C ≤ B) : ∀ {os : List Thing} {X : List Nat}, ZooF B w os X → ZooF C w os X
  | [], _, h => h
  | o :: _, _, ⟨F, Y, h1, h2, h3, e⟩ => ⟨F, Y, o.base h1 hC, ZooF.base hC h2, h3, e⟩

/-- All were made since w0, and all that was there is as it was. -/
def Zoo (w0 w : World) (os : List Thing) : Prop := ∃ X, ZooF w0.heap.size w os X ∧ Kp [] w0 w

section
variable {w0 w w' : World} {o o' : Thing} {os r : List Thing}
theorem Zoo.kp (h : Zoo w0 w os) : Kp [] w0 w := by
  obtain ⟨_, _, h⟩ := h
  exact h
theorem Zoo.kp0 (h : Zoo w0 w os) (hk : Kp [] w w') : Zoo w0 w' os := by
  obtain ⟨X, h1, h2⟩ := h
  exact ⟨X, h1.kp hk (fun _ _ => by simp), h2.trans0 hk⟩
theorem zoo_nil (hk : Kp [] w0 w) : Zoo w0 w [] := ⟨[], rfl, hk⟩
/-- The first one, its blocks, and what a call on it may do. -/
theorem Zoo.head (h : Zoo w0 w (o :: r)) : ∃ F, o.holds w0.heap.size w F ∧ ∀ (o' : Thing) (w' : World), (∃ F', o'.holds w0.heap.size w' F' ∧ Kp F w w' ∧ ∀ x, x ∈ F' → x ∈ F ∨ w.heap.size ≤ x) → Zoo w0 w' (o' :: r) := by
  obtain ⟨X, ⟨F, Y, h1, h2, h3, rfl⟩, h4⟩ := h
  refine ⟨F, h1, fun o' w' ⟨F', k1, k2, k3⟩ => ⟨F' ++ Y, ⟨F', Y, k1, h2.kp k2 (fun x hx hf => h3 x hf hx), fun x hx hy => ?_, rfl⟩, h4.trans k2 (fun x hx => .inr (o.lo h1 x hx).1)⟩⟩
  rcases k3 x hx with e | e
  · exact h3 x e hy
  · have := (h2.lo x hy).2; omega
/-- A new one. -/
theorem Zoo.cons (h : Zoo w0 w os) {F : List Nat} (ho : o.holds w.heap.size w' F) (hk : Kp [] w w') : Zoo w0 w' (o :: os) := by
  obtain ⟨X, h1, h2⟩ := h
  refine ⟨F ++ X, ⟨F, X, o.base ho h2.size, h1.kp hk (fun _ _ => by simp), fun x hx hy => ?_, rfl⟩, h2.trans0 hk⟩
  have := (o.lo ho x hx).1
  have := (h1.lo x hy).2
  omega
theorem Zoo.tail (h : Zoo w0 w (o :: r)) : Zoo w0 w r := by
  obtain ⟨X, ⟨F, Y, h1, h2, h3, rfl⟩, h4⟩ := h
  exact ⟨Y, h2, h4⟩
end

theorem ZooF.perm {B : Nat} {w : World} {us vs : List Thing} (hp : us.Perm vs) : ∀ {X : List Nat}, ZooF B w us X → ∃ Y, ZooF B w vs Y ∧ ∀ x, x ∈ Y ↔ x ∈ X := by
  induction hp with
  | nil => intro X h; exact ⟨X, h, fun _ => Iff.rfl⟩
  | cons o _ ih =>
    rintro X ⟨F, Y, h1, h2, h3, rfl⟩
    obtain ⟨Z, k1, k2⟩ := ih h2
    exact ⟨F ++ Z, ⟨F, Z, h1, k1, fun x hx hz => h3 x hx ((k2 x).1 hz), rfl⟩, fun x => by simp [k2 x]⟩
  | swap a b l =>
    rintro X ⟨F, Y, h1, ⟨F2, Y2, h4, h5, h6, rfl⟩, h3, rfl⟩
    refine ⟨F2 ++ (F ++ Y2), ⟨F2, F ++ Y2, h4, ⟨F, Y2, h1, h5, fun x hx hy => h3 x hx (by simp [hy]), rfl⟩, fun x hx hy => ?_, rfl⟩, fun x => by simp [or_left_comm]⟩
    rcases List.mem_append.1 hy with q | q
    · exact h3 x q (by simp [hx])
    · exact h6 x hx q
  | trans _ _ ih1 ih2 =>
    intro X h
    obtain ⟨Y, h1, h2⟩ := ih1 h
    obtain ⟨Z, h3, h4⟩ := ih2 h1
    exact ⟨Z, h3, fun x => (h4 x).trans (h2 x)⟩
theorem Zoo.perm {w0 w : World} {us vs : List Thing} (h : Zoo w0 w us) (hp : us.Perm vs) : Zoo w0 w vs := by
  obtain ⟨X, h1, h2⟩ := h
  obtain ⟨Y, k1, _⟩ := h1.perm hp
  exact ⟨Y, k1, h2⟩
/-- One of them, its blocks, and what a call on it may do: it is changed where it stands. -/
theorem Zoo.at_ {w0 w : World} {l1 l2 : List Thing} {o : Thing} (h : Zoo w0 w (l1 ++ o :: l2)) : ∃ F, o.holds w0.heap.size w F ∧ ∀ (o' : Thing) (w' : World), (∃ F', o'.holds w0.heap.size w' F' ∧ Kp F w w' ∧ ∀ x, x ∈ F' → x ∈ F ∨ w.heap.size ≤ x) → Zoo w0 w' (l1 ++ o' :: l2) := by
  obtain ⟨F, h1, h2⟩ := (h.perm List.perm_middle).head
  exact ⟨F, h1, fun o' w' k => (h2 o' w' k).perm List.perm_middle.symm⟩
theorem Zoo.drop_ {w0 w : World} {l1 l2 : List Thing} {o : Thing} (h : Zoo w0 w (l1 ++ o :: l2)) : Zoo w0 w (l1 ++ l2) := (h.perm List.perm_middle).tail
/-- A new one, in between. -/
theorem Zoo.put_ {w0 w w' : World} {l1 l2 : List Thing} {o : Thing} (h : Zoo w0 w (l1 ++ l2)) {F : List Nat} (ho : o.holds w.heap.size w' F) (hk : Kp [] w w') : Zoo w0 w' (l1 ++ o :: l2) := (h.cons ho hk).perm List.perm_middle.symm

/-- A call on one of them, by its contract. -/
theorem zoo_call {P : Program} {f : Nat} {args : Array Value} {w0 w : World} {l1 l2 : List Thing} {o o' : Thing} {E : Ending → Prop} (h : Zoo w0 w (l1 ++ o :: l2))
    (hc : ∀ F, o.holds w0.heap.size w F → Calls P f args w fun e w' => E e ∧ ∃ F', o'.holds w0.heap.size w' F' ∧ Kp F w w' ∧ ∀ x, x ∈ F' → x ∈ F ∨ w.heap.size ≤ x) :
    Calls P f args w fun e w' => E e ∧ Hid (Zoo w0 w' (l1 ++ o' :: l2)) := by
  obtain ⟨F, h1, h2⟩ := h.at_
  exact (hc F h1).mono (fun e w' ⟨he, k⟩ => ⟨he, h2 o' w' k⟩)
end Go.Proofs.Ytapmlleemopcnac

/- A chain's memory. -/
namespace Go.Proofs.Ytapmlleemopcnac
open Go.RowKit
set_option maxRecDepth 20000

/-- A chain's memory: the box b holds the slice of its versions, the array lies in g. -/
structure Chn (B : Nat) (w : World) (b g cap : Nat) (vs : List Ver) : Prop where
  own : w.ownsRow B 163 3 (.slice (some ⟨g, 0, none⟩) vs.length cap) vs.length (vcells vs)
  box : w.heap[b]? = some (.cells #[.slice (some ⟨g, 0, none⟩) vs.length cap] 165 (0, 0))
  ne : b ≠ g
  hb : B ≤ b
  pos : 0 < vs.length

theorem Chn.hg {B : Nat} {w : World} {b g cap : Nat} {vs : List Ver} (h : Chn B w b g cap vs) : B ≤ g ∧ g < w.heap.size := h.own.lt g rfl
theorem Chn.blt {B : Nat} {w : World} {b g cap : Nat} {vs : List Ver} (h : Chn B w b g cap vs) : b < w.heap.size := (Array.getElem?_eq_some_iff.1 h.box).1
theorem Chn.cell {B : Nat} {w : World} {b g cap : Nat} {vs : List Ver} (h : Chn B w b g cap vs) : w.cell? ⟨b, 0, none⟩ = some (.slice (some ⟨g, 0, none⟩) vs.length cap) := by
  rw [cell_of_row w b 0 _ _ _ h.box]; rfl
theorem Chn.frozen {B : Nat} {w : World} {b g cap : Nat} {vs : List Ver} (h : Chn B w b g cap vs) : w.frozen? ⟨b, 0, none⟩ = false := by
  simp [World.frozen?, h.box]
theorem Chn.sla {B : Nat} {w : World} {b g cap : Nat} {vs : List Ver} (h : Chn B w b g cap vs) : SlA w g 0 vs := by
  intro j u hu
  have := h.own.cellAt j (by rw [← vcells_length]; exact (List.getElem?_eq_some_iff.1 hu).1)
  rw [Nat.zero_add, this]; exact hu
theorem Chn.kp {B : Nat} {S : List Nat} {w w' : World} {b g cap : Nat} {vs : List Ver} (h : Chn B w b g cap vs) (hk : Kp S w w') (hb : b ∉ S) (hg : g ∉ S) : Chn B w' b g cap vs := by
  refine ⟨?_, ?_, h.ne, h.hb, h.pos⟩
  · refine ⟨h.own.1, ?_⟩
    rcases h.own.2 with hn | ⟨g', cap', cur, e, h2, h3, h4⟩
    · exact .inl hn
    · refine .inr ⟨g', cap', cur, e, h2, ?_, h4⟩
      simp only [Value.slice.injEq, Option.some.injEq, Addr.mk.injEq, and_true, true_and] at e
      obtain ⟨rfl, rfl⟩ := e
      rw [hk.block g h.hg.2 hg]; exact h3
  · rw [hk.block b h.blt hb]; exact h.box
theorem Chn.drewN {B : Nat} {w : World} {b g cap : Nat} {vs : List Ver} (h : Chn B w b g cap vs) (n : Nat) : Chn B (w.drewN n) b g cap vs := ⟨h.own, h.box, h.ne, h.hb, h.pos⟩

end Go.Proofs.Ytapmlleemopcnac

/- The chain's own functions, each by a contract: Key, Check, First, Last, the search, Clone, New, List. -/
namespace Go.Proofs.Ytapmlleemopcnac
open Go.RowKit
set_option maxRecDepth 20000
attribute [local go_sem ↓] Go.wp_at_zero Go.wp_at_succ

set_option maxHeartbeats 400000 in
theorem first17 {B b g cap : Nat} {vs : List Ver} (w : World) (h : Chn B w b g cap vs) :
    Calls Try.prog 68 #[.pointer (some ⟨b, 0, none⟩)] w fun e w' => e = .returned (.int .i64 (va vs 0)) ∧ w' = w := by
  have h1 := h.cell
  have h2 := h.sla.at0 0 h.pos
  have h3 := h.pos
  clear h
  generalize va vs 0 = x at *
  generalize vs.length = n at *
  simp only [Nat.zero_mul, Nat.add_zero] at h2
  go_enter Try.func68, Try.ntmps68
  go_wp2
  go_ret
  exact ⟨rfl, rfl⟩

set_option maxHeartbeats 400000 in
theorem last15 {B b g cap : Nat} {vs : List Ver} (w : World) (h : Chn B w b g cap vs) (hm : vs.length ≤ 1000) :
    Calls Try.prog 73 #[.pointer (some ⟨b, 0, none⟩)] w fun e w' => e = .returned (.int .i64 (va vs (vs.length - 1))) ∧ ∃ m, w' = w.drewN m := by
  have h1 := h.cell
  have h3 := h.pos
  have h2 := h.sla.at0 (vs.length - 1) (by omega)
  clear h
  generalize va vs (vs.length - 1) = x at *
  generalize vs.length = n at *
  rw [Nat.zero_add] at h2
  have hw : IntKind.i64.wrap ((n : Int) - 1) = ((n - 1 : Nat) : Int) := by rw [wrap_i64_id _ (by omega) (by omega)]; omega
  have k1 : (0 : Int) ≤ ((n - 1 : Nat) : Int) := by omega
  have k2 : ((n - 1 : Nat) : Int) < (n : Int) := by omega
  go_enter Try.func73, Try.ntmps73
  go_wp2
  go_quiet (fail)
  go_wp2
  go_ret
  exact ⟨rfl, _, rfl⟩

set_option maxHeartbeats 400000 in
theorem clo31 {B b g cap : Nat} {vs : List Ver} (p q k : Nat) (y : Int) (w : World) (h : Chn B w b g cap vs) (hk : k < vs.length)
    (h3 : w.cell? ⟨p, 0, none⟩ = some (.pointer (some ⟨b, 0, none⟩))) (h4 : w.cell? ⟨q, 0, none⟩ = some (.int .i64 y)) :
    Calls Try.prog 133 #[.int .i64 k, .pointer (some ⟨p, 0, none⟩), .pointer (some ⟨q, 0, none⟩)] w fun e w' => e = .returned (.bool (decide (y < va vs k))) ∧ ∃ m, w' = w.drewN m := by
  have h1 := h.cell
  have h2 := h.sla.at0 k hk
  clear h
  generalize va vs k = x at *
  generalize vs.length = n at *
  rw [Nat.zero_add] at h2
  have k1 : (0 : Int) ≤ (k : Int) := by omega
  have k2 : (k : Int) < (n : Int) := by omega
  go_enter Try.func133, Try.ntmps133
  go_wp2
  go_quiet (fail)
  go_wp2
  go_ret
  exact ⟨rfl, _, rfl⟩

theorem cnt_of {vs : List Ver} {y : Int} {a : Nat} (ha : a ≤ vs.length) (h1 : ∀ k, k < a → va vs k ≤ y) (h2 : ∀ k, a ≤ k → k < vs.length → y < va vs k) : IsCnt vs y a := ⟨ha, h1, h2⟩
set_option maxHeartbeats 400000 in
theorem search30 {B b g cap : Nat} {vs : List Ver} (p q : Nat) (y : Int) (w : World) (h : Chn B w b g cap vs) (hr : Rise vs) (hm : vs.length ≤ 1000)
    (h3 : w.cell? ⟨p, 0, none⟩ = some (.pointer (some ⟨b, 0, none⟩))) (h4 : w.cell? ⟨q, 0, none⟩ = some (.int .i64 y)) :
    Calls Try.prog 132 #[.int .i64 vs.length, .func (.func 133) #[] #[.pointer (some ⟨p, 0, none⟩), .pointer (some ⟨q, 0, none⟩)]] w fun e w' => ∃ c : Nat, IsCnt vs y c ∧ e = .returned (.int .i64 c) ∧ ∃ m, w' = w.drewN m := by
  have HC := hide h
  have H3 := hide h3
  have H4 := hide h4
  have HR := hide hr
  clear h h3 h4 hr
  go_enter Try.func132, Try.ntmps132
  go_wp2
  go_loopw [5, 6, 7] (fun i j _ wr => ∃ a z m : Nat, a ≤ z ∧ z ≤ vs.length ∧ i = .int .i64 a ∧ j = .int .i64 z ∧ wr = w.drewN m ∧ Hid (∀ k, k < a → va vs k ≤ y) ∧ Hid (∀ k, z ≤ k → k < vs.length → y < va vs k)) (fun i j _ _ => (intOf j).toNat - (intOf i).toNat)
  case atStart => exact ⟨0, vs.length, 0, Nat.zero_le _, Nat.le_refl _, rfl, rfl, rfl, (fun k hk => by omega), (fun k h1 h2 => by omega)⟩
  case round =>
    obtain ⟨a, z, m, haz, hz, rfl, rfl, rfl, HL, HH⟩ := hrel
    by_cases hlt : a < z
    · go_wp2_with fail
      rw [show ((a : Int) + z) / 2 = (((a + z) / 2 : Nat) : Int) from by omega]
      refine (clo31 p q ((a + z) / 2) y _ ((unhide HC).drewN m) (by omega) (unhide H3) (unhide H4)).mono ?_
      rintro e w' ⟨rfl, m2, rfl⟩
      by_cases hy : y < va vs ((a + z) / 2)
      · rw [decide_eq_true hy]
        have HY := hide hy
        clear hy
        go_wp2
        go_roundw
        case rel => exact ⟨a, (a + z) / 2, m + m2, by omega, by omega, rfl, rfl, by simp, HL, fun k h1 h2 => by have := (unhide HR).le h1 h2; have := unhide HY; omega⟩
        case measure => simp [intOf]; omega
      · rw [decide_eq_false hy]
        have HY := hide hy
        clear hy
        go_wp2
        go_roundw
        case rel => exact ⟨(a + z) / 2 + 1, z, m + m2, by omega, by omega, by go_num, rfl, by simp, (fun k h1 => by have := (unhide HR).le (show k ≤ (a + z) / 2 by omega) (by omega); have := unhide HY; omega), HH⟩
        case measure => simp [intOf]; omega
    · go_wp2
      go_ret
      have e : a = z := by omega
      subst e
      exact ⟨a, cnt_of hz (unhide HL) (unhide HH), rfl, m, rfl⟩

set_option maxHeartbeats 400000 in
theorem count28 {B b g cap : Nat} {vs : List Ver} (y : Int) (w : World) (h : Chn B w b g cap vs) (hr : Rise vs) (hm : vs.length ≤ 1000) :
    Calls Try.prog 112 #[.pointer (some ⟨b, 0, none⟩), .int .i64 y] w fun e w' => ∃ c : Nat, IsCnt vs y c ∧ e = .returned (.int .i64 c) ∧ Kp [] w w' := by
  have hmf : ∀ (fn : Fn) (first cap : Array Value) (w : World), (Instr.makeFunc fn first cap).run Try.prog w = .ok (.func fn first cap) w := fun _ _ _ _ => rfl
  have h1 := h.cell
  have h2 := h.blt
  have HC := hide h
  have HR := hide hr
  clear h hr
  go_enter Try.func112, Try.ntmps112
  go_wp2_with fail
  refine (search30 w.heap.size (w.heap.size + 1) y _ ((unhide HC).kp (((Kp.refl [] w).alloc _).alloc _) (by simp) (by simp)) (unhide HR) hm (by simp) (by simp)).mono ?_
  rintro e w' ⟨c, hc, rfl, m, rfl⟩
  have HCN := hide hc
  clear hc
  go_wp2
  go_ret
  exact ⟨c, unhide HCN, rfl, (((Kp.refl [] w).alloc _).alloc _).drewN m⟩

theorem sla_own {B : Nat} {w : World} {g cap : Nat} {vs : List Ver} (h : w.ownsRow B 163 3 (.slice (some ⟨g, 0, none⟩) vs.length cap) vs.length (vcells vs)) : SlA w g 0 vs := by
  intro j u hu
  have := h.cellAt j (by rw [← vcells_length]; exact (List.getElem?_eq_some_iff.1 hu).1)
  rw [Nat.zero_add, this]; exact hu

theorem Try.info163 : (Try.prog.info? 163).map (fun i => (i.zero, i.size, i.bytes)) = some (some (.agg #[.int .i64 0, .bool false, .string ByteArray.empty]), 3, 32) := by kernel_rfl

set_option maxHeartbeats 400000 in
theorem clone29 {vs : List Ver} (g o cap : Nat) (w : World) (h : SlA w g o vs) (hp : 0 < vs.length) (hm : vs.length ≤ 1000) :
    Calls Try.prog 122 #[.slice (some ⟨g, o, none⟩) vs.length cap] w fun e w' => ∃ g' cap', e = .returned (.slice (some ⟨g', 0, none⟩) vs.length cap') ∧ w.heap.size ≤ g' ∧ w'.ownsRow w.heap.size 163 3 (.slice (some ⟨g', 0, none⟩) vs.length cap') vs.length (vcells vs) ∧ Kp [] w w' := by
  obtain ⟨i0, hi0, hz0, hz1, hz2⟩ := info_parts Try.info163
  have hnil := fun wx a n c n' c' => Lib.run_eql_slice_nil (P := Try.prog) wx 48 163 a n c n' c' Try.underlying48
  have HS := hide (h.kp ((Kp.refl [] w).alloc (.cells #[] 163)) (by simp))
  have HO := hide (World.ownsRow_made (base := w.heap.size) (e := 163) (size := 3) w #[] 0 (Nat.le_refl _) (Nat.zero_le _) rfl)
  clear h
  go_enter Try.func122, Try.ntmps122
  go_wp2_with (at_builtin; refine wpList_append_lies _ rfl _ _ 48 rfl w.heap.size 163 i0 _ 3 32 Try.underlying48 hi0 hz0 hz1 hz2 rfl (by omega) (.slice (some ⟨w.heap.size, 0, none⟩) 0 0) 0 [] rfl (unhide HO) ⟨g, o, none⟩ vs.length cap (vcells vs) rfl (vcells_length vs) (unhide HS).news (vcells_one vs) hp (by unfold maxLen; omega) (by omega) (by simp) _ rfl ?_; intro g2 cap2 w1 hown hgrow hat hlt)
  have HW := hide hown
  have HG := hide hgrow
  have HT := hide hat
  clear hown hgrow hat
  go_wp2
  go_ret
  have hw := unhide HW
  simp only [Nat.zero_add, List.nil_append] at hw
  refine ⟨g2, cap2, by simp, ?_, hw, ((Kp.refl [] w).alloc _).grown (unhide HG) (fun k hk => ?_)⟩
  · exact (hw.lt g2 rfl).1
  · have e : w.heap.size = k := by simpa [Value.ownBlock] using hk
    right; omega

theorem chn_new (w : World) : Chn w.heap.size ((w.alloc (.cells #[.int .i64 0, .bool false, .string ByteArray.empty] 163)).alloc (.cells #[.slice (some ⟨w.heap.size, 0, none⟩) 1 1] 165)) (w.heap.size + 1) w.heap.size 1 [dv] := by
  refine ⟨?_, ?_, by omega, by omega, by simp⟩
  · exact (World.ownsRow_lit (base := w.heap.size) (e := 163) (size := 3) w #[.int .i64 0, .bool false, .string ByteArray.empty] 1 (Nat.le_refl _) (by unfold maxLen; omega) rfl).alloc _
  · have := heap_alloc_new (w.alloc (.cells #[.int .i64 0, .bool false, .string ByteArray.empty] 163)) (.cells #[.slice (some ⟨w.heap.size, 0, none⟩) 1 1] 165)
    simpa using this

set_option maxHeartbeats 400000 in
theorem new23 (w : World) :
    Calls Try.prog 121 #[] w fun e w' => e = .returned (.pointer (some ⟨w.heap.size + 1, 0, none⟩)) ∧ Chn w.heap.size w' (w.heap.size + 1) w.heap.size 1 [dv] ∧ Kp [] w w' := by
  go_enter Try.func121, Try.ntmps121
  go_wp2
  go_ret
  exact ⟨rfl, chn_new w, ((Kp.refl [] w).alloc _).alloc _⟩

end Go.Proofs.Ytapmlleemopcnac

/- Read of a chain, by its contract. -/
namespace Go.Proofs.Ytapmlleemopcnac
open Go.RowKit
set_option maxRecDepth 20000
attribute [local go_sem ↓] Go.wp_at_zero Go.wp_at_succ

theorem IsCnt.pos {vs : List Ver} {y : Int} {c : Nat} (h : IsCnt vs y c) (hp : 0 < vs.length) (h1 : va vs 0 ≤ y) : 0 < c := by
  rcases Nat.eq_zero_or_pos c with e | e
  · subst e; have := h.hi 0 (Nat.le_refl _) hp; omega
  · exact e

theorem read_facts {B b g cap : Nat} {vs : List Ver} {w w1 : World} (o : Obj) (h : Chn B w b g cap vs) (hk : Kp [] (w.alloc o).drew w1) {c : Nat} (hc : 0 < c) (hl : c ≤ vs.length) :
    w1.cell? ⟨b, 0, none⟩ = some (.slice (some ⟨g, 0, none⟩) vs.length cap) ∧ w1.cell? ⟨g, (c - 1) * 3 + 1, none⟩ = some (.bool (vt vs (c - 1))) ∧ w1.cell? ⟨g, (c - 1) * 3 + 1 + 1, none⟩ = some (.string (vb vs (c - 1))) := by
  have h2 := h.kp (((Kp.refl [] w).alloc o).drew.trans0 hk) (by simp) (by simp)
  refine ⟨h2.cell, ?_, ?_⟩
  · have := h2.sla.at1 (c - 1) (by omega); rwa [Nat.zero_add] at this
  · have := h2.sla.at2 (c - 1) (by omega); rwa [Nat.zero_add] at this

theorem new_facts {w w1 : World} {x y : Value} (hk : Kp [] (w.alloc (.cells #[x, y] 31)).drew w1) :
    w1.cell? ⟨w.heap.size, 0, none⟩ = some x ∧ w1.cell? ⟨w.heap.size, 1, none⟩ = some y ∧ w1.frozen? ⟨w.heap.size, 0, none⟩ = false ∧ w1.frozen? ⟨w.heap.size, 1, none⟩ = false := by
  refine ⟨hk.cell (by simp) (by simp), hk.cell (by simp) (by simp), ?_, ?_⟩
  · rw [hk.frozen (by simp) (by simp)]; simp
  · rw [hk.frozen (by simp) (by simp)]; simp

theorem wrap_pred {c : Nat} (h : 0 < c) (h2 : c ≤ 1000) : IntKind.i64.wrap ((c : Int) - 1) = ((c - 1 : Nat) : Int) := by rw [wrap_i64_id _ (by omega) (by omega)]; omega

theorem count_read {B b g cap : Nat} {vs : List Ver} (y : Int) (w : World) (h : Chn B w b g cap vs) (hr : Rise vs) (hm : vs.length ≤ 1000) (h1 : va vs 0 ≤ y) (x u : Value) :
    Calls Try.prog 112 #[.pointer (some ⟨b, 0, none⟩), .int .i64 y] (w.alloc (.cells #[x, u] 31)).drew fun e w1 => ∃ c : Nat, e = .returned (.int .i64 c) ∧ Hid (IsCnt vs y c) ∧ 0 < c ∧
      w1.cell? ⟨b, 0, none⟩ = some (.slice (some ⟨g, 0, none⟩) vs.length cap) ∧ w1.cell? ⟨g, (c - 1) * 3 + 1, none⟩ = some (.bool (vt vs (c - 1))) ∧ w1.cell? ⟨g, (c - 1) * 3 + 1 + 1, none⟩ = some (.string (vb vs (c - 1))) ∧
      w1.cell? ⟨w.heap.size, 0, none⟩ = some x ∧ w1.cell? ⟨w.heap.size, 1, none⟩ = some u ∧ w1.frozen? ⟨w.heap.size, 0, none⟩ = false ∧ w1.frozen? ⟨w.heap.size, 1, none⟩ = false ∧
      IntKind.i64.wrap ((c : Int) - 1) = ((c - 1 : Nat) : Int) ∧ (0 : Int) ≤ ((c - 1 : Nat) : Int) ∧ ((c - 1 : Nat) : Int) < (vs.length : Int) ∧ Hid (Kp [] (w.alloc (.cells #[x, u] 31)).drew w1) := by
  refine (count28 y _ (h.kp (((Kp.refl [] w).alloc _).drew) (by simp) (by simp)) hr hm).mono ?_
  rintro e w1 ⟨c, hcn, rfl, hk⟩
  have hc0 := hcn.pos h.pos h1
  have hcl := hcn.le
  obtain ⟨q0, q1, q2⟩ := read_facts _ h hk hc0 hcl
  obtain ⟨q3, q4, q5, q6⟩ := new_facts hk
  exact ⟨c, rfl, hcn, hc0, q0, q1, q2, q3, q4, q5, q6, wrap_pred hc0 (by omega), by omega, by omega, hk⟩

/-- What Read tells. -/
def Rd (vs : List Ver) (y : Int) (t : Bool) (s : ByteArray) (code : Int) : Prop :=
  (y < 0 ∧ t = false ∧ s = ByteArray.empty ∧ code = 1) ∨ (0 ≤ y ∧ y < va vs 0 ∧ t = false ∧ s = ByteArray.empty ∧ code = 12) ∨
    (0 ≤ y ∧ va vs 0 ≤ y ∧ ∃ c, IsCnt vs y c ∧ 0 < c ∧ t = vt vs (c - 1) ∧ s = vb vs (c - 1) ∧ code = 0)

theorem Rd.uniq {vs : List Ver} {y : Int} {t t' : Bool} {s s' : ByteArray} {c c' : Int} (h : Rd vs y t s c) (k : Rd vs y t' s' c') : t = t' ∧ s = s' ∧ c = c' := by
  rcases h with ⟨h1, rfl, rfl, rfl⟩ | ⟨h0, h1, rfl, rfl, rfl⟩ | ⟨h0, h1, n, hn, _, rfl, rfl, rfl⟩
  · rcases k with ⟨k1, rfl, rfl, rfl⟩ | ⟨k0, k1, rfl, rfl, rfl⟩ | ⟨k0, k1, m, km, _, rfl, rfl, rfl⟩
    · exact ⟨rfl, rfl, rfl⟩
    · omega
    · omega
  · rcases k with ⟨k1, rfl, rfl, rfl⟩ | ⟨k0, k1, rfl, rfl, rfl⟩ | ⟨k0, k1, m, km, _, rfl, rfl, rfl⟩
    · omega
    · exact ⟨rfl, rfl, rfl⟩
    · omega
  · rcases k with ⟨k1, rfl, rfl, rfl⟩ | ⟨k0, k1, rfl, rfl, rfl⟩ | ⟨k0, k1, m, km, _, rfl, rfl, rfl⟩
    · omega
    · omega
    · have e := hn.uniq km
      subst e
      exact ⟨rfl, rfl, rfl⟩

set_option maxHeartbeats 400000 in
theorem read9 {B b g cap : Nat} {vs : List Ver} (y : Int) (w : World) (h : Chn B w b g cap vs) (hr : Rise vs) (hm : vs.length ≤ 1000) :
    Calls Try.prog 71 #[.pointer (some ⟨b, 0, none⟩), .int .i64 y] w fun e w' => ∃ t s code, e = .returned (.tuple #[.agg #[.bool t, .string s], .int .i64 code]) ∧ Rd vs y t s code ∧ Kp [] w w' := by
  have hc := h.cell
  have hb := h.blt
  have hp := h.pos
  have hbn : b ≠ w.heap.size := by omega
  have HC := hide h
  have HR := hide hr
  clear h hr
  by_cases h0 : y < 0
  · go_enter Try.func71, Try.ntmps71
    go_wp2_with fail
    exact bodyPost_ret (v := .tuple #[.agg #[.bool false, .string ByteArray.empty], .int .i64 1]) (by simp [results, Try.results71, go_sem]; rfl) rfl ⟨_, _, _, rfl, .inl ⟨h0, rfl, rfl, rfl⟩, ((Kp.refl [] w).alloc _)⟩
  by_cases h1 : y < va vs 0
  · go_enter Try.func71, Try.ntmps71
    go_wp2_with fail
    refine (first17 _ ((unhide HC).kp (((Kp.refl [] w).alloc _)) (by simp) (by simp))).mono ?_
    rintro e w' ⟨rfl, rfl⟩
    go_wp2_with fail
    exact bodyPost_ret (v := .tuple #[.agg #[.bool false, .string ByteArray.empty], .int .i64 12]) (by simp [results, Try.results71, go_sem]; rfl) rfl ⟨_, _, _, rfl, .inr (.inl ⟨by omega, h1, rfl, rfl, rfl⟩), ((Kp.refl [] w).alloc _)⟩
  have h1 : va vs 0 ≤ y := by omega
  go_enter Try.func71, Try.ntmps71
  go_wp2_with fail
  refine (first17 _ ((unhide HC).kp (((Kp.refl [] w).alloc _)) (by simp) (by simp))).mono ?_
  rintro e w' ⟨rfl, rfl⟩
  go_wp2_with fail
  go_region_with (go_at_call 112; refine (count_read y w (unhide HC) (unhide HR) hm h1 _ _).mono ?_; rintro e w1 ⟨c, rfl, HN, hc0, q0, q1, q2, q3, q4, q5, q6, q7, q8, q9, HK⟩)
  all_goals
    go_wp2
  all_goals
    refine bodyPost_ret (v := .tuple #[.agg #[.bool (vt vs (c - 1)), .string (vb vs (c - 1))], .int .i64 0]) (by simp [results, Try.results71, go_sem, Act.put, q3, q4]) rfl ⟨_, _, _, rfl, .inr (.inr ⟨by omega, h1, c, unhide HN, hc0, rfl, rfl, rfl⟩), ?_⟩
    exact ((((Kp.refl [] w).alloc _).drew.trans0 (unhide HK)).setCell (.inr (Nat.le_refl _)) _).setCell (.inr (Nat.le_refl _)) _
end Go.Proofs.Ytapmlleemopcnac

/- Put of a chain, by its contract. -/
namespace Go.Proofs.Ytapmlleemopcnac
open Go.RowKit
set_option maxRecDepth 20000
attribute [local go_sem ↓] Go.wp_at_zero Go.wp_at_succ

theorem heap_setCell_box {w : World} {b : Nat} {v u : Value} {t : TypeId} (h : w.heap[b]? = some (.cells #[u] t (0, 0))) : (w.setCell ⟨b, 0, none⟩ v).heap[b]? = some (.cells #[v] t (0, 0)) := by
  simp only [World.setCell, Array.getElem?_modify, h, if_true, Option.map_some]
  simp

theorem chn_put {B b g cap : Nat} {vs : List Ver} {w wx w2 : World} (h : Chn B w b g cap vs) (hk : Kp [] w wx) {x : Int} {t : Bool} {s : ByteArray} {g' cap' : Nat}
    (hown : w2.ownsRow B 163 3 (.slice (some ⟨g', 0, none⟩) (vs.length + 1) cap') (vs.length + 1) (vcells vs ++ [.int .i64 x, .bool t, .string s]))
    (hg : wx.grownBy w2 (some g)) (hat : g = g' ∨ g' = wx.heap.size) :
    Chn B (w2.setCell ⟨b, 0, none⟩ (.slice (some ⟨g', 0, none⟩) (vs.length + 1) cap')) b g' cap' (vs ++ [⟨x, t, s⟩]) ∧ Kp [b, g] w (w2.setCell ⟨b, 0, none⟩ (.slice (some ⟨g', 0, none⟩) (vs.length + 1) cap')) := by
  have hx := h.kp hk (by simp) (by simp)
  have hne : b ≠ g' := by
    rcases hat with e | e
    · rw [← e]; exact h.ne
    · have := hx.blt; omega
  have hb2 : w2.heap[b]? = some (.cells #[.slice (some ⟨g, 0, none⟩) vs.length cap] 165 (0, 0)) := by
    rw [hg.block b hx.blt (by simp; exact h.ne)]; exact hx.box
  have hk2 : Kp [b, g] w w2 := ((hk.mono (T := [b, g]) (by simp)).grown hg (fun k hk => by left; simp at hk; simp [hk]))
  refine ⟨⟨?_, ?_, hne, h.hb, by simp⟩, hk2.setCell (.inl (by simp)) _⟩
  · rw [List.length_append]
    refine ⟨by rw [vcells_length]; simp, ?_⟩
    rcases hown.2 with ⟨e, _⟩ | ⟨g2, c2, cur, e, q1, q2, q3, q4, q5, q6⟩
    · simp at e
    · refine .inr ⟨g2, c2, cur, ?_, q1, ?_, q3, q4, q5, ?_⟩
      · exact e
      · simp only [Value.slice.injEq, Option.some.injEq, Addr.mk.injEq, and_true, true_and] at e
        obtain ⟨rfl, rfl⟩ := e
        rw [Below.heap_setCell _ _ _ _ (by simpa using hne.symm)]; exact q2
      · rw [vcells_append]; exact q6
  · rw [List.length_append]; exact heap_setCell_box hb2

theorem put_facts {B b g cap : Nat} {vs : List Ver} {w w1 : World} {x y : Value} (h : Chn B w b g cap vs) (hk : Kp [] (w.alloc (.cells #[x, y] 31)) w1) :
    w1.cell? ⟨b, 0, none⟩ = some (.slice (some ⟨g, 0, none⟩) vs.length cap) ∧ w1.frozen? ⟨b, 0, none⟩ = false ∧ w1.cell? ⟨w.heap.size, 0, none⟩ = some x ∧ w1.cell? ⟨w.heap.size, 1, none⟩ = some y := by
  have h2 := h.kp (((Kp.refl [] w).alloc _).trans0 hk) (by simp) (by simp)
  exact ⟨h2.cell, h2.frozen, hk.cell (by simp) (by simp), hk.cell (by simp) (by simp)⟩

theorem far_facts {W w2 : World} {o : Obj} {b g n cap : Nat} {v : Value} (hg : (W.alloc o).drew.grownBy w2 (Value.slice (some ⟨g, 0, none⟩) n cap).ownBlock) (hne : b ≠ g)
    (q0 : W.cell? ⟨b, 0, none⟩ = some v) (q1 : W.frozen? ⟨b, 0, none⟩ = false) : w2.cell? ⟨b, 0, none⟩ = some v ∧ w2.frozen? ⟨b, 0, none⟩ = false := by
  have hb := World.block_lt_of_cell? W _ q0
  have hn : some b ≠ (Value.slice (some ⟨g, 0, none⟩) n cap).ownBlock := by simp [Value.ownBlock, hne]
  refine ⟨?_, ?_⟩
  · rw [hg.cell_far _ (by simp; exact Nat.lt_succ_of_lt hb) hn]
    simp only [World.cell?_drew]
    rw [World.cell?_alloc_lt _ _ _ hb]; exact q0
  · rw [hg.frozen_far _ (by simp; exact Nat.lt_succ_of_lt hb) hn]
    simp only [World.frozen?_drew]
    rw [World.frozen?_alloc_old _ _ _ (Nat.ne_of_lt hb)]; exact q1

set_option maxHeartbeats 400000 in
theorem put21 {B b g cap : Nat} {vs : List Ver} (x : Int) (t : Bool) (s : ByteArray) (w : World) (h : Chn B w b g cap vs) (hm : vs.length ≤ 900) (hs : s.size ≤ maxLen) (hB : B ≤ w.heap.size) :
    Calls Try.prog 140 #[.pointer (some ⟨b, 0, none⟩), .int .i64 x, .agg #[.bool t, .string s]] w fun e w' => e = .returned (.int .i64 (pcode vs x t s)) ∧ ∃ g' cap', Chn B w' b g' cap' (pvers vs x t s) ∧ (g' = g ∨ w.heap.size ≤ g') ∧ Kp [b, g] w w' := by
  obtain ⟨i0, hi0, hz0, hz1, hz2⟩ := info_parts Try.info163
  have hb := h.blt
  have HC := hide h
  have hlt := h.hg.2
  clear h
  by_cases hc : chk t s = 0
  · by_cases hl : x ≤ va vs (vs.length - 1)
    · have hp : pcode vs x t s = 5 := by unfold pcode; rw [if_pos hc, if_pos hl]
      have hv : pvers vs x t s = vs := by unfold pvers; rw [if_neg (by rw [hp]; decide)]
      rw [hp, hv]
      clear hp hv
      go_enter Try.func140, Try.ntmps140
      go_wp2_with fail
      refine (check13 t s _ hs).mono ?_
      rintro e w1 ⟨rfl, hk⟩
      rw [hc]
      have HK := hide hk
      have HCC := hide hc
      clear hc hk
      go_wp2_with fail
      have h1 := (unhide HC).kp (((Kp.refl [] w).alloc _).trans0 (unhide HK)) (by simp) (by simp)
      refine (last15 _ h1 (by omega)).mono ?_
      rintro e w2 ⟨rfl, m, rfl⟩
      clear h1
      go_wp2
      go_ret
      have h1 := (unhide HC).kp ((((Kp.refl [] w).alloc _).trans0 (unhide HK)).drewN m) (by simp) (by simp)
      exact ⟨rfl, g, cap, h1, .inl rfl, ((((Kp.refl [] w).alloc _).trans0 (unhide HK)).drewN m).mono (by simp)⟩
    · have hp : pcode vs x t s = 0 := by unfold pcode; rw [if_pos hc, if_neg hl]
      have hv : pvers vs x t s = vs ++ [⟨x, t, s⟩] := by unfold pvers; rw [if_pos hp]
      rw [hp, hv]
      clear hp hv
      go_enter Try.func140, Try.ntmps140
      go_wp2_with fail
      refine (check13 t s _ hs).mono ?_
      rintro e w1 ⟨rfl, hk⟩
      rw [hc]
      have HK := hide hk
      have HCC := hide hc
      clear hc hk
      go_wp2_with fail
      have h1 := (unhide HC).kp (((Kp.refl [] w).alloc _).trans0 (unhide HK)) (by simp) (by simp)
      refine (last15 _ h1 (by omega)).mono ?_
      rintro e w2 ⟨rfl, m, rfl⟩
      have HK2 := hide ((unhide HK).drewN m)
      obtain ⟨q0, q1, q2, q3⟩ := put_facts (unhide HC) (unhide HK2)
      have hb1 : b < (w1.drewN m).heap.size := h1.blt
      have hp1 : w.heap.size < (w1.drewN m).heap.size := by have := (unhide HK2).size; simp at this; simp; omega
      have HO := hide (h1.drewN m).own
      clear h1
      generalize w1.drewN m = W at *
      clear HK
      go_wp2_with fail
      go_region_law (refine step_append_lies _ (by rfl) _ _ 48 (by rfl) B 163 i0 _ 3 32 Try.underlying48 hi0 hz0 hz1 hz2 rfl (by omega) (.slice (some ⟨g, 0, none⟩) vs.length cap) vs.length (vcells vs) (by rfl) (((unhide HO).alloc _).drew) ⟨W.heap.size, 0, none⟩ 1 1 [.int .i64 x, .bool t, .string s] (by rfl) (by rfl) (World.news_of_block (cs := #[.int .i64 x, .bool t, .string s]) (t := 163) (fr := (0, 0)) (heap_alloc_new W _)) (by simp [Value.oneCell']) (by omega) (by unfold maxLen; omega) (by omega) (by simp; omega) (W.heap.size + 1) (by simp) ?_; intro gg cap2 w2 hown1 hgrow hat hlt2; obtain ⟨r0, r1⟩ := far_facts hgrow (unhide HC).ne q0 q1; have HO1 := hide hown1; have HG1 := hide hgrow; have HA1 := hide hat; clear hown1 hgrow hat)
      all_goals
        go_wp2
        go_ret
        obtain ⟨z1, z2⟩ := chn_put (unhide HC) ((((Kp.refl [] w).alloc _).trans0 (unhide HK2)).alloc _).drew (unhide HO1) (unhide HG1) (by rcases unhide HA1 with e | e; exact .inl (by simpa [Value.ownBlock] using e); exact .inr (by simpa using e))
        refine ⟨rfl, gg, cap2, z1, ?_, z2⟩
        rcases unhide HA1 with e | e
        · exact .inl (by simpa [Value.ownBlock] using e.symm)
        · right; omega
  · have hp : pcode vs x t s = chk t s := by unfold pcode; rw [if_neg hc]
    have hv : pvers vs x t s = vs := by unfold pvers; rw [if_neg (by rw [hp]; exact hc)]
    rw [hp, hv]
    clear hp hv
    generalize hq : chk t s = q at *
    have HQ := hide hq
    clear hq
    go_enter Try.func140, Try.ntmps140
    go_wp2_with fail
    refine (check13 t s _ hs).mono ?_
    rintro e w1 ⟨rfl, hk⟩
    rw [unhide HQ]
    have HK := hide hk
    clear hk
    go_wp2
    go_ret
    have h1 := (unhide HC).kp (((Kp.refl [] w).alloc _).trans0 (unhide HK)) (by simp) (by simp)
    exact ⟨rfl, g, cap, h1, .inl rfl, (((Kp.refl [] w).alloc _).trans0 (unhide HK)).mono (by simp)⟩
end Go.Proofs.Ytapmlleemopcnac

/- Clear of a chain, by its contract. -/
namespace Go.Proofs.Ytapmlleemopcnac
open Go.RowKit
set_option maxRecDepth 20000
attribute [local go_sem ↓] Go.wp_at_zero Go.wp_at_succ

theorem chn_set {B b g cap : Nat} {vs us : List Ver} {w w1 : World} (h : Chn B w b g cap vs) (hk : Kp [] w w1) (hB : B ≤ w.heap.size) {g' cap' : Nat} (hp : 0 < us.length)
    (hown : w1.ownsRow w.heap.size 163 3 (.slice (some ⟨g', 0, none⟩) us.length cap') us.length (vcells us)) :
    Chn B (w1.setCell ⟨b, 0, none⟩ (.slice (some ⟨g', 0, none⟩) us.length cap')) b g' cap' us ∧ Kp [b] w (w1.setCell ⟨b, 0, none⟩ (.slice (some ⟨g', 0, none⟩) us.length cap')) := by
  have hx := h.kp hk (by simp) (by simp)
  have hg' := (hown.lt g' rfl).1
  have hb := h.blt
  have hne : b ≠ g' := by omega
  refine ⟨⟨?_, heap_setCell_box hx.box, hne, h.hb, hp⟩, (hk.mono (T := [b]) (by simp)).setCell (.inl (by simp)) _⟩
  refine ⟨hown.1, ?_⟩
  rcases hown.2 with ⟨e, _⟩ | ⟨g2, c2, cur, e, q1, q2, q3, q4, q5, q6⟩
  · simp at e
  · refine .inr ⟨g2, c2, cur, e, by omega, ?_, q3, q4, q5, q6⟩
    simp only [Value.slice.injEq, Option.some.injEq, Addr.mk.injEq, and_true, true_and] at e
    obtain ⟨rfl, rfl⟩ := e
    rw [Below.heap_setCell _ _ _ _ (by simpa using hne.symm)]; exact q2

set_option maxHeartbeats 400000 in
theorem clear22 {B b g cap : Nat} {vs : List Ver} (y : Int) (w : World) (h : Chn B w b g cap vs) (hr : Rise vs) (hm : vs.length ≤ 900) (hB : B ≤ w.heap.size) :
    Calls Try.prog 96 #[.pointer (some ⟨b, 0, none⟩), .int .i64 y] w fun e w' => ∃ c : Nat, IsCnt vs y c ∧ e = .returned (.int .i64 ((c - 1 : Nat) : Int)) ∧ ∃ g' cap', Chn B w' b g' cap' (vs.drop (c - 1)) ∧ (g' = g ∨ w.heap.size ≤ g') ∧ Kp [b] w w' := by
  have HC := hide h
  have HR := hide hr
  clear h hr
  go_enter Try.func96, Try.ntmps96
  go_wp2_with fail
  refine (count28 y _ (unhide HC) (unhide HR) (by omega)).mono ?_
  rintro e w1 ⟨c, hcn, rfl, hk⟩
  have hcl := hcn.le
  have h1 := (unhide HC).kp hk (by simp) (by simp)
  have HN := hide hcn
  have HK := hide hk
  have q0 := h1.cell
  have q1 := h1.frozen
  have HC1 := hide h1
  have hcp : vs.length ≤ cap := by
    rcases h1.own.2 with ⟨e, _⟩ | ⟨g2, c2, cur, e, q1, q2, q3, q4, q5, q6⟩
    · simp at e
    · simp only [Value.slice.injEq, Option.some.injEq, Addr.mk.injEq, and_true, true_and] at e
      obtain ⟨rfl, rfl⟩ := e
      exact q3
  clear hcn hk h1
  by_cases hc : c ≤ 1
  · have e0 : c - 1 = 0 := by omega
    go_wp2
    go_ret
    refine ⟨c, unhide HN, ret_int (by omega), g, cap, ?_, .inl rfl, (unhide HK).mono (by simp)⟩
    rw [e0, List.drop_zero]; exact unhide HC1
  · obtain ⟨d, rfl⟩ : ∃ d, c = d + 2 := ⟨c - 2, by omega⟩
    go_wp2_with fail
    have hus : (vs.drop (d + 1)).length = vs.length - (d + 1) := by simp
    rw [← hus]
    have hsl := (unhide HC1).sla.drop (d + 1)
    rw [Nat.zero_add] at hsl
    refine (clone29 g ((d + 1) * 3) (cap - (d + 1)) _ hsl (by omega) (by omega)).mono ?_
    rintro e w2 ⟨g', cap', rfl, hg', hown, hk2⟩
    obtain ⟨z1, z2⟩ := chn_set (unhide HC1) hk2 (Nat.le_trans hB (unhide HK).size) (by omega) hown
    have h2 := (unhide HC1).kp hk2 (by simp) (by simp)
    have q2 := h2.cell
    have q3 := h2.frozen
    have hsz := (unhide HK).size
    have Z1 := hide z1
    have Z2 := hide z2
    have HUS := hide hus
    clear z1 z2 hown hk2 h2 hus hsl
    generalize hu : vs.drop (d + 1) = us at *
    have HU := hide hu
    clear hu
    go_wp2
    go_ret
    refine ⟨d + 2, unhide HN, ret_int (by omega), g', cap', ?_, .inr (by omega), ?_⟩
    · show Chn B _ b g' cap' (vs.drop (d + 1))
      rw [unhide HU]; exact unhide Z1
    · exact ((unhide HK).mono (by simp)).trans (unhide Z2) (by simp)
end Go.Proofs.Ytapmlleemopcnac

/- The document's own line of versions: New, Last, First and Read, by their contracts. -/
namespace Go.Proofs.Ytapmlleemopcnac
open Go.RowKit
set_option maxRecDepth 20000
attribute [local go_sem ↓] Go.wp_at_zero Go.wp_at_succ

set_option maxHeartbeats 400000 in
theorem llast16 {vs : List Ver} (g o cap : Nat) (w : World) (h : SlA w g o vs) (hp : 0 < vs.length) (hm : vs.length ≤ 1000) :
    Calls Try.prog 74 #[.slice (some ⟨g, o, none⟩) vs.length cap] w fun e w' => e = .returned (.int .i64 (va vs (vs.length - 1))) ∧ w' = w := by
  have h2 := h.at0 (vs.length - 1) (by omega)
  obtain ⟨d, hd⟩ : ∃ d, vs.length = d + 1 := ⟨vs.length - 1, by omega⟩
  rw [hd] at h2 ⊢
  rw [show d + 1 - 1 = d by omega] at h2 ⊢
  have hd2 : (d : Int) + 1 ≤ 1000 := by omega
  clear hp hm h hd
  generalize va vs d = x at *
  go_enter Try.func74, Try.ntmps74
  go_wp2
  go_ret
  exact ⟨rfl, rfl⟩

set_option maxHeartbeats 400000 in
theorem lfirst18 {vs : List Ver} (g o cap : Nat) (w : World) (h : SlA w g o vs) (hp : 0 < vs.length) :
    Calls Try.prog 69 #[.slice (some ⟨g, o, none⟩) vs.length cap] w fun e w' => e = .returned (.int .i64 (va vs 0)) ∧ w' = w := by
  have h2 := h.at0 0 hp
  simp only [Nat.zero_mul, Nat.add_zero] at h2
  clear h
  generalize va vs 0 = x at *
  go_enter Try.func69, Try.ntmps69
  go_wp2
  go_ret
  exact ⟨rfl, rfl⟩

set_option maxHeartbeats 400000 in
theorem lnew25 (w : World) :
    Calls Try.prog 95 #[] w fun e w' => e = .returned (.slice (some ⟨w.heap.size, 0, none⟩) 1 1) ∧ SlA w' w.heap.size 0 [dv] ∧ Kp [] w w' := by
  go_enter Try.func95, Try.ntmps95
  go_wp2
  go_ret
  refine ⟨rfl, ?_, (Kp.refl [] w).alloc _⟩
  intro j u hu
  rw [Nat.zero_add, World.cell?_alloc_new]
  have e : (#[Value.int IntKind.i64 0, Value.bool false, Value.string ByteArray.empty] : Array Value)[j]? = [Value.int IntKind.i64 0, Value.bool false, Value.string ByteArray.empty][j]? := by simp
  exact e.trans hu

theorem hi_step {vs : List Ver} {y : Int} {d : Nat} (h : ∀ j, d + 1 ≤ j → j < vs.length → y < va vs j) (hd : y < va vs d) : ∀ j, d ≤ j → j < vs.length → y < va vs j := by
  intro j h1 h2
  rcases Nat.lt_or_ge d j with e | e
  · exact h j e h2
  · have : j = d := by omega
    rw [this]; exact hd

def RdEnd (vs : List Ver) (y : Int) (w : World) (e : Ending) (w' : World) : Prop := ∃ t s code, e = .returned (.tuple #[.agg #[.bool t, .string s], .int .i64 code]) ∧ Rd vs y t s code ∧ Kp [] w w'
theorem rdEnd_mk {vs : List Ver} {y : Int} {w w' : World} (t : Bool) (s : ByteArray) (c : Int) (h : Rd vs y t s c) (hk : Kp [] w w') : RdEnd vs y w (.returned (.tuple #[.agg #[.bool t, .string s], .int .i64 c])) w' := ⟨t, s, c, rfl, h, hk⟩

set_option maxHeartbeats 400000 in
theorem lread10 {vs : List Ver} (g o cap : Nat) (y : Int) (w : World) (h : SlA w g o vs) (hr : Rise vs) (hp : 0 < vs.length) (hm : vs.length ≤ 1000) :
    Calls Try.prog 72 #[.slice (some ⟨g, o, none⟩) vs.length cap, .int .i64 y] w fun e w' => RdEnd vs y w e w' := by
  have hg := h.lt hp
  have HS := hide h
  have HR := hide hr
  clear h hr
  by_cases h0 : y < 0
  · go_enter Try.func72, Try.ntmps72
    go_wp2_with fail
    exact bodyPost_ret (v := .tuple #[.agg #[.bool false, .string ByteArray.empty], .int .i64 1]) (by simp [results, Try.results72, go_sem]; rfl) rfl (rdEnd_mk _ _ _ (.inl ⟨h0, rfl, rfl, rfl⟩) ((Kp.refl [] w).alloc _))
  go_enter Try.func72, Try.ntmps72
  go_wp2_with fail
  go_loop [6] (fun i => ∃ k : Nat, k ≤ vs.length ∧ i = .int .i64 ((k : Int) - 1) ∧ Hid (∀ j, k ≤ j → j < vs.length → y < va vs j)) (fun i => (intOf i + 1).toNat)
  case atStart => exact ⟨vs.length, Nat.le_refl _, rfl, fun j h1 h2 => by omega⟩
  case round =>
    obtain ⟨k, hk, rfl, HH⟩ := hrel
    by_cases hlt : k = 0
    · subst hlt
      go_wp2
      exact bodyPost_ret (v := .tuple #[.agg #[.bool false, .string ByteArray.empty], .int .i64 12]) (by simp [results, Try.results72, go_sem]; rfl) rfl (rdEnd_mk _ _ _ (.inr (.inl ⟨by omega, unhide HH 0 (Nat.le_refl _) hp, rfl, rfl, rfl⟩)) ((Kp.refl [] w).alloc _))
    · obtain ⟨d, rfl⟩ : ∃ d, k = d + 1 := ⟨k - 1, by omega⟩
      have q0 := (unhide HS).at0 d (by omega)
      have q1 := (unhide HS).at1 d (by omega)
      have q2 : w.cell? ⟨g, o + d * 3 + 1 + 1, none⟩ = some (.string (vb vs d)) := (unhide HS).at2 d (by omega)
      by_cases hy : va vs d ≤ y
      · have hc : IsCnt vs y (d + 1) := ⟨hk, fun j hj => by have := (unhide HR).le (show j ≤ d by omega) (by omega); omega, unhide HH⟩
        have h00 := (unhide HR).le (show 0 ≤ d by omega) (by omega)
        have HN := hide hc
        have H00 := hide (Int.le_trans h00 hy)
        clear hc h00
        go_wp2
        refine bodyPost_ret (v := .tuple #[.agg #[.bool (vt vs d), .string (vb vs d)], .int .i64 0]) (by simp [results, Try.results72, go_sem]) rfl (rdEnd_mk _ _ _ (.inr (.inr ⟨by omega, unhide H00, d + 1, unhide HN, by omega, rfl, rfl, rfl⟩)) ((Kp.refl [] w).alloc _))
      · go_wp2
        go_round
        case rel => exact ⟨d, by omega, by go_num, hi_step (unhide HH) (by omega)⟩
        case measure => simp [intOf]
end Go.Proofs.Ytapmlleemopcnac

/- Put of the line, by its contract. -/
namespace Go.Proofs.Ytapmlleemopcnac
open Go.RowKit
set_option maxRecDepth 20000
attribute [local go_sem ↓] Go.wp_at_zero Go.wp_at_succ

/-- A line's memory: the variable r holds the slice of its versions. -/
structure Lin (B : Nat) (w : World) (r g o cap : Nat) (vs : List Ver) : Prop where
  box : w.heap[r]? = some (.cells #[.slice (some ⟨g, o, none⟩) vs.length cap] 49 (0, 0))
  sla : SlA w g o vs
  ne : r ≠ g
  hr : B ≤ r
  hg : B ≤ g
  pos : 0 < vs.length
  cap : vs.length ≤ cap

theorem Lin.rlt {B : Nat} {w : World} {r g o cap : Nat} {vs : List Ver} (h : Lin B w r g o cap vs) : r < w.heap.size := (Array.getElem?_eq_some_iff.1 h.box).1
theorem Lin.glt {B : Nat} {w : World} {r g o cap : Nat} {vs : List Ver} (h : Lin B w r g o cap vs) : g < w.heap.size := h.sla.lt h.pos
theorem Lin.cell {B : Nat} {w : World} {r g o cap : Nat} {vs : List Ver} (h : Lin B w r g o cap vs) : w.cell? ⟨r, 0, none⟩ = some (.slice (some ⟨g, o, none⟩) vs.length cap) := by
  rw [cell_of_row w r 0 _ _ _ h.box]; rfl
theorem Lin.frozen {B : Nat} {w : World} {r g o cap : Nat} {vs : List Ver} (h : Lin B w r g o cap vs) : w.frozen? ⟨r, 0, none⟩ = false := by simp [World.frozen?, h.box]
theorem Lin.kp {B : Nat} {S : List Nat} {w w' : World} {r g o cap : Nat} {vs : List Ver} (h : Lin B w r g o cap vs) (hk : Kp S w w') (hr : r ∉ S) (hg : g ∉ S) : Lin B w' r g o cap vs :=
  ⟨by rw [hk.block r h.rlt hr]; exact h.box, h.sla.kp hk hg, h.ne, h.hr, h.hg, h.pos, h.cap⟩
theorem Lin.drewN {B : Nat} {w : World} {r g o cap : Nat} {vs : List Ver} (h : Lin B w r g o cap vs) (n : Nat) : Lin B (w.drewN n) r g o cap vs := ⟨h.box, h.sla, h.ne, h.hr, h.hg, h.pos, h.cap⟩

theorem lput_facts {B r g o cap : Nat} {vs : List Ver} {w w1 : World} {x y : Value} (h : Lin B w r g o cap vs) (hk : Kp [] (w.alloc (.cells #[x, y] 31)) w1) :
    w1.cell? ⟨r, 0, none⟩ = some (.slice (some ⟨g, o, none⟩) vs.length cap) ∧ w1.frozen? ⟨r, 0, none⟩ = false ∧ w1.cell? ⟨w.heap.size, 0, none⟩ = some x ∧ w1.cell? ⟨w.heap.size, 1, none⟩ = some y := by
  have h2 := h.kp (((Kp.refl [] w).alloc _).trans0 hk) (by simp) (by simp)
  exact ⟨h2.cell, h2.frozen, hk.cell (by simp) (by simp), hk.cell (by simp) (by simp)⟩

theorem kp_none {w wc w3 : World} (h : Kp [] w wc) (hg : wc.grownBy w3 (Value.slice none 0 0).ownBlock) : Kp [] w w3 := h.grown hg (fun k hk => by simp [Value.ownBlock] at hk)
theorem block_none {wc w3 : World} {k : Nat} {o : Obj} (hb : wc.heap[k]? = some o) (hg : wc.grownBy w3 (Value.slice none 0 0).ownBlock) : w3.heap[k]? = some o := by
  rw [hg.block k (Array.getElem?_eq_some_iff.1 hb).1 (by simp [Value.ownBlock])]; exact hb
theorem far2_facts {wc w4 : World} {b g n cap : Nat} {v : Value} (hg : wc.grownBy w4 (Value.slice (some ⟨g, 0, none⟩) n cap).ownBlock) (hne : b ≠ g)
    (q0 : wc.cell? ⟨b, 0, none⟩ = some v) (q1 : wc.frozen? ⟨b, 0, none⟩ = false) : w4.cell? ⟨b, 0, none⟩ = some v ∧ w4.frozen? ⟨b, 0, none⟩ = false := by
  have hb := World.block_lt_of_cell? wc _ q0
  have hn : some b ≠ (Value.slice (some ⟨g, 0, none⟩) n cap).ownBlock := by simp [Value.ownBlock, hne]
  exact ⟨by rw [hg.cell_far _ hb hn]; exact q0, by rw [hg.frozen_far _ hb hn]; exact q1⟩

theorem lin_put {B r g o cap : Nat} {vs : List Ver} {w2 wc w4 : World} (h : Lin B w2 r g o cap vs) (hk : Kp [] w2 wc) {x : Int} {t : Bool} {s : ByteArray} {g1 cap1 g2 cap2 : Nat}
    (hown : w4.ownsRow B 163 3 (.slice (some ⟨g2, 0, none⟩) (vs.length + 1) cap2) (vs.length + 1) (vcells vs ++ [.int .i64 x, .bool t, .string s]))
    (hg : wc.grownBy w4 (Value.slice (some ⟨g1, 0, none⟩) vs.length cap1).ownBlock) (hg1 : w2.heap.size ≤ g1) (hat : (Value.slice (some ⟨g1, 0, none⟩) vs.length cap1).ownBlock = some g2 ∨ g2 = wc.heap.size) :
    w4.cell? ⟨r, 0, none⟩ = some (.slice (some ⟨g, o, none⟩) vs.length cap) ∧ w4.frozen? ⟨r, 0, none⟩ = false ∧ w2.heap.size ≤ g2 ∧
      Hid (Lin B (w4.setCell ⟨r, 0, none⟩ (.slice (some ⟨g2, 0, none⟩) (vs.length + 1) cap2)) r g2 0 cap2 (vs ++ [⟨x, t, s⟩])) ∧ Hid (Kp [r] w2 (w4.setCell ⟨r, 0, none⟩ (.slice (some ⟨g2, 0, none⟩) (vs.length + 1) cap2))) := by
  have hrl := h.rlt
  have hc := h.kp hk (by simp) (by simp)
  have hg2 : w2.heap.size ≤ g2 := by
    rcases hat with e | e
    · have : g1 = g2 := by simpa [Value.ownBlock] using e
      omega
    · have := hk.size; omega
  obtain ⟨f0, f1⟩ := far2_facts hg (show r ≠ g1 by omega) hc.cell hc.frozen
  have hb4 : w4.heap[r]? = some (.cells #[.slice (some ⟨g, o, none⟩) vs.length cap] 49 (0, 0)) := by
    rw [hg.block r hc.rlt (by simp [Value.ownBlock]; omega)]; exact hc.box
  have hk4 : Kp [r] w2 w4 := (hk.mono (T := [r]) (by simp)).grown hg (fun k hk => by right; have : g1 = k := by simpa [Value.ownBlock] using hk
                                                                                     omega)
  have hcap : vs.length + 1 ≤ cap2 := by
    rcases hown.2 with ⟨e, _⟩ | ⟨g3, c3, cur, e, q1, q2, q3, q4, q5, q6⟩
    · simp at e
    · simp only [Value.slice.injEq, Option.some.injEq, Addr.mk.injEq, and_true, true_and] at e
      obtain ⟨rfl, rfl⟩ := e
      exact q3
  have hv : vcells vs ++ [.int .i64 x, .bool t, .string s] = vcells (vs ++ [⟨x, t, s⟩]) := by rw [vcells_append]; rfl
  have hl : vs.length + 1 = (vs ++ [(⟨x, t, s⟩ : Ver)]).length := by simp
  have hB2 := (hown.lt g2 rfl).1
  rw [hv, hl] at hown
  have hs := sla_own hown
  rw [hl] at hcap ⊢
  refine ⟨f0, f1, hg2, ⟨heap_setCell_box hb4, ?_, by omega, h.hr, hB2, by simp, hcap⟩, hk4.setCell (.inl (by simp)) _⟩
  intro j u hu
  rw [World.cell?_setCell_other _ _ _ _ (by intro e; have := congrArg Addr.block e; simp at this; omega)]
  exact hs j u hu

set_option maxHeartbeats 1000000 in
theorem lput26 {B r g o cap : Nat} {vs : List Ver} (x : Int) (t : Bool) (s : ByteArray) (w : World) (h : Lin B w r g o cap vs) (hm : vs.length ≤ 900) (hs : s.size ≤ maxLen) (hB : B ≤ w.heap.size) :
    Calls Try.prog 131 #[.pointer (some ⟨r, 0, none⟩), .int .i64 x, .agg #[.bool t, .string s]] w fun e w' => e = .returned (.int .i64 (pcode vs x t s)) ∧ ∃ g' o' cap', Lin B w' r g' o' cap' (pvers vs x t s) ∧ (g' = g ∨ w.heap.size ≤ g') ∧ Kp [r] w w' := by
  obtain ⟨i0, hi0, hz0, hz1, hz2⟩ := info_parts Try.info163
  have hrl := h.rlt
  have hp0 := h.pos
  have HC := hide h
  clear h
  by_cases hc : chk t s = 0
  · by_cases hl : x ≤ va vs (vs.length - 1)
    · have hp : pcode vs x t s = 5 := by unfold pcode; rw [if_pos hc, if_pos hl]
      have hv : pvers vs x t s = vs := by unfold pvers; rw [if_neg (by rw [hp]; decide)]
      rw [hp, hv]
      clear hp hv
      go_enter Try.func131, Try.ntmps131
      go_wp2_with fail
      refine (fault14 t s _ hs).mono ?_
      rintro e w1 ⟨rfl, hk⟩
      rw [hc]
      obtain ⟨q0, q1, q2, q3⟩ := lput_facts (unhide HC) hk
      have HK := hide hk
      have HCC := hide hc
      clear hc hk
      go_wp2_with fail
      have h1 := (unhide HC).kp (((Kp.refl [] w).alloc _).trans0 (unhide HK)) (by simp) (by simp)
      refine (llast16 g o cap _ h1.sla hp0 (by omega)).mono ?_
      rintro e w2 ⟨rfl, rfl⟩
      have H1 := hide h1
      clear h1
      go_wp2
      go_ret
      exact ⟨rfl, g, o, cap, unhide H1, .inl rfl, (((Kp.refl [] w).alloc _).trans0 (unhide HK)).mono (by simp)⟩
    · have hp : pcode vs x t s = 0 := by unfold pcode; rw [if_pos hc, if_neg hl]
      have hv : pvers vs x t s = vs ++ [⟨x, t, s⟩] := by unfold pvers; rw [if_pos hp]
      rw [hp, hv]
      clear hp hv
      go_enter Try.func131, Try.ntmps131
      go_wp2_with fail
      refine (fault14 t s _ hs).mono ?_
      rintro e w1 ⟨rfl, hk⟩
      rw [hc]
      obtain ⟨q0, q1, q2, q3⟩ := lput_facts (unhide HC) hk
      have HK := hide hk
      have HCC := hide hc
      clear hc hk
      go_wp2_with fail
      have h1 := (unhide HC).kp (((Kp.refl [] w).alloc _).trans0 (unhide HK)) (by simp) (by simp)
      refine (llast16 g o cap _ h1.sla hp0 (by omega)).mono ?_
      rintro e w2 ⟨rfl, rfl⟩
      have hr1 := h1.rlt
      have hp1 : w.heap.size < w2.heap.size := by have := (unhide HK).size; simp at this; omega
      have N0 := hide (h1.sla.kp (Kp.refl [] w2).drew (by simp)).news
      have N1 := hide (h1.sla.kp ((Kp.refl [] w2).alloc (.cells #[.int .i64 x, .bool t, .string s] 163)).drew (by simp)).news
      have H1 := hide h1
      clear h1
      go_wp2_with fail
      go_region_law (first | (refine step_append_lies _ (by rfl) _ _ 49 (by rfl) B 163 i0 _ 3 32 Try.underlying49 hi0 hz0 hz1 hz2 rfl (by omega) (.slice none 0 0) 0 [] (by rfl) (World.ownsRow_nil _ _ _ _) ⟨g, o, none⟩ vs.length cap (vcells vs) (by rfl) (vcells_length vs) (by first | exact unhide N0 | exact unhide N1) (vcells_one vs) hp0 (by unfold maxLen; omega) (by omega) (by simp; omega) _ rfl ?_; intro g1 cap1 w3 hown1 hgrow1 hat1 hlt1; have hk3 : Kp [] w2 w3 := (by first | exact kp_none (Kp.refl [] w2).drew hgrow1 | exact kp_none ((Kp.refl [] w2).alloc _).drew hgrow1); have c0 := hk3.cell (p := ⟨r, 0, none⟩) (by simp) q0; have c1 : w3.frozen? ⟨r, 0, none⟩ = false := (by rw [hk3.frozen hr1 (by simp)]; exact q1); have c2 := hk3.cell (p := ⟨w.heap.size, 0, none⟩) (by simp) q2; have c3 := hk3.cell (p := ⟨w.heap.size, 1, none⟩) (by simp) q3; simp only [Nat.zero_add, List.nil_append] at hown1; have hg1 : w2.heap.size ≤ g1 := (by rcases hat1 with e | e; simp [Value.ownBlock] at e; simp at e; omega); have hr3 := Nat.lt_of_lt_of_le hr1 hk3.size; have HO1 := hide hown1; have HG1 := hide hgrow1; have HA1 := hide hat1; have HK3 := hide hk3; clear hown1 hgrow1 hat1 hk3) | (refine step_append_lies _ (by rfl) _ _ 49 (by rfl) B 163 i0 _ 3 32 Try.underlying49 hi0 hz0 hz1 hz2 rfl (by omega) (.slice (some ⟨g1, 0, none⟩) vs.length cap1) vs.length (vcells vs) (by rfl) ((unhide HO1).alloc _) ⟨w3.heap.size, 0, none⟩ 1 1 [.int .i64 x, .bool t, .string s] (by rfl) (by rfl) (World.news_of_block (cs := #[.int .i64 x, .bool t, .string s]) (t := 163) (fr := (0, 0)) (heap_alloc_new w3 _)) (by simp [Value.oneCell']) (by omega) (by unfold maxLen; omega) (by omega) (by simp; omega) _ rfl ?_; intro g2 cap2 w4 hown2 hgrow2 hat2 hlt2; obtain ⟨f0, f1, f2, F3, F4⟩ := lin_put (unhide H1) ((unhide HK3).alloc _) hown2 hgrow2 hg1 hat2; clear hown2 hgrow2 hat2) | (refine step_append_lies _ (by rfl) _ _ 49 (by rfl) B 163 i0 _ 3 32 Try.underlying49 hi0 hz0 hz1 hz2 rfl (by omega) (.slice (some ⟨g1, 0, none⟩) vs.length cap1) vs.length (vcells vs) (by rfl) (unhide HO1) ⟨w2.heap.size, 0, none⟩ 1 1 [.int .i64 x, .bool t, .string s] (by rfl) (by rfl) (World.news_of_block (cs := #[.int .i64 x, .bool t, .string s]) (t := 163) (fr := (0, 0)) (block_none (wc := (w2.alloc (.cells #[.int .i64 x, .bool t, .string s] 163)).drew) (heap_alloc_new w2 _) (unhide HG1))) (by simp [Value.oneCell']) (by omega) (by unfold maxLen; omega) (by omega) (by omega) _ rfl ?_; intro g2 cap2 w4 hown2 hgrow2 hat2 hlt2; obtain ⟨f0, f1, f2, F3, F4⟩ := lin_put (unhide H1) (unhide HK3) hown2 hgrow2 hg1 hat2; clear hown2 hgrow2 hat2))
      all_goals
        go_wp2
        go_ret
        exact ⟨rfl, g2, 0, cap2, unhide F3, .inr (by omega), ((((Kp.refl [] w).alloc _).trans0 (unhide HK)).mono (by simp)).trans (unhide F4) (by simp)⟩
  · have hp : pcode vs x t s = chk t s := by unfold pcode; rw [if_neg hc]
    have hv : pvers vs x t s = vs := by unfold pvers; rw [if_neg (by rw [hp]; exact hc)]
    rw [hp, hv]
    clear hp hv
    generalize hq : chk t s = q at *
    have HQ := hide hq
    clear hq
    go_enter Try.func131, Try.ntmps131
    go_wp2_with fail
    refine (fault14 t s _ hs).mono ?_
    rintro e w1 ⟨rfl, hk⟩
    rw [unhide HQ]
    have HK := hide hk
    clear hk
    go_wp2
    go_ret
    have h1 := (unhide HC).kp (((Kp.refl [] w).alloc _).trans0 (unhide HK)) (by simp) (by simp)
    exact ⟨rfl, g, o, cap, h1, .inl rfl, (((Kp.refl [] w).alloc _).trans0 (unhide HK)).mono (by simp)⟩
end Go.Proofs.Ytapmlleemopcnac
