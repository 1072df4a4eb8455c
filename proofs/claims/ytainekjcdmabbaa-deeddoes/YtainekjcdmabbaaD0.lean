/- Plain words for deeds: what it read (keys, one behind the other), what it wrote (pairs, a: the key), and what each call tells of them; no statement of the program yet. -/
import Derived.Test.YtainekjcdmabbaaX6
namespace Go.Proofs.Ytainekjcdmabbaa
open Go.RowKit
set_option maxRecDepth 20000

/-- The last of the first i pairs that bears the key k. -/
def lw (ws : List Ver) (k : Int) : Nat → Option Ver
  | 0 => none
  | i + 1 => if va ws i = k then some ⟨k, vt ws i, vb ws i⟩ else lw ws k i
/-- What was written last to the key k. -/
def lwr (ws : List Ver) (k : Int) : Option Ver := lw ws k ws.length

theorem lw_append (ws us : List Ver) (k : Int) : ∀ i, i ≤ ws.length → lw (ws ++ us) k i = lw ws k i := by
  intro i
  induction i with
  | zero => intro _; rfl
  | succ i ih =>
    intro hi
    simp only [lw]
    rw [va_append_left _ _ (by omega), vt_append_left _ _ (by omega), vb_append_left _ _ (by omega), ih (by omega)]
theorem lwr_put (ws : List Ver) (k : Int) (v : Ver) : lwr (ws ++ [v]) k = if v.a = k then some ⟨k, v.t, v.s⟩ else lwr ws k := by
  unfold lwr
  simp only [List.length_append, List.length_cons, List.length_nil, Nat.zero_add, lw]
  rw [va_concat, vt_concat, vb_concat, lw_append _ _ _ _ (Nat.le_refl _)]
theorem lwr_nil (k : Int) : lwr [] k = none := rfl

/-- What Get tells: the code (a), and the value; and the keys read behind it. -/
def dg (f : Nat → List Ver) (n : Nat) (y : Int) (ws : List Ver) (k : Int) : Ver :=
  if keyB k = true then (match lwr ws k with | some v => ⟨0, v.t, v.s⟩ | none => tr f n k y) else ⟨1, false, ByteArray.empty⟩
def dr (f : Nat → List Ver) (n : Nat) (y : Int) (rs : List Int) (ws : List Ver) (k : Int) : List Int :=
  if keyB k = true ∧ lwr ws k = none ∧ (tr f n k y).a = 0 then rs ++ [k] else rs

/-- What Put tells, and what is written behind it. -/
def dpc (md k : Int) (t : Bool) (s : ByteArray) : Int := if keyB k = true then (if md = 3 then 3 else chk t s) else 1
def dpw (md : Int) (ws : List Ver) (k : Int) (t : Bool) (s : ByteArray) : List Ver := if dpc md k t s = 0 then ws ++ [⟨k, t, s⟩] else ws

/-- What List tells, from the key k on, m keys, behind acc; and the keys read. -/
def dgo (f : Nat → List Ver) (n : Nat) (y : Int) (ws : List Ver) : Nat → Nat → List Ver → List Int → List Ver × Int × List Int
  | _, 0, acc, rs => (acc, 0, rs)
  | k, m + 1, acc, rs =>
    if (dg f n y ws k).a = 0 then
      (if (dg f n y ws k).t = true then dgo f n y ws (k + 1) m (acc ++ [⟨k, (dg f n y ws k).t, (dg f n y ws k).s⟩]) (dr f n y rs ws k) else dgo f n y ws (k + 1) m acc (dr f n y rs ws k))
    else ([], (dg f n y ws k).a, dr f n y rs ws k)
def dls (f : Nat → List Ver) (n : Nat) (y : Int) (ws : List Ver) (rs : List Int) (fr to_ : Int) : List Ver × Int × List Int :=
  if keyB fr = true ∧ keyB to_ = true then dgo f n y ws fr.toNat (to_ + 1 - fr).toNat [] rs else ([], 1, rs)

/-- Of the first m keys those that were read, and those that were written. -/
def rk (rs : List Int) : Nat → List Int
  | 0 => []
  | m + 1 => if (m : Int) ∈ rs then rk rs m ++ [(m : Int)] else rk rs m
def wk (ws : List Ver) : Nat → List Ver
  | 0 => []
  | m + 1 => match lwr ws m with | some v => wk ws m ++ [⟨m, v.t, v.s⟩] | none => wk ws m

/-- One of the first m keys was written (read) by it, and has what it has since a commit above y. -/
def cls (f : Nat → List Ver) (y : Int) (ws : List Ver) : Nat → Bool
  | 0 => false
  | m + 1 => if (lwr ws m).isSome = true ∧ y < snc f m then true else cls f y ws m
def stl (f : Nat → List Ver) (y : Int) (rs : List Int) : Nat → Bool
  | 0 => false
  | m + 1 => if (m : Int) ∈ rs ∧ y < snc f m then true else stl f y rs m
/-- What May tells. -/
def dm (f : Nat → List Ver) (md y : Int) (rs : List Int) (ws : List Ver) : Int :=
  if cls f y ws 8 = true then 10 else if md = 2 ∧ stl f y rs 8 = true then 11 else 0

theorem rk_len (rs : List Int) : ∀ m, (rk rs m).length ≤ m := by
  intro m
  induction m with
  | zero => simp [rk]
  | succ m ih => simp only [rk]; split <;> (try simp) <;> omega
theorem wk_len (ws : List Ver) : ∀ m, (wk ws m).length ≤ m := by
  intro m
  induction m with
  | zero => simp [wk]
  | succ m ih => simp only [wk]; split <;> (try simp) <;> omega

theorem dr_len (f : Nat → List Ver) (n : Nat) (y : Int) (rs : List Int) (ws : List Ver) (k : Int) : (dr f n y rs ws k).length ≤ rs.length + 1 := by
  unfold dr; split <;> simp
theorem dpw_len (md : Int) (ws : List Ver) (k : Int) (t : Bool) (s : ByteArray) : (dpw md ws k t s).length ≤ ws.length + 1 := by
  unfold dpw; split <;> simp
theorem dgo_len (f : Nat → List Ver) (n : Nat) (y : Int) (ws : List Ver) : ∀ (m k : Nat) (acc : List Ver) (rs : List Int), (dgo f n y ws k m acc rs).1.length ≤ acc.length + m ∧ (dgo f n y ws k m acc rs).2.2.length ≤ rs.length + m := by
  intro m
  induction m with
  | zero => intro k acc rs; simp [dgo]
  | succ m ih =>
    intro k acc rs
    have hd := dr_len f n y rs ws k
    simp only [dgo]
    split
    · split
      · have := ih (k + 1) (acc ++ [⟨k, (dg f n y ws k).t, (dg f n y ws k).s⟩]) (dr f n y rs ws k)
        simp only [List.length_append, List.length_cons, List.length_nil] at this
        omega
      · have := ih (k + 1) acc (dr f n y rs ws k)
        omega
    · simp; omega
theorem dls_len (f : Nat → List Ver) (n : Nat) (y : Int) (ws : List Ver) (rs : List Int) (fr to_ : Int) : (dls f n y ws rs fr to_).1.length ≤ 8 ∧ (dls f n y ws rs fr to_).2.2.length ≤ rs.length + 8 := by
  unfold dls
  split
  · rename_i h
    have h1 := h.1
    have h2 := h.2
    simp [keyB] at h1 h2
    have := dgo_len f n y ws (to_ + 1 - fr).toNat fr.toNat [] rs
    simp only [List.length_nil] at this
    omega
  · simp

theorem dgo_more {f : Nat → List Ver} {n k m : Nat} {y : Int} {ws acc : List Ver} {rs : List Int} {R : List Ver × Int × List Int} (h : dgo f n y ws k (m + 1) acc rs = R) (h0 : (dg f n y ws k).a = 0) (ht : (dg f n y ws k).t = true) :
    dgo f n y ws (k + 1) m (acc ++ [⟨k, (dg f n y ws k).t, (dg f n y ws k).s⟩]) (dr f n y rs ws k) = R := by
  rw [← h]; simp only [dgo]; rw [if_pos h0, if_pos ht]
theorem dgo_skip {f : Nat → List Ver} {n k m : Nat} {y : Int} {ws acc : List Ver} {rs : List Int} {R : List Ver × Int × List Int} (h : dgo f n y ws k (m + 1) acc rs = R) (h0 : (dg f n y ws k).a = 0) (ht : ¬ (dg f n y ws k).t = true) :
    dgo f n y ws (k + 1) m acc (dr f n y rs ws k) = R := by
  rw [← h]; simp only [dgo]; rw [if_pos h0, if_neg ht]
theorem dgo_stop {f : Nat → List Ver} {n k m : Nat} {y : Int} {ws acc : List Ver} {rs : List Int} {R : List Ver × Int × List Int} (h : dgo f n y ws k (m + 1) acc rs = R) (h0 : ¬ (dg f n y ws k).a = 0) : R = ([], (dg f n y ws k).a, dr f n y rs ws k) := by
  rw [← h]; simp only [dgo]; rw [if_neg h0]
theorem dgo_end {f : Nat → List Ver} {n k m : Nat} {y : Int} {ws acc : List Ver} {rs : List Int} {R : List Ver × Int × List Int} (h : dgo f n y ws k m acc rs = R) (h0 : m = 0) : R = (acc, 0, rs) := by
  subst h0; rw [← h]; rfl

/-- A deed's box: the mode, the commit, and of each key whether it was read, whether it was written, and what was written last. -/
def ncell (rs : List Int) (ws : List Ver) (k : Nat) : Nat → Value
  | 0 => .bool (decide ((k : Int) ∈ rs))
  | 1 => .bool (lwr ws k).isSome
  | 2 => .bool ((lwr ws k).getD dv).t
  | _ => .string ((lwr ws k).getD dv).s
/-- The cells of all notes. -/
def nlist (c : Nat → Nat → Value) : List Value :=
  [c 0 0, c 0 1, c 0 2, c 0 3, c 1 0, c 1 1, c 1 2, c 1 3, c 2 0, c 2 1, c 2 2, c 2 3, c 3 0, c 3 1, c 3 2, c 3 3,
    c 4 0, c 4 1, c 4 2, c 4 3, c 5 0, c 5 1, c 5 2, c 5 3, c 6 0, c 6 1, c 6 2, c 6 3, c 7 0, c 7 1, c 7 2, c 7 3]
def dcells (md y : Int) (c : Nat → Nat → Value) : Array Value :=
  #[.int .i64 md, .int .i64 y, c 0 0, c 0 1, c 0 2, c 0 3, c 1 0, c 1 1, c 1 2, c 1 3, c 2 0, c 2 1, c 2 2, c 2 3, c 3 0, c 3 1, c 3 2, c 3 3,
    c 4 0, c 4 1, c 4 2, c 4 3, c 5 0, c 5 1, c 5 2, c 5 3, c 6 0, c 6 1, c 6 2, c 6 3, c 7 0, c 7 1, c 7 2, c 7 3]

theorem dcells_note (md y : Int) (c : Nat → Nat → Value) (j : Nat) : (dcells md y c)[2 + j]? = (nlist c)[j]? := by
  show (Value.int .i64 md :: Value.int .i64 y :: nlist c).toArray[2 + j]? = _
  rw [List.getElem?_toArray, Nat.add_comm]
  rfl
theorem nlist_take (c : Nat → Nat → Value) {k : Nat} (hk : k < 8) : List.take 4 (List.drop (k * 4) (nlist c)) = [c k 0, c k 1, c k 2, c k 3] := by
  rcases lt8 hk with rfl | rfl | rfl | rfl | rfl | rfl | rfl | rfl <;> rfl
theorem lt4 {k : Nat} (h : k < 4) : k = 0 ∨ k = 1 ∨ k = 2 ∨ k = 3 := by omega
theorem dcells_at (md y : Int) (c : Nat → Nat → Value) {k i : Nat} (hk : k < 8) (hi : i < 4) : (dcells md y c)[2 + k * 4 + i]? = some (c k i) := by
  rcases lt8 hk with rfl | rfl | rfl | rfl | rfl | rfl | rfl | rfl <;> rcases lt4 hi with rfl | rfl | rfl | rfl <;> rfl
theorem dcells_set (md y : Int) (c : Nat → Nat → Value) {k i : Nat} (hk : k < 8) (hi : i < 4) (v : Value) : (dcells md y c).setIfInBounds (2 + k * 4 + i) v = dcells md y (fun j l => if j = k ∧ l = i then v else c j l) := by
  rcases lt8 hk with rfl | rfl | rfl | rfl | rfl | rfl | rfl | rfl <;> rcases lt4 hi with rfl | rfl | rfl | rfl <;> rfl
theorem dcells_congr {md y : Int} {c d : Nat → Nat → Value} (h : ∀ k i, k < 8 → i < 4 → c k i = d k i) : dcells md y c = dcells md y d := by
  have key : ∀ m : Nat, m < 34 → (dcells md y c)[m]? = (dcells md y d)[m]? := by
    intro m hm
    by_cases h2 : m < 2
    · have : m = 0 ∨ m = 1 := by omega
      rcases this with rfl | rfl <;> rfl
    · have e : m = 2 + (m - 2) / 4 * 4 + (m - 2) % 4 := by omega
      rw [e, dcells_at md y c (by omega) (by omega), dcells_at md y d (by omega) (by omega), h _ _ (by omega) (by omega)]
  refine Array.ext (by rfl) (fun m h1 h2 => ?_)
  have hm : m < 34 := h1
  have := key m hm
  rw [Array.getElem?_eq_getElem h1, Array.getElem?_eq_getElem h2] at this
  exact Option.some.inj this

theorem ncell_read {rs : List Int} {ws : List Ver} {k : Nat} (j i : Nat) (hi : i < 4) : (if j = k ∧ i = 0 then Value.bool true else ncell rs ws j i) = ncell (rs ++ [(k : Int)]) ws j i := by
  rcases lt4 hi with rfl | rfl | rfl | rfl
  · by_cases e : j = k
    · subst e; simp [ncell]
    · have : ¬ ((j : Int) = (k : Int)) := by omega
      simp [ncell, e, this]
  · simp [ncell]
  · simp [ncell]
  · simp [ncell]
theorem ncell_write {rs : List Int} {ws : List Ver} {k : Nat} (t : Bool) (s : ByteArray) (j i : Nat) (hi : i < 4) :
    (if j = k ∧ i = 3 then Value.string s else if j = k ∧ i = 2 then Value.bool t else if j = k ∧ i = 1 then Value.bool true else ncell rs ws j i) = ncell rs (ws ++ [⟨(k : Int), t, s⟩]) j i := by
  by_cases e : j = k
  · subst e
    rcases lt4 hi with rfl | rfl | rfl | rfl <;> simp [ncell, lwr_put]
  · have e2 : ¬ ((k : Int) = (j : Int)) := by omega
    rcases lt4 hi with rfl | rfl | rfl | rfl <;> simp [ncell, lwr_put, e, e2]
end Go.Proofs.Ytainekjcdmabbaa
