/- Plain words for tables: the versions of all keys, pairs of a commit, and what each call tells of them; no statement of the program yet. -/
import Derived.Test.YtfcfoabdangfhabL3
import Derived.Test.YtfcfoabdangfhabP0
namespace Go.Proofs.Ytfcfoabdangfhab
open Go.RowKit
set_option maxRecDepth 20000

/-- How many versions, from the first on, are not above the commit y. -/
def cntf (vs : List Ver) (y : Int) : Nat := (vs.takeWhile (fun v => decide (v.a ≤ y))).length

theorem Rise.tail {v : Ver} {r : List Ver} (h : Rise (v :: r)) : Rise r := by
  intro i j hij hj
  have := h (i + 1) (j + 1) (by omega) (by simp; omega)
  simpa [va_cons_succ] using this

theorem cntf_is {vs : List Ver} (y : Int) (hr : Rise vs) : IsCnt vs y (cntf vs y) := by
  induction vs with
  | nil => exact ⟨by simp [cntf], fun k hk => by simp [cntf] at hk, fun k _ h2 => by simp at h2⟩
  | cons v r ih =>
    have hr2 := hr.tail
    have ih := ih hr2
    by_cases hv : v.a ≤ y
    · have e : cntf (v :: r) y = cntf r y + 1 := by simp [cntf, hv]
      rw [e]
      refine ⟨by have := ih.le; simp; omega, fun k hk => ?_, fun k h1 h2 => ?_⟩
      · cases k with
        | zero => rw [va_cons_zero]; exact hv
        | succ k => rw [va_cons_succ]; exact ih.lo k (by omega)
      · cases k with
        | zero => omega
        | succ k => rw [va_cons_succ]; exact ih.hi k (by omega) (by simpa using h2)
    · have e : cntf (v :: r) y = 0 := by simp [cntf, hv]
      rw [e]
      refine ⟨by omega, fun k hk => by omega, fun k _ h2 => ?_⟩
      have := hr.le (Nat.zero_le k) h2
      rw [va_cons_zero] at this
      omega

theorem IsCnt.eqf {vs : List Ver} {y : Int} {c : Nat} (h : IsCnt vs y c) (hr : Rise vs) : c = cntf vs y := h.uniq (cntf_is y hr)

/-- What Read of a chain tells: the code (a), and the value. -/
def rd3 (vs : List Ver) (y : Int) : Ver :=
  if y < 0 then ⟨1, false, ByteArray.empty⟩ else if y < va vs 0 then ⟨12, false, ByteArray.empty⟩ else ⟨0, vt vs (cntf vs y - 1), vb vs (cntf vs y - 1)⟩

theorem rd3_rd {vs : List Ver} (y : Int) (hr : Rise vs) (hp : 0 < vs.length) : Rd vs y (rd3 vs y).t (rd3 vs y).s (rd3 vs y).a := by
  unfold rd3
  split
  · exact .inl ⟨by assumption, rfl, rfl, rfl⟩
  · split
    · exact .inr (.inl ⟨by omega, by assumption, rfl, rfl, rfl⟩)
    · have hc := cntf_is y hr
      exact .inr (.inr ⟨by omega, by omega, _, hc, hc.pos hp (by omega), rfl, rfl, rfl⟩)

theorem rd3_of {vs : List Ver} {y : Int} {t : Bool} {s : ByteArray} {c : Int} (hr : Rise vs) (hp : 0 < vs.length) (h : Rd vs y t s c) : t = (rd3 vs y).t ∧ s = (rd3 vs y).s ∧ c = (rd3 vs y).a := h.uniq (rd3_rd y hr hp)

def upd {α : Type} (f : Nat → α) (k : Nat) (v : α) : Nat → α := fun j => if j = k then v else f j
theorem upd_same {α : Type} (f : Nat → α) (k : Nat) (v : α) : upd f k v k = v := by simp [upd]
theorem upd_other {α : Type} (f : Nat → α) (k : Nat) (v : α) {j : Nat} (h : j ≠ k) : upd f k v j = f j := by simp [upd, h]

/-- What is so of the versions of all keys behind n commits. -/
structure Inv (f : Nat → List Ver) (n : Nat) : Prop where
  rise : ∀ k, k < 8 → Rise (f k)
  pos : ∀ k, k < 8 → 0 < (f k).length
  lo : ∀ k, k < 8 → 0 ≤ va (f k) 0
  hi : ∀ k, k < 8 → va (f k) ((f k).length - 1) ≤ n
  n40 : n ≤ 40

theorem rise_ge {vs : List Ver} (hr : Rise vs) (h0 : 0 ≤ va vs 0) : ∀ i : Nat, i < vs.length → (i : Int) ≤ va vs i := by
  intro i
  induction i with
  | zero => intro _; simpa using h0
  | succ i ih =>
    intro hi
    have h1 := ih (by omega)
    have h2 := hr i (i + 1) (by omega) hi
    omega

theorem Inv.len {f : Nat → List Ver} {n : Nat} (h : Inv f n) {k : Nat} (hk : k < 8) : (f k).length ≤ n + 1 := by
  have hp := h.pos k hk
  have h1 := rise_ge (h.rise k hk) (h.lo k hk) ((f k).length - 1) (by omega)
  have h2 := h.hi k hk
  omega
theorem Inv.len41 {f : Nat → List Ver} {n : Nat} (h : Inv f n) {k : Nat} (hk : k < 8) : (f k).length ≤ 41 := by
  have := h.len hk
  have := h.n40
  omega

theorem va_append_left (vs us : List Ver) {i : Nat} (h : i < vs.length) : va (vs ++ us) i = va vs i := by
  simp only [va, List.getD_eq_getElem?_getD]
  rw [List.getElem?_append_left h]
theorem va_concat (vs : List Ver) (v : Ver) : va (vs ++ [v]) vs.length = v.a := by
  simp only [va, List.getD_eq_getElem?_getD]
  rw [List.getElem?_concat_length]; rfl

theorem pvers_hi {vs : List Ver} {x : Int} {t : Bool} {s : ByteArray} (h : va vs (vs.length - 1) ≤ x) : va (pvers vs x t s) ((pvers vs x t s).length - 1) ≤ x := by
  unfold pvers
  split
  · simp only [List.length_append, List.length_cons, List.length_nil, Nat.zero_add, Nat.add_sub_cancel]
    rw [va_concat]
    exact Int.le_refl _
  · exact h
theorem pvers_lo {vs : List Ver} {x : Int} {t : Bool} {s : ByteArray} (hp : 0 < vs.length) : va (pvers vs x t s) 0 = va vs 0 := by
  unfold pvers
  split
  · rw [va_append_left _ _ hp]
  · rfl

theorem Inv.put {f : Nat → List Ver} {n : Nat} (h : Inv f n) {k : Nat} (hk : k < 8) (t : Bool) (s : ByteArray) : Inv (upd f k (pvers (f k) n t s)) n := by
  have hp := h.pos k hk
  refine ⟨fun j hj => ?_, fun j hj => ?_, fun j hj => ?_, fun j hj => ?_, h.n40⟩
  all_goals
    by_cases e : j = k
    · subst e
      rw [upd_same]
      first | exact (h.rise j hj).put hp _ _ _ | (have := pvers_length (f j) (n : Int) t s; omega) | (rw [pvers_lo hp]; exact h.lo j hj) | exact pvers_hi (h.hi j hj)
    · rw [upd_other _ _ _ e]
      first | exact h.rise j hj | exact h.pos j hj | exact h.lo j hj | exact h.hi j hj
theorem Inv.mono {f : Nat → List Ver} {n m : Nat} (h : Inv f n) (hm : n ≤ m) (h40 : m ≤ 40) : Inv f m :=
  ⟨h.rise, h.pos, h.lo, fun k hk => by have := h.hi k hk; omega, h40⟩

theorem va_drop (vs : List Ver) (d i : Nat) : va (vs.drop d) i = va vs (d + i) := by simp [va, List.getD_eq_getElem?_getD, List.getElem?_drop]
theorem Inv.drop {f : Nat → List Ver} {n : Nat} (h : Inv f n) {k : Nat} (hk : k < 8) (d : Nat) (hd : d < (f k).length) : Inv (upd f k ((f k).drop d)) n := by
  have hp := h.pos k hk
  refine ⟨fun j hj => ?_, fun j hj => ?_, fun j hj => ?_, fun j hj => ?_, h.n40⟩
  all_goals
    by_cases e : j = k
    · subst e
      rw [upd_same]
      first | exact (h.rise j hj).drop d | (simp; omega) | (rw [va_drop]; have := rise_ge (h.rise j hj) (h.lo j hj) (d + 0) (by omega); omega) | (rw [va_drop, List.length_drop]; have := h.hi j hj; rw [show d + ((f j).length - d - 1) = (f j).length - 1 by omega]; exact this)
    · rw [upd_other _ _ _ e]
      first | exact h.rise j hj | exact h.pos j hj | exact h.lo j hj | exact h.hi j hj

/-- What Read of a table tells: the code (a), and the value. -/
def tr (f : Nat → List Ver) (n : Nat) (k y : Int) : Ver := if keyB k = true ∧ y ≤ n then rd3 (f k.toNat) y else ⟨1, false, ByteArray.empty⟩

def wr1 (f : Nat → List Ver) (x : Int) (p : Ver) : Nat → List Ver := upd f p.a.toNat (pvers (f p.a.toNat) x p.t p.s)
def wrs (f : Nat → List Ver) (x : Int) : List Ver → Nat → List Ver
  | [] => f
  | p :: r => wrs (wr1 f x p) x r

/-- What Write tells and leaves. -/
def wcode (n : Nat) (ps : List Ver) : Int := if pf (-1) ps = 0 then (if 40 ≤ n then 9 else 0) else pf (-1) ps
def wn (n : Nat) (ps : List Ver) : Nat := if wcode n ps = 0 then n + 1 else n
def wnum (n : Nat) (ps : List Ver) : Int := if wcode n ps = 0 then (n : Int) + 1 else 0
def wst (f : Nat → List Ver) (n : Nat) (ps : List Ver) : Nat → List Ver := if wcode n ps = 0 then wrs f ((n : Int) + 1) ps else f

theorem Inv.wrs {f : Nat → List Ver} {m : Nat} {ps : List Ver} (h : Inv f m) (hk : ∀ i, i < ps.length → 0 ≤ va ps i ∧ va ps i < 8) : Inv (Ytfcfoabdangfhab.wrs f m ps) m := by
  induction ps generalizing f with
  | nil => exact h
  | cons p r ih =>
    have h0 := hk 0 (by simp)
    rw [va_cons_zero] at h0
    exact ih (h.put (k := p.a.toNat) (by omega) p.t p.s) (fun i hi => by have := hk (i + 1) (by simpa using hi); rwa [va_cons_succ] at this)

theorem wcode_zero {n : Nat} {ps : List Ver} (h : wcode n ps = 0) : pf (-1) ps = 0 ∧ n < 40 := by
  unfold wcode at h
  split at h
  · split at h
    · simp at h
    · exact ⟨by assumption, by omega⟩
  · rename_i h1; exact absurd h h1

theorem Inv.write {f : Nat → List Ver} {n : Nat} (ps : List Ver) (h : Inv f n) : Inv (wst f n ps) (wn n ps) := by
  unfold wst wn
  by_cases hc : wcode n ps = 0
  · rw [if_pos hc, if_pos hc]
    obtain ⟨h1, h2⟩ := wcode_zero hc
    have := (h.mono (Nat.le_succ n) (by omega)).wrs (ps := ps) (pf_keys h1)
    simpa using this
  · rw [if_neg hc, if_neg hc]; exact h

/-- How many versions Clear forgets of a chain; what it leaves of the first m keys; how many in all. -/
def cd (vs : List Ver) (y : Int) : Nat := cntf vs y - 1
def clm (f : Nat → List Ver) (y : Int) (m : Nat) : Nat → List Ver := fun k => if k < m then (f k).drop (cd (f k) y) else f k
def cln (f : Nat → List Ver) (y : Int) : Nat → Nat
  | 0 => 0
  | m + 1 => cln f y m + cd (f m) y

theorem cd_lt {vs : List Ver} (y : Int) (hr : Rise vs) (hp : 0 < vs.length) : cd vs y < vs.length := by
  have := (cntf_is y hr).le
  unfold cd; omega
theorem clm_zero (f : Nat → List Ver) (y : Int) : clm f y 0 = f := by funext k; simp [clm]
theorem clm_succ (f : Nat → List Ver) (y : Int) (m : Nat) : clm f y (m + 1) = upd (clm f y m) m ((f m).drop (cd (f m) y)) := by
  funext k
  unfold clm upd
  by_cases e : k = m
  · subst e; simp
  · rw [if_neg e]
    show _ = if k < m then _ else _
    by_cases h : k < m
    · rw [if_pos h, if_pos (by omega)]
    · rw [if_neg h, if_neg (by omega)]
theorem clm_at (f : Nat → List Ver) (y : Int) (m : Nat) : clm f y m m = f m := by simp [clm]
theorem Inv.clm {f : Nat → List Ver} {n : Nat} (h : Inv f n) (y : Int) : ∀ m, m ≤ 8 → Inv (Ytfcfoabdangfhab.clm f y m) n := by
  intro m
  induction m with
  | zero => intro _; rw [clm_zero]; exact h
  | succ m ih =>
    intro hm
    have h1 := ih (by omega)
    rw [clm_succ]
    have h2 := h1.drop (k := m) (by omega) (cd (f m) y) (by rw [clm_at]; exact cd_lt y (h.rise m (by omega)) (h.pos m (by omega)))
    rw [clm_at] at h2
    exact h2
theorem cln_le {f : Nat → List Ver} {n : Nat} (h : Inv f n) (y : Int) : ∀ m, m ≤ 8 → cln f y m ≤ 41 * m := by
  intro m
  induction m with
  | zero => intro _; simp [cln]
  | succ m ih =>
    intro hm
    have h1 := ih (by omega)
    have h2 := cd_lt y (h.rise m (by omega)) (h.pos m (by omega))
    have h3 := h.len41 (k := m) (by omega)
    simp only [cln]
    omega

/-- The greatest First of the first m keys. -/
def fmx (f : Nat → List Ver) : Nat → Int
  | 0 => 0
  | m + 1 => if fmx f m < va (f m) 0 then va (f m) 0 else fmx f m

/-- What List tells: from the key k on, m keys, behind acc. -/
def lgo (f : Nat → List Ver) (n : Nat) (y : Int) : Nat → Nat → List Ver → List Ver × Int
  | _, 0, acc => (acc, 0)
  | k, m + 1, acc => if (tr f n k y).a = 0 then (if (tr f n k y).t = true then lgo f n y (k + 1) m (acc ++ [⟨k, (tr f n k y).t, (tr f n k y).s⟩]) else lgo f n y (k + 1) m acc) else ([], (tr f n k y).a)
def lst (f : Nat → List Ver) (n : Nat) (from_ to_ y : Int) : List Ver × Int :=
  if keyB from_ = true ∧ keyB to_ = true then lgo f n y from_.toNat (to_ + 1 - from_).toNat [] else ([], 1)

/-- The commit since which a key has what it has. -/
def snc (f : Nat → List Ver) (k : Int) : Int := if keyB k = true then va (f k.toNat) ((f k.toNat).length - 1) else -1

end Go.Proofs.Ytfcfoabdangfhab
