/- What DeedMay holds of a deed and of a commit: who is in its way. -/
import Derived.Test.YtainekjcdmabbaaX7
namespace Go.Proofs.Ytainekjcdmabbaa
open Go.RowKit

/-- One of the first d pairs bears the key x; one of the first i pairs of the commit bears a key of L; one of R. -/
def cin (L : List Ver) (x : Int) : Nat → Bool
  | 0 => false
  | d + 1 => cin L x d || decide (va L d = x)
def ccl (L ps : List Ver) : Nat → Bool
  | 0 => false
  | i + 1 => ccl L ps i || cin L (va ps i) L.length
def csl (R : List Int) (ps : List Ver) : Nat → Bool
  | 0 => false
  | i + 1 => csl R ps i || decide (va ps i ∈ R)

theorem cin_iff {L : List Ver} {x : Int} : ∀ d, cin L x d = true ↔ ∃ e, e < d ∧ va L e = x := by
  intro d
  induction d with
  | zero => simp [cin]
  | succ d ih =>
    simp only [cin, Bool.or_eq_true, ih, decide_eq_true_eq]
    constructor
    · rintro (⟨e, h1, h2⟩ | h)
      · exact ⟨e, by omega, h2⟩
      · exact ⟨d, by omega, h⟩
    · rintro ⟨e, h1, h2⟩
      by_cases q : e = d
      · subst q; exact .inr h2
      · exact .inl ⟨e, by omega, h2⟩
theorem ccl_iff {L ps : List Ver} : ∀ i, ccl L ps i = true ↔ ∃ e, e < i ∧ ∃ d, d < L.length ∧ va L d = va ps e := by
  intro i
  induction i with
  | zero => simp [ccl]
  | succ i ih =>
    simp only [ccl, Bool.or_eq_true, ih, cin_iff]
    constructor
    · rintro (⟨e, h1, h2⟩ | h)
      · exact ⟨e, by omega, h2⟩
      · exact ⟨i, by omega, h⟩
    · rintro ⟨e, h1, h2⟩
      by_cases q : e = i
      · subst q; exact .inr h2
      · exact .inl ⟨e, by omega, h2⟩
theorem csl_iff {R : List Int} {ps : List Ver} : ∀ i, csl R ps i = true ↔ ∃ e, e < i ∧ va ps e ∈ R := by
  intro i
  induction i with
  | zero => simp [csl]
  | succ i ih =>
    simp only [csl, Bool.or_eq_true, ih, decide_eq_true_eq]
    constructor
    · rintro (⟨e, h1, h2⟩ | h)
      · exact ⟨e, by omega, h2⟩
      · exact ⟨i, by omega, h⟩
    · rintro ⟨e, h1, h2⟩
      by_cases q : e = i
      · subst q; exact .inr h2
      · exact .inl ⟨e, by omega, h2⟩
theorem cls_iff {f : Nat → List Ver} {y : Int} {ws : List Ver} : ∀ m, cls f y ws m = true ↔ ∃ k : Nat, k < m ∧ (lwr ws k).isSome = true ∧ y < snc f k := by
  intro m
  induction m with
  | zero => simp [cls]
  | succ m ih =>
    simp only [cls]
    by_cases h : (lwr ws m).isSome = true ∧ y < snc f m
    · rw [if_pos h]
      exact ⟨fun _ => ⟨m, by omega, h⟩, fun _ => rfl⟩
    · rw [if_neg h, ih]
      constructor
      · rintro ⟨k, h1, h2⟩; exact ⟨k, by omega, h2⟩
      · rintro ⟨k, h1, h2⟩
        by_cases q : k = m
        · subst q; exact absurd h2 h
        · exact ⟨k, by omega, h2⟩
theorem stl_iff {f : Nat → List Ver} {y : Int} {rs : List Int} : ∀ m, stl f y rs m = true ↔ ∃ k : Nat, k < m ∧ (k : Int) ∈ rs ∧ y < snc f k := by
  intro m
  induction m with
  | zero => simp [stl]
  | succ m ih =>
    simp only [stl]
    by_cases h : (m : Int) ∈ rs ∧ y < snc f m
    · rw [if_pos h]
      exact ⟨fun _ => ⟨m, by omega, h⟩, fun _ => rfl⟩
    · rw [if_neg h, ih]
      constructor
      · rintro ⟨k, h1, h2⟩; exact ⟨k, by omega, h2⟩
      · rintro ⟨k, h1, h2⟩
        by_cases q : k = m
        · subst q; exact absurd h2 h
        · exact ⟨k, by omega, h2⟩

theorem wk_has {ws : List Ver} {k : Nat} {v : Ver} (h : lwr ws k = some v) : ∀ m, k < m → ∃ d, d < (wk ws m).length ∧ va (wk ws m) d = (k : Int) := by
  intro m
  induction m with
  | zero => intro h; omega
  | succ m ih =>
    intro hk
    by_cases e : k = m
    · subst e
      rw [wk_yes h]
      exact ⟨(wk ws k).length, by simp, by rw [va_concat]⟩
    · obtain ⟨d, h1, h2⟩ := ih (by omega)
      cases hm : lwr ws m with
      | some u =>
        rw [wk_yes hm]
        exact ⟨d, by simp; omega, by rw [va_append_left _ _ h1]; exact h2⟩
      | none => rw [wk_no hm]; exact ⟨d, h1, h2⟩

theorem snc_hi {f : Nat → List Ver} {n : Nat} (h : Inv f n) {k : Nat} (hk : k < 8) : snc f k ≤ n := by
  unfold snc
  rw [if_pos (by simp [keyB]; omega), Int.toNat_natCast]
  exact h.hi k hk
theorem snc_gt {f : Nat → List Ver} {n : Nat} {ps : List Ver} (h : Inv f n) (hc : wcode n ps = 0) {k : Nat} (hk : k < 8) : (n : Int) < snc (wst f n ps) k ↔ ∃ i, i < ps.length ∧ va ps i = (k : Int) := by
  rw [snc_write h hc hk]
  constructor
  · intro hlt
    by_cases he : ∃ i, i < ps.length ∧ va ps i = (k : Int)
    · exact he
    · rw [sj_no _ (fun i hi e => he ⟨i, hi, e⟩)] at hlt
      have := snc_hi h hk
      omega
  · rintro ⟨i, hi, e⟩
    rw [sj_yes e _ hi]
    omega

/-- Nobody wrote since it began: it may. -/
theorem dm_zero {f : Nat → List Ver} {n : Nat} {md : Int} {rs : List Int} {ws : List Ver} (h : Inv f n) : dm f md n rs ws = 0 := by
  have h1 : ¬ cls f n ws 8 = true := fun hc => by
    obtain ⟨k, hk, _, hs⟩ := (cls_iff 8).1 hc
    have := snc_hi h hk
    omega
  have h2 : ¬ stl f n rs 8 = true := fun hc => by
    obtain ⟨k, hk, _, hs⟩ := (stl_iff 8).1 hc
    have := snc_hi h hk
    omega
  unfold dm
  rw [if_neg h1, if_neg (fun q => h2 q.2)]

def mwant (md : Int) (c s : Bool) : Int := if c = true then 10 else if s = true ∧ md = 2 then 11 else 0
theorem dm_commit {f : Nat → List Ver} {n : Nat} {md : Int} {rs : List Int} {ws ps : List Ver} (h : Inv f n) (hc : wcode n ps = 0) :
    dm (wst f n ps) md n rs ws = mwant md (ccl (wk ws 8) ps ps.length) (csl (rk rs 8) ps ps.length) := by
  have hkeys := pf_keys (wcode_zero hc).1
  have e1 : cls (wst f n ps) n ws 8 = true ↔ ccl (wk ws 8) ps ps.length = true := by
    rw [cls_iff, ccl_iff]
    constructor
    · rintro ⟨k, hk, h1, h2⟩
      obtain ⟨i, hi, e⟩ := (snc_gt h hc hk).1 h2
      obtain ⟨v, hv⟩ := Option.isSome_iff_exists.1 h1
      obtain ⟨d, hd, he⟩ := wk_has hv 8 hk
      exact ⟨i, hi, d, hd, by rw [he, e]⟩
    · rintro ⟨i, hi, d, hd, he⟩
      obtain ⟨j, hj, hv, v, hl, _⟩ := (wk_props ws 8).1 d hd
      exact ⟨j, hj, by rw [hl]; rfl, (snc_gt h hc hj).2 ⟨i, hi, by rw [← he, hv]⟩⟩
  have e2 : stl (wst f n ps) n rs 8 = true ↔ csl (rk rs 8) ps ps.length = true := by
    rw [stl_iff, csl_iff]
    constructor
    · rintro ⟨k, hk, h1, h2⟩
      obtain ⟨i, hi, e⟩ := (snc_gt h hc hk).1 h2
      exact ⟨i, hi, by rw [e]; exact rk_mem 8 hk h1⟩
    · rintro ⟨i, hi, he⟩
      have hk := hkeys i hi
      obtain ⟨j, hj, hv⟩ : ∃ j : Nat, j < 8 ∧ va ps i = (j : Int) := ⟨(va ps i).toNat, by omega, by omega⟩
      rw [hv] at he
      exact ⟨j, hj, mem_rk 8 he, (snc_gt h hc hj).2 ⟨i, hi, hv⟩⟩
  unfold dm mwant
  by_cases q1 : cls (wst f n ps) n ws 8 = true
  · rw [if_pos q1, if_pos (e1.1 q1)]
  · rw [if_neg q1, if_neg (fun q => q1 (e1.2 q))]
    by_cases q2 : stl (wst f n ps) n rs 8 = true
    · by_cases q3 : md = 2
      · rw [if_pos ⟨q3, q2⟩, if_pos ⟨e2.1 q2, q3⟩]
      · rw [if_neg (fun q => q3 q.1), if_neg (fun q => q3 q.2)]
    · rw [if_neg (fun q => q2 q.2), if_neg (fun q => q2 (e2.2 q.1))]
end Go.Proofs.Ytainekjcdmabbaa
