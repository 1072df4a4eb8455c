/- What a commit makes of the versions of all keys, key by key. -/
import Derived.Test.YtcfogkdpkpehaabE5
namespace Go.Proofs.Ytcfogkdpkpehaab

def fnd (ps : List Ver) (k : Nat) : Option Ver := ps.find? (fun p => p.a == (k : Int))

theorem pf_consX {a : Int} {p : Ver} {r : List Ver} (h : pf a (p :: r) = 0) : 0 ≤ p.a ∧ p.a < 8 ∧ a < p.a ∧ chk p.t p.s = 0 ∧ pf p.a r = 0 := by
  unfold pf at h
  split at h
  · simp at h
  · rename_i hk
    split at h
    · simp at h
    · split at h
      · simp [keyB] at hk
        exact ⟨by omega, by omega, by omega, by assumption, h⟩
      · rename_i h1; exact absurd h h1
theorem pf_gt {a : Int} {ps : List Ver} (h : pf a ps = 0) : ∀ q, q ∈ ps → a < q.a := by
  induction ps generalizing a with
  | nil => intro q hq; simp at hq
  | cons p r ih =>
    obtain ⟨h1, h2, h3, h4, h5⟩ := pf_consX h
    intro q hq
    rcases List.mem_cons.1 hq with e | e
    · subst e; exact h3
    · have := ih h5 q e; omega
theorem pvers_put {vs : List Ver} {x : Int} {t : Bool} {s : ByteArray} (hc : chk t s = 0) (hl : va vs (vs.length - 1) < x) : pvers vs x t s = vs ++ [⟨x, t, s⟩] := by
  have : pcode vs x t s = 0 := by unfold pcode; rw [if_pos hc, if_neg (by omega)]
  unfold pvers; rw [if_pos this]

theorem wrs_get {a x : Int} {ps : List Ver} {f : Nat → List Ver} (h : pf a ps = 0) (hl : ∀ j : Nat, a < j → j < 8 → va (f j) ((f j).length - 1) < x) (k : Nat) :
    wrs f x ps k = match fnd ps k with | none => f k | some p => f k ++ [⟨x, p.t, p.s⟩] := by
  induction ps generalizing a f with
  | nil => rfl
  | cons p r ih =>
    obtain ⟨h1, h2, h3, h4, h5⟩ := pf_consX h
    show wrs (wr1 f x p) x r k = _
    have hput : pvers (f p.a.toNat) x p.t p.s = f p.a.toNat ++ [⟨x, p.t, p.s⟩] := pvers_put h4 (hl p.a.toNat (by omega) (by omega))
    have ih1 := ih (f := wr1 f x p) h5 (fun j hj hj8 => by
      unfold wr1
      rw [upd_other _ _ _ (show j ≠ p.a.toNat by omega)]
      exact hl j (by omega) hj8)
    rw [ih1]
    by_cases e : p.a = (k : Int)
    · have hn : fnd r k = none := by
        unfold fnd
        rw [List.find?_eq_none]
        intro q hq
        have := pf_gt h5 q hq
        simp
        omega
      have hs : fnd (p :: r) k = some p := by simp [fnd, e]
      have hk : p.a.toNat = k := by omega
      rw [hn, hs]
      show wr1 f x p k = _
      unfold wr1
      rw [hk, upd_same, ← hk]
      rw [hput]
    · have hs : fnd (p :: r) k = fnd r k := by simp [fnd, e]
      have hk : k ≠ p.a.toNat := by omega
      have hw : wr1 f x p k = f k := by unfold wr1; rw [upd_other _ _ _ hk]
      rw [hs, hw]

theorem wst_get {f : Nat → List Ver} {n : Nat} {ps : List Ver} (hi : Inv f n) (hc : wcode n ps = 0) {k : Nat} : wst f n ps k = match fnd ps k with | none => f k | some p => f k ++ [⟨(n : Int) + 1, p.t, p.s⟩] := by
  unfold wst
  rw [if_pos hc]
  exact wrs_get (wcode_zero hc).1 (fun j _ hj8 => by have := hi.hi j hj8; omega) k

theorem wst_not {f : Nat → List Ver} {n : Nat} {ps : List Ver} (hc : ¬ wcode n ps = 0) : wst f n ps = f ∧ wn n ps = n ∧ wnum n ps = 0 := by
  unfold wst wn wnum
  rw [if_neg hc, if_neg hc, if_neg hc]
  exact ⟨rfl, rfl, rfl⟩
theorem wst_yes {n : Nat} {ps : List Ver} (hc : wcode n ps = 0) : wn n ps = n + 1 ∧ wnum n ps = (n : Int) + 1 := by
  unfold wn wnum
  rw [if_pos hc, if_pos hc]
  exact ⟨rfl, rfl⟩

theorem fnd_none {ps : List Ver} {k : Nat} (h : fnd ps k = none) : ∀ i, i < ps.length → va ps i ≠ (k : Int) := by
  intro i hi e
  unfold fnd at h
  rw [List.find?_eq_none] at h
  have := h ps[i] (List.getElem_mem hi)
  simp [va, List.getD_eq_getElem?_getD, List.getElem?_eq_getElem hi] at e
  simp [e] at this
theorem fnd_some {ps : List Ver} {k : Nat} {p : Ver} (h : fnd ps k = some p) : ∃ i, i < ps.length ∧ va ps i = (k : Int) ∧ vt ps i = p.t ∧ vb ps i = p.s := by
  unfold fnd at h
  have hm := List.mem_of_find?_eq_some h
  have hp := List.find?_some h
  obtain ⟨i, hi, e⟩ := List.getElem_of_mem hm
  refine ⟨i, hi, ?_, ?_, ?_⟩
  all_goals simp [va, vt, vb, List.getD_eq_getElem?_getD, List.getElem?_eq_getElem hi, e]
  simpa using hp

/-- What since is behind the first j pairs. -/
def sj (ps : List Ver) (k x s0 : Int) : Nat → Int
  | 0 => s0
  | j + 1 => if va ps j = k then x else sj ps k x s0 j
theorem sj_no {ps : List Ver} {k x s0 : Int} : ∀ j, (∀ i, i < j → va ps i ≠ k) → sj ps k x s0 j = s0 := by
  intro j
  induction j with
  | zero => intro _; rfl
  | succ j ih =>
    intro h
    simp only [sj]
    rw [if_neg (h j (by omega))]
    exact ih (fun i hi => h i (by omega))
theorem sj_yes {ps : List Ver} {k x s0 : Int} {i : Nat} (hv : va ps i = k) : ∀ j, i < j → sj ps k x s0 j = x := by
  intro j
  induction j with
  | zero => intro h; omega
  | succ j ih =>
    intro h
    simp only [sj]
    by_cases e : va ps j = k
    · rw [if_pos e]
    · rw [if_neg e]
      refine ih ?_
      rcases Nat.lt_or_ge i j with q | q
      · exact q
      · have : i = j := by omega
        subst this; exact absurd hv e

theorem snc_write {f : Nat → List Ver} {n : Nat} {ps : List Ver} (hi : Inv f n) (hc : wcode n ps = 0) {k : Nat} (hk : k < 8) : snc (wst f n ps) k = sj ps k ((n : Int) + 1) (snc f k) ps.length := by
  have hkb : keyB (k : Int) = true := by simp [keyB]; omega
  unfold snc
  rw [if_pos hkb, if_pos hkb, Int.toNat_natCast, wst_get hi hc]
  cases hf : fnd ps k with
  | none =>
    simp only
    rw [sj_no _ (fnd_none hf)]
  | some p =>
    obtain ⟨i, hi1, hi2, _⟩ := fnd_some hf
    simp only
    rw [sj_yes hi2 _ hi1]
    simp only [List.length_append, List.length_cons, List.length_nil, Nat.zero_add, Nat.add_sub_cancel]
    exact va_concat _ _
theorem snc_clm {f : Nat → List Ver} {n : Nat} (hi : Inv f n) (y : Int) {k : Nat} (hk : k < 8) : snc (clm f y 8) k = snc f k := by
  have hkb : keyB (k : Int) = true := by simp [keyB]; omega
  unfold snc
  rw [if_pos hkb, if_pos hkb, Int.toNat_natCast]
  unfold clm
  rw [if_pos hk, va_drop, List.length_drop]
  have := cd_lt y (hi.rise k hk) (hi.pos k hk)
  congr 1
  omega
end Go.Proofs.Ytcfogkdpkpehaab
