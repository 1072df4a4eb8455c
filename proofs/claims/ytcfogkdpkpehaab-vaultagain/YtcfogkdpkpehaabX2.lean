/- What Clear leaves to be read; what is read of the last commit, and behind a later one. -/
import Derived.Test.YtcfogkdpkpehaabX1
import Derived.Test.YtcfogkdpkpehaabM6
namespace Go.Proofs.Ytcfogkdpkpehaab

theorem vt_drop (vs : List Ver) (d i : Nat) : vt (vs.drop d) i = vt vs (d + i) := by simp [vt, List.getD_eq_getElem?_getD, List.getElem?_drop]
theorem vb_drop (vs : List Ver) (d i : Nat) : vb (vs.drop d) i = vb vs (d + i) := by simp [vb, List.getD_eq_getElem?_getD, List.getElem?_drop]

theorem IsCnt.drop {vs : List Ver} {y : Int} {c d : Nat} (h : IsCnt vs y c) (hd : d ≤ c) : IsCnt (vs.drop d) y (c - d) := by
  have hl := h.le
  refine ⟨by simp; omega, fun k hk => ?_, fun k h1 h2 => ?_⟩
  · rw [va_drop]; exact h.lo _ (by omega)
  · rw [va_drop]; simp only [List.length_drop] at h2; exact h.hi _ (by omega) (by omega)
theorem IsCnt.mono {vs : List Ver} {x y : Int} {c d : Nat} (h : IsCnt vs x c) (k : IsCnt vs y d) (hxy : x ≤ y) : c ≤ d := by
  rcases Nat.lt_or_ge d c with e | e
  · have h1 := h.lo d e
    have h2 := k.hi d (Nat.le_refl _) (by have := h.le; omega)
    omega
  · exact e

theorem cd_again {vs : List Ver} (y : Int) (hr : Rise vs) : cd (vs.drop (cd vs y)) y = 0 := by
  have hc := cntf_is y hr
  have h2 := (hc.drop (d := cd vs y) (by unfold cd; omega)).eqf (hr.drop _)
  unfold cd at h2 ⊢
  omega
theorem cln_again {f : Nat → List Ver} {n : Nat} (h : Inv f n) (y : Int) : ∀ m, m ≤ 8 → cln (clm f y 8) y m = 0 := by
  intro m
  induction m with
  | zero => intro _; rfl
  | succ m ih =>
    intro hm
    simp only [cln]
    rw [ih (by omega)]
    have : clm f y 8 m = (f m).drop (cd (f m) y) := by unfold clm; rw [if_pos (by omega)]
    rw [this, cd_again y (h.rise m (by omega))]

theorem rd3_drop {vs : List Ver} {l y : Int} (hr : Rise vs) (hp : 0 < vs.length) (hly : l ≤ y) : rd3 (vs.drop (cd vs l)) y = rd3 vs y := by
  have hl := cntf_is l hr
  have hy := cntf_is y hr
  have hle := hl.mono hy hly
  have hd := (hy.drop (d := cd vs l) (by unfold cd; omega)).eqf (hr.drop _)
  unfold rd3
  by_cases h0 : y < 0
  · rw [if_pos h0, if_pos h0]
  · rw [if_neg h0, if_neg h0]
    by_cases h1 : y < va vs 0
    · have hz : cd vs l = 0 := by
        have : cntf vs l = 0 := by
          rcases Nat.eq_zero_or_pos (cntf vs l) with e | e
          · exact e
          · have := hl.lo 0 e; omega
        unfold cd; omega
      rw [hz, List.drop_zero]
    · have h2 : ¬ y < va (vs.drop (cd vs l)) 0 := by
        rw [va_drop, Nat.add_zero]
        rcases Nat.eq_zero_or_pos (cd vs l) with e | e
        · rw [e]; exact h1
        · have := hl.lo (cd vs l) (by unfold cd at e ⊢; omega)
          omega
      have hpos := hy.pos hp (by omega)
      rw [if_neg h1, if_neg h2, ← hd, vt_drop, vb_drop]
      have e : cd vs l + (cntf vs y - cd vs l - 1) = cntf vs y - 1 := by unfold cd; omega
      rw [e]

theorem tr_clm {f : Nat → List Ver} {n : Nat} (h : Inv f n) {l y : Int} (hly : l ≤ y) {j : Nat} (hj : j < 8) : tr (clm f l 8) n j y = tr f n j y := by
  unfold tr
  split
  · rw [Int.toNat_natCast]
    have : clm f l 8 j = (f j).drop (cd (f j) l) := by unfold clm; rw [if_pos hj]
    rw [this, rd3_drop (h.rise j hj) (h.pos j hj) hly]
  · rfl

theorem ShK.congr {f g : Nat → List Ver} {n m : Nat} {y : Int} {k : Nat} (h : ShK f n y k) (he : ∀ j : Nat, j < 8 → tr g m j y = tr f n j y) : ShK g m y k :=
  ⟨h.le, fun j hj => by rw [he j (by have := h.le; omega)]; exact h.lo j hj, fun hk => by rw [he k hk]; exact h.hi hk⟩
theorem shw_congr {f g : Nat → List Ver} {n m : Nat} {y : Int} {k : Nat} (hk : k ≤ 8) (he : ∀ j : Nat, j < 8 → tr g m j y = tr f n j y) : shw g m y k = shw f n y k := by
  funext j
  unfold shw
  split
  · exact he j (by omega)
  · rfl

theorem cntf_all {vs : List Ver} {y : Int} (hr : Rise vs) (hp : 0 < vs.length) (hy : va vs (vs.length - 1) ≤ y) : cntf vs y = vs.length := by
  have h : IsCnt vs y vs.length := ⟨Nat.le_refl _, fun k hk => by have := hr.le (show k ≤ vs.length - 1 by omega) (by omega); omega, fun k h1 h2 => by omega⟩
  exact (h.eqf hr).symm

/-- What is read of the last commit. -/
theorem tr_last {f : Nat → List Ver} {n : Nat} (h : Inv f n) {j : Nat} (hj : j < 8) : tr f n j n = ⟨0, vt (f j) ((f j).length - 1), vb (f j) ((f j).length - 1)⟩ := by
  have hkb : keyB (j : Int) = true := by simp [keyB]; omega
  have hp := h.pos j hj
  have h1 := (h.rise j hj).le (Nat.zero_le ((f j).length - 1)) (by omega)
  have h2 := h.hi j hj
  unfold tr
  rw [if_pos ⟨hkb, Int.le_refl _⟩, Int.toNat_natCast]
  unfold rd3
  rw [if_neg (by omega), if_neg (by omega), cntf_all (h.rise j hj) hp h2]
theorem shk_last {f : Nat → List Ver} {n : Nat} (h : Inv f n) : ShK f n n 8 := ⟨Nat.le_refl _, fun j hj => by rw [tr_last h hj], fun h => by omega⟩

theorem rd3_append {vs : List Ver} {v : Ver} {y : Int} (hr : Rise vs) (hr2 : Rise (vs ++ [v])) (hp : 0 < vs.length) (hv : y < v.a) : rd3 (vs ++ [v]) y = rd3 vs y := by
  have hc := cntf_is y hr
  have hl := hc.le
  have h2 : IsCnt (vs ++ [v]) y (cntf vs y) := by
    refine ⟨by simp; omega, fun k hk => ?_, fun k h1 h2 => ?_⟩
    · rw [va_append_left _ _ (by omega)]; exact hc.lo k hk
    · rcases Nat.lt_or_ge k vs.length with e | e
      · rw [va_append_left _ _ e]; exact hc.hi k h1 e
      · have : k = vs.length := by simp at h2; omega
        rw [this, va_concat]; exact hv
  have he := h2.eqf hr2
  unfold rd3
  rw [va_append_left _ _ hp, ← he]
  by_cases h0 : y < 0
  · rw [if_pos h0, if_pos h0]
  · rw [if_neg h0, if_neg h0]
    by_cases h1 : y < va vs 0
    · rw [if_pos h1, if_pos h1]
    · have hpos := hc.pos hp (by omega)
      rw [if_neg h1, if_neg h1, vt_append_left _ _ (by omega), vb_append_left _ _ (by omega)]

/-- A later commit changes nothing of what is read behind an earlier one. -/
theorem tr_later {f : Nat → List Ver} {n : Nat} (h : Inv f n) (ps : List Ver) {y : Int} (hy : y ≤ n) {j : Nat} (hj : j < 8) : tr (wst f n ps) (wn n ps) j y = tr f n j y := by
  by_cases hc : wcode n ps = 0
  · have hw := (h.write ps).rise j hj
    have e := (wst_yes hc).1
    unfold tr
    by_cases hk : keyB (j : Int) = true
    · rw [if_pos ⟨hk, by rw [e]; push_cast; omega⟩, if_pos ⟨hk, hy⟩, Int.toNat_natCast]
      rw [wst_get h hc] at hw ⊢
      cases hf : fnd ps j with
      | none => rfl
      | some p =>
        rw [hf] at hw
        simp only at hw ⊢
        exact rd3_append (h.rise j hj) hw (h.pos j hj) (by show y < (n : Int) + 1; omega)
    · rw [if_neg (fun h => hk h.1), if_neg (fun h => hk h.1)]
  · obtain ⟨e1, e2, _⟩ := wst_not (f := f) hc
    rw [e1, e2]

/-- The values of all keys with pairs laid over them. -/
def wvs (v : Nat → Ver) : List Ver → Nat → Ver
  | [] => v
  | p :: r => wvs (upd v p.a.toNat ⟨0, p.t, p.s⟩) r
theorem wvs_get {a : Int} {ps : List Ver} {v : Nat → Ver} (h : pf a ps = 0) (k : Nat) : wvs v ps k = match fnd ps k with | none => v k | some p => ⟨0, p.t, p.s⟩ := by
  induction ps generalizing a v with
  | nil => rfl
  | cons p r ih =>
    obtain ⟨h1, h2, h3, h4, h5⟩ := pf_cons h
    show wvs (upd v p.a.toNat ⟨0, p.t, p.s⟩) r k = _
    rw [ih (v := upd v p.a.toNat ⟨0, p.t, p.s⟩) h5]
    by_cases e : p.a = (k : Int)
    · have hn : fnd r k = none := by
        unfold fnd
        rw [List.find?_eq_none]
        intro q hq
        have := pf_gt h5 q hq
        simp
        omega
      have hs : fnd (p :: r) k = some p := by simp [fnd, e]
      have hk : p.a.toNat = k := by omega
      rw [hn, hs, hk]
      exact upd_same _ _ _
    · have hs : fnd (p :: r) k = fnd r k := by simp [fnd, e]
      have hk : k ≠ p.a.toNat := by omega
      rw [hs, upd_other _ _ _ hk]
theorem wvs_at {v : Nat → Ver} {ps : List Ver} {k : Nat} (h : k < ps.length) : wvs v (ps.drop k) = wvs (upd v (va ps k).toNat ⟨0, vt ps k, vb ps k⟩) (ps.drop (k + 1)) := by
  rw [ver_drop h]; rfl

/-- Behind a commit all keys have what they had, but those that it wrote. -/
theorem shots_now {f : Nat → List Ver} {n : Nat} {ps : List Ver} (h : Inv f n) (hc : wcode n ps = 0) : wagg (wvs (shw f n n 8) ps) = wagg (shw (wst f n ps) (n + 1) ((n : Int) + 1) 8) := by
  have hi := h.write ps
  rw [(wst_yes hc).1] at hi
  refine wagg_congr (fun k hk => ?_)
  have e1 : shw (wst f n ps) (n + 1) ((n : Int) + 1) 8 k = ⟨0, vt (wst f n ps k) ((wst f n ps k).length - 1), vb (wst f n ps k) ((wst f n ps k).length - 1)⟩ := by
    unfold shw
    rw [if_pos hk]
    have := tr_last hi hk
    push_cast at this
    exact this
  have e2 : shw f n n 8 k = ⟨0, vt (f k) ((f k).length - 1), vb (f k) ((f k).length - 1)⟩ := by
    unfold shw
    rw [if_pos hk, tr_last h hk]
  rw [wvs_get (wcode_zero hc).1, e1, wst_get h hc]
  cases hf : fnd ps k with
  | none => simp only; rw [e2]; exact ⟨rfl, rfl⟩
  | some p =>
    simp only [List.length_append, List.length_cons, List.length_nil, Nat.zero_add, Nat.add_sub_cancel]
    rw [vt_concat, vb_concat]
    exact ⟨rfl, rfl⟩
end Go.Proofs.Ytcfogkdpkpehaab
