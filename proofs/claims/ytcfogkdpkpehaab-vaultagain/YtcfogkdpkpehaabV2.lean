/- Plain words for the laws of vaults: what was written laid over what was there; what is read behind a crash. -/
import Derived.Test.YtcfogkdpkpehaabM6
import Derived.Test.YtcfogkdpkpehaabX4
namespace Go.Proofs.Ytcfogkdpkpehaab
open Go.RowKit
set_option maxRecDepth 20000

/-- The values of all keys, with what a deed wrote last laid over them. -/
def lay (v : Nat → Ver) (ws : List Ver) : Nat → Ver := fun k => match lwr ws k with | some u => ⟨0, u.t, u.s⟩ | none => v k
theorem lay_nil (v : Nat → Ver) : lay v [] = v := by
  funext k
  unfold lay
  rw [lwr_nil]
theorem lay_put (v : Nat → Ver) (ws : List Ver) (j : Nat) (t : Bool) (s : ByteArray) : lay v (ws ++ [⟨(j : Int), t, s⟩]) = upd (lay v ws) j ⟨0, t, s⟩ := by
  funext k
  unfold upd
  by_cases e : k = j
  · subst e
    rw [if_pos rfl]
    unfold lay
    rw [lwr_put, if_pos rfl]
  · rw [if_neg e]
    unfold lay
    rw [lwr_put, if_neg (by show ¬ ((j : Int) = (k : Int)); omega)]
theorem wk_lt (ws : List Ver) : ∀ m, ∀ q ∈ wk ws m, q.a < m := by
  intro m
  induction m with
  | zero => intro q hq; simp [wk] at hq
  | succ m ih =>
    intro q hq
    simp only [wk] at hq
    split at hq
    · rcases List.mem_append.1 hq with e | e
      · have := ih q e; push_cast; omega
      · rw [List.mem_singleton.1 e]; push_cast; omega
    · have := ih q hq; push_cast; omega
theorem fnd_wk (ws : List Ver) {k : Nat} : ∀ m, k < m → fnd (wk ws m) k = (lwr ws k).map (fun u => ⟨(k : Int), u.t, u.s⟩) := by
  intro m
  induction m with
  | zero => intro h; omega
  | succ m ih =>
    intro h
    by_cases e : k = m
    · subst e
      have hn : (wk ws k).find? (fun p => p.a == (k : Int)) = none := by
        rw [List.find?_eq_none]
        intro q hq
        have := wk_lt ws k q hq
        simp only [beq_iff_eq]
        omega
      cases hl : lwr ws k with
      | some u =>
        rw [wk_yes hl]
        unfold fnd
        rw [List.find?_append, hn]
        simp
      | none =>
        rw [wk_no hl]
        unfold fnd
        rw [hn]
        rfl
    · have hk := ih (by omega)
      cases hl : lwr ws m with
      | some u =>
        rw [wk_yes hl]
        unfold fnd at hk ⊢
        rw [List.find?_append, hk]
        have hf : ((m : Int) == (k : Int)) = false := by simp only [beq_eq_false_iff_ne]; omega
        simp [hf]
      | none =>
        rw [wk_no hl]
        exact hk
theorem lay_wvs {ws : List Ver} (h : WOk ws) (v : Nat → Ver) : wagg (wvs v (wk ws 8)) = wagg (lay v ws) := by
  refine wagg_congr (fun k hk => ?_)
  rw [wvs_get h.pf k, fnd_wk ws 8 hk]
  unfold lay
  cases lwr ws k with
  | some u => exact ⟨rfl, rfl⟩
  | none => exact ⟨rfl, rfl⟩
/-- Behind a crash all that is known is read as it was. -/
theorem crash_tr {f : Nat → List Ver} {n : Nat} {cs : List (List Ver)} (h : VI f n cs) (hl : LInv cs) {y : Int} (hy : fmx f 8 ≤ y) (j : Nat) : tr (wal0 cs) n j y = tr f n j y := by
  have hi := inv_wal0 hl
  rw [← h.len] at hi
  exact (h.sfx.read hi j y hy).symm
theorem crash_shw {f : Nat → List Ver} {n : Nat} {cs : List (List Ver)} (h : VI f n cs) (hl : LInv cs) {y : Int} (hy : fmx f 8 ≤ y) : shw (wal0 cs) n y 8 = shw f n y 8 :=
  shw_congr (Nat.le_refl _) (fun j _ => crash_tr h hl hy j)
theorem shk_known {f : Nat → List Ver} {n : Nat} {y : Int} (h : Inv f n) (h1 : fmx f 8 ≤ y) (h2 : y ≤ n) : ShK f n y 8 :=
  ⟨Nat.le_refl _, fun _ hj => tr_known h h1 h2 hj, fun h => by omega⟩
/-- What is there behind a commit that came whole. -/
theorem tears_now {f : Nat → List Ver} {n : Nat} {cs : List (List Ver)} {ws : List Ver} (h : VI f n cs) (hf : Inv f n) (hl : LInv cs) (hw : WOk ws) (hc : lcode cs (wk ws 8) = 0) {m : Nat} (hm : n + 1 = m) :
    wagg (lay (shw f n n 8) ws) = wagg (shw (wal0 (cs ++ [wk ws 8])) m m 8) := by
  subst hm
  have hi := inv_wal0 hl
  rw [← h.len] at hi
  have h1 := shots_now' hi (h.room hc).1
  rw [crash_shw h hl (fmx_le hf 8 (Nat.le_refl _)).2, lay_wvs hw] at h1
  rw [h1, wal0_snoc, ← h.len]
end Go.Proofs.Ytcfogkdpkpehaab
