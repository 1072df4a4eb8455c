/- Plain words for pairs: what Check tells of them; no statement of the program yet. -/
import Derived.Test.YtfcfoabdangfhabC0
namespace Go.Proofs.Ytfcfoabdangfhab
open Go.RowKit
set_option maxRecDepth 20000

theorem va_cons_succ (v : Ver) (r : List Ver) (k : Nat) : va (v :: r) (k + 1) = va r k := by simp [va]
theorem va_cons_zero (v : Ver) (r : List Ver) : va (v :: r) 0 = v.a := by simp [va]

/-- What Check tells of pairs (a: the key), behind the key a. -/
def pf : Int → List Ver → Int
  | _, [] => 0
  | a, p :: r => if keyB p.a = false then 1 else if p.a ≤ a then 5 else if chk p.t p.s = 0 then pf p.a r else chk p.t p.s

theorem pf_keys {a : Int} {ps : List Ver} (h : pf a ps = 0) : ∀ i, i < ps.length → 0 ≤ va ps i ∧ va ps i < 8 := by
  induction ps generalizing a with
  | nil => intro i hi; simp at hi
  | cons p r ih =>
    unfold pf at h
    split at h
    · simp at h
    · rename_i hk
      split at h
      · simp at h
      · split at h
        · intro i hi
          cases i with
          | zero => rw [va_cons_zero]; simp [keyB] at hk; omega
          | succ i => rw [va_cons_succ]; exact ih h i (by simpa using hi)
        · rename_i h1; exact absurd h h1

end Go.Proofs.Ytfcfoabdangfhab
