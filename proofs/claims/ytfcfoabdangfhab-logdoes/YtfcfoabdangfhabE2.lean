/- Steps that are handed in; greatPairs, greatTable and SamePairs, by their contracts. -/
import Derived.Test.YtfcfoabdangfhabS2
import Derived.Test.YtfcfoabdangfhabPq
namespace Go.Proofs.Ytfcfoabdangfhab
open Go.RowKit
set_option maxRecDepth 20000
attribute [local go_sem ↓] Go.wp_at_zero Go.wp_at_succ

/-- A step: 0 Write of the pairs, 1 Clear of l. -/
structure TStep where
  d : Int
  l : Int
  a : Option Addr
  c : Nat
  ps : List Ver

/-- The steps lie in block b from o on, n of them, and behind each its pairs. -/
def StT (w : World) (b o n : Nat) (st : Nat → TStep) : Prop := ∀ i, i < n →
  w.cell? ⟨b, o + i * 3, none⟩ = some (.int .i64 (st i).d) ∧ w.cell? ⟨b, o + i * 3 + 1, none⟩ = some (.int .i64 (st i).l) ∧ w.cell? ⟨b, o + i * 3 + 2, none⟩ = some (.slice (st i).a (st i).ps.length (st i).c) ∧ Prs w (st i).a (st i).ps
def TSts (w : World) (a : Option Addr) (n : Nat) (st : Nat → TStep) : Prop := n ≤ maxLen ∧ (0 < n → ∃ b o, a = some ⟨b, o, none⟩ ∧ StT w b o n st)

theorem StT.kp0 {w w' : World} {b o n : Nat} {st : Nat → TStep} (h : StT w b o n st) (hk : Kp [] w w') : StT w' b o n st := by
  intro i hi
  obtain ⟨h1, h2, h3, h4⟩ := h i hi
  exact ⟨hk.cell (p := ⟨b, o + i * 3, none⟩) (by simp) h1, hk.cell (p := ⟨b, o + i * 3 + 1, none⟩) (by simp) h2, hk.cell (p := ⟨b, o + i * 3 + 2, none⟩) (by simp) h3, h4.kp0 hk⟩
theorem TSts.kp0 {w w' : World} {a : Option Addr} {n : Nat} {st : Nat → TStep} (h : TSts w a n st) (hk : Kp [] w w') : TSts w' a n st := by
  refine ⟨h.1, fun hp => ?_⟩
  obtain ⟨b, o, e, hs⟩ := h.2 hp
  exact ⟨b, o, e, hs.kp0 hk⟩

def GtEnd (n : Nat) (st : Nat → TStep) (w : World) (e : Ending) (w' : World) : Prop := ∃ q : Bool, e = .returned (.bool q) ∧ (q = false → n ≤ 80 ∧ ∀ i, i < n → (st i).ps.length ≤ 50) ∧ w' = w
theorem gtEnd_mk {n : Nat} {st : Nat → TStep} {w : World} (q : Bool) (h : q = false → n ≤ 80 ∧ ∀ i, i < n → (st i).ps.length ≤ 50) : GtEnd n st w (.returned (.bool q)) w := ⟨q, rfl, h, rfl⟩

end Go.Proofs.Ytfcfoabdangfhab
