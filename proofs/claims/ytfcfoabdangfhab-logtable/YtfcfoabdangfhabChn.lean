/- A chain's memory. -/
import Derived.Test.YtfcfoabdangfhabBase
namespace Go.Proofs.Ytfcfoabdangfhab
open Go.RowKit
set_option maxRecDepth 20000

/-- A chain's memory: the box b holds the slice of its versions, the array lies in g. -/
structure Chn (B : Nat) (w : World) (b g cap : Nat) (vs : List Ver) : Prop where
  own : w.ownsRow B 96 3 (.slice (some ⟨g, 0, none⟩) vs.length cap) vs.length (vcells vs)
  box : w.heap[b]? = some (.cells #[.slice (some ⟨g, 0, none⟩) vs.length cap] 98 (0, 0))
  ne : b ≠ g
  hb : B ≤ b
  pos : 0 < vs.length

theorem Chn.hg {B : Nat} {w : World} {b g cap : Nat} {vs : List Ver} (h : Chn B w b g cap vs) : B ≤ g ∧ g < w.heap.size := h.own.lt g rfl
theorem Chn.blt {B : Nat} {w : World} {b g cap : Nat} {vs : List Ver} (h : Chn B w b g cap vs) : b < w.heap.size := (Array.getElem?_eq_some_iff.1 h.box).1
theorem Chn.cell {B : Nat} {w : World} {b g cap : Nat} {vs : List Ver} (h : Chn B w b g cap vs) : w.cell? ⟨b, 0, none⟩ = some (.slice (some ⟨g, 0, none⟩) vs.length cap) := by
  rw [cell_of_row w b 0 _ _ _ h.box]; rfl
theorem Chn.frozen {B : Nat} {w : World} {b g cap : Nat} {vs : List Ver} (h : Chn B w b g cap vs) : w.frozen? ⟨b, 0, none⟩ = false := by
  simp [World.frozen?, h.box]
theorem Chn.sla {B : Nat} {w : World} {b g cap : Nat} {vs : List Ver} (h : Chn B w b g cap vs) : SlA w g 0 vs := by
  intro j u hu
  have := h.own.cellAt j (by rw [← vcells_length]; exact (List.getElem?_eq_some_iff.1 hu).1)
  rw [Nat.zero_add, this]; exact hu
theorem Chn.kp {B : Nat} {S : List Nat} {w w' : World} {b g cap : Nat} {vs : List Ver} (h : Chn B w b g cap vs) (hk : Kp S w w') (hb : b ∉ S) (hg : g ∉ S) : Chn B w' b g cap vs := by
  refine ⟨?_, ?_, h.ne, h.hb, h.pos⟩
  · refine ⟨h.own.1, ?_⟩
    rcases h.own.2 with hn | ⟨g', cap', cur, e, h2, h3, h4⟩
    · exact .inl hn
    · refine .inr ⟨g', cap', cur, e, h2, ?_, h4⟩
      simp only [Value.slice.injEq, Option.some.injEq, Addr.mk.injEq, and_true, true_and] at e
      obtain ⟨rfl, rfl⟩ := e
      rw [hk.block g h.hg.2 hg]; exact h3
  · rw [hk.block b h.blt hb]; exact h.box
theorem Chn.drewN {B : Nat} {w : World} {b g cap : Nat} {vs : List Ver} (h : Chn B w b g cap vs) (n : Nat) : Chn B (w.drewN n) b g cap vs := ⟨h.own, h.box, h.ne, h.hb, h.pos⟩

end Go.Proofs.Ytfcfoabdangfhab
