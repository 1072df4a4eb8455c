/- A value that came in, opened. -/
import Derived.Test.YtfcfoabdangfhabC0
import Derived.ProofKit
import Derived.Deep.Slices
import Derived.Deep.Strs
namespace Go.Proofs.Ytfcfoabdangfhab
open Go.ChangeShapes Go.WideShapes Go.ChangeAt Go.RowKit
set_option maxRecDepth 20000

theorem Try.cells38 : Try.prog.cellsOf 38 = 2 := by kernel_rfl
theorem Try.cells3 : Try.prog.cellsOf 3 = 1 := by kernel_rfl
theorem Try.cells4 : Try.prog.cellsOf 4 = 1 := by kernel_rfl
theorem Try.cells9 : Try.prog.cellsOf 9 = 1 := by kernel_rfl

theorem value_of {H : Type} {enc : TypeId × Value → H} {W : World} {m : Nat} {cs : List Value} {x : DataW H × List MemPlace}
    (h : DataW.trod enc Try.prog W 0 (fun _ => true) true m 38 cs = some x) : ∃ t s, cs = [.bool t, .string s] ∧ s.size ≤ maxLen := by
  obtain ⟨y0, y1, n, _, hl, h0, h1⟩ := trod_struct2 Try.underlying38 h
  rw [Try.cells38] at hl
  match cs, hl with
  | [c0, c1], _ =>
    simp only [Try.cells4, Try.cells9] at h0 h1
    obtain ⟨t, e0, _⟩ := DataW.trod_bool Try.underlying4 h0
    obtain ⟨s, e1, _, hs⟩ := DataW.trod_string Try.underlying9 h1
    simp at e0 e1
    exact ⟨t, s, by rw [e0, e1], hs⟩

end Go.Proofs.Ytfcfoabdangfhab
