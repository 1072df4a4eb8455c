/- A value that came in, opened; how great its bytes are. -/
import Derived.Test.YtliopckocegknacTb
import Derived.ProofKit
import Derived.Deep.Slices
import Derived.Deep.Strs
import Derived.SizedLaws
namespace Go.Proofs.Ytliopckocegknac
open Go.ChangeShapes Go.WideShapes Go.ChangeAt Go.RowKit
set_option maxRecDepth 20000

theorem Try.cellsX31 : Try.prog.cellsOf 31 = 2 := by kernel_rfl
theorem Try.cellsX4 : Try.prog.cellsOf 4 = 1 := by kernel_rfl
theorem Try.cellsX9 : Try.prog.cellsOf 9 = 1 := by kernel_rfl
theorem value_in {H : Type} {enc : TypeId × Value → H} {W : World} {cs : Array Value} {d : DataW H} {p : List MemPlace}
    (h : DataW.Trod enc Try.prog W 0 (fun _ => true) true 31 (.agg cs) d p) : ∃ t s, cs = #[.bool t, .string s] ∧ d = .agg [.lit (.bool t), .lit (.string s.data.toList)] := by
  obtain ⟨m, hf⟩ := h
  obtain ⟨y0, y1, n, hx, hl, h0, h1⟩ := trod_struct2 Try.underlying31 hf
  rw [Try.cellsX31] at hl
  obtain ⟨l⟩ := cs
  have hl2 : l.length = 2 := hl
  match l, hl2 with
  | [c0, c1], _ =>
    simp only [Value.cells, Try.cellsX4, Try.cellsX9] at h0 h1
    obtain ⟨t, e0, g0⟩ := DataW.trod_bool Try.underlying4 h0
    obtain ⟨s, e1, g1, hs⟩ := DataW.trod_string Try.underlying9 h1
    simp at e0 e1
    refine ⟨t, s, by rw [e0, e1], ?_⟩
    rw [g0, g1] at hx
    exact (Prod.mk.inj hx).1
theorem sized_value {H : Type} {ts : List TypeId} {ds : List (DataW H)} (h : (DataW.weightsEach Try.prog ts ds).all (· ≤ reachBytes) = true) {j : Nat} {t : Bool} {bytes : List UInt8} (ht : ts[j]? = some 31) (hd : ds[j]? = some (.agg [.lit (.bool t), .lit (.string bytes)])) : bytes.length ≤ reachBytes := by
  have := List.all_eq_true.1 h _ (DataW.weights_mem_each ht hd bytes.length (by simp [DataW.weights, DataW.weightsEach, Try.underlying31]))
  simpa using this
end Go.Proofs.Ytliopckocegknac
