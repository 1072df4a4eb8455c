/- Steps that came in, opened: what the walks are told of them. -/
import Derived.Test.YtainekjcdmabbaaP1
import Derived.ProofKit
import Derived.Deep.Slices
import Derived.Deep.Strs
namespace Go.Proofs.Ytainekjcdmabbaa
open Go.ChangeShapes Go.WideShapes Go.ChangeAt Go.RowKit
set_option maxRecDepth 20000

theorem Try.cells43 : Try.prog.cellsOf 43 = 4 := by kernel_rfl
theorem Try.cells24 : Try.prog.cellsOf 24 = 2 := by kernel_rfl
theorem Try.cells3 : Try.prog.cellsOf 3 = 1 := by kernel_rfl
theorem Try.cells4 : Try.prog.cellsOf 4 = 1 := by kernel_rfl
theorem Try.cells9 : Try.prog.cellsOf 9 = 1 := by kernel_rfl

theorem value_of {H : Type} {enc : TypeId × Value → H} {W : World} {m : Nat} {cs : List Value} {x : DataW H × List MemPlace}
    (h : DataW.trod enc Try.prog W 0 (fun _ => true) true m 24 cs = some x) : ∃ t s, cs = [.bool t, .string s] ∧ s.size ≤ maxLen := by
  obtain ⟨y0, y1, n, _, hl, h0, h1⟩ := trod_struct2 Try.underlying24 h
  rw [Try.cells24] at hl
  match cs, hl with
  | [c0, c1], _ =>
    simp only [Try.cells4, Try.cells9] at h0 h1
    obtain ⟨t, e0, _⟩ := DataW.trod_bool Try.underlying4 h0
    obtain ⟨s, e1, _, hs⟩ := DataW.trod_string Try.underlying9 h1
    simp at e0 e1
    exact ⟨t, s, by rw [e0, e1], hs⟩

theorem step_of {H : Type} {enc : TypeId × Value → H} {W : World} {m : Nat} {cs : List Value} {x : DataW H × List MemPlace}
    (h : DataW.trod enc Try.prog W 0 (fun _ => true) true m 43 cs = some x) : ∃ st : Step, cs = [.int .i64 st.d, .int .i64 st.a, .bool st.t, .string st.s] ∧ st.s.size ≤ maxLen := by
  obtain ⟨y0, y1, y2, n, _, hl, h0, h1, h2⟩ := Deep.trod_struct3 Try.underlying43 h
  rw [Try.cells43] at hl
  match cs, hl with
  | [c0, c1, c2, c3], _ =>
    simp only [Try.cells3, Try.cells24] at h0 h1 h2
    obtain ⟨d, e0, _⟩ := DataW.trod_int Try.underlying3 h0
    obtain ⟨a, e1, _⟩ := DataW.trod_int Try.underlying3 h1
    obtain ⟨t, s, e2, hs⟩ := value_of h2
    simp at e0 e1 e2
    exact ⟨⟨d, a, t, s⟩, by rw [e0, e1, e2.1, e2.2], hs⟩

theorem sts_of {H : Type} {enc : TypeId × Value → H} {W : World} {a : Option Addr} {n c : Nat} {d : DataW H} {p : List MemPlace}
    (h : DataW.Trod enc Try.prog W 0 (fun _ => true) true 22 (.slice a n c) d p) : ∃ st, Sts W a n st := by
  obtain ⟨fuel, hf⟩ := h
  rcases Deep.open_slice Try.underlying22 hf with ⟨hcs, _⟩ | ⟨ad, len, cap, m, k, D, Pl, hcs, _, hl, hm, hmm, _, hx⟩
  · simp [Value.cells] at hcs
    obtain ⟨rfl, rfl, rfl⟩ := hcs
    exact ⟨fun _ => ⟨0, 0, false, ByteArray.empty⟩, by simp, fun h => by omega⟩
  · simp [Value.cells] at hcs
    obtain ⟨rfl, rfl, rfl⟩ := hcs
    simp only [if_true] at hmm
    subst hmm
    rw [Try.cells43] at hx
    have key : ∀ i, i < n → ∃ st : Step, W.cell? (ad.add (i * 4)) = some (.int .i64 st.d) ∧ W.cell? (ad.add (i * 4 + 1)) = some (.int .i64 st.a) ∧ W.cell? (ad.add (i * 4 + 2)) = some (.bool st.t) ∧ W.cell? (ad.add (i * 4 + 3)) = some (.string st.s) ∧ st.s.size ≤ maxLen := by
      intro i hi
      obtain ⟨cs, h1, h2⟩ := hx i (by omega)
      obtain ⟨st, rfl, hs⟩ := step_of h2
      obtain ⟨_, _, hc⟩ := World.cells?_some h1
      have q0 := hc 0 (by omega)
      have q1 := hc 1 (by omega)
      have q2 := hc 2 (by omega)
      have q3 := hc 3 (by omega)
      rw [Deep.add_add] at q0 q1 q2 q3
      exact ⟨st, by simpa using q0, by simpa using q1, by simpa using q2, by simpa using q3, hs⟩
    obtain ⟨st, hst⟩ := @Deep.choose_lt Step ⟨⟨0, 0, false, ByteArray.empty⟩⟩ n _ key
    refine ⟨st, by omega, fun h0 => ?_⟩
    obtain ⟨b, o, sp⟩ := ad
    have hsp : sp = none := by
      have := (hst 0 h0).1
      simpa [Addr.add] using World.cell?_spot this
    subst hsp
    refine ⟨b, o, rfl, fun i hi => ?_⟩
    obtain ⟨q0, q1, q2, q3, q4⟩ := hst i hi
    rw [addr_add] at q0 q1 q2 q3
    exact ⟨q0, q1, q2, q3, q4⟩
end Go.Proofs.Ytainekjcdmabbaa
