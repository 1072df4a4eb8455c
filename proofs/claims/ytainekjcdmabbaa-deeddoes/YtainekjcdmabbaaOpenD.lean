/- Steps of a deed that came in, opened: what the walks are told of them. -/
import Derived.Test.YtainekjcdmabbaaY1
import Derived.Test.YtainekjcdmabbaaOpenT
namespace Go.Proofs.Ytainekjcdmabbaa
open Go.ChangeShapes Go.WideShapes Go.ChangeAt Go.RowKit
set_option maxRecDepth 20000

theorem Try.cells89 : Try.prog.cellsOf 89 = 6 := by kernel_rfl

theorem trod_struct5 {H : Type} {enc : TypeId × Value → H} {W : World} {t : TypeId} {f0 f1 f2 f3 f4 : Field} {fuel : Nat} {cs : List Value} {x : DataW H × List MemPlace} (ht : Try.prog.underlying t = some (.struct #[f0, f1, f2, f3, f4])) (h : DataW.trod enc Try.prog W 0 (fun _ => true) true fuel t cs = some x) :
    ∃ y0 y1 y2 y3 y4 n, cs.length = Try.prog.cellsOf t ∧ DataW.trod enc Try.prog W 0 (fun _ => true) true n f0.type ((cs.drop f0.offset).take (Try.prog.cellsOf f0.type)) = some y0 ∧
      DataW.trod enc Try.prog W 0 (fun _ => true) true n f1.type ((cs.drop f1.offset).take (Try.prog.cellsOf f1.type)) = some y1 ∧ DataW.trod enc Try.prog W 0 (fun _ => true) true n f2.type ((cs.drop f2.offset).take (Try.prog.cellsOf f2.type)) = some y2 ∧
      DataW.trod enc Try.prog W 0 (fun _ => true) true n f3.type ((cs.drop f3.offset).take (Try.prog.cellsOf f3.type)) = some y3 ∧ DataW.trod enc Try.prog W 0 (fun _ => true) true n f4.type ((cs.drop f4.offset).take (Try.prog.cellsOf f4.type)) = some y4 := by
  obtain ⟨xs, n, _, rfl, hl, hlen, hf⟩ := DataW.trod_struct ht h
  match xs, hlen with
  | [y0, y1, y2, y3, y4], _ => exact ⟨y0, y1, y2, y3, y4, n, hl, by simpa using hf 0 f0 rfl, by simpa using hf 1 f1 rfl, by simpa using hf 2 f2 rfl, by simpa using hf 3 f3 rfl, by simpa using hf 4 f4 rfl⟩

theorem dstep_of {H : Type} {enc : TypeId × Value → H} {W : World} {m : Nat} {cs : List Value} {x : DataW H × List MemPlace}
    (h : DataW.trod enc Try.prog W 0 (fun _ => true) true m 89 cs = some x) : ∃ st : DStep, cs = [.int .i64 st.d, .int .i64 st.k, .int .i64 st.to_, .bool st.t, .string st.s, .slice st.a st.ps.length st.c] ∧ Prs W st.a st.ps ∧ st.s.size ≤ maxLen := by
  obtain ⟨y0, y1, y2, y3, y4, n, hl, h0, h1, h2, h3, h4⟩ := trod_struct5 Try.underlying89 h
  rw [Try.cells89] at hl
  match cs, hl with
  | [c0, c1, c2, c3, c4, c5], _ =>
    simp only [Try.cells3, Try.cells24, Try.cells49] at h0 h1 h2 h3 h4
    obtain ⟨d, e0, _⟩ := DataW.trod_int Try.underlying3 h0
    obtain ⟨k, e1, _⟩ := DataW.trod_int Try.underlying3 h1
    obtain ⟨to_, e2, _⟩ := DataW.trod_int Try.underlying3 h2
    obtain ⟨t, s, e3, hs⟩ := value_of h3
    simp at e0 e1 e2 e3
    have h4' : DataW.trod enc Try.prog W 0 (fun _ => true) true n 49 [c5] = some y4 := by simpa using h4
    obtain ⟨a, c, ps, e4, hp⟩ := prs_of h4'
    exact ⟨⟨d, k, to_, t, s, a, c, ps⟩, by rw [e0, e1, e2, e3.1, e3.2, e4], hp, hs⟩

theorem dsts_of {H : Type} {enc : TypeId × Value → H} {W : World} {a : Option Addr} {n c : Nat} {d : DataW H} {p : List MemPlace}
    (h : DataW.Trod enc Try.prog W 0 (fun _ => true) true 80 (.slice a n c) d p) : ∃ st, DSts W a n st := by
  obtain ⟨fuel, hf⟩ := h
  rcases Deep.open_slice Try.underlying80 hf with ⟨hcs, _⟩ | ⟨ad, len, cap, m, k, D, Pl, hcs, _, hl, hm, hmm, _, hx⟩
  · simp [Value.cells] at hcs
    obtain ⟨rfl, rfl, rfl⟩ := hcs
    exact ⟨fun _ => ⟨0, 0, 0, false, ByteArray.empty, none, 0, []⟩, by simp, fun h => by omega⟩
  · simp [Value.cells] at hcs
    obtain ⟨rfl, rfl, rfl⟩ := hcs
    simp only [if_true] at hmm
    subst hmm
    rw [Try.cells89] at hx
    have key : ∀ i, i < n → ∃ st : DStep, W.cell? (ad.add (i * 6)) = some (.int .i64 st.d) ∧ W.cell? (ad.add (i * 6 + 1)) = some (.int .i64 st.k) ∧ W.cell? (ad.add (i * 6 + 2)) = some (.int .i64 st.to_) ∧ W.cell? (ad.add (i * 6 + 3)) = some (.bool st.t) ∧ W.cell? (ad.add (i * 6 + 4)) = some (.string st.s) ∧ W.cell? (ad.add (i * 6 + 5)) = some (.slice st.a st.ps.length st.c) ∧ Prs W st.a st.ps ∧ st.s.size ≤ maxLen := by
      intro i hi
      obtain ⟨cs, h1, h2⟩ := hx i (by omega)
      obtain ⟨st, rfl, hs, hz⟩ := dstep_of h2
      obtain ⟨_, _, hc⟩ := World.cells?_some h1
      have q0 := hc 0 (by omega)
      have q1 := hc 1 (by omega)
      have q2 := hc 2 (by omega)
      have q3 := hc 3 (by omega)
      have q4 := hc 4 (by omega)
      have q5 := hc 5 (by omega)
      rw [Deep.add_add] at q0 q1 q2 q3 q4 q5
      exact ⟨st, by simpa using q0, by simpa using q1, by simpa using q2, by simpa using q3, by simpa using q4, by simpa using q5, hs, hz⟩
    obtain ⟨st, hst⟩ := @Deep.choose_lt DStep ⟨⟨0, 0, 0, false, ByteArray.empty, none, 0, []⟩⟩ n _ key
    refine ⟨st, by omega, fun h0 => ?_⟩
    obtain ⟨b, o, sp⟩ := ad
    have hsp : sp = none := by
      have := (hst 0 h0).1
      simpa [Addr.add] using World.cell?_spot this
    subst hsp
    refine ⟨b, o, rfl, fun i hi => ?_⟩
    obtain ⟨q0, q1, q2, q3, q4, q5, q6, q7⟩ := hst i hi
    rw [addr_add] at q0 q1 q2 q3 q4 q5
    exact ⟨q0, q1, q2, q3, q4, q5, q6, q7⟩
end Go.Proofs.Ytainekjcdmabbaa
