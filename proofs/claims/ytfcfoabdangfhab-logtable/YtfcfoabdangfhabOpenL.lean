/- Steps of a log that came in, opened: what the walks are told of them. -/
import Derived.Test.YtfcfoabdangfhabE2
import Derived.Test.YtfcfoabdangfhabOpenP
namespace Go.Proofs.Ytfcfoabdangfhab
open Go.ChangeShapes Go.WideShapes Go.ChangeAt Go.RowKit
set_option maxRecDepth 20000

theorem Try.cells80 : Try.prog.cellsOf 80 = 3 := by kernel_rfl

theorem lstep_of {H : Type} {enc : TypeId × Value → H} {W : World} {m : Nat} {cs : List Value} {x : DataW H × List MemPlace}
    (h : DataW.trod enc Try.prog W 0 (fun _ => true) true m 80 cs = some x) : ∃ st : TStep, cs = [.int .i64 st.d, .int .i64 st.l, .slice st.a st.ps.length st.c] ∧ Prs W st.a st.ps := by
  obtain ⟨y0, y1, y2, n, _, hl, h0, h1, h2⟩ := Deep.trod_struct3 Try.underlying80 h
  rw [Try.cells80] at hl
  match cs, hl with
  | [c0, c1, c2], _ =>
    simp only [Try.cells3, Try.cells22] at h0 h1 h2
    obtain ⟨d, e0, _⟩ := DataW.trod_int Try.underlying3 h0
    obtain ⟨l, e1, _⟩ := DataW.trod_int Try.underlying3 h1
    simp at e0 e1
    have h2' : DataW.trod enc Try.prog W 0 (fun _ => true) true n 22 [c2] = some y2 := by simpa using h2
    obtain ⟨a, c, ps, e2, hp⟩ := prs_of h2'
    exact ⟨⟨d, l, a, c, ps⟩, by rw [e0, e1, e2], hp⟩

theorem lsts_of {H : Type} {enc : TypeId × Value → H} {W : World} {a : Option Addr} {n c : Nat} {d : DataW H} {p : List MemPlace}
    (h : DataW.Trod enc Try.prog W 0 (fun _ => true) true 41 (.slice a n c) d p) : ∃ st, TSts W a n st := by
  obtain ⟨fuel, hf⟩ := h
  rcases Deep.open_slice Try.underlying41 hf with ⟨hcs, _⟩ | ⟨ad, len, cap, m, k, D, Pl, hcs, _, hl, hm, hmm, _, hx⟩
  · simp [Value.cells] at hcs
    obtain ⟨rfl, rfl, rfl⟩ := hcs
    exact ⟨fun _ => ⟨0, 0, none, 0, []⟩, by simp, fun h => by omega⟩
  · simp [Value.cells] at hcs
    obtain ⟨rfl, rfl, rfl⟩ := hcs
    simp only [if_true] at hmm
    subst hmm
    rw [Try.cells80] at hx
    have key : ∀ i, i < n → ∃ st : TStep, W.cell? (ad.add (i * 3)) = some (.int .i64 st.d) ∧ W.cell? (ad.add (i * 3 + 1)) = some (.int .i64 st.l) ∧ W.cell? (ad.add (i * 3 + 2)) = some (.slice st.a st.ps.length st.c) ∧ Prs W st.a st.ps := by
      intro i hi
      obtain ⟨cs, h1, h2⟩ := hx i (by omega)
      obtain ⟨st, rfl, hs⟩ := lstep_of h2
      obtain ⟨_, _, hc⟩ := World.cells?_some h1
      have q0 := hc 0 (by omega)
      have q1 := hc 1 (by omega)
      have q2 := hc 2 (by omega)
      rw [Deep.add_add] at q0 q1 q2
      exact ⟨st, by simpa using q0, by simpa using q1, by simpa using q2, hs⟩
    obtain ⟨st, hst⟩ := @Deep.choose_lt TStep ⟨⟨0, 0, none, 0, []⟩⟩ n _ key
    refine ⟨st, by omega, fun h0 => ?_⟩
    obtain ⟨b, o, sp⟩ := ad
    have hsp : sp = none := by
      have := (hst 0 h0).1
      simpa [Addr.add] using World.cell?_spot this
    subst hsp
    refine ⟨b, o, rfl, fun i hi => ?_⟩
    obtain ⟨q0, q1, q2, q4⟩ := hst i hi
    rw [addr_add] at q0 q1 q2
    exact ⟨q0, q1, q2, q4⟩

end Go.Proofs.Ytfcfoabdangfhab
