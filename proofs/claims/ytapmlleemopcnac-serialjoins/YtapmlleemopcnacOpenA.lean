/- Acts that came in, opened: what the walks are told of them; an array of values. -/
import Derived.Test.YtapmlleemopcnacGa
import Derived.Test.YtapmlleemopcnacM10
import Derived.OpenShut
namespace Go.Proofs.Ytapmlleemopcnac
open Go.ChangeShapes Go.WideShapes Go.ChangeAt Go.RowKit
set_option maxRecDepth 20000

theorem Try.cells101 : Try.prog.cellsOf 101 = 6 := by kernel_rfl
theorem trod_struct5 {H : Type} {enc : TypeId × Value → H} {W : World} {t : TypeId} {f0 f1 f2 f3 f4 : Field} {fuel : Nat} {cs : List Value} {x : DataW H × List MemPlace} (ht : Try.prog.underlying t = some (.struct #[f0, f1, f2, f3, f4])) (h : DataW.trod enc Try.prog W 0 (fun _ => true) true fuel t cs = some x) :
    ∃ y0 y1 y2 y3 y4 n, cs.length = Try.prog.cellsOf t ∧ DataW.trod enc Try.prog W 0 (fun _ => true) true n f0.type ((cs.drop f0.offset).take (Try.prog.cellsOf f0.type)) = some y0 ∧ DataW.trod enc Try.prog W 0 (fun _ => true) true n f1.type ((cs.drop f1.offset).take (Try.prog.cellsOf f1.type)) = some y1 ∧ DataW.trod enc Try.prog W 0 (fun _ => true) true n f2.type ((cs.drop f2.offset).take (Try.prog.cellsOf f2.type)) = some y2 ∧ DataW.trod enc Try.prog W 0 (fun _ => true) true n f3.type ((cs.drop f3.offset).take (Try.prog.cellsOf f3.type)) = some y3 ∧ DataW.trod enc Try.prog W 0 (fun _ => true) true n f4.type ((cs.drop f4.offset).take (Try.prog.cellsOf f4.type)) = some y4 := by
  obtain ⟨xs, n, _, rfl, hl, hlen, hf⟩ := DataW.trod_struct ht h
  match xs, hlen with
  | [y0, y1, y2, y3, y4], _ => exact ⟨y0, y1, y2, y3, y4, n, hl, by simpa using hf 0 f0 rfl, by simpa using hf 1 f1 rfl, by simpa using hf 2 f2 rfl, by simpa using hf 3 f3 rfl, by simpa using hf 4 f4 rfl⟩
theorem act_of {H : Type} {enc : TypeId × Value → H} {W : World} {m : Nat} {cs : List Value} {x : DataW H × List MemPlace}
    (h : DataW.trod enc Try.prog W 0 (fun _ => true) true m 101 cs = some x) : ∃ (st : Ac) (la : Option Addr) (lc : Nat), cs = [.int .i64 st.kd, .int .i64 st.key, .int .i64 st.to_, .bool st.t, .string st.s, .slice la st.l.length lc] ∧ st.s.size ≤ maxLen ∧ Prs W la st.l := by
  obtain ⟨y0, y1, y2, y3, y4, n, hl, h0, h1, h2, h3, h4⟩ := trod_struct5 Try.underlying101 h
  rw [Try.cells101] at hl
  match cs, hl with
  | [c0, c1, c2, c3, c4, c5], _ =>
    simp only [Try.cells3, Try.cells31, Try.cells32] at h0 h1 h2 h3 h4
    obtain ⟨d, e0, _⟩ := DataW.trod_int Try.underlying3 h0
    obtain ⟨k, e1, _⟩ := DataW.trod_int Try.underlying3 h1
    obtain ⟨to_, e2, _⟩ := DataW.trod_int Try.underlying3 h2
    obtain ⟨t, sv, e3, hs⟩ := value_of h3
    have h4' : DataW.trod enc Try.prog W 0 (fun _ => true) true n 32 [c5] = some y4 := by simpa using h4
    obtain ⟨a, c, ps, e4, hp⟩ := prs_of h4'
    simp at e0 e1 e2 e3
    exact ⟨⟨d, k, to_, t, sv, ps⟩, a, c, by rw [e0, e1, e2, e3.1, e3.2, e4], hs, hp⟩
theorem acs_of {H : Type} {enc : TypeId × Value → H} {W : World} {a : Option Addr} {n c : Nat} {d : DataW H} {p : List MemPlace}
    (h : DataW.Trod enc Try.prog W 0 (fun _ => true) true 88 (.slice a n c) d p) : ∃ l : List Ac, n = l.length ∧ AcsH W a l ∧ n ≤ c ∧ c ≤ maxLen ∧ (a = none → c = 0) := by
  obtain ⟨fuel, hf⟩ := h
  rcases Deep.open_slice Try.underlying88 hf with ⟨hcs, _⟩ | ⟨ad, len, cap, m, k, D, Pl, hcs, _, hl, hm, hmm, _, hx⟩
  · simp [Value.cells] at hcs
    obtain ⟨rfl, rfl, rfl⟩ := hcs
    exact ⟨[], rfl, ⟨by simp [maxLen], fun h => by simp at h⟩, Nat.le_refl _, Nat.zero_le _, fun _ => rfl⟩
  · simp [Value.cells] at hcs
    obtain ⟨rfl, rfl, rfl⟩ := hcs
    simp only [if_true] at hmm
    subst hmm
    rw [Try.cells101] at hx
    have key : ∀ i, i < n → ∃ st : Ac, W.cell? (ad.add (i * 6)) = some (.int .i64 st.kd) ∧ W.cell? (ad.add (i * 6 + 1)) = some (.int .i64 st.key) ∧ W.cell? (ad.add (i * 6 + 2)) = some (.int .i64 st.to_) ∧ W.cell? (ad.add (i * 6 + 3)) = some (.bool st.t) ∧ W.cell? (ad.add (i * 6 + 4)) = some (.string st.s) ∧ st.s.size ≤ maxLen ∧ ∃ la lc, W.cell? (ad.add (i * 6 + 5)) = some (.slice la st.l.length lc) ∧ Prs W la st.l := by
      intro i hi
      obtain ⟨cs, h1, h2⟩ := hx i (by omega)
      obtain ⟨st, la, lc, rfl, hs, hp⟩ := act_of h2
      obtain ⟨_, _, hc⟩ := World.cells?_some h1
      have q0 := hc 0 (by omega)
      have q1 := hc 1 (by omega)
      have q2 := hc 2 (by omega)
      have q3 := hc 3 (by omega)
      have q4 := hc 4 (by omega)
      have q5 := hc 5 (by omega)
      rw [Deep.add_add] at q0 q1 q2 q3 q4 q5
      exact ⟨st, by simpa using q0, by simpa using q1, by simpa using q2, by simpa using q3, by simpa using q4, hs, la, lc, by simpa using q5, hp⟩
    obtain ⟨st, hst⟩ := @Deep.choose_lt Ac ⟨⟨0, 0, 0, false, ByteArray.empty, []⟩⟩ n _ key
    refine ⟨(List.range n).map st, by simp, ⟨by simp; omega, fun h0 => ?_⟩, by omega, by omega, fun h => by cases h⟩
    simp only [List.length_map, List.length_range] at h0
    obtain ⟨b, o, sp⟩ := ad
    have hsp : sp = none := by
      have := (hst 0 h0).1
      simpa [Addr.add] using World.cell?_spot this
    subst hsp
    refine ⟨b, o, rfl, fun i x hx2 => ?_⟩
    have hi : i < n := by have := (List.getElem?_eq_some_iff.1 hx2).1; simpa using this
    rw [List.getElem?_map, List.getElem?_range hi] at hx2
    simp only [Option.map_some, Option.some.injEq] at hx2
    subst hx2
    obtain ⟨q0, q1, q2, q3, q4, hs, la, lc, q5, hp⟩ := hst i hi
    rw [addr_add] at q0 q1 q2 q3 q4 q5
    exact ⟨q0, q1, q2, q3, q4, hs, la, lc, q5, hp⟩
theorem Try.cells71 : Try.prog.cellsOf 71 = 16 := by kernel_rfl
theorem world_of {H : Type} {enc : TypeId × Value → H} {W : World} {cs : Array Value} {d : DataW H} {p : List MemPlace}
    (h : DataW.Trod enc Try.prog W 0 (fun _ => true) true 71 (.agg cs) d p) : ∃ v : Nat → Ver, cs = wagg v := by
  obtain ⟨fuel, hf⟩ := h
  obtain ⟨xs, m, _, _, hl, hlen, hel⟩ := DataW.trod_array Try.underlying71 hf
  rw [Try.cells71] at hl
  rw [Try.cells31] at hel
  have hcs : (Value.agg cs).cells.toList = cs.toList := by simp [Value.cells]
  rw [hcs] at hl hel
  have key : ∀ i, i < 8 → ∃ u : Ver, (cs.toList.drop (i * 2)).take 2 = [.bool u.t, .string u.s] := fun i hi => by
    have h1 := hel i hi
    obtain ⟨y, hy⟩ : ∃ y, xs[i]? = some y := ⟨_, List.getElem?_eq_getElem (by omega)⟩
    rw [hy] at h1
    obtain ⟨t, sv, e, _⟩ := value_of h1
    exact ⟨⟨0, t, sv⟩, e⟩
  obtain ⟨v, hv⟩ := @Deep.choose_lt Ver ⟨dv⟩ 8 _ key
  refine ⟨v, ?_⟩
  apply Array.ext'
  generalize cs.toList = L at *
  match L, hl with
  | [a0, b0, a1, b1, a2, b2, a3, b3, a4, b4, a5, b5, a6, b6, a7, b7], _ =>
    have e0 := hv 0 (by omega)
    have e1 := hv 1 (by omega)
    have e2 := hv 2 (by omega)
    have e3 := hv 3 (by omega)
    have e4 := hv 4 (by omega)
    have e5 := hv 5 (by omega)
    have e6 := hv 6 (by omega)
    have e7 := hv 7 (by omega)
    simp at e0 e1 e2 e3 e4 e5 e6 e7
    simp [wagg, e0, e1, e2, e3, e4, e5, e6, e7]
end Go.Proofs.Ytapmlleemopcnac
