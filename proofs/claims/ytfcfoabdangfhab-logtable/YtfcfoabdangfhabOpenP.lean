/- Pairs that came in, opened. -/
import Derived.Test.YtfcfoabdangfhabOpenV
import Derived.Test.YtfcfoabdangfhabT3
namespace Go.Proofs.Ytfcfoabdangfhab
open Go.ChangeShapes Go.WideShapes Go.ChangeAt Go.RowKit
set_option maxRecDepth 20000

theorem Try.cells40 : Try.prog.cellsOf 40 = 3 := by kernel_rfl
theorem Try.cells22 : Try.prog.cellsOf 22 = 1 := by kernel_rfl

theorem pair_of {H : Type} {enc : TypeId × Value → H} {W : World} {m : Nat} {cs : List Value} {x : DataW H × List MemPlace}
    (h : DataW.trod enc Try.prog W 0 (fun _ => true) true m 40 cs = some x) : ∃ v : Ver, cs = [.int .i64 v.a, .bool v.t, .string v.s] ∧ v.s.size ≤ maxLen := by
  obtain ⟨y0, y1, n, _, hl, h0, h1⟩ := trod_struct2 Try.underlying40 h
  rw [Try.cells40] at hl
  match cs, hl with
  | [c0, c1, c2], _ =>
    simp only [Try.cells3, Try.cells38] at h0 h1
    obtain ⟨k, e0, _⟩ := DataW.trod_int Try.underlying3 h0
    obtain ⟨t, s, e1, hs⟩ := value_of h1
    simp at e0 e1
    exact ⟨⟨k, t, s⟩, by rw [e0, e1.1, e1.2], hs⟩

theorem vers_of (n : Nat) (g : Nat → Ver) : ∃ ps : List Ver, ps.length = n ∧ ∀ i, i < n → va ps i = (g i).a ∧ vt ps i = (g i).t ∧ vb ps i = (g i).s := by
  refine ⟨(List.range n).map g, by simp, fun i hi => ?_⟩
  simp [va, vt, vb, List.getD_eq_getElem?_getD, hi]

theorem sla_of {W : World} {b o : Nat} {ps : List Ver} (h : ∀ i, i < ps.length → W.cell? ⟨b, o + i * 3, none⟩ = some (.int .i64 (va ps i)) ∧ W.cell? ⟨b, o + i * 3 + 1, none⟩ = some (.bool (vt ps i)) ∧ W.cell? ⟨b, o + i * 3 + 2, none⟩ = some (.string (vb ps i))) : SlA W b o ps := by
  intro j u hu
  have hj : j < ps.length * 3 := by rw [← vcells_length]; exact (List.getElem?_eq_some_iff.1 hu).1
  obtain ⟨q0, q1, q2⟩ := vcells_at ps (j / 3) (by omega)
  obtain ⟨r0, r1, r2⟩ := h (j / 3) (by omega)
  have hc : j = j / 3 * 3 ∨ j = j / 3 * 3 + 1 ∨ j = j / 3 * 3 + 2 := by omega
  rcases hc with e | e | e
  · rw [e] at hu; rw [e]; rw [q0] at hu; rw [r0]; exact hu
  · rw [e] at hu; rw [e]; rw [q1] at hu; rw [← Nat.add_assoc, r1]; exact hu
  · rw [e] at hu; rw [e]; rw [q2] at hu; rw [← Nat.add_assoc, r2]; exact hu

theorem prs_of {H : Type} {enc : TypeId × Value → H} {W : World} {fuel : Nat} {v : Value} {x : DataW H × List MemPlace}
    (h : DataW.trod enc Try.prog W 0 (fun _ => true) true fuel 22 [v] = some x) : ∃ a c ps, v = .slice a (List.length ps) c ∧ Prs W a ps := by
  rcases Deep.open_slice Try.underlying22 h with ⟨hcs, _⟩ | ⟨ad, len, cap, m, k, D, Pl, hcs, _, hl, hm, hmm, _, hx⟩
  · simp at hcs
    exact ⟨none, 0, [], by rw [hcs]; rfl, by simp [maxLen], fun k hk => by simp at hk, fun hp => by simp at hp⟩
  · simp at hcs
    simp only [if_true] at hmm
    subst hmm
    rw [Try.cells40] at hx
    have key : ∀ i, i < len → ∃ u : Ver, W.cell? (ad.add (i * 3)) = some (.int .i64 u.a) ∧ W.cell? (ad.add (i * 3 + 1)) = some (.bool u.t) ∧ W.cell? (ad.add (i * 3 + 2)) = some (.string u.s) ∧ u.s.size ≤ maxLen := by
      intro i hi
      obtain ⟨cs, h1, h2⟩ := hx i (by omega)
      obtain ⟨u, rfl, hs⟩ := pair_of h2
      obtain ⟨_, _, hc⟩ := World.cells?_some h1
      have q0 := hc 0 (by omega)
      have q1 := hc 1 (by omega)
      have q2 := hc 2 (by omega)
      rw [Deep.add_add] at q0 q1 q2
      exact ⟨u, by simpa using q0, by simpa using q1, by simpa using q2, hs⟩
    obtain ⟨g, hg⟩ := @Deep.choose_lt Ver ⟨dv⟩ len _ key
    obtain ⟨ps, hlen, hps⟩ := vers_of len g
    refine ⟨some ad, m, ps, by rw [hcs, hlen], by omega, fun i hi => ?_, fun hp => ?_⟩
    · rw [(hps i (by omega)).2.2]; exact (hg i (by omega)).2.2.2
    · obtain ⟨b, o, sp⟩ := ad
      have hsp : sp = none := by
        have := (hg 0 (by omega)).1
        simpa [Addr.add] using World.cell?_spot this
      subst hsp
      refine ⟨b, o, rfl, sla_of (fun i hi => ?_)⟩
      obtain ⟨q0, q1, q2, _⟩ := hg i (by omega)
      obtain ⟨e0, e1, e2⟩ := hps i (by omega)
      rw [addr_add] at q0 q1 q2
      rw [e0, e1, e2]
      exact ⟨q0, q1, q2⟩

theorem prs_of_trod {H : Type} {enc : TypeId × Value → H} {W : World} {a : Option Addr} {n c : Nat} {d : DataW H} {p : List MemPlace}
    (h : DataW.Trod enc Try.prog W 0 (fun _ => true) true 22 (.slice a n c) d p) : ∃ ps, n = List.length ps ∧ Prs W a ps := by
  obtain ⟨fuel, hf⟩ := h
  obtain ⟨a', c', ps, e, hp⟩ := prs_of (by simpa [Value.cells] using hf)
  simp only [Value.slice.injEq] at e
  obtain ⟨rfl, e2, rfl⟩ := e
  exact ⟨ps, e2, hp⟩
end Go.Proofs.Ytfcfoabdangfhab
