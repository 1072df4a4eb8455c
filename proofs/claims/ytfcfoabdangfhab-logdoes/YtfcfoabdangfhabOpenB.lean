/- Bytes that came in, opened. -/
import Derived.Test.YtfcfoabdangfhabOpenV
import Derived.Test.YtfcfoabdangfhabQ1
namespace Go.Proofs.Ytfcfoabdangfhab
open Go.ChangeShapes Go.WideShapes Go.ChangeAt Go.RowKit
set_option maxRecDepth 20000

theorem Try.cells5 : Try.prog.cellsOf 5 = 1 := by kernel_rfl

theorem u8_of_wf {x : Int} (h : (Lit.int .u8 x).wf = true) : 0 ≤ x ∧ x < 256 := by
  have h1 : IntKind.u8.min = 0 := rfl
  have h2 : IntKind.u8.max = 255 := rfl
  simp only [Lit.wf, Bool.and_eq_true, decide_eq_true_eq] at h
  omega

theorem byt_of_trod {H : Type} {enc : TypeId × Value → H} {W : World} {a : Option Addr} {n c : Nat} {d : DataW H} {p : List MemPlace}
    (h : DataW.Trod enc Try.prog W 0 (fun _ => true) true 23 (.slice a n c) d p) : ∃ bs : List UInt8, n = bs.length ∧ Byt W a bs ∧ n ≤ c := by
  obtain ⟨fuel, hf⟩ := h
  rcases open_ints Try.underlying23 Try.underlying5 Try.cells5 hf with ⟨hcs, _⟩ | ⟨ad, len', cap', zs, hcs, _, hl, hm, hz, _, hcell, hwz⟩
  · simp [Value.cells] at hcs
    obtain ⟨rfl, rfl, rfl⟩ := hcs
    exact ⟨[], rfl, byt_nil _ _, Nat.le_refl _⟩
  · simp [Value.cells] at hcs
    obtain ⟨rfl, rfl, rfl⟩ := hcs
    simp only [if_true] at hz
    have hlen : ((zs.take n).map fun z => UInt8.ofNat z.toNat).length = n := by simp; omega
    refine ⟨(zs.take n).map fun z => UInt8.ofNat z.toNat, hlen.symm, fun hp => ?_, by omega⟩
    rw [hlen] at hp
    obtain ⟨b, o, sp⟩ := ad
    have hsp : sp = none := by
      have := hcell 0 (by omega)
      simpa [Addr.add] using World.cell?_spot this
    subst hsp
    refine ⟨b, o, rfl, fun j hj => ?_⟩
    rw [hlen] at hj
    have q := hcell j (by omega)
    rw [addr_add] at q
    rw [q]
    have hjz : j < zs.length := by omega
    have hw := u8_of_wf (hwz zs[j] (List.getElem_mem hjz))
    have e1 : zs.getD j 0 = zs[j] := by simp [List.getD_eq_getElem?_getD, hjz]
    have e2 : ((ub ((zs.take n).map fun z => UInt8.ofNat z.toNat) j : Nat) : Int) = zs[j] := by
      have e3 : (zs.take n)[j]? = some zs[j] := by rw [List.getElem?_take_of_lt hj]; exact List.getElem?_eq_getElem hjz
      simp only [ub, List.getD_eq_getElem?_getD, List.getElem?_map, e3, Option.map_some, Option.getD_some, UInt8.toNat_ofNat']
      omega
    rw [e1, e2]
end Go.Proofs.Ytfcfoabdangfhab
