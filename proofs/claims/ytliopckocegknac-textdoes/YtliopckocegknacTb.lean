/- Values as texts: textBegun, by its contract. -/
import Derived.Test.YtliopckocegknacTn
namespace Go.Proofs.Ytliopckocegknac
open Go.RowKit
set_option maxRecDepth 20000
attribute [local go_sem ↓] Go.wp_at_zero Go.wp_at_succ

/-- What bytes are shown as, as a string. -/
def shs (s : ByteArray) : ByteArray := ⟨(sh s.data.toList).toArray⟩
theorem shs_size (s : ByteArray) : s.size ≤ (shs s).size ∧ (shs s).size ≤ 3 * s.size := by
  have := sh_len s.data.toList
  unfold shs
  rw [mk_size]
  rw [len8] at this
  exact this
theorem app_list (s t : ByteArray) : (s ++ t).data.toList = s.data.toList ++ t.data.toList := by simp [ByteArray.data_append]
theorem shs_app (s t : ByteArray) : shs (s ++ t) = shs s ++ shs t := by
  unfold shs
  rw [app_list, sh_app, mk_app]
theorem size_app (s t : ByteArray) : (s ++ t).size = s.size + t.size := by simp
theorem sshow (s : ByteArray) (w : World) (hs : s.size ≤ 30000) :
    Calls Try.prog 54 #[.string s] w fun e w' => e = .returned (.string (shs s)) ∧ Below w.heap.size w w' := tshow s w hs
theorem mk_list (s : ByteArray) : ByteArray.mk s.data.toList.toArray = s := rfl
theorem mk_inj {x y : List UInt8} (h : ByteArray.mk x.toArray = ByteArray.mk y.toArray) : x = y := by
  have := congrArg (fun b : ByteArray => b.data.toList) h
  simpa using this
theorem list_inj {s t : ByteArray} (h : s.data.toList = t.data.toList) : s = t := by rw [← mk_list s, h, mk_list]
theorem shs_inj {s t : ByteArray} (h : shs s = shs t) : s = t := list_inj (sh_inj (mk_inj h))
/-- What Mean tells of a string. -/
theorem smean (s : ByteArray) (w : World) (hs : s.size ≤ 10000) :
    Calls Try.prog 52 #[.string (shs s)] w fun e w' => e = .returned (.tuple #[.string s, .bool true]) ∧ Below w.heap.size w w' := by
  have h1 := (shs_size s).2
  refine (tmean (shs s) w (by omega)).mono ?_
  rintro e w' ⟨rfl, hk⟩
  refine ⟨?_, hk⟩
  have e1 : (shs s).data.toList = sh s.data.toList := rfl
  rw [e1, mn_sh]
  rfl
/-- The text of a value that is there. -/
def vts (s : ByteArray) : ByteArray := ⟨(vtx true s).toArray⟩
theorem vts_inj {s t : ByteArray} (h : vts s = vts t) : s = t := by
  have h1 := mk_inj h
  simp only [vtx, if_true] at h1
  exact list_inj (sh_inj (List.cons.inj h1).2)
theorem vts_ne (s : ByteArray) : vts s ≠ ⟨#[45]⟩ := fun h => by
  have h1 : vtx true s = [45] := mk_inj (y := [45]) h
  simp only [vtx, if_true] at h1
  have := (List.cons.inj h1).1
  revert this
  decide
theorem svalue (s : ByteArray) (w : World) (hs : s.size ≤ 30000) :
    Calls Try.prog 56 #[.agg #[.bool true, .string s]] w fun e w' => e = .returned (.string (vts s)) ∧ Below w.heap.size w w' := tvalue true s w hs
theorem svalue0 (w : World) :
    Calls Try.prog 56 #[.agg #[.bool false, .string ⟨#[]⟩]] w fun e w' => e = .returned (.string ⟨#[45]⟩) ∧ Below w.heap.size w w' := tvalue false ⟨#[]⟩ w (by decide)
theorem mn_a : mn (ByteArray.mk #[97, 92, 50, 48, 92, 53, 99]).data.toList = some [97, 32, 92] := by decide
theorem mn_b : mn (ByteArray.mk #[92, 52, 49]).data.toList = none := by decide
theorem sh_a : sh (ByteArray.mk #[97, 32, 92]).data.toList = [97, 92, 50, 48, 92, 53, 99] := by decide
theorem mnv_a : mnv (some [97, 32, 92]) = .tuple #[.string ⟨#[97, 32, 92]⟩, .bool true] := rfl
theorem mnv_b : mnv none = .tuple #[.string ⟨#[]⟩, .bool false] := rfl
theorem vtx_no (s : ByteArray) : vtx false s = [45] := rfl
theorem vtx_em : vtx true ⟨#[]⟩ = [61] := rfl
set_option maxHeartbeats 1000000 in
theorem tbegun (w : World) : Calls Try.prog 51 #[] w fun e w' => e = .returned (.bool true) ∧ Below w.heap.size w w' := by
  go_enter Try.func51, Try.ntmps51
  go_wp2_with fail
  refine (tmean _ w (by decide)).mono ?_
  rintro e w1 ⟨rfl, k1⟩
  rw [mn_a, mnv_a]
  have K1 := thide k1
  clear k1
  go_wp2_with fail
  refine (tmean _ w1 (by decide)).mono ?_
  rintro e w2 ⟨rfl, k2⟩
  rw [mn_b, mnv_b]
  have K2 := thide ((tunhide K1).trans (k2.mono (tunhide K1).size))
  clear k2
  go_wp2_with fail
  refine (tshow _ w2 (by decide)).mono ?_
  rintro e w3 ⟨rfl, k3⟩
  rw [sh_a]
  have K3 := thide ((tunhide K2).trans (k3.mono (tunhide K2).size))
  clear k3
  go_wp2_with fail
  refine (tvalue _ _ w3 (by decide)).mono ?_
  rintro e w4 ⟨rfl, k4⟩
  rw [vtx_no]
  have K4 := thide ((tunhide K3).trans (k4.mono (tunhide K3).size))
  clear k4
  go_wp2_with fail
  refine (thas _ w4).mono ?_
  rintro e w5 ⟨rfl, k5⟩
  have K5 := thide ((tunhide K4).trans (k5.mono (tunhide K4).size))
  clear k5
  go_wp2_with fail
  refine (tvalue _ _ w5 (by decide)).mono ?_
  rintro e w6 ⟨rfl, k6⟩
  rw [vtx_em]
  have K6 := thide ((tunhide K5).trans (k6.mono (tunhide K5).size))
  clear k6
  go_wp2_with fail
  go_ret
  exact ⟨rfl, K6⟩
end Go.Proofs.Ytliopckocegknac
