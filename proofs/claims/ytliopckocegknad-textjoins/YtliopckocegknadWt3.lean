/- TextJoins, walked: what two texts are shown as, one behind the other, is what both together are shown as. -/
import Derived.Test.YtliopckocegknadTb
namespace Go.Proofs.Ytliopckocegknad
open Go.RowKit
set_option maxRecDepth 20000
attribute [local go_sem ↓] Go.wp_at_zero Go.wp_at_succ

set_option maxHeartbeats 1000000 in
theorem tjoins4 (s t : ByteArray) (w : World) (h1 : s.size ≤ 140737488355327) (h2 : t.size ≤ 140737488355327) :
    Calls Try.prog 4 #[.string s, .string t] w fun e w' => e = .returned (.bool true) ∧ Below w.heap.size w w' := by
  go_enter Try.func4, Try.ntmps4
  go_wp2_with fail
  refine (tbegun w).mono ?_
  rintro e w1 ⟨rfl, k1⟩
  have K1 := thide k1
  clear k1
  by_cases hbig : 2000 < s.size + t.size
  · have i1 : (2000 : Int) < (s.size : Int) + (t.size : Int) := by omega
    go_wp2_with fail
    go_ret
    exact ⟨rfl, K1⟩
  · have i1 : ¬ (2000 : Int) < (s.size : Int) + (t.size : Int) := by omega
    obtain ⟨a1, a2⟩ := shs_size s
    obtain ⟨b1, b2⟩ := shs_size t
    have HS := thide (fun W => sshow s W (by omega))
    have HT := thide (fun W => sshow t W (by omega))
    have HST := thide (fun W => sshow (s ++ t) W (by rw [size_app]; omega))
    have HE := thide (shs_app s t)
    have HZ := thide (size_app s t)
    generalize shs s = A at *
    generalize shs t = B at *
    generalize shs (s ++ t) = C at *
    go_wp2_with fail
    refine (tunhide HS w1).mono ?_
    rintro e w2 ⟨rfl, k2⟩
    have K2 := thide ((tunhide K1).trans (k2.mono (tunhide K1).size))
    clear k2
    go_wp2_with fail
    refine (tunhide HT w2).mono ?_
    rintro e w3 ⟨rfl, k3⟩
    have K3 := thide ((tunhide K2).trans (k3.mono (tunhide K2).size))
    clear k3
    go_wp2_with fail
    refine (tunhide HST w3).mono ?_
    rintro e w4 ⟨rfl, k4⟩
    have K4 := thide ((tunhide K3).trans (k4.mono (tunhide K3).size))
    clear k4
    rw [tunhide HE]
    go_wp2_with fail
    refine (tunhide HS w4).mono ?_
    rintro e w5 ⟨rfl, k5⟩
    have K5 := thide ((tunhide K4).trans (k5.mono (tunhide K4).size))
    clear k5
    have j1 : (s.size : Int) ≤ (A.size : Int) := by omega
    have j2 : (A.size : Int) ≤ 3 * (s.size : Int) := by omega
    go_wp2_with fail
    refine (tunhide HS w5).mono ?_
    rintro e w6 ⟨rfl, k6⟩
    have K6 := thide ((tunhide K5).trans (k6.mono (tunhide K5).size))
    clear k6
    go_wp2_with fail
    go_ret
    exact ⟨rfl, K6⟩
end Go.Proofs.Ytliopckocegknad
