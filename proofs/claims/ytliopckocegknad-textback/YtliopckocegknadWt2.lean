/- TextBack, walked: what is shown means what it was, and a text that means something is what that is shown as. -/
import Derived.Test.YtliopckocegknadTb
namespace Go.Proofs.Ytliopckocegknad
open Go.RowKit
set_option maxRecDepth 20000
attribute [local go_sem ↓] Go.wp_at_zero Go.wp_at_succ

theorem shs_range {s : ByteArray} {k : Nat} (h : k < (shs s).size) : 33 ≤ ((shs s)[k]'h).toNat ∧ ((shs s)[k]'h).toNat ≤ 126 := by
  have hm : (shs s)[k]'h ∈ sh s.data.toList := by
    have h1 : k < (sh s.data.toList).length := by rwa [← mk_size]
    have : (shs s)[k]'h = (sh s.data.toList)[k]'h1 := by
      show (shs s).data[k]'h = _
      simp [shs]
    rw [this]
    exact List.getElem_mem h1
  exact sh_range _ _ hm
theorem beq_no {s t : ByteArray} (h : ¬ s = t) : (s.toList == t.toList) = false := beq_eq_false_iff_ne.2 (fun e => h (list_inj (by rw [← ByteArray.toList_eq, ← ByteArray.toList_eq]; exact e)))
theorem smean_back {t : ByteArray} {y : List UInt8} (h : mn t.data.toList = some y) : shs ⟨y.toArray⟩ = t ∧ (⟨y.toArray⟩ : ByteArray).size ≤ t.size := by
  have h1 := sh_mn _ _ _ (Nat.le_refl _) h
  have h2 : shs ⟨y.toArray⟩ = t := list_inj (by show sh _ = _; simpa using h1)
  refine ⟨h2, ?_⟩
  have := (shs_size ⟨y.toArray⟩).1
  rw [h2] at this
  exact this
set_option maxHeartbeats 2000000 in
theorem tback3 (s t : ByteArray) (w : World) (h1 : s.size ≤ 140737488355327) (h2 : t.size ≤ 140737488355327) :
    Calls Try.prog 3 #[.string s, .string t] w fun e w' => e = .returned (.bool true) ∧ Below w.heap.size w w' := by
  go_enter Try.func3, Try.ntmps3
  go_wp2_with fail
  refine (tbegun w).mono ?_
  rintro e w1 ⟨rfl, k1⟩
  have K1 := thide k1
  clear k1
  by_cases hbig : 2000 < s.size + t.size
  · have i1 : (2000 : Int) < (s.size : Int) + (t.size : Int) := by omega
    go_wp2_with fail
    go_ret
    exact ⟨rfl, K1⟩
  · have i1 : ¬ (2000 : Int) < (s.size : Int) + (t.size : Int) := by omega
    have HS := thide (fun W => sshow s W (by omega))
    have HT := thide (fun W => sshow t W (by omega))
    have HM := thide (fun W => smean s W (by omega))
    have HV := thide (fun W => svalue s W (by omega))
    have HU := thide (fun W => svalue t W (by omega))
    have HR := thide (fun k h => shs_range (s := s) (k := k) h)
    have HN := thide (fun W => tmean t W (by omega))
    have HB := thide (fun y h => smean_back (t := t) (y := y) h)
    have htz : t.size ≤ 2000 := by omega
    have hA2 := (shs_size s).2
    have hAz : (shs s).size ≤ 6000 := by omega
    clear hA2
    have hne := vts_ne s
    have hne2 : ((vts s).toList == [45]) = false := beq_eq_false_iff_ne.2 (fun e => hne (list_inj (by rw [← ByteArray.toList_eq]; exact e)))
    by_cases hst : s = t
    · subst hst
      generalize shs s = A at *
      generalize vts s = V at *
      go_wp2_with fail
      refine (tunhide HS w1).mono ?_
      rintro e w2 ⟨rfl, k⟩
      have K2 := thide ((tunhide K1).trans (k.mono (tunhide K1).size))
      clear k
      go_wp2_with fail
      refine (tunhide HM w2).mono ?_
      rintro e w3 ⟨rfl, k⟩
      have K3 := thide ((tunhide K2).trans (k.mono (tunhide K2).size))
      clear k
      go_wp2_with fail
      refine (tunhide HS w3).mono ?_
      rintro e w4 ⟨rfl, k⟩
      have K4 := thide ((tunhide K3).trans (k.mono (tunhide K3).size))
      clear k
      go_wp2_with fail
      refine (thas s w4).mono ?_
      rintro e w5 ⟨rfl, k⟩
      have K5 := thide ((tunhide K4).trans (k.mono (tunhide K4).size))
      clear k
      go_wp2_with fail
      refine (tunhide HV w5).mono ?_
      rintro e w6 ⟨rfl, k⟩
      have K6 := thide ((tunhide K5).trans (k.mono (tunhide K5).size))
      clear k
      go_wp2_with fail
      refine (thas s w6).mono ?_
      rintro e w7 ⟨rfl, k⟩
      have K7 := thide ((tunhide K6).trans (k.mono (tunhide K6).size))
      clear k
      go_wp2_with fail
      refine (tunhide HV w7).mono ?_
      rintro e w8 ⟨rfl, k⟩
      have K8 := thide ((tunhide K7).trans (k.mono (tunhide K7).size))
      clear k
      go_wp2_with fail
      refine (thas s w8).mono ?_
      rintro e w9 ⟨rfl, k⟩
      have K9 := thide ((tunhide K8).trans (k.mono (tunhide K8).size))
      clear k
      go_wp2_with fail
      refine (tunhide HV w9).mono ?_
      rintro e w10 ⟨rfl, k⟩
      have K10 := thide ((tunhide K9).trans (k.mono (tunhide K9).size))
      clear k
      go_wp2_with fail
      refine (svalue0 w10).mono ?_
      rintro e w11 ⟨rfl, k⟩
      have K11 := thide ((tunhide K10).trans (k.mono (tunhide K10).size))
      clear k
      go_wp2_with fail
      clear K1 K2 K3 K4 K5 K6 K7 K8 K9 K10
      go_loop [8] (fun i => ∃ k : Nat, k ≤ A.size ∧ i = .int .i64 k) (fun i => A.size - (intOf i).toNat)
      case atStart => exact ⟨0, Nat.zero_le _, rfl⟩
      case round =>
        obtain ⟨k, hk, rfl⟩ := hrel
        by_cases hlt : k < A.size
        · have i0 : (0 : Int) ≤ (k : Int) := by omega
          have i2 : (k : Int) < (A.size : Int) := by omega
          obtain ⟨g1, g2⟩ := tunhide HR k hlt
          have g3 : ¬ (A[k].toNat : Int) < 33 := by omega
          have g4 : ¬ (126 : Int) < (A[k].toNat : Int) := by omega
          go_wp2_with fail
          exact ⟨⟨k + 1, by omega, by go_num⟩, by simp [intOf]; omega⟩
        · have i2 : ¬ (k : Int) < (A.size : Int) := by omega
          go_wp2_with fail
          refine (tunhide HN w11).mono ?_
          rintro e w12 ⟨rfl, k⟩
          have K12 := thide ((tunhide K11).trans (k.mono (tunhide K11).size))
          clear k
          cases hm : mn s.data.toList with
          | none =>
            simp only [mnv]
            go_wp2_with fail
            go_ret
            exact ⟨rfl, K12⟩
          | some y =>
            simp only [mnv]
            obtain ⟨b1, b2⟩ := tunhide HB y hm
            have HY := thide (fun W => sshow ⟨y.toArray⟩ W (by omega))
            rw [b1] at HY
            clear hm b1 b2
            generalize (ByteArray.mk y.toArray) = Y at *
            go_wp2_with fail
            refine (tunhide HY w12).mono ?_
            rintro e w13 ⟨rfl, k⟩
            have K13 := thide ((tunhide K12).trans (k.mono (tunhide K12).size))
            clear k
            go_wp2_with fail
            go_ret
            exact ⟨rfl, K13⟩
    · have hst2 : ¬ t = s := fun e => hst e.symm
      have hSS := beq_no hst
      have hAB := beq_no (fun e => hst2 (shs_inj e))
      have hVU := beq_no (fun e => hst (vts_inj e))
      generalize shs s = A at *
      generalize shs t = B at *
      generalize vts s = V at *
      generalize vts t = U at *
      go_wp2_with fail
      refine (tunhide HS w1).mono ?_
      rintro e w2 ⟨rfl, k⟩
      have K2 := thide ((tunhide K1).trans (k.mono (tunhide K1).size))
      clear k
      go_wp2_with fail
      refine (tunhide HM w2).mono ?_
      rintro e w3 ⟨rfl, k⟩
      have K3 := thide ((tunhide K2).trans (k.mono (tunhide K2).size))
      clear k
      go_wp2_with fail
      refine (tunhide HT w3).mono ?_
      rintro e w4 ⟨rfl, k⟩
      have K4 := thide ((tunhide K3).trans (k.mono (tunhide K3).size))
      clear k
      go_wp2_with fail
      refine (thas s w4).mono ?_
      rintro e w5 ⟨rfl, k⟩
      have K5 := thide ((tunhide K4).trans (k.mono (tunhide K4).size))
      clear k
      go_wp2_with fail
      refine (tunhide HV w5).mono ?_
      rintro e w6 ⟨rfl, k⟩
      have K6 := thide ((tunhide K5).trans (k.mono (tunhide K5).size))
      clear k
      go_wp2_with fail
      refine (thas t w6).mono ?_
      rintro e w7 ⟨rfl, k⟩
      have K7 := thide ((tunhide K6).trans (k.mono (tunhide K6).size))
      clear k
      go_wp2_with fail
      refine (tunhide HU w7).mono ?_
      rintro e w8 ⟨rfl, k⟩
      have K8 := thide ((tunhide K7).trans (k.mono (tunhide K7).size))
      clear k
      go_wp2_with fail
      refine (thas s w8).mono ?_
      rintro e w9 ⟨rfl, k⟩
      have K9 := thide ((tunhide K8).trans (k.mono (tunhide K8).size))
      clear k
      go_wp2_with fail
      refine (tunhide HV w9).mono ?_
      rintro e w10 ⟨rfl, k⟩
      have K10 := thide ((tunhide K9).trans (k.mono (tunhide K9).size))
      clear k
      go_wp2_with fail
      refine (svalue0 w10).mono ?_
      rintro e w11 ⟨rfl, k⟩
      have K11 := thide ((tunhide K10).trans (k.mono (tunhide K10).size))
      clear k
      go_wp2_with fail
      clear K1 K2 K3 K4 K5 K6 K7 K8 K9 K10
      go_loop [8] (fun i => ∃ k : Nat, k ≤ A.size ∧ i = .int .i64 k) (fun i => A.size - (intOf i).toNat)
      case atStart => exact ⟨0, Nat.zero_le _, rfl⟩
      case round =>
        obtain ⟨k, hk, rfl⟩ := hrel
        by_cases hlt : k < A.size
        · have i0 : (0 : Int) ≤ (k : Int) := by omega
          have i2 : (k : Int) < (A.size : Int) := by omega
          obtain ⟨g1, g2⟩ := tunhide HR k hlt
          have g3 : ¬ (A[k].toNat : Int) < 33 := by omega
          have g4 : ¬ (126 : Int) < (A[k].toNat : Int) := by omega
          go_wp2_with fail
          exact ⟨⟨k + 1, by omega, by go_num⟩, by simp [intOf]; omega⟩
        · have i2 : ¬ (k : Int) < (A.size : Int) := by omega
          go_wp2_with fail
          refine (tunhide HN w11).mono ?_
          rintro e w12 ⟨rfl, k⟩
          have K12 := thide ((tunhide K11).trans (k.mono (tunhide K11).size))
          clear k
          cases hm : mn t.data.toList with
          | none =>
            simp only [mnv]
            go_wp2_with fail
            go_ret
            exact ⟨rfl, K12⟩
          | some y =>
            simp only [mnv]
            obtain ⟨b1, b2⟩ := tunhide HB y hm
            have HY := thide (fun W => sshow ⟨y.toArray⟩ W (by omega))
            rw [b1] at HY
            clear hm b1 b2
            generalize (ByteArray.mk y.toArray) = Y at *
            go_wp2_with fail
            refine (tunhide HY w12).mono ?_
            rintro e w13 ⟨rfl, k⟩
            have K13 := thide ((tunhide K12).trans (k.mono (tunhide K12).size))
            clear k
            go_wp2_with fail
            go_ret
            exact ⟨rfl, K13⟩
end Go.Proofs.Ytliopckocegknad
