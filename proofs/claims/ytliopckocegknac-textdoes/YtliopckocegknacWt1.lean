/- TextDoes, walked: every Show, Mean and Value is as the document says. -/
import Derived.Test.YtliopckocegknacTv
namespace Go.Proofs.Ytliopckocegknac
open Go.RowKit
set_option maxRecDepth 20000
attribute [local go_sem ↓] Go.wp_at_zero Go.wp_at_succ

/-- Whatever was made since, all that was there is as it was. -/
def TI (W0 W : World) : Prop := Below W0.heap.size W0 W
theorem TI.step {W0 W W2 : World} (h : TI W0 W) (hk : Below W.heap.size W W2) : TI W0 W2 := Below.trans h (hk.mono h.size)
section
variable {W0 W : World}
theorem ti_show (s : ByteArray) (hs : s.size ≤ 30000) (h : TI W0 W) : Calls Try.prog 54 #[.string s] W fun e w' => e = .returned (.string (shs s)) ∧ Hid (TI W0 w') :=
  (sshow s W hs).mono fun _ _ ⟨h1, h2⟩ => ⟨h1, h.step h2⟩
theorem ti_shown (s : ByteArray) (hs : s.size ≤ 30000) (h : TI W0 W) : Calls Try.prog 55 #[.string s] W fun e w' => e = .returned (.string (shs s)) ∧ Hid (TI W0 w') :=
  (rshown s W hs).mono fun _ _ ⟨h1, h2⟩ => ⟨h1, h.step h2⟩
theorem ti_mean (s : ByteArray) (hs : s.size ≤ 30000) (h : TI W0 W) : Calls Try.prog 52 #[.string s] W fun e w' => e = .returned (mnv (mn s.data.toList)) ∧ Hid (TI W0 w') :=
  (tmean s W hs).mono fun _ _ ⟨h1, h2⟩ => ⟨h1, h.step h2⟩
theorem ti_meant (s : ByteArray) (hs : s.size ≤ 30000) (h : TI W0 W) : Calls Try.prog 53 #[.string s] W fun e w' => e = .returned (mnv (mn s.data.toList)) ∧ Hid (TI W0 w') :=
  (rmeant s W hs).mono fun _ _ ⟨h1, h2⟩ => ⟨h1, h.step h2⟩
theorem ti_value (t : Bool) (s : ByteArray) (hs : s.size ≤ 30000) (h : TI W0 W) : Calls Try.prog 56 #[.agg #[.bool t, .string s]] W fun e w' => e = .returned (.string ⟨(vtx t s).toArray⟩) ∧ Hid (TI W0 w') :=
  (tvalue t s W hs).mono fun _ _ ⟨h1, h2⟩ => ⟨h1, h.step h2⟩
theorem ti_text (t : Bool) (s : ByteArray) (hs : s.size ≤ 30000) (h : TI W0 W) : Calls Try.prog 57 #[.agg #[.bool t, .string s]] W fun e w' => e = .returned (.string ⟨(vtx t s).toArray⟩) ∧ Hid (TI W0 w') :=
  (rvalue t s W hs).mono fun _ _ ⟨h1, h2⟩ => ⟨h1, h.step h2⟩
theorem TI.c2 {q : Nat} {u v : Value} (hc : W0.cell? ⟨q, 0, none⟩ = some u ∧ W0.cell? ⟨q, 1, none⟩ = some v) (h : TI W0 W) : W.cell? ⟨q, 0, none⟩ = some u ∧ W.cell? ⟨q, 1, none⟩ = some v :=
  ⟨(Below.cell h (World.block_lt_of_cell? W0 _ hc.1)).trans hc.1, (Below.cell h (World.block_lt_of_cell? W0 _ hc.2)).trans hc.2⟩
end
set_option maxHeartbeats 4000000 in
theorem tdoes13 (s t : ByteArray) (vt : Bool) (vb : ByteArray) (w : World) (h1 : s.size ≤ 140737488355327) (h2 : t.size ≤ 140737488355327) (h3 : vb.size ≤ 140737488355327) :
    Calls Try.prog 13 #[.string s, .string t, .agg #[.bool vt, .string vb]] w fun e w' => e = .returned (.bool true) ∧ Below w.heap.size w w' := by
  have HW := thide ((Below.refl w.heap.size w).alloc (Nat.le_refl _) (.cells #[.bool vt, .string vb] 31))
  have HC := thide (show (w.alloc (.cells #[.bool vt, .string vb] 31)).cell? ⟨w.heap.size, 0, none⟩ = some (.bool vt) ∧ (w.alloc (.cells #[.bool vt, .string vb] 31)).cell? ⟨w.heap.size, 1, none⟩ = some (.string vb) by constructor <;> simp)
  have HZ0 := thide (show w.heap.size ≤ (w.alloc (.cells #[.bool vt, .string vb] 31)).heap.size by simp)
  go_enter Try.func13, Try.ntmps13
  go_wp2_with fail
  generalize w.alloc (.cells #[.bool vt, .string vb] 31) = W0 at *
  obtain ⟨q, hq⟩ : ∃ q, w.heap.size = q := ⟨_, rfl⟩
  have HQ := thide hq
  rw [hq] at HC
  simp only [hq]
  clear hq
  refine (tbegun W0).mono ?_
  rintro e w1 ⟨rfl, k1⟩
  have H1 : Hid (TI W0 w1) := k1
  clear k1
  obtain ⟨c0, c1⟩ := TI.c2 (tunhide HC) (tunhide H1)
  have HF := thide (fun (W : World) (h : TI W0 W) => (tunhide HW).trans (Below.mono h (tunhide HZ0)))
  by_cases hbig : 2000 < s.size + t.size + vb.size
  · have i1 : (2000 : Int) < (s.size : Int) + (t.size : Int) + (vb.size : Int) := by omega
    go_wp2_with fail
    go_ret
    exact ⟨rfl, tunhide HF _ (tunhide H1)⟩
  · have i1 : ¬ (2000 : Int) < (s.size : Int) + (t.size : Int) + (vb.size : Int) := by omega
    have z1 : s.size ≤ 30000 := by omega
    have z2 : t.size ≤ 30000 := by omega
    have z3 : vb.size ≤ 30000 := by omega
    go_wp2_with fail
    clear c0 c1
    refine (ti_mean t z2 (tunhide H1)).mono ?_
    rintro e w2 ⟨rfl, H2⟩
    obtain ⟨x, b, hx⟩ : ∃ x b, mnv (mn t.data.toList) = .tuple #[.string x, .bool b] := by
      cases mn t.data.toList with
      | none => exact ⟨_, _, rfl⟩
      | some y => exact ⟨_, _, rfl⟩
    have HM := thide (fun (W : World) (h : TI W0 W) => ti_meant t z2 h)
    rw [hx] at HM ⊢
    clear hx
    go_wp2_with fail
    refine (tunhide HM w2 (tunhide H2)).mono ?_
    rintro e w3 ⟨rfl, H3⟩
    clear HM
    go_wp2_with fail
    have H4 : Hid (TI W0 w3.drew) := Below.drew (tunhide H3)
    obtain ⟨c0, c1⟩ := TI.c2 (tunhide HC) (tunhide H3)
    go_region_held3 (fun w' => w'.cell? ⟨q, 0, none⟩ = some (.bool vt) ∧ w'.cell? ⟨q, 1, none⟩ = some (.string vb)) (first | exact TI.c2 (tunhide HC) (tunhide HFF) | exact TI.c2 (tunhide HC) (tunhide HCC) | exact TI.c2 (tunhide HC) (tunhide HDD) | exact TI.c2 (tunhide HC) (tunhide HZ) | exact TI.c2 (tunhide HC) (tunhide HA) | exact TI.c2 (tunhide HC) (tunhide HB) | go_keep) ((first | (go_at_call 54; first | (refine (ti_show s z1 (tunhide HB)).mono ?_; rintro e wz ⟨rfl, HZ⟩) | (refine (ti_show s z1 (tunhide H4)).mono ?_; rintro e wa ⟨rfl, HA⟩)) | (go_at_call 55; first | (refine (ti_shown s z1 (tunhide HA)).mono ?_; rintro e wz ⟨rfl, HZ⟩) | (refine (ti_shown s z1 (tunhide H4)).mono ?_; rintro e wb ⟨rfl, HB⟩)) | (go_at_call 56; first | (refine (ti_value vt vb z3 (tunhide HDD)).mono ?_; rintro e wf ⟨rfl, HFF⟩) | (refine (ti_value vt vb z3 (tunhide HZ)).mono ?_; rintro e wc ⟨rfl, HCC⟩)) | (go_at_call 57; first | (refine (ti_text vt vb z3 (tunhide HCC)).mono ?_; rintro e wf ⟨rfl, HFF⟩) | (refine (ti_text vt vb z3 (tunhide HZ)).mono ?_; rintro e wd ⟨rfl, HDD⟩))))
    all_goals
      go_wp2_with fail
      go_ret
      exact ⟨rfl, tunhide HF _ (tunhide HFF)⟩
end Go.Proofs.Ytliopckocegknac
