/- Values as texts, the document's: Shown, ValueText, by their contracts. -/
import Derived.Test.YtliopckocegknacTb
namespace Go.Proofs.Ytliopckocegknac
open Go.RowKit
set_option maxRecDepth 20000
attribute [local go_sem ↓] Go.wp_at_zero Go.wp_at_succ

theorem ext1 (s : ByteArray) (k : Nat) (h : k < s.size) : s.extract k (k + 1) = ⟨[s[k]].toArray⟩ := by
  apply list_inj
  rw [ByteArray.data_extract, Array.toList_extract, List.extract_eq_take_drop]
  show List.take (k + 1 - k) (s.data.toList.drop k) = _
  rw [get8 s k h, Nat.add_sub_cancel_left]
  rfl
/-- What the first k bytes are shown as. -/
def shk (s : ByteArray) (k : Nat) : ByteArray := ⟨(sh (s.data.toList.take k)).toArray⟩
theorem shk_size (s : ByteArray) (k : Nat) : (shk s k).size ≤ 3 * k := by
  unfold shk
  rw [mk_size]
  exact take_len8 s k
theorem shk_all (s : ByteArray) {k : Nat} (h : s.size ≤ k) : shk s k = shs s := by
  unfold shk shs
  rw [List.take_of_length_le (by rw [len8]; exact h)]
theorem shk_step (s : ByteArray) {k : Nat} (h : k < s.size) : shk s (k + 1) = shk s k ++ ⟨(shb s[k]).toArray⟩ := by
  unfold shk
  rw [take_snoc8 s k h, sh_snoc, mk_app]
theorem ext_dig : ∀ (k : Fin 16), (ByteArray.mk #[48, 49, 50, 51, 52, 53, 54, 55, 56, 57, 97, 98, 99, 100, 101, 102]).extract k.val (k.val + 1) = ⟨[hxd k.val].toArray⟩ := fun k => (ext1 (ByteArray.mk #[48, 49, 50, 51, 52, 53, 54, 55, 56, 57, 97, 98, 99, 100, 101, 102]) k.val k.isLt).trans (by rw [show (ByteArray.mk #[48, 49, 50, 51, 52, 53, 54, 55, 56, 57, 97, 98, 99, 100, 101, 102])[k.val] = hxd k.val from UInt8.toNat_inj.1 (dig_at k.isLt)])
theorem ext_digs (k : Nat) (h : k < 16) : (ByteArray.mk #[48, 49, 50, 51, 52, 53, 54, 55, 56, 57, 97, 98, 99, 100, 101, 102]).extract k (k + 1) = ⟨[hxd k].toArray⟩ := ext_dig ⟨k, h⟩
set_option maxHeartbeats 1000000 in
/-- What bytes are shown as, by the document. -/
theorem rshown (s : ByteArray) (w : World) (hs : s.size ≤ 30000) :
    Calls Try.prog 55 #[.string s] w fun e w' => e = .returned (.string (shs s)) ∧ Below w.heap.size w w' := by
  have HW := thide (Below.refl w.heap.size w)
  go_enter Try.func55, Try.ntmps55
  go_wp2_with fail
  go_loopw [4, 5] (fun o i wr => ∃ k : Nat, k ≤ s.size ∧ o = .string (shk s k) ∧ i = .int .i64 k ∧ Hid (Below w.heap.size w wr)) (fun _ i _ => s.size - (intOf i).toNat)
  case atStart => exact ⟨0, Nat.zero_le _, rfl, rfl, HW⟩
  case round =>
    obtain ⟨k, hk, rfl, rfl, HL⟩ := hrel
    by_cases hlt : k < s.size
    · have i0 : (0 : Int) ≤ (k : Int) := by omega
      have i1 : (k : Int) < (s.size : Int) := by omega
      have i2 : (k : Int) ≤ (k : Int) + 1 := by omega
      have i3 : (k : Int) + 1 ≤ (s.size : Int) := by omega
      have HT := thide (shk_step s hlt)
      have hl3 := shk_size s k
      have hc := s[k].toNat_lt
      have HX := thide (ext1 s k hlt)
      by_cases hp : pln s[k] = true
      · have hp' := hp
        unfold pln at hp'
        simp only [Bool.and_eq_true, decide_eq_true_eq, Bool.not_eq_true', decide_eq_false_iff_not] at hp'
        have j1 : (33 : Int) ≤ (s[k].toNat : Int) := by omega
        have j2 : (s[k].toNat : Int) ≤ 126 := by omega
        have j3 : ¬ (s[k].toNat : Int) = 92 := by omega
        have HE := thide (show shb s[k] = [s[k]] by unfold shb; rw [if_pos hp])
        clear hp hp'
        go_wp2_with fail
        refine ⟨⟨k + 1, by omega, ?_, by go_num, HL⟩, by simp [intOf]; omega⟩
        rw [tunhide HX, tunhide HT, tunhide HE]
      · have HE := thide (show (ByteArray.mk (shb s[k]).toArray) = (ByteArray.mk #[92] ++ ByteArray.mk [hxd (s[k].toNat / 16)].toArray) ++ ByteArray.mk [hxd (s[k].toNat % 16)].toArray by rw [show (ByteArray.mk #[92] : ByteArray) = ByteArray.mk [92].toArray from rfl, mk_app, mk_app]; unfold shb; rw [if_neg hp]; rfl)
        have HD1 := thide (ext_digs (s[k].toNat / 16) (by omega))
        have HD2 := thide (ext_digs (s[k].toNat % 16) (by omega))
        have q1 : (0 : Int) ≤ (s[k].toNat : Int) / 16 := by omega
        have q2 : (s[k].toNat : Int) / 16 + 1 ≤ 16 := by omega
        have q3 : (s[k].toNat : Int) / 16 ≤ (s[k].toNat : Int) / 16 + 1 := by omega
        have q4 : (0 : Int) ≤ (s[k].toNat : Int) % 16 := by omega
        have q5 : (s[k].toNat : Int) % 16 + 1 ≤ 16 := by omega
        have q6 : (s[k].toNat : Int) % 16 ≤ (s[k].toNat : Int) % 16 + 1 := by omega
        have hp' : s[k].toNat < 33 ∨ 126 < s[k].toNat ∨ s[k].toNat = 92 := by
          unfold pln at hp
          simp only [Bool.and_eq_true, decide_eq_true_eq, Bool.not_eq_true', decide_eq_false_iff_not] at hp
          omega
        clear hp
        by_cases h1 : s[k].toNat < 33
        · have j1 : ¬ (33 : Int) ≤ (s[k].toNat : Int) := by omega
          go_wp2_with fail
          go_quiet (fail)
          have HL2 := thide (tbelow_drewN (tunhide HL) nq)
          generalize wr.drewN nq = W2 at *
          go_wp2_with fail
          refine ⟨⟨k + 1, by omega, ?_, by go_num, HL2⟩, by simp [intOf]; omega⟩
          rw [tunhide HT, tunhide HE, tunhide HD1, tunhide HD2]
        · have j1 : (33 : Int) ≤ (s[k].toNat : Int) := by omega
          by_cases h2 : 126 < s[k].toNat
          · have j2 : ¬ (s[k].toNat : Int) ≤ 126 := by omega
            go_wp2_with fail
            go_quiet (fail)
            have HL2 := thide (tbelow_drewN (tunhide HL) nq)
            generalize wr.drewN nq = W2 at *
            go_wp2_with fail
            refine ⟨⟨k + 1, by omega, ?_, by go_num, HL2⟩, by simp [intOf]; omega⟩
            rw [tunhide HT, tunhide HE, tunhide HD1, tunhide HD2]
          · have j2 : (s[k].toNat : Int) ≤ 126 := by omega
            have j3 : (s[k].toNat : Int) = 92 := by omega
            go_wp2_with fail
            go_quiet (fail)
            have HL2 := thide (tbelow_drewN (tunhide HL) nq)
            generalize wr.drewN nq = W2 at *
            go_wp2_with fail
            refine ⟨⟨k + 1, by omega, ?_, by go_num, HL2⟩, by simp [intOf]; omega⟩
            rw [tunhide HT, tunhide HE, show s[k].toNat = 92 by omega]
            rw [show (ByteArray.mk #[48, 49, 50, 51, 52, 53, 54, 55, 56, 57, 97, 98, 99, 100, 101, 102]).extract 5 6 = _ from ext_digs 5 (by decide), show (ByteArray.mk #[48, 49, 50, 51, 52, 53, 54, 55, 56, 57, 97, 98, 99, 100, 101, 102]).extract 12 13 = _ from ext_digs 12 (by decide)]
    · have i1 : ¬ (k : Int) < (s.size : Int) := by omega
      have HE := thide (shk_all s (k := k) (by omega))
      go_wp2_with fail
      go_ret
      exact ⟨by rw [← tunhide HE]; rfl, HL⟩
end Go.Proofs.Ytliopckocegknac
