/- Values as texts, the document's: ValueText, Meant, by their contracts. -/
import Derived.Test.YtliopckocegknacTr
namespace Go.Proofs.Ytliopckocegknac
open Go.RowKit
set_option maxRecDepth 20000
attribute [local go_sem ↓] Go.wp_at_zero Go.wp_at_succ

set_option maxHeartbeats 1000000 in
theorem rvalue (t : Bool) (s : ByteArray) (w : World) (hs : s.size ≤ 30000) :
    Calls Try.prog 57 #[.agg #[.bool t, .string s]] w fun e w' => e = .returned (.string ⟨(vtx t s).toArray⟩) ∧ Below w.heap.size w w' := by
  have HW := thide ((Below.refl w.heap.size w).alloc (Nat.le_refl _) (.cells #[.bool t, .string s] 31))
  cases t with
  | false =>
    go_enter Try.func57, Try.ntmps57
    go_wp2_with fail
    go_ret
    exact ⟨rfl, HW⟩
  | true =>
    have HE := thide (show ByteArray.mk (vtx true s).toArray = ByteArray.mk #[61] ++ shs s by rw [show (ByteArray.mk #[61] : ByteArray) = ByteArray.mk [61].toArray from rfl, shs, mk_app]; rfl)
    have hz := (shs_size s).2
    go_enter Try.func57, Try.ntmps57
    go_wp2_with fail
    refine (rshown s _ hs).mono ?_
    rintro e w1 ⟨rfl, k1⟩
    have K1 := thide k1
    clear k1
    generalize shs s = R at *
    go_wp2_with fail
    go_ret
    exact ⟨by rw [tunhide HE]; rfl, (tunhide HW).trans ((tunhide K1).mono (by simp))⟩
/-- Does a byte's text stand at a place? -/
theorem mt_yes {s : ByteArray} {p : Nat} {c : UInt8} (_h1 : p + (shb c).length ≤ s.size) (h2 : s.extract p (p + (shb c).length) = ⟨(shb c).toArray⟩) : mby (s.data.toList.drop p) = some (c, (shb c).length) := by
  have h3 := congrArg (fun b : ByteArray => b.data.toList) h2
  simp only [ByteArray.data_extract, Array.toList_extract, List.extract_eq_take_drop, Nat.add_sub_cancel_left] at h3
  have h4 := (List.take_append_drop (shb c).length (s.data.toList.drop p)).symm
  rw [h3] at h4
  rw [h4]
  exact mby_app c _
theorem mt_no {s : ByteArray} {p : Nat} {c : UInt8} {n : Nat} (hp : p ≤ s.size) (h : mby (s.data.toList.drop p) = some (c, n)) : n = (shb c).length ∧ p + (shb c).length ≤ s.size ∧ s.extract p (p + (shb c).length) = ⟨(shb c).toArray⟩ := by
  obtain ⟨h1, h2⟩ := mby_pre h
  have h3 := congrArg List.length h2
  rw [List.length_append, List.length_drop, List.length_drop, List.length_drop, len8] at h3
  have h5 : 1 ≤ (shb c).length := by rcases shb_len c with q | q <;> omega
  refine ⟨h1, by omega, ?_⟩
  apply list_inj
  rw [ByteArray.data_extract, Array.toList_extract, List.extract_eq_take_drop, Nat.add_sub_cancel_left, h2]
  simp
/-- A byte as a string. -/
theorem conv1 (W : World) {k : Nat} {c : UInt8} (hc : c.toNat = k) (T : TypeId) : (convert 55 9 (.slice (some ⟨W.heap.size, 0, none⟩) 1 1)).run Try.prog (W.alloc (.cells #[.int .u8 (k : Int)] T)) = .ok (.string ⟨#[c]⟩) (W.alloc (.cells #[.int .u8 (k : Int)] T)) := by
  refine run_convert_bytes_back _ 55 9 5 ⟨W.heap.size, 0, none⟩ 1 [c] Try.underlying55 Try.underlying5 Try.underlying9 (fun j hj => ?_)
  have : j = 0 := by simp at hj; omega
  subst this
  simp [Addr.add, hc]
theorem shs1 (c : UInt8) : shs ⟨#[c]⟩ = ⟨(shb c).toArray⟩ := by
  unfold shs
  show (⟨(sh [c]).toArray⟩ : ByteArray) = _
  rw [sh_cons, sh_nil, List.append_nil]
theorem tlist_ne {s t : ByteArray} (h : ¬ s = t) : (s.toList == t.toList) = false := beq_eq_false_iff_ne.2 (fun e => h (list_inj (by rw [← ByteArray.toList_eq, ← ByteArray.toList_eq]; exact e)))
theorem tlist_eq {s t : ByteArray} (h : s = t) : (s.toList == t.toList) = true := by rw [h]; exact beq_self_eq_true _
set_option maxHeartbeats 2000000 in
theorem rmeant (s : ByteArray) (w : World) (hs : s.size ≤ 30000) :
    Calls Try.prog 53 #[.string s] w fun e w' => e = .returned (mnv (mn s.data.toList)) ∧ Below w.heap.size w w' := by
  have HW := thide (Below.refl w.heap.size w)
  obtain ⟨o, ho⟩ : ∃ o, mn s.data.toList = o := ⟨_, rfl⟩
  have HO := thide ho
  rw [ho]
  clear ho
  go_enter Try.func53, Try.ntmps53
  go_wp2_with fail
  go_loopw [4, 5] (fun q a wr => ∃ (p : Nat) (acc : List UInt8), p ≤ s.size ∧ acc.length ≤ p ∧ q = .string ⟨acc.toArray⟩ ∧ a = .int .i64 p ∧ Hid (MnI s.data.toList acc (s.data.toList.drop p)) ∧ Hid (Below w.heap.size w wr)) (fun _ a _ => s.size - (intOf a).toNat)
  case atStart => exact ⟨0, [], Nat.zero_le _, Nat.le_refl _, rfl, rfl, by rw [List.drop_zero]; exact mni_0 _, HW⟩
  case round =>
    obtain ⟨p, acc, hp, hal, rfl, rfl, HI, HL⟩ := hrel
    by_cases hlt : p < s.size
    · have i1 : (p : Int) < (s.size : Int) := by omega
      have HR := thide (show s.data.toList.drop p ≠ [] from fun e => by
        have := congrArg List.length e
        rw [List.length_drop, len8, List.length_nil] at this
        omega)
      have hasz := mk_size acc
      have HAP := thide (fun c : UInt8 => mk_app acc [c])
      generalize hOO : ByteArray.mk acc.toArray = OO at *
      have HOO := thide hOO
      clear hOO
      have hoz : OO.size ≤ 30000 := by omega
      clear hasz
      go_wp2_with fail
      go_loopw [4, 5, 6, 7] (fun q a h c wr => ∃ (k : Nat) (hit : Bool), k ≤ 256 ∧ c = .int .i64 k ∧ h = .bool hit ∧ Hid (Below w.heap.size w wr) ∧ (hit = false → q = .string OO ∧ a = .int .i64 p ∧ Hid (∀ (c : UInt8) n, mby (s.data.toList.drop p) = some (c, n) → k ≤ c.toNat)) ∧ (hit = true → ∃ (c : UInt8) (n : Nat), q = .string ⟨(acc ++ [c]).toArray⟩ ∧ a = .int .i64 ((p + n : Nat) : Int) ∧ Hid (mby (s.data.toList.drop p) = some (c, n)))) (fun _ _ _ c _ => 257 - (intOf c).toNat)
      case atStart => exact ⟨0, false, by omega, rfl, rfl, HL, fun _ => ⟨rfl, rfl, fun _ _ _ => Nat.zero_le _⟩, fun h => by cases h⟩
      case round =>
        obtain ⟨k, hit, hk, rfl, rfl, HL2, hf, ht⟩ := hrel
        cases hit with
        | true =>
          obtain ⟨c, n, rfl, rfl, HM⟩ := ht rfl
          clear hf ht
          have HB : 1 ≤ n ∧ p + n ≤ s.size := by
            have := mby_n (tunhide HM)
            rw [List.length_drop, len8] at this
            omega
          by_cases hk2 : k < 256
          · have i2 : (k : Int) < 256 := by omega
            go_wp2_with fail
            refine ⟨⟨p + n, acc ++ [c], HB.2, by rw [List.length_append, List.length_singleton]; omega, rfl, by go_num, ?_, HL2⟩, by simp [intOf]; omega⟩
            have := (tunhide HI).step (tunhide HR) (tunhide HM)
            rw [List.drop_drop] at this
            exact this
          · have i2 : ¬ (k : Int) < 256 := by omega
            go_wp2_with fail
            refine ⟨⟨p + n, acc ++ [c], HB.2, by rw [List.length_append, List.length_singleton]; omega, rfl, by go_num, ?_, HL2⟩, by simp [intOf]; omega⟩
            have := (tunhide HI).step (tunhide HR) (tunhide HM)
            rw [List.drop_drop] at this
            exact this
        | false =>
          obtain ⟨rfl, rfl, HN⟩ := hf rfl
          clear hf ht
          by_cases hk2 : k < 256
          · have i2 : (k : Int) < 256 := by omega
            obtain ⟨c, hc⟩ : ∃ c : UInt8, c.toNat = k := ⟨UInt8.ofNat k, by rw [UInt8.toNat_ofNat']; omega⟩
            have hcv := fun W T => conv1 W hc T
            have HL3 := thide ((tunhide HL2).alloc (tunhide HL2).size (.cells #[.int .u8 (k : Int)] 5))
            have HCN := thide hc
            clear hc
            go_wp2_with fail
            refine (rshown ⟨#[c]⟩ _ (by show 1 ≤ 30000; omega)).mono ?_
            rintro e w3 ⟨rfl, k3⟩
            have HL4 := thide ((tunhide HL3).trans (k3.mono (tunhide HL3).size))
            clear k3 HL3
            rw [shs1]
            have hm := mk_size (shb c)
            have hm2 := shb_len c
            have HY := thide (fun (h1 : p + (shb c).length ≤ s.size) (h2 : s.extract p (p + (shb c).length) = ⟨(shb c).toArray⟩) => mt_yes h1 h2)
            have HNO := thide (fun (n : Nat) (h : mby (s.data.toList.drop p) = some (c, n)) => mt_no hp h)
            obtain ⟨m, hmm⟩ : ∃ m, (shb c).length = m := ⟨_, rfl⟩
            rw [hmm] at hm hm2 HY HNO
            clear hmm
            generalize ByteArray.mk (shb c).toArray = T at *
            have hstep : ¬ (p + m ≤ s.size ∧ s.extract p (p + m) = T) → ∀ (c' : UInt8) n, mby (s.data.toList.drop p) = some (c', n) → k + 1 ≤ c'.toNat := fun hn c' n h => by
              have h1 := tunhide HN c' n h
              rcases Nat.lt_or_ge k c'.toNat with q | q
              · exact q
              · have : c' = c := UInt8.toNat_inj.1 (by have := tunhide HCN; omega)
                subst this
                exact absurd (tunhide HNO n h).2 hn
            have HST := thide hstep
            clear hstep
            have t1 : (T.size : Int) = (m : Int) := by omega
            have m3 : m ≤ 3 := by omega
            have HMS := thide hm
            clear hm hm2
            by_cases h1 : p + m ≤ s.size
            · have j1 : (p : Int) + (m : Int) ≤ (s.size : Int) := by omega
              have j2 : (0 : Int) ≤ (p : Int) := by omega
              have j3 : (p : Int) ≤ (p : Int) + (m : Int) := by omega
              by_cases h2 : s.extract p (p + m) = T
              · have e2 := tlist_eq h2
                have HM := thide (tunhide HY h1 h2)
                have HL5 := thide ((tunhide HL4).alloc (tunhide HL4).size (.cells #[.int .u8 (k : Int)] 5))
                have HE := thide (show OO ++ ByteArray.mk #[c] = ByteArray.mk (acc ++ [c]).toArray by rw [← tunhide HOO]; exact mk_app acc [c])
                go_wp2_with fail
                exact ⟨⟨k + 1, true, by omega, by go_num, rfl, HL5, (fun h => by cases h), fun _ => ⟨c, m, by rw [tunhide HE], by go_num, HM⟩⟩, by simp [intOf]; omega⟩
              · have e2 := tlist_ne h2
                have HN3 := thide (tunhide HST (fun q => h2 q.2))
                go_wp2_with fail
                exact ⟨⟨k + 1, false, by omega, by go_num, rfl, HL4, fun _ => ⟨rfl, rfl, HN3⟩, fun h => by cases h⟩, by simp [intOf]; omega⟩
            · have j1 : ¬ (p : Int) + (m : Int) ≤ (s.size : Int) := by omega
              have HN3 := thide (tunhide HST (fun q => h1 q.1))
              go_wp2_with fail
              exact ⟨⟨k + 1, false, by omega, by go_num, rfl, HL4, fun _ => ⟨rfl, rfl, HN3⟩, fun h => by cases h⟩, by simp [intOf]; omega⟩
          · have i2 : ¬ (k : Int) < 256 := by omega
            have HN2 := thide (show o = none by
              rw [← tunhide HO]
              refine (tunhide HI).none_ (tunhide HR) ?_
              cases hm : mby (s.data.toList.drop p) with
              | none => rfl
              | some x =>
                have := tunhide HN x.1 x.2 hm
                have := x.1.toNat_lt
                omega)
            go_wp2_with fail
            exact bodyPost_ret (v := mnv none) (by simp [results, Try.results53, go_sem, mnv]) rfl ⟨by rw [tunhide HN2], HL2⟩
    · have i1 : ¬ (p : Int) < (s.size : Int) := by omega
      have HN2 := thide (show o = some acc by
        rw [← tunhide HO]
        have := tunhide HI
        rw [List.drop_of_length_le (by rw [len8]; omega)] at this
        exact this.fin)
      go_wp2_with fail
      exact bodyPost_ret (v := mnv (some acc)) (by simp [results, Try.results53, go_sem, mnv]) rfl ⟨by rw [tunhide HN2], HL⟩
end Go.Proofs.Ytliopckocegknac
