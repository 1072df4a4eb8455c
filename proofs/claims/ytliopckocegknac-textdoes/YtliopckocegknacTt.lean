/- Values as texts: plain, showByte, Show, Value, by their contracts. -/
import Derived.Test.YtliopckocegknacTs
namespace Go.Proofs.Ytliopckocegknac
open Go.RowKit
set_option maxRecDepth 20000
attribute [local go_sem ↓] Go.wp_at_zero Go.wp_at_succ

theorem tret_bool {a b : Bool} (h : a = b) : Ending.returned (.bool a) = .returned (.bool b) := by rw [h]
theorem thide {p : Prop} (h : p) : Hid p := h
theorem tunhide {p : Prop} (h : Hid p) : p := h
set_option maxHeartbeats 1000000 in
theorem tplain (c : UInt8) (w : World) : Calls Try.prog 133 #[.int .u8 (c.toNat : Int)] w fun e w' => e = .returned (.bool (pln c)) ∧ w' = w := by
  have hb : c.toNat < 256 := c.toNat_lt
  unfold pln
  generalize c.toNat = n at *
  by_cases h1 : 33 ≤ n
  · by_cases h2 : n ≤ 126
    · by_cases h3 : n = 92
      · have i1 : (33 : Int) ≤ (n : Int) := by omega
        have i2 : (n : Int) ≤ 126 := by omega
        have i3 : (n : Int) = 92 := by omega
        go_enter Try.func133, Try.ntmps133
        go_wp2
        go_ret
        exact ⟨tret_bool (by simp [h3]), rfl⟩
      · have i1 : (33 : Int) ≤ (n : Int) := by omega
        have i2 : (n : Int) ≤ 126 := by omega
        have i3 : ¬ (n : Int) = 92 := by omega
        go_enter Try.func133, Try.ntmps133
        go_wp2
        go_ret
        exact ⟨tret_bool (by rw [show ((n : Int) != 92) = true by simpa using i3, decide_eq_true h1, decide_eq_true h2, decide_eq_false h3]; rfl), rfl⟩
    · have i1 : (33 : Int) ≤ (n : Int) := by omega
      have i2 : ¬ (n : Int) ≤ 126 := by omega
      go_enter Try.func133, Try.ntmps133
      go_wp2
      go_ret
      exact ⟨tret_bool (by simp), rfl⟩
  · have i1 : ¬ (33 : Int) ≤ (n : Int) := by omega
    go_enter Try.func133, Try.ntmps133
    go_wp2
    go_ret
    exact ⟨tret_bool (by simp), rfl⟩
theorem dig_at : ∀ {k : Nat} (h : k < 16), ((⟨#[48, 49, 50, 51, 52, 53, 54, 55, 56, 57, 97, 98, 99, 100, 101, 102]⟩ : ByteArray)[k]'h).toNat = (hxd k).toNat := by decide
set_option maxHeartbeats 1000000 in
/-- The text of a byte is written. -/
theorem tshowByte (B b : Nat) (l : List UInt8) (c : UInt8) (w : World) (h : Bld B b l w) (hlen : l.length + 3 ≤ 100000) (hB : B ≤ w.heap.size) :
    Calls Try.prog 104 #[.pointer (some ⟨b, 0, none⟩), .int .u8 (c.toNat : Int)] w fun e w' => e = .returned (.tuple #[]) ∧ Bld B b (l ++ shb c) w' ∧ Below B w w' := by
  have HB := thide h
  clear h
  by_cases hp : pln c = true
  · have es : shb c = [c] := by unfold shb; rw [if_pos hp]
    rw [es]
    clear es
    go_enter Try.func104, Try.ntmps104
    go_wp2_with fail
    refine (tplain c w).mono ?_
    rintro e w' ⟨rfl, hw'⟩
    subst w'
    rw [hp]
    go_wp2_with fail
    refine (bwrite B b l c w (tunhide HB) (by omega) hB).mono ?_
    rintro e w1 ⟨rfl, h1, k1⟩
    go_wp2_with fail
    exact bodyPost_ret (v := .tuple #[]) (results_none rfl _ _ _) rfl ⟨rfl, h1, k1⟩
  · have hp2 : pln c = false := by simpa using hp
    have es : shb c = [92, hxd (c.toNat / 16), hxd (c.toNat % 16)] := by unfold shb; rw [if_neg hp]
    rw [es]
    clear es hp
    go_enter Try.func104, Try.ntmps104
    go_wp2_with fail
    refine (tplain c w).mono ?_
    rintro e w' ⟨rfl, hw'⟩
    subst w'
    rw [hp2]
    go_wp2_with fail
    refine (bwrite B b l 92 w (tunhide HB) (by omega) hB).mono ?_
    rintro e w1 ⟨rfl, h1, k1⟩
    have hz1 := k1.size
    have n0 : c.toNat < 256 := c.toNat_lt
    have q1 : (0 : Int) ≤ (c.toNat : Int) / 16 := by omega
    have q2 : (c.toNat : Int) / 16 < 16 := by omega
    have q3 : (0 : Int) ≤ (c.toNat : Int) / 16 ∧ (c.toNat : Int) / 16 < 16 := ⟨q1, q2⟩
    go_wp2_with fail
    rw [dig_at (by omega)]
    refine (bwrite B b _ (hxd (c.toNat / 16)) w1 h1 (by simp; omega) (by omega)).mono ?_
    rintro e w2 ⟨rfl, h2, k2⟩
    have hz2 := k2.size
    clear q1 q2 q3
    have q1 : (0 : Int) ≤ (c.toNat : Int) % 16 := by omega
    have q2 : (c.toNat : Int) % 16 < 16 := by omega
    have q3 : (0 : Int) ≤ (c.toNat : Int) % 16 ∧ (c.toNat : Int) % 16 < 16 := ⟨q1, q2⟩
    go_wp2_with fail
    rw [dig_at (by omega)]
    refine (bwrite B b _ (hxd (c.toNat % 16)) w2 h2 (by simp; omega) (by omega)).mono ?_
    rintro e w3 ⟨rfl, h3, k3⟩
    go_wp2_with fail
    go_end0
    refine ⟨rfl, ?_, k1.trans (k2.trans k3)⟩
    simpa using h3

theorem take_snoc8 (s : ByteArray) (k : Nat) (h : k < s.size) : s.data.toList.take (k + 1) = s.data.toList.take k ++ [s[k]] := by
  rw [List.take_succ_eq_append_getElem (by simpa using h)]; rfl
theorem len8 (s : ByteArray) : s.data.toList.length = s.size := Array.length_toList
theorem take_len8 (s : ByteArray) (k : Nat) : (sh (s.data.toList.take k)).length ≤ 3 * k := by
  have h1 := (sh_len (s.data.toList.take k)).2
  have h2 := List.length_take_le k s.data.toList
  omega
theorem bld_new (w : World) : Bld w.heap.size w.heap.size [] (w.alloc (.cells #[.pointer none, .slice none 0 0] 152)) := Lib.IsBuilderF.of (Lib.fresh_isBuilder 152 5 w)
set_option maxHeartbeats 1000000 in
/-- What bytes are shown as. -/
theorem tshow (s : ByteArray) (w : World) (hs : s.size ≤ 30000) :
    Calls Try.prog 54 #[.string s] w fun e w' => e = .returned (.string ⟨(sh s.data.toList).toArray⟩) ∧ Below w.heap.size w w' := by
  have HN := thide (bld_new w)
  have HW := thide ((Below.refl w.heap.size w).alloc (Nat.le_refl _) (.cells #[.pointer none, .slice none 0 0] 152))
  go_enter Try.func54, Try.ntmps54
  go_wp2_with fail
  generalize w.alloc (.cells #[.pointer none, .slice none 0 0] 152) = W at *
  go_loopw [7] (fun t wr => ∃ k : Nat, k ≤ s.size ∧ t = .int .i64 k ∧ Hid (Bld w.heap.size w.heap.size (sh (s.data.toList.take k)) wr) ∧ Hid (Below w.heap.size w wr)) (fun t _ => s.size - (intOf t).toNat)
  case atStart => exact ⟨0, Nat.zero_le _, rfl, HN, HW⟩
  case round =>
    obtain ⟨k, hk, rfl, HB, HL⟩ := hrel
    have hz := (tunhide HL).size
    by_cases hlt : k < s.size
    · have i0 : (0 : Int) ≤ (k : Int) := by omega
      have i1 : (k : Int) < (s.size : Int) := by omega
      have HT := thide (take_snoc8 s k hlt)
      have hl3 := take_len8 s k
      go_wp2_with fail
      refine (tshowByte w.heap.size w.heap.size _ s[k] wr (tunhide HB) (by omega) hz).mono ?_
      rintro e w1 ⟨rfl, h1, k1⟩
      have H1 := thide h1
      have K1 := thide k1
      clear h1 k1
      go_wp2_with fail
      refine ⟨⟨k + 1, by omega, by go_num, ?_, (tunhide HL).trans (tunhide K1)⟩, by simp [intOf]; omega⟩
      rw [tunhide HT, sh_snoc]
      exact H1
    · have i1 : ¬ (k : Int) < (s.size : Int) := by omega
      have e1 : s.data.toList.take k = s.data.toList := List.take_of_length_le (by rw [len8]; omega)
      rw [e1] at HB
      clear e1
      go_wp2_with fail
      refine (bstring w.heap.size w.heap.size _ wr (tunhide HB) hz).mono ?_
      rintro e w1 ⟨rfl, k1⟩
      have K1 := thide k1
      clear k1
      go_wp2_with fail
      go_ret
      exact ⟨rfl, (tunhide HL).trans (tunhide K1)⟩
/-- A value's text. -/
def vtx (t : Bool) (s : ByteArray) : List UInt8 := if t = true then 61 :: sh s.data.toList else [45]
theorem mk_app (x y : List UInt8) : (ByteArray.mk x.toArray ++ ByteArray.mk y.toArray) = ByteArray.mk (x ++ y).toArray := ByteArray.mk_append_mk x y
theorem mk_size (x : List UInt8) : (ByteArray.mk x.toArray).size = x.length := by simp [ByteArray.size]
set_option maxHeartbeats 1000000 in
theorem tvalue (t : Bool) (s : ByteArray) (w : World) (hs : s.size ≤ 30000) :
    Calls Try.prog 56 #[.agg #[.bool t, .string s]] w fun e w' => e = .returned (.string ⟨(vtx t s).toArray⟩) ∧ Below w.heap.size w w' := by
  have HW := thide ((Below.refl w.heap.size w).alloc (Nat.le_refl _) (.cells #[.bool t, .string s] 31))
  cases t with
  | false =>
    go_enter Try.func56, Try.ntmps56
    go_wp2_with fail
    go_ret
    exact ⟨rfl, HW⟩
  | true =>
    go_enter Try.func56, Try.ntmps56
    go_wp2_with fail
    refine (tshow s _ hs).mono ?_
    rintro e w1 ⟨rfl, k1⟩
    have K1 := thide k1
    clear k1
    have h1 := (sh_len s.data.toList).2
    rw [len8] at h1
    have h2 := mk_size (sh s.data.toList)
    have hz : (ByteArray.mk (sh s.data.toList).toArray).size ≤ 90000 := by omega
    have HE := thide (mk_app [61] (sh s.data.toList))
    generalize ByteArray.mk (sh s.data.toList).toArray = R at *
    clear h2
    go_wp2_with fail
    go_ret
    refine ⟨?_, (tunhide HW).trans ((tunhide K1).mono (by simp))⟩
    rw [show (ByteArray.mk #[61] : ByteArray) ++ R = _ from tunhide HE]
    rfl
theorem thas (s : ByteArray) (w : World) : Calls Try.prog 40 #[.string s] w fun e w' => e = .returned (.agg #[.bool true, .string s]) ∧ Below w.heap.size w w' := by
  have HW := thide ((Below.refl w.heap.size w).alloc (Nat.le_refl _) (.cells #[.bool true, .string s] 31))
  go_enter Try.func40, Try.ntmps40
  go_wp2_with fail
  exact bodyPost_ret (v := .agg #[.bool true, .string s]) (by simp [results, Try.results40, go_sem]) rfl ⟨rfl, HW⟩
end Go.Proofs.Ytliopckocegknac
