/- Values as texts: meanByte, Mean, by their contracts. -/
import Derived.Test.YtliopckocegknacTt
namespace Go.Proofs.Ytliopckocegknac
open Go.RowKit
set_option maxRecDepth 20000
attribute [local go_sem ↓] Go.wp_at_zero Go.wp_at_succ

theorem tbelow_drewN {B : Nat} {a w : World} (h : Below B a w) (n : Nat) : Below B a (w.drewN n) := h.trans ⟨rfl, rfl, rfl, Nat.le_refl _, fun _ _ => rfl⟩
/-- What meanByte tells. -/
def mbv : Option (UInt8 × Nat) → Value
  | none => .tuple #[.int .u8 0, .int .i64 0, .bool false]
  | some (c, n) => .tuple #[.int .u8 (c.toNat : Int), .int .i64 (n : Int), .bool true]
theorem get8 (s : ByteArray) (k : Nat) (h : k < s.size) : s.data.toList.drop k = s[k] :: s.data.toList.drop (k + 1) := by
  rw [List.drop_eq_getElem_cons (by rw [len8]; exact h)]
  rfl
theorem mby_c {s : ByteArray} (h0 : 0 < s.size) : ∃ r, s.data.toList = s[0] :: r := ⟨_, by have := get8 s 0 h0; rwa [List.drop_zero] at this⟩
theorem mby_p {s : ByteArray} (h0 : 0 < s.size) (hp : pln s[0] = true) : mby s.data.toList = some (s[0], 1) := by
  obtain ⟨r, hr⟩ := mby_c h0
  rw [hr]
  show (if pln s[0] = true then some (s[0], 1) else _) = _
  rw [if_pos hp]
theorem mby_m {s : ByteArray} (h0 : 0 < s.size) (hp : pln s[0] = false) (hm : s[0].toNat ≠ 92) : mby s.data.toList = none := by
  obtain ⟨r, hr⟩ := mby_c h0
  rw [hr]
  show (if pln s[0] = true then some (s[0], 1) else if s[0].toNat ≠ 92 then none else _) = _
  rw [if_neg (by rw [hp]; simp), if_pos hm]
theorem mby_s {s : ByteArray} (h0 : 0 < s.size) (h3 : s.size < 3) (hp : pln s[0] = false) : mby s.data.toList = none := by
  obtain ⟨r, hr⟩ := mby_c h0
  have hl := len8 s
  rw [hr] at hl
  rw [hr]
  have hq : ¬ pln s[0] = true := by rw [hp]; simp
  match r, hl with
  | [], _ =>
    show (if pln s[0] = true then some (s[0], 1) else if s[0].toNat ≠ 92 then none else none) = _
    rw [if_neg hq, ite_self]
  | [_], _ =>
    show (if pln s[0] = true then some (s[0], 1) else if s[0].toNat ≠ 92 then none else none) = _
    rw [if_neg hq, ite_self]
  | _ :: _ :: _, hl => simp at hl; omega
theorem mby_t {s : ByteArray} (h3 : 2 < s.size) (hp : pln s[0] = false) (hm : s[0].toNat = 92) : mby s.data.toList = if idx s[1] < 0 ∨ idx s[2] < 0 then none else if pln (UInt8.ofNat (16 * (idx s[1]).toNat + (idx s[2]).toNat)) = true then none else some (UInt8.ofNat (16 * (idx s[1]).toNat + (idx s[2]).toNat), 3) := by
  have e : s.data.toList = s[0] :: s[1] :: s[2] :: s.data.toList.drop 3 := by
    have h0 := get8 s 0 (by omega)
    rw [List.drop_zero] at h0
    rw [h0, get8 s 1 (by omega), get8 s 2 (by omega)]
    rfl
  have hq : ¬ pln s[0] = true := by rw [hp]; simp
  have hm2 : ¬ s[0].toNat ≠ 92 := fun q => q hm
  rw [e]
  show (if pln s[0] = true then some (s[0], 1) else if s[0].toNat ≠ 92 then none else _) = _
  rw [if_neg hq, if_neg hm2]
theorem dgs_eq : (ByteArray.mk #[48, 49, 50, 51, 52, 53, 54, 55, 56, 57, 97, 98, 99, 100, 101, 102]).data.toList = dgs := rfl
theorem or_byte0 : ∀ i j : Fin 16, bits BinOp.or IntKind.i64 ((i.val : Int) * 16) (j.val : Int) % 256 = ((UInt8.ofNat (16 * i.val + j.val)).toNat : Int) := by decide +kernel
theorem or_byte (i j : Nat) (hi : i < 16) (hj : j < 16) : bits BinOp.or IntKind.i64 ((i : Int) * 16) (j : Int) % 256 = ((UInt8.ofNat (16 * i + j)).toNat : Int) := or_byte0 ⟨i, hi⟩ ⟨j, hj⟩
set_option maxHeartbeats 1000000 in
theorem tmeanByte (s : ByteArray) (w : World) (h0 : 0 < s.size) (hs : s.size ≤ 30000) :
    Calls Try.prog 101 #[.string s] w fun e w' => e = .returned (mbv (mby s.data.toList)) ∧ Below w.heap.size w w' := by
  have i0 : (0 : Int) < (s.size : Int) := by omega
  by_cases hp : pln s[0] = true
  · rw [mby_p h0 hp]
    go_enter Try.func101, Try.ntmps101
    go_wp2_with fail
    refine (tplain s[0] w).mono ?_
    rintro e w' ⟨rfl, hw'⟩
    subst w'
    rw [hp]
    go_wp2_with fail
    exact bodyPost_ret (v := mbv (some (s[0], 1))) (by simp [results, Try.results101, go_sem, mbv]) rfl ⟨rfl, Below.refl _ _⟩
  · have hp2 : pln s[0] = false := by simpa using hp
    clear hp
    by_cases hm : s[0].toNat = 92
    · by_cases h3 : s.size < 3
      · rw [mby_s h0 h3 hp2]
        have i3 : (s.size : Int) < 3 := by omega
        have HM := thide hm
        clear hm
        go_enter Try.func101, Try.ntmps101
        go_wp2_with fail
        refine (tplain s[0] w).mono ?_
        rintro e w' ⟨rfl, hw'⟩
        subst w'
        rw [hp2]
        have im : (s[0].toNat : Int) = 92 := by have := tunhide HM; omega
        go_wp2_with fail
        exact bodyPost_ret (v := mbv none) (by simp [results, Try.results101, go_sem, mbv]) rfl ⟨rfl, Below.refl _ _⟩
      · have h3' : 2 < s.size := by omega
        have ho := mby_t h3' hp2 hm
        generalize mby s.data.toList = o at *
        have HO := thide ho
        clear ho
        have i3 : ¬ (s.size : Int) < 3 := by omega
        have i1 : (1 : Int) < (s.size : Int) := by omega
        have i2 : (2 : Int) < (s.size : Int) := by omega
        have j1 : 1 < s.size := by omega
        have HM := thide hm
        clear hm
        go_enter Try.func101, Try.ntmps101
        go_wp2_with fail
        refine (tplain s[0] w).mono ?_
        rintro e w' ⟨rfl, hw'⟩
        subst w'
        rw [hp2]
        have im : (s[0].toNat : Int) = 92 := by have := tunhide HM; omega
        go_wp2_with fail
        go_quiet ((go_at_call 134; exact Calls.quiet_of_same (tindex _ _ _)))
        rw [dgs_eq]
        have ha := idx_facts s[1]
        have hb := idx_facts s[2]
        have ha2 := idx_ge s[1]
        have hb2 := idx_ge s[2]
        rw [show Lib.indexByte dgs s[1] = idx s[1] from rfl, show Lib.indexByte dgs s[2] = idx s[2] from rfl]
        have HW := thide (tbelow_drewN (Below.refl w.heap.size w) nq)
        generalize w.drewN nq = W at *
        clear im HM
        generalize idx s[1] = x at *
        generalize idx s[2] = y at *
        by_cases hx : x < 0
        · have ho : o = none := by rw [tunhide HO, if_pos (Or.inl hx)]
          clear ha hb HO
          go_wp2_with fail
          exact bodyPost_ret (v := mbv none) (by simp [results, Try.results101, go_sem, mbv]) rfl ⟨by rw [ho], HW⟩
        · by_cases hy : y < 0
          · have ho : o = none := by rw [tunhide HO, if_pos (Or.inr hy)]
            clear ha hb HO
            go_wp2_with fail
            exact bodyPost_ret (v := mbv none) (by simp [results, Try.results101, go_sem, mbv]) rfl ⟨by first | rfl | rw [ho], HW⟩
          · have HO2 := thide (tunhide HO)
            rw [if_neg (fun q => q.elim hx hy)] at HO2
            have hx16 := (ha.resolve_left hx).1
            have hy16 := (hb.resolve_left hy).1
            clear ha hb ha2 hb2
            obtain ⟨i, rfl⟩ : ∃ i : Nat, x = (i : Int) := ⟨x.toNat, by omega⟩
            obtain ⟨j, rfl⟩ : ∃ j : Nat, y = (j : Int) := ⟨y.toNat, by omega⟩
            simp only [Int.toNat_natCast] at HO2
            clear HO
            have HE := thide (or_byte i j (by omega) (by omega))
            go_wp2_with fail
            rw [tunhide HE]
            clear HE
            generalize UInt8.ofNat (16 * i + j) = c at *
            refine (tplain c W).mono ?_
            rintro e w' ⟨rfl, hw'⟩
            subst w'
            by_cases hc : pln c = true
            · have ho : o = none := by rw [tunhide HO2, if_pos hc]
              clear HO2
              rw [hc]
              go_wp2_with fail
              exact bodyPost_ret (v := mbv none) (by simp [results, Try.results101, go_sem, mbv]) rfl ⟨by first | rfl | rw [ho], HW⟩
            · have ho : o = some (c, 3) := by rw [tunhide HO2, if_neg hc]
              have hc2 : pln c = false := by simpa using hc
              clear HO2
              rw [hc2]
              go_wp2_with fail
              exact bodyPost_ret (v := mbv (some (c, 3))) (by simp [results, Try.results101, go_sem, mbv]) rfl ⟨by first | rfl | rw [ho], HW⟩
    · rw [mby_m h0 hp2 hm]
      have i3 : ¬ (s[0].toNat : Int) = 92 := by omega
      go_enter Try.func101, Try.ntmps101
      go_wp2_with fail
      refine (tplain s[0] w).mono ?_
      rintro e w' ⟨rfl, hw'⟩
      subst w'
      rw [hp2]
      go_wp2_with fail
      exact bodyPost_ret (v := mbv none) (by simp [results, Try.results101, go_sem, mbv]) rfl ⟨rfl, Below.refl _ _⟩
end Go.Proofs.Ytliopckocegknac
