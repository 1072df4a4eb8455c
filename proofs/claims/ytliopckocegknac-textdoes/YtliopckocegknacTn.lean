/- Values as texts: Mean, by its contract. -/
import Derived.Test.YtliopckocegknacTm
namespace Go.Proofs.Ytliopckocegknac
open Go.RowKit
set_option maxRecDepth 20000
attribute [local go_sem ↓] Go.wp_at_zero Go.wp_at_succ

/-- What Mean tells. -/
def mnv : Option (List UInt8) → Value
  | none => .tuple #[.string ⟨#[]⟩, .bool false]
  | some y => .tuple #[.string ⟨y.toArray⟩, .bool true]
def strSz : Value → Nat
  | .string b => b.size
  | _ => 0
theorem drop8 (r : ByteArray) (n : Nat) : (r.extract n r.size).data.toList = r.data.toList.drop n := by
  rw [ByteArray.data_extract, Array.toList_extract, List.extract_eq_take_drop]
  exact List.take_of_length_le (by rw [List.length_drop, len8]; omega)
theorem size_drop8 (r : ByteArray) (n : Nat) : (r.extract n r.size).size = r.size - n := by
  rw [← len8, drop8, List.length_drop, len8]
theorem empty8 {r : ByteArray} (h : r.size = 0) : r = ⟨#[]⟩ := by
  apply ByteArray.ext
  have h1 := len8 r
  rw [h] at h1
  have h2 := List.eq_nil_of_length_eq_zero h1
  have : r.data.toList = (#[] : Array UInt8).toList := h2
  exact Array.toList_inj.1 this
theorem Bld.kp {B b : Nat} {l : List UInt8} {w w' : World} (h : Bld B b l w) (hk : Below w.heap.size w w') : Bld B b l w' := by
  have hg : w.grownBy w' none := ⟨hk.os, hk.tape, hk.output, hk.size, fun k h _ => hk.block k h⟩
  have at_ : ∀ {p : Value}, Lib.BuilderAtF 152 5 B b p (Lib.byteCells l) w → Lib.BuilderAtF 152 5 B b p (Lib.byteCells l) w' := fun h => by
    have hlt := h.lt
    obtain ⟨hB, v, hb, hown, hne⟩ := h
    exact ⟨hB, v, (hk.block b hlt).trans hb, hown.kept hg (by cases v.ownBlock <;> simp), hne⟩
  exact h.imp at_ at_
/-- From acc and what is left on. -/
def MnI (l acc r : List UInt8) : Prop := mn l = (mn r).map (acc ++ ·)
theorem mni_0 (l : List UInt8) : MnI l [] l := by unfold MnI; cases mn l <;> simp
theorem MnI.step {l acc r : List UInt8} (h : MnI l acc r) (hr : r ≠ []) {c : UInt8} {n : Nat} (hm : mby r = some (c, n)) : MnI l (acc ++ [c]) (r.drop n) := by
  unfold MnI at *
  rw [h, mn_step hr, hm]
  show ((mn (r.drop n)).map (c :: ·)).map (acc ++ ·) = (mn (r.drop n)).map (acc ++ [c] ++ ·)
  generalize mn (r.drop n) = z
  cases z <;> simp
theorem MnI.none_ {l acc r : List UInt8} (h : MnI l acc r) (hr : r ≠ []) (hm : mby r = none) : mn l = none := by
  unfold MnI at h
  rw [h, mn_step hr, hm]; rfl
theorem MnI.fin {l acc : List UInt8} (h : MnI l acc []) : mn l = some acc := by
  unfold MnI at h
  rw [h, mn_nil]; simp
theorem mby_n {r : List UInt8} {c : UInt8} {n : Nat} (hm : mby r = some (c, n)) : 1 ≤ n ∧ n ≤ r.length := by
  obtain ⟨h1, h2⟩ := mby_pre hm
  have h3 := congrArg List.length h2
  rw [List.length_append, List.length_drop] at h3
  rcases shb_len c with h | h <;> omega
set_option maxHeartbeats 1000000 in
theorem tmean (s : ByteArray) (w : World) (hs : s.size ≤ 30000) :
    Calls Try.prog 52 #[.string s] w fun e w' => e = .returned (mnv (mn s.data.toList)) ∧ Below w.heap.size w w' := by
  have HN := thide (bld_new w)
  have HW := thide ((Below.refl w.heap.size w).alloc (Nat.le_refl _) (.cells #[.pointer none, .slice none 0 0] 152))
  obtain ⟨o, ho⟩ : ∃ o, mn s.data.toList = o := ⟨_, rfl⟩
  have HO := thide ho
  rw [ho]
  clear ho
  go_enter Try.func52, Try.ntmps52
  go_wp2_with fail
  generalize w.alloc (.cells #[.pointer none, .slice none 0 0] 152) = W at *
  go_loopw [0] (fun t wr => ∃ (r : ByteArray) (acc : List UInt8), t = .string r ∧ acc.length + r.size ≤ s.size ∧ Hid (MnI s.data.toList acc r.data.toList) ∧ Hid (Bld w.heap.size w.heap.size acc wr) ∧ Hid (Below w.heap.size w wr)) (fun t _ => strSz t)
  case atStart => exact ⟨s, [], rfl, by simp, mni_0 _, HN, HW⟩
  case round =>
    obtain ⟨r, acc, rfl, hl, HI, HB, HL⟩ := hrel
    have hz := (tunhide HL).size
    by_cases h0 : r.size = 0
    · have e := empty8 h0
      subst e
      have ho : o = some acc := by rw [← tunhide HO]; exact (tunhide HI).fin
      clear HO HI
      go_wp2_with fail
      refine (bstring w.heap.size w.heap.size _ wr (tunhide HB) hz).mono ?_
      rintro e w1 ⟨rfl, k1⟩
      have K1 := thide k1
      clear k1
      go_wp2_with fail
      exact bodyPost_ret (v := mnv (some acc)) (by simp [results, Try.results52, go_sem, mnv]) rfl ⟨by first | rfl | rw [ho], (tunhide HL).trans (tunhide K1)⟩
    · have hne : ¬ r = ⟨#[]⟩ := fun e => h0 (by rw [e]; rfl)
      have hb : r.toList.isEmpty = false := by rw [← decide_eq_emptyBytes]; exact decide_eq_false hne
      have hrl : r.data.toList ≠ [] := fun e => h0 (by rw [← len8, e]; rfl)
      have HR := thide hrl
      clear hrl
      have HC := thide (tmeanByte r wr (by omega) (by omega))
      obtain ⟨m, hm⟩ : ∃ m, mby r.data.toList = m := ⟨_, rfl⟩
      rw [hm] at HC
      have HM := thide hm
      clear hm
      go_wp2_with fail
      refine (tunhide HC).mono ?_
      rintro e w1 ⟨rfl, k1⟩
      clear HC
      have hz1 := k1.size
      have HB1 := thide ((tunhide HB).kp k1)
      have K1 := thide (k1.mono hz)
      clear k1
      cases m with
      | none =>
        have ho : o = none := by rw [← tunhide HO]; exact (tunhide HI).none_ (tunhide HR) (tunhide HM)
        clear HO HI HM
        simp only [mbv]
        go_wp2_with fail
        exact bodyPost_ret (v := mnv none) (by simp [results, Try.results52, go_sem, mnv]) rfl ⟨by first | rfl | rw [ho], (tunhide HL).trans (tunhide K1)⟩
      | some x =>
        obtain ⟨c, n⟩ := x
        simp only [mbv]
        have hn := mby_n (tunhide HM)
        rw [len8] at hn
        have HS := thide ((tunhide HI).step (tunhide HR) (tunhide HM))
        have n1 : (0 : Int) ≤ (n : Int) := by omega
        have n2 : (n : Int) ≤ (r.size : Int) := by omega
        go_wp2_with fail
        refine (bwrite w.heap.size w.heap.size acc c w1 (tunhide HB1) (by omega) (by omega)).mono ?_
        rintro e w2 ⟨rfl, h2, k2⟩
        have H2 := thide h2
        have K2 := thide k2
        clear h2 k2
        go_wp2_with fail
        refine ⟨⟨r.extract n r.size, acc ++ [c], rfl, ?_, ?_, H2, (tunhide HL).trans ((tunhide K1).trans (tunhide K2))⟩, ?_⟩
        · rw [size_drop8]; simp; omega
        · rw [drop8]; exact HS
        · simp only [strSz]; rw [size_drop8]; omega
end Go.Proofs.Ytliopckocegknac
