/- The law ChainDoes, walked: it answers true, and nothing that was there is changed. -/
import Derived.Test.YtpmnnhjnmlkekaaM1
namespace Go.Proofs.Ytpmnnhjnmlkekaa
open Go.RowKit
attribute [local go_sem ↓] Go.wp_at_zero Go.wp_at_succ

/-- Six cells: the value that came in, what the chain read, what the line read. -/
def Six (p0 p1 p2 : Nat) (tv : Bool) (sv : ByteArray) (t : Bool) (s : ByteArray) (w : World) : Prop :=
  w.cell? ⟨p0, 0, none⟩ = some (.bool tv) ∧ w.cell? ⟨p0, 1, none⟩ = some (.string sv) ∧ w.cell? ⟨p1, 0, none⟩ = some (.bool t) ∧ w.cell? ⟨p1, 1, none⟩ = some (.string s) ∧ w.cell? ⟨p2, 0, none⟩ = some (.bool t) ∧ w.cell? ⟨p2, 1, none⟩ = some (.string s)
theorem Six.kp {p0 p1 p2 : Nat} {tv : Bool} {sv : ByteArray} {t : Bool} {s : ByteArray} {w w' : World} (h : Six p0 p1 p2 tv sv t s w) (hk : Kp [] w w') : Six p0 p1 p2 tv sv t s w' :=
  ⟨hk.cell (p := ⟨p0, 0, none⟩) (by simp) h.1, hk.cell (p := ⟨p0, 1, none⟩) (by simp) h.2.1, hk.cell (p := ⟨p1, 0, none⟩) (by simp) h.2.2.1, hk.cell (p := ⟨p1, 1, none⟩) (by simp) h.2.2.2.1, hk.cell (p := ⟨p2, 0, none⟩) (by simp) h.2.2.2.2.1, hk.cell (p := ⟨p2, 1, none⟩) (by simp) h.2.2.2.2.2⟩

structure Sd (w W : World) (b lh lo : Nat) (vs : List Ver) (p0 p1 p2 : Nat) (tv : Bool) (sv : ByteArray) (t : Bool) (s : ByteArray) : Prop where
  made : Made w W b vs
  sla : SlA W lh lo vs
  six : Six p0 p1 p2 tv sv t s W
  hsv : sv.size ≤ maxLen

section
variable {w W : World} {b lh lo : Nat} {vs : List Ver} {p0 p1 p2 : Nat} {tv : Bool} {sv : ByteArray} {t : Bool} {s : ByteArray}
theorem Sd.kp {W' : World} (h : Sd w W b lh lo vs p0 p1 p2 tv sv t s) (hk : Kp [] W W') : Sd w W' b lh lo vs p0 p1 p2 tv sv t s := ⟨h.made.kp hk, h.sla.kp hk (by simp), h.six.kp hk, h.hsv⟩

theorem sd11 (h : Sd w W b lh lo vs p0 p1 p2 tv sv t s) (k : Int) : Calls Try.prog 16 #[.int .i64 k] W fun e w' => e = .returned (.bool (keyB k)) ∧ Hid (Sd w w' b lh lo vs p0 p1 p2 tv sv t s) := by
  refine (key11 k W).mono ?_
  rintro e w' ⟨rfl, rfl⟩
  exact ⟨rfl, h⟩
theorem sd12 (h : Sd w W b lh lo vs p0 p1 p2 tv sv t s) (k : Int) : Calls Try.prog 17 #[.int .i64 k] W fun e w' => e = .returned (.bool (keyB k)) ∧ Hid (Sd w w' b lh lo vs p0 p1 p2 tv sv t s) := by
  refine (key12 k W).mono ?_
  rintro e w' ⟨rfl, rfl⟩
  exact ⟨rfl, h⟩
theorem sd13 (h : Sd w W b lh lo vs p0 p1 p2 tv sv t s) : Calls Try.prog 18 #[.agg #[.bool tv, .string sv]] W fun e w' => e = .returned (.int .i64 (chk tv sv)) ∧ Hid (Sd w w' b lh lo vs p0 p1 p2 tv sv t s) := by
  refine (check13 tv sv W h.hsv).mono ?_
  rintro e w' ⟨rfl, hk⟩
  exact ⟨rfl, h.kp hk⟩
theorem sd14 (h : Sd w W b lh lo vs p0 p1 p2 tv sv t s) : Calls Try.prog 19 #[.agg #[.bool tv, .string sv]] W fun e w' => e = .returned (.int .i64 (chk tv sv)) ∧ Hid (Sd w w' b lh lo vs p0 p1 p2 tv sv t s) := by
  refine (fault14 tv sv W h.hsv).mono ?_
  rintro e w' ⟨rfl, hk⟩
  exact ⟨rfl, h.kp hk⟩
theorem sd15 (h : Sd w W b lh lo vs p0 p1 p2 tv sv t s) : Calls Try.prog 20 #[.pointer (some ⟨b, 0, none⟩)] W fun e w' => e = .returned (.int .i64 (va vs (vs.length - 1))) ∧ Hid (Sd w w' b lh lo vs p0 p1 p2 tv sv t s) := by
  refine (made_last W h.made _ rfl).mono ?_
  rintro e w' ⟨rfl, _, hk⟩
  exact ⟨rfl, h.kp (unhide hk)⟩
theorem sd16 (h : Sd w W b lh lo vs p0 p1 p2 tv sv t s) (cap : Nat) : Calls Try.prog 21 #[.slice (some ⟨lh, lo, none⟩) vs.length cap] W fun e w' => e = .returned (.int .i64 (va vs (vs.length - 1))) ∧ Hid (Sd w w' b lh lo vs p0 p1 p2 tv sv t s) := by
  refine (llast16 lh lo cap W h.sla h.made.pos (by have := h.made.len; omega)).mono ?_
  rintro e w' ⟨rfl, rfl⟩
  exact ⟨rfl, h⟩
theorem sd17 (h : Sd w W b lh lo vs p0 p1 p2 tv sv t s) : Calls Try.prog 22 #[.pointer (some ⟨b, 0, none⟩)] W fun e w' => e = .returned (.int .i64 (va vs 0)) ∧ Hid (Sd w w' b lh lo vs p0 p1 p2 tv sv t s) := by
  refine (made_first W h.made _ rfl).mono ?_
  rintro e w' ⟨rfl, rfl⟩
  exact ⟨rfl, h⟩
theorem sd18 (h : Sd w W b lh lo vs p0 p1 p2 tv sv t s) (cap : Nat) : Calls Try.prog 23 #[.slice (some ⟨lh, lo, none⟩) vs.length cap] W fun e w' => e = .returned (.int .i64 (va vs 0)) ∧ Hid (Sd w w' b lh lo vs p0 p1 p2 tv sv t s) := by
  refine (lfirst18 lh lo cap W h.sla h.made.pos).mono ?_
  rintro e w' ⟨rfl, rfl⟩
  exact ⟨rfl, h⟩
theorem sd20 (h : Sd w W b lh lo vs p0 p1 p2 tv sv t s) : Calls Try.prog 25 #[.pointer (some ⟨b, 0, none⟩)] W fun e w' => ∃ g' cap', e = .returned (.slice (some ⟨g', 0, none⟩) vs.length cap') ∧ Hid (Sd w w' b lh lo vs p0 p1 p2 tv sv t s) ∧ Hid (SlA w' g' 0 vs) := by
  refine (made_list W h.made _ rfl).mono ?_
  rintro e w' ⟨g', cap', rfl, k1, _, hk⟩
  exact ⟨g', cap', rfl, h.kp (unhide hk), k1⟩
theorem sd19 (h : Sd w W b lh lo vs p0 p1 p2 tv sv t s) (g' cap' cap : Nat) (hg : SlA W g' 0 vs) : Calls Try.prog 24 #[.slice (some ⟨g', 0, none⟩) vs.length cap', .slice (some ⟨lh, lo, none⟩) vs.length cap] W fun e w' => e = .returned (.bool true) ∧ Hid (Sd w w' b lh lo vs p0 p1 p2 tv sv t s) := by
  refine (same19 g' 0 cap' lh lo cap W hg h.sla (by have := h.made.len; omega)).mono ?_
  rintro e w' ⟨rfl, m, rfl⟩
  exact ⟨rfl, h.kp ((Kp.refl [] W).drewN m)⟩
end

theorem lread_as {vs : List Ver} (g o cap : Nat) (y : Int) (w : World) (h : SlA w g o vs) (hr : Rise vs) (hp : 0 < vs.length) (hm : vs.length ≤ 1000) (t : Bool) (s : ByteArray) (c : Int) (hrd : Rd vs y t s c) :
    Calls Try.prog 15 #[.slice (some ⟨g, o, none⟩) vs.length cap, .int .i64 y] w fun e w' => e = .returned (.tuple #[.agg #[.bool t, .string s], .int .i64 c]) ∧ Hid (Kp [] w w') := by
  refine (lread10 g o cap y w h hr hp hm).mono ?_
  rintro e w' ⟨t', s', c', rfl, k1, k2⟩
  obtain ⟨rfl, rfl, rfl⟩ := hrd.uniq k1
  exact ⟨rfl, k2⟩

set_option maxHeartbeats 4000000 in
set_option maxRecDepth 100000 in
theorem does3 (a : Option Addr) (n c : Nat) (st : Nat → Step) (tv : Bool) (sv : ByteArray) (k y : Int) (w : World) (h : Sts w a n st) (hsv : sv.size ≤ maxLen) :
    Calls Try.prog 3 #[.slice a n c, .agg #[.bool tv, .string sv], .int .i64 k, .int .i64 y] w fun e w' => e = .returned (.bool true) ∧ Below w.heap.size w w' := by
  have HS := hide (h.kp ((Kp.refl [] w).alloc (.cells #[.bool tv, .string sv] 24)))
  have HK0 := hide ((Kp.refl [] w).alloc (.cells #[.bool tv, .string sv] 24))
  have HB0 := hide (heap_alloc_new w (.cells #[.bool tv, .string sv] 24))
  have hsv2 : sv.size ≤ 9223372036854775807 := by unfold maxLen at hsv; exact hsv
  clear h
  go_enter Try.func3, Try.ntmps3
  go_wp2_with fail
  generalize w.alloc (.cells #[.bool tv, .string sv] 24) = w0 at *
  refine (begun6 w0).mono ?_
  rintro e w1 ⟨rfl, hk⟩
  have HK1 := hide ((unhide HK0).trans0 hk)
  have HS1 := hide ((unhide HS).kp hk)
  have HB1 := hide (show w1.heap[w.heap.size]? = some (.cells #[.bool tv, .string sv] 24 (0, 0)) from by rw [hk.block _ (Array.getElem?_eq_some_iff.1 (unhide HB0)).1 (by simp)]; exact unhide HB0)
  clear hk HS HB0 HK0
  go_wp2_with fail
  refine (great7 a n c st w1 (unhide HS1)).mono ?_
  rintro e w1' ⟨q, rfl, hq, rfl⟩
  cases q with
  | true =>
    clear hq
    go_wp2
    go_ret
    exact ⟨rfl, (unhide HK1).below (Nat.le_refl _) (by simp)⟩
  | false =>
    have hn := hq rfl
    clear hq
    have b0 : w1'.cell? ⟨w.heap.size, 0, none⟩ = some (.bool tv) := by rw [cell_of_row w1' _ 0 _ _ _ (unhide HB1)]; rfl
    have b1 : w1'.cell? ⟨w.heap.size, 1, none⟩ = some (.string sv) := by rw [cell_of_row w1' _ 1 _ _ _ (unhide HB1)]; rfl
    by_cases hlong : 100 < sv.size
    · go_wp2
      go_ret
      exact ⟨rfl, (unhide HK1).below (Nat.le_refl _) (by simp)⟩
    · go_wp2_with fail
      refine (chains_made a n c st w1' w1' (unhide HS1) hn (Kp.refl [] w1')).mono ?_
      rintro e w2 ⟨b, lh, lo, lcap, vs, rfl, HM, HL⟩
      have c0 := (unhide HM).bgkp.cell (p := ⟨w.heap.size, 0, none⟩) (by simp) b0
      have c1 := (unhide HM).bgkp.cell (p := ⟨w.heap.size, 1, none⟩) (by simp) b1
      clear b0 b1 HB1
      generalize w.heap.size = p0 at *
      go_wp2_with fail
      refine (made_read y w2 (unhide HM)).mono ?_
      rintro e w3 ⟨t, s, code, rfl, HRD, HM3, HK3⟩
      have hka := (unhide HK3).alloc (.cells #[.bool t, .string s] 24)
      have d0 := hka.cell (p := ⟨p0, 0, none⟩) (by simp) c0
      have d1 := hka.cell (p := ⟨p0, 1, none⟩) (by simp) c1
      have d2 : (w3.alloc (.cells #[.bool t, .string s] 24)).cell? ⟨w3.heap.size, 0, none⟩ = some (.bool t) := by simp
      have d3 : (w3.alloc (.cells #[.bool t, .string s] 24)).cell? ⟨w3.heap.size, 1, none⟩ = some (.string s) := by simp
      have HL4 := hide ((unhide HL).kp hka (by simp))
      have HM4 := hide ((unhide HM3).kp ((Kp.refl [] w3).alloc (.cells #[.bool t, .string s] 24)))
      clear c0 c1 HM HL HM3 HK3 hka
      go_wp2_with fail
      generalize w3.alloc (.cells #[.bool t, .string s] 24) = W4 at *
      generalize w3.heap.size = p1 at *
      refine (lread_as lh lo lcap y W4 (unhide HL4) (unhide HM4).rise (unhide HM4).pos (by have := (unhide HM4).len; omega) t s code (unhide HRD)).mono ?_
      rintro e w5 ⟨rfl, HK5⟩
      have hka := (unhide HK5).alloc (.cells #[.bool t, .string s] 24)
      have f0 := hka.cell (p := ⟨p0, 0, none⟩) (by simp) d0
      have f1 := hka.cell (p := ⟨p0, 1, none⟩) (by simp) d1
      have f2 := hka.cell (p := ⟨p1, 0, none⟩) (by simp) d2
      have f3 := hka.cell (p := ⟨p1, 1, none⟩) (by simp) d3
      have f4 : (w5.alloc (.cells #[.bool t, .string s] 24)).cell? ⟨w5.heap.size, 0, none⟩ = some (.bool t) := by simp
      have f5 : (w5.alloc (.cells #[.bool t, .string s] 24)).cell? ⟨w5.heap.size, 1, none⟩ = some (.string s) := by simp
      have HL6 := (unhide HL4).kp hka.drew (by simp)
      have HM6 := (unhide HM4).kp hka.drew
      have HSD := hide (show Sd w1' (w5.alloc (.cells #[.bool t, .string s] 24)).drew b lh lo vs p0 p1 w5.heap.size tv sv t s from ⟨HM6, HL6, ⟨f0, f1, f2, f3, f4, f5⟩, hsv⟩)
      clear d0 d1 d2 d3 HL4 HM4 HK5 hka HL6 HM6 HRD HS1
      go_wp2_with fail
      generalize w5.alloc (.cells #[.bool t, .string s] 24) = W6 at *
      generalize w5.heap.size = p2 at *
      go_region_held3 (fun w' => w'.cell? ⟨p0, 0, none⟩ = some (.bool tv) ∧ w'.cell? ⟨p0, 1, none⟩ = some (.string sv) ∧ w'.cell? ⟨p1, 0, none⟩ = some (.bool t) ∧ w'.cell? ⟨p1, 1, none⟩ = some (.string s) ∧ w'.cell? ⟨p2, 0, none⟩ = some (.bool t) ∧ w'.cell? ⟨p2, 1, none⟩ = some (.string s)) (first | exact (unhide G10).six | exact (unhide G9).six | exact (unhide G8).six | exact (unhide G7).six | exact (unhide G6).six | exact (unhide G5).six | exact (unhide G4).six | exact (unhide G3).six | exact (unhide G2).six | exact (unhide G1).six | exact (unhide HSD).six)
        ((first | (go_at_call 16; refine (sd11 (unhide HSD) k).mono ?_; rintro e v1 ⟨rfl, G1⟩) | (go_at_call 17; refine (sd12 (unhide G1) k).mono ?_; rintro e v2 ⟨rfl, G2⟩) | (go_at_call 18; refine (sd13 (unhide G2)).mono ?_; rintro e v3 ⟨rfl, G3⟩) | (go_at_call 19; refine (sd14 (unhide G3)).mono ?_; rintro e v4 ⟨rfl, G4⟩) | (go_at_call 20; refine (sd15 (unhide G4)).mono ?_; rintro e v5 ⟨rfl, G5⟩) | (go_at_call 21; refine (sd16 (unhide G5) lcap).mono ?_; rintro e v6 ⟨rfl, G6⟩) | (go_at_call 22; refine (sd17 (unhide G6)).mono ?_; rintro e v7 ⟨rfl, G7⟩) | (go_at_call 23; refine (sd18 (unhide G7) lcap).mono ?_; rintro e v8 ⟨rfl, G8⟩) | (go_at_call 25; refine (sd20 (unhide G8)).mono ?_; rintro e v9 ⟨gl, cl, rfl, G9, GS⟩) | (go_at_call 24; refine (sd19 (unhide G9) gl cl lcap (unhide GS)).mono ?_; rintro e v10 ⟨rfl, G10⟩)))
      go_wp2
      go_ret
      exact ⟨rfl, ((unhide HK1).trans0 (unhide G10).made.bgkp).below (Nat.le_refl _) (by simp)⟩
end Go.Proofs.Ytpmnnhjnmlkekaa
