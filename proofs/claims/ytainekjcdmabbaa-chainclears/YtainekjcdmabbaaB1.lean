/- What chainBegun asks of a chain, call by call. -/
import Derived.Test.YtainekjcdmabbaaP2
namespace Go.Proofs.Ytainekjcdmabbaa
open Go.RowKit
set_option maxRecDepth 20000
attribute [local go_sem ↓] Go.wp_at_zero Go.wp_at_succ

def bx : ByteArray := ⟨#[120]⟩
def by_ : ByteArray := ⟨#[121]⟩
def v3 : Ver := ⟨3, true, bx⟩

/-- A chain that the call made, all that was there ahead as it was. -/
def Bg (w0 w : World) (b : Nat) (vs : List Ver) : Prop := ∃ g cap, Chn w0.heap.size w b g cap vs ∧ Kp [] w0 w

theorem Bg.kp0 {w0 w w' : World} {b : Nat} {vs : List Ver} (h : Bg w0 w b vs) (hk : Kp [] w w') : Bg w0 w' b vs := by
  obtain ⟨g, cap, h1, h2⟩ := h
  exact ⟨g, cap, h1.kp hk (by simp) (by simp), h2.trans0 hk⟩
theorem Bg.blt {w0 w : World} {b : Nat} {vs : List Ver} (h : Bg w0 w b vs) : b < w.heap.size ∧ w0.heap.size ≤ b := by
  obtain ⟨g, cap, h1, h2⟩ := h
  exact ⟨h1.blt, h1.hb⟩

theorem bg_put {w0 : World} {b : Nat} {vs : List Ver} (x : Int) (t : Bool) (s : ByteArray) (w : World) (h : Bg w0 w b vs) (hm : vs.length ≤ 900) (hs : s.size ≤ maxLen) :
    Calls Try.prog 30 #[.pointer (some ⟨b, 0, none⟩), .int .i64 x, .agg #[.bool t, .string s]] w fun e w' => e = .returned (.int .i64 (pcode vs x t s)) ∧ Bg w0 w' b (pvers vs x t s) := by
  obtain ⟨g, cap, h1, h2⟩ := h
  refine (put21 x t s w h1 hm hs h2.size).mono ?_
  rintro e w' ⟨rfl, g', c', k1, k2, k3⟩
  have := h1.hb
  have := h1.hg.1
  exact ⟨rfl, g', c', k1, h2.trans k3 (by simp; omega)⟩

theorem bg_read {w0 : World} {b : Nat} {vs : List Ver} (y : Int) (w : World) (h : Bg w0 w b vs) (hr : Rise vs) (hm : vs.length ≤ 900) (t : Bool) (s : ByteArray) (c : Int) (hrd : Rd vs y t s c) :
    Calls Try.prog 18 #[.pointer (some ⟨b, 0, none⟩), .int .i64 y] w fun e w' => e = .returned (.tuple #[.agg #[.bool t, .string s], .int .i64 c]) ∧ Bg w0 w' b vs ∧ Kp [] w w' := by
  obtain ⟨g, cap, h1, h2⟩ := h
  refine (read9 y w h1 hr (by omega)).mono ?_
  rintro e w' ⟨t', s', c', rfl, k1, k2⟩
  obtain ⟨rfl, rfl, rfl⟩ := hrd.uniq k1
  exact ⟨rfl, ⟨g, cap, h1.kp k2 (by simp) (by simp), h2.trans0 k2⟩, k2⟩

theorem bg_clear {w0 : World} {b : Nat} {vs : List Ver} (y : Int) (w : World) (h : Bg w0 w b vs) (hr : Rise vs) (hm : vs.length ≤ 900) (c : Nat) (hc : IsCnt vs y c) :
    Calls Try.prog 31 #[.pointer (some ⟨b, 0, none⟩), .int .i64 y] w fun e w' => e = .returned (.int .i64 ((c - 1 : Nat) : Int)) ∧ Bg w0 w' b (vs.drop (c - 1)) ∧ Kp [b] w w' := by
  obtain ⟨g, cap, h1, h2⟩ := h
  refine (clear22 y w h1 hr hm h2.size).mono ?_
  rintro e w' ⟨c', hc', rfl, g', cp', k1, k2, k3⟩
  have e := hc.uniq hc'
  subst e
  have := h1.hb
  exact ⟨rfl, ⟨g', cp', k1, h2.trans k3 (by simp; omega)⟩, k3⟩

theorem rise1 (v : Ver) : Rise [v] := by
  intro i j h1 h2
  simp at h2
  omega
theorem rise2 : Rise [dv, v3] := by
  intro i j h1 h2
  have h3 : i = 0 := by simp at h2; omega
  have h4 : j = 1 := by simp at h2; omega
  subst h3 h4
  decide
theorem pc1 : pcode [dv] 3 true bx = 0 := by decide
theorem pv1 : pvers [dv] 3 true bx = [dv, v3] := by rfl
theorem pc2 : pcode [dv, v3] 3 true by_ = 5 := by decide
theorem pv2 : pvers [dv, v3] 3 true by_ = [dv, v3] := by rfl
theorem cnt2 : IsCnt [dv, v3] 2 1 := by
  refine ⟨by decide, fun k hk => ?_, fun k h1 h2 => ?_⟩
  · have : k = 0 := by omega
    subst this; decide
  · have : k = 1 := by simp at h2; omega
    subst this; decide
theorem cnt9 (y : Int) (hy : 3 ≤ y) : IsCnt [dv, v3] y 2 := by
  refine ⟨by decide, fun k hk => ?_, fun k h1 h2 => ?_⟩
  · rcases Nat.lt_or_ge k 1 with e | e
    · have : k = 0 := by omega
      subst this
      have : va [dv, v3] 0 = 0 := rfl
      omega
    · have : k = 1 := by omega
      subst this
      have : va [dv, v3] 1 = 3 := rfl
      omega
  · simp at h2; omega
theorem rd2 : Rd [dv, v3] 2 false ByteArray.empty 0 := .inr (.inr ⟨by decide, by decide, 1, cnt2, by decide, rfl, rfl, rfl⟩)
theorem rd9 : Rd [dv, v3] 9 true bx 0 := .inr (.inr ⟨by decide, by decide, 2, cnt9 9 (by decide), by decide, rfl, rfl, rfl⟩)
theorem rdo : Rd [v3] 2 false ByteArray.empty 12 := .inr (.inl ⟨by decide, by decide, rfl, rfl, rfl⟩)
theorem bxs : bx.size ≤ maxLen := by unfold maxLen; decide
theorem bys : by_.size ≤ maxLen := by unfold maxLen; decide

theorem bg_list {w0 : World} {b : Nat} {vs : List Ver} (w : World) (h : Bg w0 w b vs) (hm : vs.length ≤ 900) :
    Calls Try.prog 29 #[.pointer (some ⟨b, 0, none⟩)] w fun e w' => ∃ g' cap', e = .returned (.slice (some ⟨g', 0, none⟩) vs.length cap') ∧ SlA w' g' 0 vs ∧ Bg w0 w' b vs ∧ Kp [] w w' := by
  obtain ⟨g, cap, h1, h2⟩ := h
  refine (list20 w h1 (by omega)).mono ?_
  rintro e w' ⟨g', cap', rfl, _, k1, k2⟩
  exact ⟨g', cap', rfl, k1, ⟨g, cap, h1.kp k2 (by simp) (by simp), h2.trans0 k2⟩, k2⟩
theorem bg_first {w0 : World} {b : Nat} {vs : List Ver} (w : World) (h : Bg w0 w b vs) :
    Calls Try.prog 26 #[.pointer (some ⟨b, 0, none⟩)] w fun e w' => e = .returned (.int .i64 (va vs 0)) ∧ w' = w := by
  obtain ⟨g, cap, h1, h2⟩ := h
  exact first17 w h1
theorem bg_last {w0 : World} {b : Nat} {vs : List Ver} (w : World) (h : Bg w0 w b vs) (hm : vs.length ≤ 900) :
    Calls Try.prog 24 #[.pointer (some ⟨b, 0, none⟩)] w fun e w' => e = .returned (.int .i64 (va vs (vs.length - 1))) ∧ ∃ m, w' = w.drewN m := by
  obtain ⟨g, cap, h1, h2⟩ := h
  exact last15 w h1 (by omega)

def Three (p1 p2 : Nat) (w : World) : Prop := w.cell? ⟨p1, 0, none⟩ = some (.bool false) ∧ w.cell? ⟨p2, 0, none⟩ = some (.bool true) ∧ w.cell? ⟨p2, 1, none⟩ = some (.string ⟨#[120]⟩)
theorem Three.kp {p1 p2 : Nat} {w w' : World} (h : Three p1 p2 w) (hk : Kp [] w w') : Three p1 p2 w' :=
  ⟨hk.cell (p := ⟨p1, 0, none⟩) (by simp) h.1, hk.cell (p := ⟨p2, 0, none⟩) (by simp) h.2.1, hk.cell (p := ⟨p2, 1, none⟩) (by simp) h.2.2⟩
theorem rg24 {w W : World} {b p1 p2 : Nat} (h : Bg w W b [v3] ∧ Three p1 p2 W) :
    Calls Try.prog 74 #[.string ⟨#[120]⟩] W fun e w' => e = .returned (.agg #[.bool true, .string ⟨#[120]⟩]) ∧ Hid (Bg w w' b [v3] ∧ Three p1 p2 w') := by
  refine (has24 _ W).mono ?_
  rintro e w' ⟨rfl, hk⟩
  exact ⟨rfl, h.1.kp0 hk, h.2.kp hk⟩
theorem rg20 {w W : World} {b p1 p2 : Nat} (h : Bg w W b [v3] ∧ Three p1 p2 W) :
    Calls Try.prog 29 #[.pointer (some ⟨b, 0, none⟩)] W fun e w' => ∃ g' cap', e = .returned (.slice (some ⟨g', 0, none⟩) 1 cap') ∧ Hid (Bg w w' b [v3] ∧ Three p1 p2 w') := by
  refine (bg_list W h.1 (by simp)).mono ?_
  rintro e w' ⟨g', cap', rfl, _, hb, hk⟩
  exact ⟨g', cap', rfl, hb, h.2.kp hk⟩
theorem rg17 {w W : World} {b p1 p2 : Nat} (h : Bg w W b [v3] ∧ Three p1 p2 W) : Calls Try.prog 26 #[.pointer (some ⟨b, 0, none⟩)] W fun e w' => e = .returned (.int .i64 3) ∧ Hid (Bg w w' b [v3] ∧ Three p1 p2 w') := by
  refine (bg_first W h.1).mono ?_
  rintro e w' ⟨rfl, rfl⟩
  exact ⟨rfl, h⟩
theorem rg15 {w W : World} {b p1 p2 : Nat} (h : Bg w W b [v3] ∧ Three p1 p2 W) : Calls Try.prog 24 #[.pointer (some ⟨b, 0, none⟩)] W fun e w' => e = .returned (.int .i64 3) ∧ Hid (Bg w w' b [v3] ∧ Three p1 p2 w') := by
  refine (bg_last W h.1 (by simp)).mono ?_
  rintro e w' ⟨rfl, m, rfl⟩
  exact ⟨rfl, h.1.kp0 ((Kp.refl [] W).drewN m), h.2⟩
theorem rg11 {w W : World} {b p1 p2 : Nat} (h : Bg w W b [v3] ∧ Three p1 p2 W) : Calls Try.prog 20 #[.int .i64 7] W fun e w' => e = .returned (.bool true) ∧ Hid (Bg w w' b [v3] ∧ Three p1 p2 w') := by
  refine (key11 7 W).mono ?_
  rintro e w' ⟨rfl, rfl⟩
  exact ⟨rfl, h⟩
theorem rg13 {w W : World} {b p1 p2 : Nat} (h : Bg w W b [v3] ∧ Three p1 p2 W) : Calls Try.prog 22 #[.agg #[.bool false, .string ⟨#[97]⟩]] W fun e w' => e = .returned (.int .i64 4) ∧ Hid (Bg w w' b [v3] ∧ Three p1 p2 w') := by
  refine (check13 false ⟨#[97]⟩ W (by unfold maxLen; decide)).mono ?_
  rintro e w' ⟨rfl, hk⟩
  exact ⟨rfl, h.1.kp0 hk, h.2.kp hk⟩
theorem Bg.kp {w W : World} {b : Nat} {vs : List Ver} (h : Bg w W b vs) : Kp [] w W := by
  obtain ⟨_, _, _, h2⟩ := h
  exact h2
end Go.Proofs.Ytainekjcdmabbaa
