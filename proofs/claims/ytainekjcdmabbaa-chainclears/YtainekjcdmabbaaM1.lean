/- What a chain that steps made tells, call by call. -/
import Derived.Test.YtainekjcdmabbaaB2
namespace Go.Proofs.Ytainekjcdmabbaa
open Go.RowKit
set_option maxRecDepth 20000
attribute [local go_sem ↓] Go.wp_at_zero Go.wp_at_succ

theorem va_drop (vs : List Ver) (d k : Nat) : va (vs.drop d) k = va vs (d + k) := by simp [va]
theorem vt_drop (vs : List Ver) (d k : Nat) : vt (vs.drop d) k = vt vs (d + k) := by simp [vt]
theorem vb_drop (vs : List Ver) (d k : Nat) : vb (vs.drop d) k = vb vs (d + k) := by simp [vb]

theorem IsCnt.drop {vs : List Ver} {y : Int} {m d : Nat} (h : IsCnt vs y m) (hd : d ≤ m) : IsCnt (vs.drop d) y (m - d) := by
  have := h.le
  refine ⟨by simp; omega, fun k hk => ?_, fun k h1 h2 => ?_⟩
  · rw [va_drop]; exact h.lo _ (by omega)
  · rw [va_drop]; simp at h2; exact h.hi _ (by omega) (by omega)

theorem IsCnt.mono {vs : List Ver} {y z : Int} {c m : Nat} (h : IsCnt vs y c) (k : IsCnt vs z m) (hyz : y ≤ z) : c ≤ m := by
  rcases Nat.lt_or_ge m c with e | e
  · have h1 := h.lo m e
    have h2 := k.hi m (Nat.le_refl _) (by have := h.le; omega)
    omega
  · exact e

theorem rd_drop {vs : List Ver} {least y : Int} {c : Nat} {t : Bool} {s : ByteArray} {code : Int} (hc : IsCnt vs least c) (hl : least ≤ y) (h : Rd vs y t s code) : Rd (vs.drop (c - 1)) y t s code := by
  rcases h with ⟨h1, rfl, rfl, rfl⟩ | ⟨h0, h1, rfl, rfl, rfl⟩ | ⟨h0, h1, m, hm, hm0, rfl, rfl, rfl⟩
  · exact .inl ⟨h1, rfl, rfl, rfl⟩
  · have : c = 0 := by
      rcases Nat.eq_zero_or_pos c with e | e
      · exact e
      · have := hc.lo 0 e; omega
    subst this
    exact .inr (.inl ⟨h0, by simpa using h1, rfl, rfl, rfl⟩)
  · have hcm := hc.mono hm hl
    refine .inr (.inr ⟨h0, ?_, m - (c - 1), hm.drop (by omega), by omega, ?_, ?_, rfl⟩)
    · rw [va_drop]; exact hm.lo _ (by omega)
    · rw [vt_drop, show c - 1 + (m - (c - 1) - 1) = m - 1 by omega]
    · rw [vb_drop, show c - 1 + (m - (c - 1) - 1) = m - 1 by omega]

theorem cnt_again {vs : List Ver} {y : Int} {c : Nat} (hc : IsCnt vs y c) : ∃ m, IsCnt (vs.drop (c - 1)) y m ∧ m - 1 = 0 :=
  ⟨c - (c - 1), hc.drop (by omega), by omega⟩

theorem last_drop {vs : List Ver} {d : Nat} (hd : d < vs.length) : va (vs.drop d) ((vs.drop d).length - 1) = va vs (vs.length - 1) := by
  rw [va_drop]; congr 1; simp; omega

/-- A chain by steps: how it came, and what is known of it. -/
structure Made (w0 w : World) (b : Nat) (vs : List Ver) : Prop where
  bg : Bg w0 w b vs
  rise : Rise vs
  len : vs.length ≤ 200

theorem Made.pos {w0 w : World} {b : Nat} {vs : List Ver} (h : Made w0 w b vs) : 0 < vs.length := by
  obtain ⟨_, _, h1, _⟩ := h.bg
  exact h1.pos
theorem Made.kp {w0 w w' : World} {b : Nat} {vs : List Ver} (h : Made w0 w b vs) (hk : Kp [] w w') : Made w0 w' b vs := ⟨h.bg.kp0 hk, h.rise, h.len⟩

theorem chains_made (a : Option Addr) (n c : Nat) (st : Nat → Step) (w0 w : World) (h : Sts w a n st) (hn : n ≤ 80) (hk : Kp [] w0 w) :
    Calls Try.prog 17 #[.slice a n c] w fun e w' => ∃ b h o cap' vs, e = .returned (.tuple #[.pointer (some ⟨b, 0, none⟩), .slice (some ⟨h, o, none⟩) (List.length vs) cap', .bool true]) ∧ Hid (Made w0 w' b vs) ∧ Hid (SlA w' h o vs) := by
  refine (chains8s a n c st w h hn).mono ?_
  rintro e w' ⟨b, g, cap, h, o, cap', vs, rfl, h1, h2, h3, h4, h5⟩
  have hsz := hk.size
  refine ⟨b, h, o, cap', vs, rfl, ⟨⟨g, cap, ⟨?_, h1.box, h1.ne, Nat.le_trans hsz h1.hb, h1.pos⟩, hk.trans0 h5⟩, h3, by omega⟩, h2⟩
  refine ⟨h1.own.1, ?_⟩
  rcases h1.own.2 with hn | ⟨g', cap', cur, e, q1, q2⟩
  · exact .inl hn
  · exact .inr ⟨g', cap', cur, e, Nat.le_trans hsz q1, q2⟩

theorem made_read {w0 : World} {b : Nat} {vs : List Ver} (y : Int) (w : World) (h : Made w0 w b vs) :
    Calls Try.prog 18 #[.pointer (some ⟨b, 0, none⟩), .int .i64 y] w fun e w' => ∃ t s c, e = .returned (.tuple #[.agg #[.bool t, .string s], .int .i64 c]) ∧ Hid (Rd vs y t s c) ∧ Hid (Made w0 w' b vs) ∧ Hid (Kp [] w w') := by
  obtain ⟨g, cap, h1, h2⟩ := h.bg
  refine (read9 y w h1 h.rise (by have := h.len; omega)).mono ?_
  rintro e w' ⟨t', s', c', rfl, k1, k2⟩
  exact ⟨t', s', c', rfl, k1, h.kp k2, k2⟩
theorem made_read_as {w0 : World} {b : Nat} {vs : List Ver} (y : Int) (w : World) (h : Made w0 w b vs) (t : Bool) (s : ByteArray) (c : Int) (hrd : Rd vs y t s c) :
    Calls Try.prog 18 #[.pointer (some ⟨b, 0, none⟩), .int .i64 y] w fun e w' => e = .returned (.tuple #[.agg #[.bool t, .string s], .int .i64 c]) ∧ Hid (Made w0 w' b vs) ∧ Hid (Kp [] w w') := by
  refine (bg_read y w h.bg h.rise (by have := h.len; omega) t s c hrd).mono ?_
  rintro e w' ⟨rfl, k1, k2⟩
  exact ⟨rfl, h.kp k2, k2⟩
theorem made_first {w0 : World} {b : Nat} {vs : List Ver} (w : World) (h : Made w0 w b vs) (x : Int) (hx : va vs 0 = x) :
    Calls Try.prog 26 #[.pointer (some ⟨b, 0, none⟩)] w fun e w' => e = .returned (.int .i64 x) ∧ w = w' := by
  refine (bg_first w h.bg).mono ?_
  rintro e w' ⟨rfl, rfl⟩
  exact ⟨by rw [hx], rfl⟩
theorem made_last {w0 : World} {b : Nat} {vs : List Ver} (w : World) (h : Made w0 w b vs) (x : Int) (hx : va vs (vs.length - 1) = x) :
    Calls Try.prog 24 #[.pointer (some ⟨b, 0, none⟩)] w fun e w' => e = .returned (.int .i64 x) ∧ Hid (Made w0 w' b vs) ∧ Hid (Kp [] w w') := by
  refine (bg_last w h.bg (by have := h.len; omega)).mono ?_
  rintro e w' ⟨rfl, m, rfl⟩
  exact ⟨by rw [hx], h.kp ((Kp.refl [] w).drewN m), (Kp.refl [] w).drewN m⟩
theorem made_list {w0 : World} {b : Nat} {vs : List Ver} (w : World) (h : Made w0 w b vs) (n : Nat) (hn : vs.length = n) :
    Calls Try.prog 29 #[.pointer (some ⟨b, 0, none⟩)] w fun e w' => ∃ g' cap', e = .returned (.slice (some ⟨g', 0, none⟩) n cap') ∧ Hid (SlA w' g' 0 vs) ∧ Hid (Made w0 w' b vs) ∧ Hid (Kp [] w w') := by
  refine (bg_list w h.bg (by have := h.len; omega)).mono ?_
  rintro e w' ⟨g', cap', rfl, k1, k2, k3⟩
  exact ⟨g', cap', by rw [hn], k1, h.kp k3, k3⟩
theorem made_clear {w0 : World} {b : Nat} {vs : List Ver} (y : Int) (w : World) (h : Made w0 w b vs) :
    Calls Try.prog 31 #[.pointer (some ⟨b, 0, none⟩), .int .i64 y] w fun e w' => ∃ d : Nat, e = .returned (.int .i64 (d : Int)) ∧ Hid (∃ c, IsCnt vs y c ∧ d = c - 1) ∧ Hid (Made w0 w' b (vs.drop d)) ∧ Hid (Kp [b] w w') := by
  obtain ⟨g, cap, h1, h2⟩ := h.bg
  refine (clear22 y w h1 h.rise (by have := h.len; omega) h2.size).mono ?_
  rintro e w' ⟨c', hc', rfl, g', cp', k1, k2, k3⟩
  have := h1.hb
  exact ⟨c' - 1, rfl, ⟨c', hc', rfl⟩, ⟨⟨g', cp', k1, h2.trans k3 (by simp; omega)⟩, h.rise.drop _, by have := h.len; simp; omega⟩, k3⟩
theorem made_clear_again {w0 : World} {b : Nat} {vs : List Ver} (y : Int) (w : World) (h : Made w0 w b vs) (m : Nat) (hm : IsCnt vs y m) (h0 : m - 1 = 0) :
    Calls Try.prog 31 #[.pointer (some ⟨b, 0, none⟩), .int .i64 y] w fun e w' => e = .returned (.int .i64 0) ∧ Hid (Kp [] w0 w') := by
  refine (bg_clear y w h.bg h.rise (by have := h.len; omega) m hm).mono ?_
  rintro e w' ⟨rfl, k1, k2⟩
  exact ⟨by rw [h0]; rfl, k1.kp⟩
theorem Made.bgkp {w0 w : World} {b : Nat} {vs : List Ver} (h : Made w0 w b vs) : Kp [] w0 w := h.bg.kp
theorem Made.blt {w0 w : World} {b : Nat} {vs : List Ver} (h : Made w0 w b vs) : b < w.heap.size := h.bg.blt.1
theorem Sts.kp {w w' : World} {a : Option Addr} {n : Nat} {st : Nat → Step} (h : Sts w a n st) (hk : Kp [] w w') : Sts w' a n st := by
  refine ⟨h.1, fun h0 => ?_⟩
  obtain ⟨b, o, e, hs⟩ := h.2 h0
  refine ⟨b, o, e, fun i hi => ?_⟩
  obtain ⟨q0, q1, q2, q3, q4⟩ := hs i hi
  exact ⟨hk.cell (p := ⟨b, o + i * 4, none⟩) (by simp) q0, hk.cell (p := ⟨b, o + i * 4 + 1, none⟩) (by simp) q1, hk.cell (p := ⟨b, o + i * 4 + 2, none⟩) (by simp) q2, hk.cell (p := ⟨b, o + i * 4 + 2 + 1, none⟩) (by simp) q3, q4⟩
end Go.Proofs.Ytainekjcdmabbaa
