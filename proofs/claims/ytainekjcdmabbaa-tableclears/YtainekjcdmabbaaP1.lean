/- A chain and a line beside it; greatChain. -/
import Derived.Test.YtainekjcdmabbaaL3
namespace Go.Proofs.Ytainekjcdmabbaa
open Go.RowKit
set_option maxRecDepth 20000
attribute [local go_sem ↓] Go.wp_at_zero Go.wp_at_succ

/-- A chain and a line beside it, that share no memory. -/
structure Both (B : Nat) (w : World) (b g cap r h o cap' : Nat) (vs us : List Ver) : Prop where
  c : Chn B w b g cap vs
  l : Lin B w r h o cap' us
  br : b ≠ r
  bh : b ≠ h
  gr : g ≠ r
  gh : g ≠ h
  hB : B ≤ w.heap.size
def Pair (B : Nat) (w : World) (b r : Nat) (vs us : List Ver) : Prop := ∃ g cap h o cap', Both B w b g cap r h o cap' vs us

theorem put_pair {B b r : Nat} {vs us : List Ver} (x : Int) (t : Bool) (s : ByteArray) (w : World) (hp : Pair B w b r vs us) (hm : vs.length ≤ 900) (hs : s.size ≤ maxLen) :
    Calls Try.prog 30 #[.pointer (some ⟨b, 0, none⟩), .int .i64 x, .agg #[.bool t, .string s]] w fun e w' => e = .returned (.int .i64 (pcode vs x t s)) ∧ Pair B w' b r (pvers vs x t s) us ∧ Below B w w' := by
  obtain ⟨g, cap, h, o, cap', hb⟩ := hp
  refine (put21 x t s w hb.c hm hs hb.hB).mono ?_
  rintro e w' ⟨rfl, g', c', h1, h2, h3⟩
  have q1 := hb.l.rlt
  have q2 := hb.l.glt
  have q3 := hb.br
  have q4 := hb.bh
  have q5 := hb.gr
  have q6 := hb.gh
  have q7 := hb.c.hb
  have q8 := hb.c.hg.1
  refine ⟨rfl, ⟨g', c', h, o, cap', h1, hb.l.kp h3 (by simp; omega) (by simp; omega), q3, q4, by omega, by omega, Nat.le_trans hb.hB h3.size⟩, h3.below hb.hB (by simp; omega)⟩

theorem lput_pair {B b r : Nat} {vs us : List Ver} (x : Int) (t : Bool) (s : ByteArray) (w : World) (hp : Pair B w b r vs us) (hm : us.length ≤ 900) (hs : s.size ≤ maxLen) :
    Calls Try.prog 76 #[.pointer (some ⟨r, 0, none⟩), .int .i64 x, .agg #[.bool t, .string s]] w fun e w' => e = .returned (.int .i64 (pcode us x t s)) ∧ Pair B w' b r vs (pvers us x t s) ∧ Below B w w' := by
  obtain ⟨g, cap, h, o, cap', hb⟩ := hp
  refine (lput26 x t s w hb.l hm hs hb.hB).mono ?_
  rintro e w' ⟨rfl, g', o', c', h1, h2, h3⟩
  have q1 := hb.c.blt
  have q2 := hb.c.hg.2
  have q3 := hb.br
  have q4 := hb.bh
  have q5 := hb.gr
  have q6 := hb.gh
  have q7 := hb.l.hr
  refine ⟨rfl, ⟨g, cap, g', o', c', hb.c.kp h3 (by simp; omega) (by simp; omega), h1, q3, by omega, q5, by omega, Nat.le_trans hb.hB h3.size⟩, h3.below hb.hB (by simp; omega)⟩

theorem clear_pair {B b r : Nat} {vs us : List Ver} (y : Int) (w : World) (hp : Pair B w b r vs us) (hr : Rise vs) (hm : vs.length ≤ 900) :
    Calls Try.prog 31 #[.pointer (some ⟨b, 0, none⟩), .int .i64 y] w fun e w' => ∃ c : Nat, Hid (IsCnt vs y c) ∧ e = .returned (.int .i64 ((c - 1 : Nat) : Int)) ∧ Pair B w' b r (vs.drop (c - 1)) us ∧ Below B w w' := by
  obtain ⟨g, cap, h, o, cap', hb⟩ := hp
  refine (clear22 y w hb.c hr hm hb.hB).mono ?_
  rintro e w' ⟨c, hc, rfl, g', c', h1, h2, h3⟩
  have q1 := hb.l.rlt
  have q2 := hb.l.glt
  have q3 := hb.br
  have q4 := hb.bh
  have q5 := hb.gr
  have q6 := hb.gh
  have q7 := hb.c.hb
  refine ⟨c, hc, rfl, ⟨g', c', h, o, cap', h1, hb.l.kp h3 (by simp; omega) (by simp; omega), q3, q4, by omega, by omega, Nat.le_trans hb.hB h3.size⟩, h3.below hb.hB (by simp; omega)⟩

theorem lclear_pair {B b r : Nat} {vs us : List Ver} (y : Int) (w : World) (hp : Pair B w b r vs us) (hr : Rise us) (hm : us.length ≤ 900) :
    Calls Try.prog 77 #[.pointer (some ⟨r, 0, none⟩), .int .i64 y] w fun e w' => ∃ c : Nat, Hid (IsCnt us y c) ∧ e = .returned (.int .i64 ((c - 1 : Nat) : Int)) ∧ Pair B w' b r vs (us.drop (c - 1)) ∧ Below B w w' := by
  obtain ⟨g, cap, h, o, cap', hb⟩ := hp
  refine (lclear27 y w hb.l hr hm).mono ?_
  rintro e w' ⟨c, hc, rfl, o', c', h1, h3⟩
  have q3 := hb.br
  have q4 := hb.bh
  have q5 := hb.gr
  have q6 := hb.gh
  have q7 := hb.l.hr
  refine ⟨c, hc, rfl, ⟨g, cap, h, o', c', hb.c.kp h3 (by simp; omega) (by simp; omega), h1, q3, q4, q5, q6, Nat.le_trans hb.hB h3.size⟩, h3.below hb.hB (by simp; omega)⟩

structure Step where
  d : Int
  a : Int
  t : Bool
  s : ByteArray

/-- The steps lie in block b from o on, n of them. -/
def StA (w : World) (b o n : Nat) (st : Nat → Step) : Prop := ∀ i, i < n →
  w.cell? ⟨b, o + i * 4, none⟩ = some (.int .i64 (st i).d) ∧ w.cell? ⟨b, o + i * 4 + 1, none⟩ = some (.int .i64 (st i).a) ∧ w.cell? ⟨b, o + i * 4 + 2, none⟩ = some (.bool (st i).t) ∧ w.cell? ⟨b, o + i * 4 + 2 + 1, none⟩ = some (.string (st i).s) ∧ (st i).s.size ≤ maxLen
def Sts (w : World) (a : Option Addr) (n : Nat) (st : Nat → Step) : Prop := n ≤ maxLen ∧ (0 < n → ∃ b o, a = some ⟨b, o, none⟩ ∧ StA w b o n st)

def GrEnd (n : Nat) (w : World) (e : Ending) (w' : World) : Prop := ∃ q : Bool, e = .returned (.bool q) ∧ (q = false → n ≤ 80) ∧ w' = w
theorem grEnd_mk {n : Nat} {w : World} (q : Bool) (h : q = false → n ≤ 80) : GrEnd n w (.returned (.bool q)) w := ⟨q, rfl, h, rfl⟩

set_option maxHeartbeats 400000 in
theorem great7 (a : Option Addr) (n c : Nat) (st : Nat → Step) (w : World) (h : Sts w a n st) :
    Calls Try.prog 16 #[.slice a n c] w fun e w' => GrEnd n w e w' := by
  obtain ⟨hm, h⟩ := h
  unfold maxLen at hm
  by_cases hn : n = 0
  · subst hn
    clear h
    go_enter Try.func16, Try.ntmps16
    go_wp2_with fail
    go_loop [3] (fun i => i = .int .i64 0) (fun _ => 0)
    case atStart => rfl
    case round =>
      subst hrel
      go_wp2
      go_ret
      exact grEnd_mk _ (fun _ => by omega)
  · obtain ⟨b, o, rfl, hs⟩ := h (by omega)
    clear h
    have HS := hide hs
    clear hs
    go_enter Try.func16, Try.ntmps16
    go_wp2_with fail
    go_loop [3] (fun i => ∃ k : Nat, k ≤ n ∧ k ≤ 100 ∧ i = .int .i64 k) (fun i => n - (intOf i).toNat)
    case atStart => exact ⟨0, Nat.zero_le _, by omega, rfl⟩
    case round =>
      obtain ⟨k, hk, hk2, rfl⟩ := hrel
      by_cases hlt : k < n
      · by_cases hlt2 : k < 100
        · obtain ⟨_, _, _, q3, q4⟩ := unhide HS k hlt
          unfold maxLen at q4
          generalize (st k).s = s at *
          by_cases hs : 100 < s.size
          · go_wp2
            go_ret
            exact grEnd_mk _ (fun h => by simp at h)
          · go_wp2
            go_round
            case rel => exact ⟨k + 1, by omega, by omega, by go_num⟩
            case measure => simp [intOf]; omega
        · go_wp2
          go_ret
          exact grEnd_mk _ (fun h => by simp at h; omega)
      · go_wp2
        go_ret
        exact grEnd_mk _ (fun h => by simp at h; omega)
end Go.Proofs.Ytainekjcdmabbaa
