/- chains: a chain and a line, by steps, tell the same, step by step. -/
import Derived.Test.YtainekjcdmabbaaP1
namespace Go.Proofs.Ytainekjcdmabbaa
open Go.RowKit
set_option maxRecDepth 20000
attribute [local go_sem ↓] Go.wp_at_zero Go.wp_at_succ

theorem StA.below {B : Nat} {w w' : World} {b o n : Nat} {st : Nat → Step} (h : StA w b o n st) (hb : Below B w w') (hlt : b < B) : StA w' b o n st := by
  intro i hi
  obtain ⟨h1, h2, h3, h4, h5⟩ := h i hi
  refine ⟨?_, ?_, ?_, ?_, h5⟩
  · rw [hb.cell (p := ⟨b, o + i * 4, none⟩) hlt]; exact h1
  · rw [hb.cell (p := ⟨b, o + i * 4 + 1, none⟩) hlt]; exact h2
  · rw [hb.cell (p := ⟨b, o + i * 4 + 2, none⟩) hlt]; exact h3
  · rw [hb.cell (p := ⟨b, o + i * 4 + 2 + 1, none⟩) hlt]; exact h4

/-- What stands at the head of each round of chains. -/
structure Rnd (B : Nat) (w wr : World) (b r lb lo n k : Nat) (st : Nat → Step) (vs : List Ver) : Prop where
  pair : Pair B wr b r vs vs
  rise : Rise vs
  len : vs.length ≤ k + 1
  pos : 0 < vs.length
  below : Below B w wr
  steps : StA wr lb lo n st

theorem Pair.pos {B : Nat} {w : World} {b r : Nat} {vs us : List Ver} (h : Pair B w b r vs us) : 0 < vs.length ∧ 0 < us.length := by
  obtain ⟨g, cap, h, o, cap', hb⟩ := h
  exact ⟨hb.c.pos, hb.l.pos⟩

/-- Both Puts of a round, one behind the other: what the first one leaves for the second. -/
structure Mid (B : Nat) (w wr : World) (b r lb lo n k : Nat) (st : Nat → Step) (vs us : List Ver) : Prop where
  pair : Pair B wr b r us vs
  rise : Rise vs
  len : vs.length ≤ k + 1
  below : Below B w wr
  steps : StA wr lb lo n st

theorem Pair.drewN {B : Nat} {w : World} {b r : Nat} {vs us : List Ver} (h : Pair B w b r vs us) (m : Nat) : Pair B (w.drewN m) b r vs us := by
  obtain ⟨g, cap, h, o, cap', hb⟩ := h
  exact ⟨g, cap, h, o, cap', hb.c.drewN m, hb.l.drewN m, hb.br, hb.bh, hb.gr, hb.gh, hb.hB⟩

theorem Rnd.drew {B : Nat} {w wr : World} {b r lb lo n k : Nat} {st : Nat → Step} {vs : List Ver} (h : Rnd B w wr b r lb lo n k st vs) : Rnd B w wr.drew b r lb lo n k st vs :=
  ⟨h.pair.drewN 1, h.rise, h.len, h.pos, h.below.drew, h.steps⟩

theorem rput {B : Nat} {w wr : World} {b r lb lo n k : Nat} {st : Nat → Step} {vs : List Ver} (h : Rnd B w wr b r lb lo n k st vs) (hl : lb < B) (hk : k < n) (hn : n ≤ 80) :
    Calls Try.prog 30 #[.pointer (some ⟨b, 0, none⟩), .int .i64 (st k).a, .agg #[.bool (st k).t, .string (st k).s]] wr fun e w1 => e = .returned (.int .i64 (pcode vs (st k).a (st k).t (st k).s)) ∧
      w1.cell? ⟨lb, lo + k * 4 + 1, none⟩ = some (.int .i64 (st k).a) ∧ w1.cell? ⟨lb, lo + k * 4 + 2, none⟩ = some (.bool (st k).t) ∧ w1.cell? ⟨lb, lo + k * 4 + 2 + 1, none⟩ = some (.string (st k).s) ∧
      Hid (Mid B w w1 b r lb lo n k st vs (pvers vs (st k).a (st k).t (st k).s)) := by
  have hs := h.steps k hk
  have hlen := h.len
  refine (put_pair (st k).a (st k).t (st k).s wr h.pair (by omega) hs.2.2.2.2).mono ?_
  rintro e w1 ⟨rfl, hp, hb⟩
  have hst := h.steps.below hb hl
  obtain ⟨_, q1, q2, q3, _⟩ := hst k hk
  exact ⟨rfl, q1, q2, q3, ⟨hp, h.rise, h.len, h.below.trans hb, hst⟩⟩

theorem mput {B : Nat} {w wr : World} {b r lb lo n k : Nat} {st : Nat → Step} {vs : List Ver} (h : Mid B w wr b r lb lo n k st vs (pvers vs (st k).a (st k).t (st k).s)) (hl : lb < B) (hk : k < n) (hn : n ≤ 80) (hp0 : 0 < vs.length) :
    Calls Try.prog 76 #[.pointer (some ⟨r, 0, none⟩), .int .i64 (st k).a, .agg #[.bool (st k).t, .string (st k).s]] wr fun e w1 => e = .returned (.int .i64 (pcode vs (st k).a (st k).t (st k).s)) ∧
      w1.cell? ⟨lb, lo + k * 4 + 1, none⟩ = some (.int .i64 (st k).a) ∧ w1.cell? ⟨lb, lo + k * 4 + 2, none⟩ = some (.bool (st k).t) ∧ w1.cell? ⟨lb, lo + k * 4 + 2 + 1, none⟩ = some (.string (st k).s) ∧
      Hid (Rnd B w w1 b r lb lo n (k + 1) st (pvers vs (st k).a (st k).t (st k).s)) := by
  have hs := h.steps k hk
  have hlen := h.len
  refine (lput_pair (st k).a (st k).t (st k).s wr h.pair (by omega) hs.2.2.2.2).mono ?_
  rintro e w1 ⟨rfl, hp, hb⟩
  have hst := h.steps.below hb hl
  obtain ⟨_, q1, q2, q3, _⟩ := hst k hk
  have := pvers_length vs (st k).a (st k).t (st k).s
  exact ⟨rfl, q1, q2, q3, ⟨hp, h.rise.put hp0 _ _ _, by omega, by omega, h.below.trans hb, hst⟩⟩

theorem rclear {B : Nat} {w wr : World} {b r lb lo n k : Nat} {st : Nat → Step} {vs : List Ver} (h : Rnd B w wr b r lb lo n k st vs) (hl : lb < B) (hk : k < n) (hn : n ≤ 80) :
    Calls Try.prog 31 #[.pointer (some ⟨b, 0, none⟩), .int .i64 (st k).a] wr fun e w1 => ∃ m : Nat, e = .returned (.int .i64 (m : Int)) ∧ w1.cell? ⟨lb, lo + k * 4 + 1, none⟩ = some (.int .i64 (st k).a) ∧
      Hid (m < vs.length ∧ (∃ c, IsCnt vs (st k).a c ∧ m = c - 1) ∧ Mid B w w1 b r lb lo n k st vs (vs.drop m)) := by
  have hlen := h.len
  have hpos := h.pos
  refine (clear_pair (st k).a wr h.pair h.rise (by omega)).mono ?_
  rintro e w1 ⟨c, hc, rfl, hp, hb⟩
  have hst := h.steps.below hb hl
  obtain ⟨_, q1, q2, q3, _⟩ := hst k hk
  have := (unhide hc).le
  exact ⟨c - 1, rfl, q1, by omega, ⟨c, unhide hc, rfl⟩, ⟨hp, h.rise, h.len, h.below.trans hb, hst⟩⟩

theorem mclear {B : Nat} {w wr : World} {b r lb lo n k m : Nat} {st : Nat → Step} {vs : List Ver} (h : m < vs.length ∧ (∃ c, IsCnt vs (st k).a c ∧ m = c - 1) ∧ Mid B w wr b r lb lo n k st vs (vs.drop m)) (hl : lb < B) (hk : k < n) (hn : n ≤ 80) :
    Calls Try.prog 77 #[.pointer (some ⟨r, 0, none⟩), .int .i64 (st k).a] wr fun e w1 => e = .returned (.int .i64 (m : Int)) ∧ w1.cell? ⟨lb, lo + k * 4 + 1, none⟩ = some (.int .i64 (st k).a) ∧
      Hid (Rnd B w w1 b r lb lo n (k + 1) st (vs.drop m)) := by
  obtain ⟨hm, ⟨c, hc, e⟩, h⟩ := h
  have hlen := h.len
  refine (lclear_pair (st k).a wr h.pair h.rise (by omega)).mono ?_
  rintro e w1 ⟨c', hc', rfl, hp, hb⟩
  have hst := h.steps.below hb hl
  obtain ⟨_, q1, q2, q3, _⟩ := hst k hk
  have ec := hc.uniq (unhide hc')
  subst ec
  subst e
  exact ⟨rfl, q1, ⟨hp, h.rise.drop _, by simp; omega, by simp; omega, h.below.trans hb, hst⟩⟩

theorem rnd_next {B : Nat} {w wr : World} {b r lb lo n k : Nat} {st : Nat → Step} {vs : List Ver} (h : Rnd B w wr b r lb lo n k st vs) : Rnd B w wr b r lb lo n (k + 1) st vs :=
  ⟨h.pair, h.rise, Nat.le_succ_of_le h.len, h.pos, h.below, h.steps⟩

def ChEnd (w : World) (e : Ending) (w' : World) : Prop := ∃ b g cap h o cap' vs, e = .returned (.tuple #[.pointer (some ⟨b, 0, none⟩), .slice (some ⟨h, o, none⟩) (List.length vs) cap', .bool true]) ∧
  Chn w.heap.size w' b g cap vs ∧ SlA w' h o vs ∧ Rise vs ∧ vs.length ≤ 81 ∧ Kp [] w w'

theorem pair_start {w w1 w2 : World} (hc : Chn w.heap.size w1 (w.heap.size + 1) w.heap.size 1 [dv]) (hk : Kp [] w w1) (hl : SlA w2 w1.heap.size 0 [dv]) (hk2 : Kp [] w1 w2) :
    Pair w.heap.size (w2.alloc (.cells #[.slice (some ⟨w1.heap.size, 0, none⟩) 1 1] 29)) (w.heap.size + 1) w2.heap.size [dv] [dv] ∧ Rise [dv] ∧ Below w.heap.size w (w2.alloc (.cells #[.slice (some ⟨w1.heap.size, 0, none⟩) 1 1] 29)) := by
  have hb := hc.blt
  have hsz := hk2.size
  have hsz1 := hk.size
  have hlt := hl.lt (by simp)
  have hk3 : Kp [] w (w2.alloc (.cells #[.slice (some ⟨w1.heap.size, 0, none⟩) 1 1] 29)) := (hk.trans0 hk2).alloc _
  have hbel : Below w.heap.size w (w2.alloc (.cells #[.slice (some ⟨w1.heap.size, 0, none⟩) 1 1] 29)) := hk3.below (Nat.le_refl _) (by simp)
  refine ⟨⟨w.heap.size, 1, w1.heap.size, 0, 1, hc.kp (hk2.alloc _) (by simp) (by simp), ⟨?_, hl.kp ((Kp.refl [] w2).alloc _) (by simp), by omega, by omega, by omega, by simp, by simp⟩, by omega, by omega, by omega, by omega, hk3.size⟩, ?_, hbel⟩
  · have := heap_alloc_new w2 (.cells #[.slice (some ⟨w1.heap.size, 0, none⟩) 1 1] 29)
    simpa using this
  · intro i j h1 h2
    simp at h2
    omega

theorem rnd_start {w w1 w2 : World} {lb lo n : Nat} {st : Nat → Step} (hc : Chn w.heap.size w1 (w.heap.size + 1) w.heap.size 1 [dv]) (hk : Kp [] w w1) (hl : SlA w2 w1.heap.size 0 [dv]) (hk2 : Kp [] w1 w2)
    (hs : StA w lb lo n st) (hlb : lb < w.heap.size) :
    Rnd w.heap.size w (w2.alloc (.cells #[.slice (some ⟨w1.heap.size, 0, none⟩) 1 1] 29)) (w.heap.size + 1) w2.heap.size lb lo n 0 st [dv] := by
  obtain ⟨h1, h2, h3⟩ := pair_start hc hk hl hk2
  exact ⟨h1, h2, by simp, by simp, h3, hs.below h3 hlb⟩

set_option maxHeartbeats 1000000 in
theorem chains8 (lb lo n c : Nat) (st : Nat → Step) (w : World) (hs : StA w lb lo n st) (h0 : 0 < n) (hn : n ≤ 80) :
    Calls Try.prog 17 #[.slice (some ⟨lb, lo, none⟩) n c] w fun e w' => ChEnd w e w' := by
  have hlb := World.block_lt_of_cell? w _ (hs 0 h0).1
  have HS := hide hs
  clear hs
  go_enter Try.func17, Try.ntmps17
  go_wp2_with fail
  refine (new23 w).mono ?_
  rintro e w1 ⟨rfl, hc, hk⟩
  have HC := hide hc
  have HK := hide hk
  clear hc hk
  go_wp2_with fail
  refine (lnew25 w1).mono ?_
  rintro e w2 ⟨rfl, hl, hk2⟩
  have HR0 := hide (rnd_start (unhide HC) (unhide HK) hl hk2 (unhide HS) hlb)
  clear hl hk2 HC HK
  generalize hB : w.heap.size = B at *
  have HB := hide hB
  clear hB
  generalize hb1 : B + 1 = b at *
  clear hb1
  go_wp2_with fail
  generalize w2.heap.size = r at *
  generalize w2.alloc _ = w3 at *
  go_loopw [7, 8] (fun ok i wr => ∃ (k : Nat) (vs : List Ver), k ≤ n ∧ ok = .bool true ∧ i = .int .i64 k ∧ Hid (Rnd B w wr b r lb lo n k st vs)) (fun _ i _ => n - (intOf i).toNat)
  case atStart => exact ⟨0, [dv], Nat.zero_le _, rfl, rfl, HR0⟩
  case round =>
    obtain ⟨k, vs, hk, rfl, rfl, HR⟩ := hrel
    by_cases hlt : k < n
    · have hi0 : (0 : Int) ≤ (k : Int) := by omega
      have hi1 : (k : Int) < (n : Int) := by omega
      obtain ⟨q0, q1, q2, q3, _⟩ := (unhide HR).steps k hlt
      by_cases hd : (st k).d = 0
      · rw [hd] at q0
        clear hd
        go_wp2_with fail
        go_region_held3 (fun w' => w'.cell? ⟨lb, lo + k * 4 + 1, none⟩ = some (.int .i64 (st k).a) ∧ w'.cell? ⟨lb, lo + k * 4 + 2, none⟩ = some (.bool (st k).t) ∧ w'.cell? ⟨lb, lo + k * 4 + 2 + 1, none⟩ = some (.string (st k).s)) (first | go_keep | exact ⟨z1, z2, z3⟩ | exact ⟨y1, y2, y3⟩)
          ((first | (go_at_call 30; refine (rput (unhide HR).drew hlb hlt hn).mono ?_; rintro e w4 ⟨rfl, y1, y2, y3, HM⟩) | (go_at_call 76; refine (mput (unhide HM) hlb hlt hn (unhide HR).pos).mono ?_; rintro e w5 ⟨rfl, z1, z2, z3, HR2⟩)))
        go_wp2_with fail
        exact ⟨⟨k + 1, _, by omega, by simp, by go_num, HR2⟩, by simp [intOf]; omega⟩
      · by_cases hd1 : (st k).d = 1
        · rw [hd1] at q0
          clear hd hd1
          go_wp2_with fail
          go_region_held3 (fun w' => w'.cell? ⟨lb, lo + k * 4 + 1, none⟩ = some (.int .i64 (st k).a)) (first | go_keep | exact z1 | exact y1)
            ((first | (go_at_call 31; refine (rclear (unhide HR).drew hlb hlt hn).mono ?_; rintro e w4 ⟨m, rfl, y1, HM⟩) | (go_at_call 77; refine (mclear (unhide HM) hlb hlt hn).mono ?_; rintro e w5 ⟨rfl, z1, HR2⟩)))
          go_wp2_with fail
          exact ⟨⟨k + 1, _, by omega, by simp, by go_num, HR2⟩, by simp [intOf]; omega⟩
        · generalize (st k).d = d at *
          have e0 : (d == 0) = false := beq_eq_false_iff_ne.2 hd
          have e1 : (d == 1) = false := beq_eq_false_iff_ne.2 hd1
          clear hd hd1
          go_wp2_with fail
          exact ⟨⟨k + 1, vs, by omega, rfl, by go_num, rnd_next (unhide HR)⟩, by simp [intOf]; omega⟩
    · obtain ⟨g, cap, h, o, cap', hb⟩ := (unhide HR).pair
      have q0 := hb.l.cell
      have HH := hide hb
      clear hb
      go_wp2_with fail
      go_quiet (fail)
      go_wp2
      go_ret3
      exact ⟨b, g, cap, h, o, cap', vs, rfl, by rw [unhide HB]; exact (unhide HH).c.drewN _, (unhide HH).l.sla, (unhide HR).rise, by have := (unhide HR).len; omega, Kp.of_below (by rw [unhide HB]; exact below_drewN (unhide HR).below _)⟩

set_option maxHeartbeats 1000000 in
theorem chains8z (a : Option Addr) (c : Nat) (w : World) :
    Calls Try.prog 17 #[.slice a 0 c] w fun e w' => ChEnd w e w' := by
  go_enter Try.func17, Try.ntmps17
  go_wp2_with fail
  refine (new23 w).mono ?_
  rintro e w1 ⟨rfl, hc, hk⟩
  have HC := hide hc
  have HK := hide hk
  clear hc hk
  go_wp2_with fail
  refine (lnew25 w1).mono ?_
  rintro e w2 ⟨rfl, hl, hk2⟩
  have HR0 := hide (pair_start (unhide HC) (unhide HK) hl hk2)
  clear hl hk2 HC HK
  generalize hB : w.heap.size = B at *
  have HB := hide hB
  clear hB
  generalize hb1 : B + 1 = b at *
  clear hb1
  go_wp2_with fail
  generalize w2.heap.size = r at *
  generalize w2.alloc _ = w3 at *
  obtain ⟨g, cap, h, o, cap', hb⟩ := (unhide HR0).1
  have q0 := hb.l.cell
  have HH := hide hb
  clear hb
  go_loopw [7, 8] (fun ok i wr => ok = .bool true ∧ i = .int .i64 0 ∧ wr = w3) (fun _ _ _ => 0)
  case atStart => exact ⟨rfl, rfl, rfl⟩
  case round =>
    obtain ⟨rfl, rfl, rfl⟩ := hrel
    go_wp2_with fail
    go_quiet (fail)
    go_wp2
    go_ret3
    exact ⟨b, g, cap, h, o, cap', [dv], rfl, by rw [unhide HB]; exact (unhide HH).c.drewN _, (unhide HH).l.sla, (unhide HR0).2.1, by simp, Kp.of_below (by rw [unhide HB]; exact below_drewN (unhide HR0).2.2 _)⟩

theorem chains8s (a : Option Addr) (n c : Nat) (st : Nat → Step) (w : World) (h : Sts w a n st) (hn : n ≤ 80) :
    Calls Try.prog 17 #[.slice a n c] w fun e w' => ChEnd w e w' := by
  by_cases h0 : n = 0
  · subst h0; exact chains8z a c w
  · obtain ⟨b, o, rfl, hs⟩ := h.2 (by omega)
    exact chains8 b o n c st w hs (by omega) hn
end Go.Proofs.Ytainekjcdmabbaa
