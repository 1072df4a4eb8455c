/- The document's sheet of bytes, by its contract. -/
import Derived.Test.YtfcfoabdangfhabJ0
import Derived.Test.YtfcfoabdangfhabS2
import Derived.Test.YtfcfoabdangfhabQ8
namespace Go.Proofs.Ytfcfoabdangfhab
open Go.RowKit
set_option maxRecDepth 20000
attribute [local go_sem ↓] Go.wp_at_zero Go.wp_at_succ

/-- At the head of a round: the commits xs are read. -/
structure SoI (w : World) (bs : List UInt8) (D : List (List Ver)) (tb : Nat) (xs : List (List Ver)) (wr : World) : Prop where
  tbl : ∃ F, Sht w.heap.size wr tb F (wal0 xs) xs.length
  kp : Kp [] w wr
  n40 : xs.length ≤ 40
  goes : xs ++ dcs (40 - xs.length) (bs.drop (lb xs).length) = D
  ple : (lb xs).length ≤ bs.length

theorem SoI.stop {w : World} {bs : List UInt8} {D xs : List (List Ver)} {tb : Nat} {wr : World} (h : SoI w bs D tb xs wr) (hc : (dec (bs.drop (lb xs).length)).2.2 ≠ 0) : xs = D := by
  have hg := h.goes
  rcases Nat.eq_zero_or_pos (40 - xs.length) with e | e
  · rw [e] at hg; simpa [dcs] using hg
  · obtain ⟨m, hm⟩ := Nat.exists_eq_succ_of_ne_zero (Nat.pos_iff_ne_zero.1 e)
    rw [hm] at hg
    simp only [dcs] at hg
    rw [if_neg hc] at hg
    simpa using hg
theorem SoI.full {w : World} {bs : List UInt8} {D xs : List (List Ver)} {tb : Nat} {wr : World} (h : SoI w bs D tb xs wr) (hc : 40 ≤ xs.length) : xs = D := by
  have hg := h.goes
  rw [show 40 - xs.length = 0 by omega] at hg
  simpa [dcs] using hg
theorem SoI.next {w : World} {bs : List UInt8} {D xs : List (List Ver)} {tb : Nat} {wr w' : World} (h : SoI w bs D tb xs wr) (hc : (dec (bs.drop (lb xs).length)).2.2 = 0) (hn : xs.length < 40)
    (ht : ∃ F, Sht w.heap.size w' tb F (wst (wal0 xs) xs.length (dec (bs.drop (lb xs).length)).1) (wn xs.length (dec (bs.drop (lb xs).length)).1)) (hk : Kp [] w w') :
    SoI w bs D tb (xs ++ [(dec (bs.drop (lb xs).length)).1]) w' ∧ (lb (xs ++ [(dec (bs.drop (lb xs).length)).1])).length = (lb xs).length + (dec (bs.drop (lb xs).length)).2.1 ∧ 2 ≤ (dec (bs.drop (lb xs).length)).2.1 := by
  obtain ⟨h1, h2, h3, h4⟩ := dec_ok hc
  have hl : (lb (xs ++ [(dec (bs.drop (lb xs).length)).1])).length = (lb xs).length + (dec (bs.drop (lb xs).length)).2.1 := by rw [lb_snoc, List.length_append, ← h4]
  refine ⟨⟨?_, hk, by simp; omega, ?_, ?_⟩, hl, by rw [h4]; exact (enc_le h1).1⟩
  · rw [(wcode_ok h1 hn).2, ← wal0_snoc] at ht
    simpa using ht
  · have hg := h.goes
    rw [show 40 - xs.length = (40 - (xs.length + 1)) + 1 by omega] at hg
    simp only [dcs] at hg
    rw [if_pos hc, List.drop_drop] at hg
    rw [hl, List.length_append, List.append_assoc]
    exact hg
  · rw [hl]
    have := h.ple
    simp only [List.length_drop] at h2
    omega

def SoEnd (D : List (List Ver)) (w : World) (e : Ending) (w' : World) : Prop := ∃ tb F p, e = .returned (.tuple #[.pointer (some ⟨tb, 0, none⟩), .int .i64 (p : Nat)]) ∧ p = (lb D).length ∧ Sht w.heap.size w' tb F (wal0 D) D.length ∧ Kp [] w w'
theorem SoEnd_mk {D xs : List (List Ver)} {w : World} {tb : Nat} {bs : List UInt8} {wr w' : World} (h : SoI w bs D tb xs wr) (hx : xs = D) (hk : Kp [] wr w') {p : Nat} (hp : p = (lb xs).length) : SoEnd D w (.returned (.tuple #[.pointer (some ⟨tb, 0, none⟩), .int .i64 p])) w' := by
  subst hx
  obtain ⟨F, ht⟩ := h.tbl
  exact ⟨tb, F, p, rfl, hp, ht.kp0 hk, h.kp.trans0 hk⟩

/-- Write of pairs that lie in memory of their own. -/
theorem so_write {w : World} {bs : List UInt8} {D xs : List (List Ver)} {tb : Nat} {wr W : World} (h : SoI w bs D tb xs wr) (hW : Kp [] wr W) (a : Option Addr) (n c : Nat) (ps : List Ver) (hn : n = ps.length) (ho : W.ownsRow wr.heap.size 40 3 (.slice a n c) n (vcells ps)) (hl : ps.length ≤ 1000) (hs : ∀ p ∈ ps, p.s.size ≤ 255) :
    Calls Try.prog 34 #[.pointer (some ⟨tb, 0, none⟩), .slice a n c] W fun e w' => e = .returned (.tuple #[.int .i64 (wnum xs.length ps), .int .i64 (wcode xs.length ps)]) ∧
      (∃ F, Sht w.heap.size w' tb F (wst (wal0 xs) xs.length ps) (wn xs.length ps)) ∧ Kp [] w w' := by
  obtain ⟨F, ht⟩ := h.tbl
  have hpr := own_prs ho hn hl hs
  subst hn
  refine (swrite56 a c ps W (ht.kp0 hW) hpr (fun _ g o e hg => ?_) hl).mono ?_
  · have h1 := own_ge (g := g) ho (by subst e; rfl)
    have h2 := (ht.lo g hg).2
    omega
  · rintro e w' ⟨rfl, F', k1, k2, k3⟩
    exact ⟨rfl, ⟨F', k1⟩, (h.kp.trans0 hW).trans k2 (fun x hx => .inr (ht.lo x hx).1)⟩

set_option maxHeartbeats 2000000 in
theorem sheetOf26 (a : Option Addr) (n c : Nat) (bs : List UInt8) (w : World) (h : Byt w a bs) (hn : n = bs.length) (hc : n ≤ c) (hm : bs.length ≤ 10000) :
    Calls Try.prog 26 #[.slice a n c] w fun e w' => SoEnd (dcs 40 bs) w e w' := by
  have HB := hide h
  have HN := hide hn
  have hn' : n ≤ 10000 := by omega
  have HG : Hid (dcs 40 bs = dcs 40 bs) := rfl
  generalize hD : dcs 40 bs = D at *
  have HD := hide hD
  clear h hD HG hn
  go_enter Try.func26, Try.ntmps26
  go_wp2_with fail
  refine (snew55 w).mono ?_
  rintro e w1 ⟨rfl, ht, hk⟩
  have H0 : Hid (SoI w bs D w.heap.size [] w1) := ⟨ht, hk, by simp, by simpa [lb] using unhide HD, by simp [lb]⟩
  clear ht hk HD
  generalize w.heap.size = tb at *
  go_wp2_with fail
  go_loopw [5] (fun i wr => ∃ (p : Nat) (xs : List (List Ver)), i = .int .i64 p ∧ p ≤ n ∧ Hid (p = (lb xs).length) ∧ Hid (SoI w bs D tb xs wr)) (fun i _ => n - (intOf i).toNat)
  case atStart => exact ⟨0, [], rfl, by omega, rfl, H0⟩
  case round =>
    clear H0
    obtain ⟨p, xs, rfl, hp, HP, HI⟩ := hrel
    obtain ⟨a2, hsl, hb2⟩ := part_l ((unhide HB).kp0 (unhide HI).kp) p c n (unhide HN) (by have := unhide HN; omega) (by have := unhide HN; omega) p rfl
    have hd := pairsOf13 a2 (n - p) (c - p) (bs.drop p) wr hb2 (by rw [List.length_drop]; have := unhide HN; omega) (by omega) (by simp; omega)
    have HDD := hide hd
    have ip : (p : Int) ≤ (n : Int) := by omega
    clear hb2 hd
    by_cases hcode : (dec (bs.drop p)).2.2 = 0
    · have hok := dec_ok hcode
      have hl8 := @dec_len (bs.drop p)
      have hst := @dec_str (bs.drop p)
      have hle2 : (dec (bs.drop p)).2.1 ≤ n - p := by have := hok.2.1; rw [List.length_drop] at this; have := unhide HN; omega
      by_cases h40 : 40 ≤ xs.length
      · have hw9 := wcode_full hok.1 h40
        have HX := hide ((unhide HI).full h40)
        have HW := hide (fun W hW a n c hn ho => so_write (unhide HI) (W := W) hW a n c _ hn ho (by omega) hst)
        rw [hw9] at HW
        have hD2 : ∃ z, (dec (bs.drop p)).2.1 = z := ⟨_, rfl⟩
        obtain ⟨z, hz⟩ := hD2
        clear hok hl8 hst hw9
        go_wp2_with fail
        refine (unhide HDD).mono ?_
        rintro e w2 ⟨a3, n3, c3, rfl, hn3, ho3, hk3⟩
        rw [hcode, hz]
        have HWW := hide (unhide HW w2 hk3 a3 n3 c3 hn3 ho3)
        clear hn3 ho3 hk3 HW HDD hsl
        generalize wnum xs.length (dec (bs.drop p)).1 = y at *
        go_wp2_with fail
        refine (unhide HWW).mono ?_
        rintro e w3 ⟨rfl, ⟨F3, ht3⟩, hk3⟩
        have HE : Hid (SoEnd D w (.returned (.tuple #[.pointer (some ⟨tb, 0, none⟩), .int .i64 p])) w3) := by
          have hx := unhide HX
          have e9 : wst (wal0 xs) xs.length (dec (bs.drop p)).1 = wal0 xs ∧ wn xs.length (dec (bs.drop p)).1 = xs.length := by
            have := wcode_full (dec_ok hcode).1 h40
            unfold wst wn
            rw [this]
            simp
          rw [e9.1, e9.2, hx] at ht3
          exact ⟨tb, F3, p, rfl, by rw [← hx]; exact unhide HP, ht3, hk3⟩
        clear ht3 hk3 HWW
        go_wp2_with fail
        go_ret2
        exact unhide HE
      · have hw0 := (wcode_ok hok.1 (by omega : xs.length < 40)).1
        have HW := hide (fun W hW a n c hn ho => so_write (unhide HI) (W := W) hW a n c _ hn ho (by omega) hst)
        rw [hw0] at HW
        have hD2 : ∃ z, (dec (bs.drop p)).2.1 = z := ⟨_, rfl⟩
        obtain ⟨z, hz⟩ := hD2
        rw [hz] at hle2
        clear hok hl8 hst hw0
        go_wp2_with fail
        refine (unhide HDD).mono ?_
        rintro e w2 ⟨a3, n3, c3, rfl, hn3, ho3, hk3⟩
        rw [hcode, hz]
        have HWW := hide (unhide HW w2 hk3 a3 n3 c3 hn3 ho3)
        clear hn3 ho3 hk3 HW HDD hsl
        generalize wnum xs.length (dec (bs.drop p)).1 = y at *
        go_wp2_with fail
        refine (unhide HWW).mono ?_
        rintro e w3 ⟨rfl, ht3, hk3⟩
        have hpx := unhide HP
        subst hpx
        obtain ⟨j1, j2, j3⟩ := (unhide HI).next hcode (by omega) ht3 hk3
        rw [hz] at j2 j3
        have J1 := hide j1
        have J2 := hide j2
        clear ht3 hk3 HWW j1 j2
        go_wp2_with fail
        exact ⟨⟨_, _, by go_num, by omega, (unhide J2).symm, J1⟩, by simp [intOf]; omega⟩
    · have HX := hide ((unhide HI).stop (by rw [← unhide HP]; exact hcode))
      generalize dec (bs.drop p) = Dd at *
      obtain ⟨d1, d2, d3⟩ := Dd
      simp only at hcode
      go_wp2_with fail
      refine (unhide HDD).mono ?_
      rintro e w2 ⟨a3, n3, c3, rfl, hn3, ho3, hk3⟩
      have HE := hide (SoEnd_mk (unhide HI) (unhide HX) hk3 (unhide HP))
      clear hn3 ho3 hk3 HDD hsl
      go_wp2_with fail
      go_ret2
      exact unhide HE
end Go.Proofs.Ytfcfoabdangfhab
