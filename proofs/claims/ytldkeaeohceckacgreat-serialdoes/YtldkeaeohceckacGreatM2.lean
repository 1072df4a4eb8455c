/- Bound together for a claim. -/
import Derived.Test.YtldkeaeohceckacGreatM1
import Derived.Deep.RegionLaw
import Derived.Deep.RegionWith
namespace Go.Proofs.YtldkeaeohceckacGreat
set_option maxRecDepth 20000
set_option maxHeartbeats 64000000
section
open Go.RowKit
attribute [local go_sem ↓] Go.wp_at_zero Go.wp_at_succ
theorem nn {a : Int} {ps : List Ver} (h : pf a ps = 0) : ∀ k, k < ps.length → (vb ps k).size ≤ 12 := by
 induction ps generalizing a with
 | nil => intro k hk; simp at hk
 | cons p r ih =>
   obtain ⟨_, _, _, h4, h5⟩ := iB h
   intro k hk
   cases k with
   | zero => simpa [vb] using (gM h4).1
   | succ k => have := ih h5 k (by simpa using hk); simpa [vb] using this
theorem jH {ps : List Ver} {k : Nat} (h : k < ps.length) : ps.take (k + 1) = ps.take k ++ [⟨va ps k, vt ps k, vb ps k⟩] := by
 have e : (⟨va ps k, vt ps k, vb ps k⟩ : Ver) = ps[k] := by simp [va, vt, vb, List.getD_eq_getElem?_getD, List.getElem?_eq_getElem h]
 rw [e, List.take_succ_eq_append_getElem h]
theorem jJ {ps : List Ver} {k : Nat} (h : k < ps.length) : pbs (ps.take (k + 1)) = pbs (ps.take k) ++ pb ⟨va ps k, vt ps k, vb ps k⟩ := by
 rw [jH h, jh]
 simp [pbs]
theorem il (ps : List Ver) (k : Nat) : (pbs (ps.take k)).length ≤ (pbs ps).length := by
 have := congrArg (fun l => (pbs l).length) (List.take_append_drop k ps)
 simp only [jh, List.length_append] at this
 omega
theorem Row.head {w0 w : World} {g cap : Nat} {u : UInt8} {bs : List UInt8} (h : Row w0 w g cap (u :: bs)) : w.cell? ⟨g, 0, none⟩ = some (.int .u8 u.toNat) ∧ w.frozen? ⟨g, 0, none⟩ = false := by
 refine ⟨by simpa [ub] using h.slu 0 (by simp), ?_⟩
 rcases h.own.2 with ⟨e, _⟩ | ⟨g2, c2, cur, e, q1, q2, q3, q4, q5, q6⟩
 ·simp at e
 ·simp only [Value.slice.injEq, Option.some.injEq, Addr.mk.injEq, and_true, true_and] at e
  obtain ⟨rfl, rfl⟩ := e
  exact ak _ q2
theorem Row.set0 {w0 w : World} {g cap : Nat} {u : UInt8} {bs : List UInt8} (h : Row w0 w g cap (u :: bs)) (v : UInt8) (x : Int) (hx : x = (v.toNat : Int)) : Row w0 (w.setCell ⟨g, 0, none⟩ (.int .u8 x)) g cap (v :: bs) := by
 subst hx
 have hlt := h.lt
 refine ⟨⟨by simp [aV], ?_⟩, h.kp.setCell (.inr hlt.1) _⟩
 rcases h.own.2 with ⟨e, _⟩ | ⟨g2, c2, cur, e, q1, q2, q3, q4, q5, q6⟩
 ·simp at e
 ·simp only [Value.slice.injEq, Option.some.injEq, Addr.mk.injEq, and_true, true_and] at e
  obtain ⟨rfl, rfl⟩ := e
  refine .inr ⟨g, cap, _, by simp, q1, an 0 _ q2, by simpa using q3, q4, by simpa using q5, ?_⟩
  simp only [Nat.mul_one, List.length_cons] at q6 ⊢
  rw [Array.toList_setIfInBounds, List.take_set, q6]
  simp [aR]
structure EnI (w : World) (hd : List UInt8) (ps : List Ver) (k g cap n : Nat) (wr : World) : Prop where
 len : n = (hd ++ pbs (ps.take k)).length
 row : Row w wr g cap (hd ++ pbs (ps.take k))
theorem EnI.next {w wr : World} {hd : List UInt8} {ps : List Ver} {k g cap n : Nat} (hk : k < ps.length) (hn : n = (hd ++ pbs (ps.take k) ++ pb ⟨va ps k, vt ps k, vb ps k⟩).length) (hr : Row w wr g cap (hd ++ pbs (ps.take k) ++ pb ⟨va ps k, vt ps k, vb ps k⟩)) : EnI w hd ps (k + 1) g cap n wr := by
 rw [List.append_assoc, ← jJ hk] at hn hr
 exact ⟨hn, hr⟩
theorem EnI.last {w wr : World} {hd : List UInt8} {ps : List Ver} {g cap n : Nat} (h : EnI w hd ps ps.length g cap n wr) : n = (hd ++ pbs ps).length ∧ Row w wr g cap (hd ++ pbs ps) := by
 obtain ⟨h1, h2⟩ := h
 rw [List.take_length] at h1 h2
 exact ⟨h1, h2⟩
theorem ks (w W : World) (hk : Kp [] w W) (ps : List Ver) (hd : List UInt8) (cs : Array Value) (hc : cs.toList = aR hd) (hm : hd.length ≤ 1000) (g c : Nat) (hg : g = W.heap.size) (h2 : c = hd.length) : EnI w hd ps 0 g c c (W.alloc (.cells cs 5)) := by
 subst hg
 subst h2
 have := kR w W hk hd cs hc hm
 exact ⟨by simp [pbs], by simpa [pbs] using this⟩
def ul (ps : List Ver) (w : World) (e : Ending) (w' : World) : Prop := ∃ g cap n, e = .returned (.tuple #[.slice (some ⟨g, 0, none⟩) n cap, .int .i64 0]) ∧ n = (enc ps).length ∧ Row w w' g cap (enc ps)
theorem qe {ps : List Ver} {w W : World} {g cap n : Nat} {x : Int} (hx : x = (n : Int) % 256) (hr : n = ([0, b8 ps.length] ++ pbs ps).length ∧ Row w W g cap ([0, b8 ps.length] ++ pbs ps)) :
 ul ps w (.returned (.tuple #[.slice (some ⟨g, 0, none⟩) n cap, .int .i64 0])) (W.setCell ⟨g, 0, none⟩ (.int .u8 x)) := by
 obtain ⟨h1, h2⟩ := hr
 refine ⟨g, cap, n, rfl, by rw [h1]; simp [enc], h2.set0 (b8 ((pbs ps).length + 2 : Nat)) x ?_⟩
 rw [hx, ← eu, h1]
 simp; omega
theorem qd (a : Option Addr) (c : Nat) (ps : List Ver) (w : World) (h : Prs w a ps) (hp : pf (-1) ps = 0) :
 Calls Tryz.prog 134 #[.slice a ps.length c] w fun e w' => ul ps w e w' := by
 have h8 := ec hp
 have h112 := dS hp
 have HP := ag h
 have HS := ag (nn hp)
 have HPF := ag hp
 clear h hp
 go_enter Tryz.func134, Tryz.ntmps134
 go_wp2_with fail
 refine (eC a c ps w (ae HP) (by omega)).mono ?_
 rintro e w1 ⟨rfl, hk1⟩
 have HK1 := ag hk1
 clear hk1
 rw [ae HPF]
 go_wp2_with fail
 go_loopw [5, 19] (fun b i wr => ∃ k g cap n : Nat, k ≤ ps.length ∧ b = .slice (some ⟨g, 0, none⟩) n cap ∧ i = .int .i64 k ∧ Hid (EnI w [0, b8 ps.length] ps k g cap n wr)) (fun _ i _ => ps.length - (intOf i).toNat)
 case atStart => exact ⟨0, w1.heap.size, 2, 2, by omega, rfl, rfl, ks w w1 (ae HK1) ps [0, b8 ps.length] _ (by simp [aR, ← eu]; omega) (by simp) _ _ rfl rfl⟩
 case round =>
  obtain ⟨k, g, cap, n, hk, rfl, rfl, HE⟩ := hrel
  by_cases hlt : k < ps.length
  ·obtain ⟨ga, o, rfl, hs⟩ := (ae HP).mem (by omega)
   have hs2 := hs.kp (ae HE).row.kp (by simp)
   have q0 := hs2.at0 k hlt
   have q1 := hs2.at1 k hlt
   have q2 := hs2.at2 k hlt
   have i0 : (0 : Int) ≤ (k : Int) := by omega
   have i1 : (k : Int) < (ps.length : Int) := by omega
   clear hs hs2
   go_wp2_with fail
   refine (lG (va ps k) (vt ps k) (vb ps k) ((ae HE).row.kp0 ((Kp.refl [] _).alloc _)) (ae HE).len (by have := il ps k; simp; omega) (by have := ae HS k hlt; omega)).mono ?_
   rintro e w2 ⟨g2, c2, n2, rfl, hn2, hr2⟩
   have HE2 := ag (EnI.next hlt hn2 hr2)
   clear hn2 hr2
   go_wp2_with fail
   exact ⟨⟨k + 1, g2, c2, n2, by omega, rfl, by go_num, HE2⟩, by simp [intOf]; omega⟩
  ·have e : k = ps.length := by omega
   subst e
   have hl := (ae HE).last
   obtain ⟨y0, y1⟩ := Row.head hl.2
   have HLL := ag hl
   have hn0 : 0 < n := by rw [hl.1]; simp
   clear hl
   go_wp2_with fail
   go_ret2
   exact qe rfl (ae HLL)
theorem nE (a : Option Addr) (c : Nat) (ps : List Ver) (w : World) (h : Prs w a ps) (hm : ps.length ≤ 1000) (hp : pf (-1) ps ≠ 0) :
 Calls Tryz.prog 134 #[.slice a ps.length c] w fun e w' => e = .returned (.tuple #[.slice none 0 0, .int .i64 (pf (-1) ps)]) ∧ Kp [] w w' := by
 have hc := eC a c ps w h (by omega)
 generalize pf (-1) ps = q at *
 have HC := ag hc
 clear h hc
 go_enter Tryz.func134, Tryz.ntmps134
 go_wp2_with fail
 refine (ae HC).mono ?_
 rintro e w1 ⟨rfl, hk1⟩
 have HK1 := ag hk1
 clear hk1
 go_wp2_with fail
 go_ret2
 exact ⟨rfl, ae HK1⟩
theorem iF : Tryz.prog.elem 87 = 5 := by simp [Program.elem, Tryz.underlying87]
theorem kM (W : World) : (sizeOf 5).run Tryz.prog W = .ok 1 W := by
 obtain ⟨i0, hi0, hz0, hz1, hz2⟩ := info_parts Tryz.info5
 simp [sizeOf, typeInfo, hi0, hz1]
theorem iO : Tryz.prog.underlying 87 = some (.slice (Tryz.prog.elem 87)) := by rw [iF]; exact Tryz.underlying87
theorem iW {w : World} {a : Option Addr} {bs : List UInt8} (h : Byt w a bs) {l k c : Nat} (hlk : l ≤ k) (hk : k ≤ bs.length) (hc : bs.length ≤ c) : Byt w (if c = l then a else a.map (·.add (l * 1))) ((bs.take k).drop l) := by
 intro hp
 have hp' : l < k := by simp at hp; omega
 rw [if_neg (by omega)]
 obtain ⟨g, o, rfl, hs⟩ := h (by omega)
 exact ⟨g, o + l, by simp [ca], (hs.take k).drop l⟩
theorem oJ {w : World} {a : Option Addr} {bs : List UInt8} (h : Byt w a bs) (l k c n : Nat) (hlk : l ≤ k) (hk : k ≤ bs.length) (hc : bs.length ≤ c) (x y : Int) (hx : x = l) (hy : y = k) :
 ∃ a', (∀ W, (Instr.slice 87 (.slice a n c) (some (.int .i64 x)) (some (.int .i64 y)) none).run Tryz.prog W = .ok (.slice a' (k - l) (c - l)) W) ∧ Byt w a' ((bs.take k).drop l) := by
 refine ⟨_, fun W => ?_, iW h hlk hk hc⟩
 subst hx hy
 rw [run_slice_lh W 87 a n c iO .i64 .i64 _ _ (by omega) (by omega) (by omega), iF, kM]
 simp [Result.andThen, sliced]
theorem rY {w : World} {a : Option Addr} {bs : List UInt8} (h : Byt w a bs) (l c n : Nat) (hn : n = bs.length) (hl : l ≤ bs.length) (hc : bs.length ≤ c) (x : Int) (hx : x = l) :
 ∃ a', (∀ W, (Instr.slice 87 (.slice a n c) (some (.int .i64 x)) none none).run Tryz.prog W = .ok (.slice a' (n - l) (c - l)) W) ∧ Byt w a' (bs.drop l) := by
 refine ⟨_, fun W => ?_, by have := iW h hl (Nat.le_refl _) hc; rwa [List.take_length] at this⟩
 subst hx
 rw [run_slice_l W 87 a n c iO .i64 _ (by omega) (by omega), iF, kM]
 simp [Result.andThen, sliced]
theorem xD {w : World} {a : Option Addr} {bs : List UInt8} (h : Byt w a bs) (n c : Nat) (hn : n = bs.length) (W : World) (hk : Kp [] w W) : (convert 87 9 (.slice a n c)).run Tryz.prog W = .ok (.string ⟨bs.toArray⟩) W := by
 subst hn
 have hb := h.kp0 hk
 cases a with
 | none =>
   have e : bs = [] := by
    rcases Nat.eq_zero_or_pos bs.length with e | e
    ·exact List.eq_nil_of_length_eq_zero e
    ·obtain ⟨g, o, e2, _⟩ := h e
     cases e2
   subst e
   show (convert 87 9 (.slice none 0 c)).run Tryz.prog W = _
   rw [run_convert_bytes_string W 87 9 5 none 0 c Tryz.underlying87 Tryz.underlying5 Tryz.underlying9]
   rfl
 | some ad =>
   refine run_convert_bytes_back W 87 9 5 ad c bs Tryz.underlying87 Tryz.underlying5 Tryz.underlying9 (fun j hj => ?_)
   obtain ⟨g, o, e, hs⟩ := hb (by omega)
   cases e
   rw [ca, hs j hj]
   simp [ub, List.getD_eq_getElem?_getD, List.getElem?_eq_getElem hj]
def rd1 (bs : List UInt8) : Ver × Nat × Bool :=
 if bs.length < 2 then (dv, 0, false)
 else if ub bs 1 = 255 then (⟨ub bs 0, false, ByteArray.empty⟩, 2, true)
 else if bs.length < 2 + ub bs 1 then (dv, 0, false)
 else (⟨ub bs 0, true, ⟨((bs.take (2 + ub bs 1)).drop 2).toArray⟩⟩, 2 + ub bs 1, true)
theorem lg {w W : World} {u0 u1 u2 : Value} (h : Kp [] w W) : Kp [] w (((W.setCell ⟨w.heap.size, 0, none⟩ u0).setCell ⟨w.heap.size, 1, none⟩ u1).setCell ⟨w.heap.size, 2, none⟩ u2) :=
 ((h.setCell (.inr (Nat.le_refl _)) _).setCell (.inr (Nat.le_refl _)) _).setCell (.inr (Nat.le_refl _)) _
def zp (R : Ver × Nat × Bool) (w : World) (e : Ending) (w' : World) : Prop :=
 e = .returned (.tuple #[.agg #[.int .i64 R.1.a, .bool R.1.t, .string R.1.s], .int .i64 R.2.1, .bool R.2.2]) ∧ Kp [] w w'
theorem ng (a : Option Addr) (n c : Nat) (bs : List UInt8) (w : World) (h : Byt w a bs) (hn : n = bs.length) (hc : n ≤ c) (hm : bs.length ≤ 10000) :
 Calls Tryz.prog 131 #[.slice a n c] w fun e w' => zp (rd1 bs) w e w' := by
 by_cases h2 : bs.length < 2
 ·have e1 : rd1 bs = (dv, 0, false) := by unfold rd1; rw [if_pos h2]
  rw [e1]
  have hn2 : n < 2 := by omega
  clear h e1 hn
  go_enter Tryz.func131, Tryz.ntmps131
  go_wp2_with fail
  exact bodyPost_ret (v := .tuple #[.agg #[.int .i64 0, .bool false, .string ByteArray.empty], .int .i64 0, .bool false]) (by simp [results, Tryz.results131, go_sem]; rfl) rfl ⟨rfl, (Kp.refl [] w).alloc _⟩
 ·obtain ⟨g, o, rfl, hs⟩ := h (by omega)
  have q0 := hs 0 (by omega)
  have q1 := hs 1 (by omega)
  have hg : g < w.heap.size := World.block_lt_of_cell? w _ q0
  have u0 := ot bs 0
  have u1 := ot bs 1
  have HB := ag h
  have hn2 : ¬ n < 2 := by omega
  have i0 : (0 : Int) < (n : Int) := by omega
  have i1 : (1 : Int) < (n : Int) := by omega
  have j0 : 0 < n := by omega
  have j1 : 1 < n := by omega
  have HN := ag hn
  have HC := ag hc
  simp only [Nat.add_zero] at q0
  clear h hs hn hc
  by_cases h255 : ub bs 1 = 255
  ·have e1 : rd1 bs = (⟨ub bs 0, false, ByteArray.empty⟩, 2, true) := by unfold rd1; rw [if_neg h2, if_pos h255]
   rw [e1]
   rw [h255] at q1
   clear e1 h255 u1
   generalize ub bs 0 = x at *
   go_enter Tryz.func131, Tryz.ntmps131
   go_wp2_with fail
   go_quiet (fail)
   go_wp2_with fail
   exact bodyPost_ret (v := .tuple #[.agg #[.int .i64 x, .bool false, .string ByteArray.empty], .int .i64 2, .bool true]) (by simp [results, Tryz.results131, go_sem]; rfl) rfl ⟨rfl, lg (((Kp.refl [] w).alloc _).drewN _)⟩
  ·by_cases hl : bs.length < 2 + ub bs 1
   ·have e1 : rd1 bs = (dv, 0, false) := by unfold rd1; rw [if_neg h2, if_neg h255, if_pos hl]
    rw [e1]
    have k0 : (n : Int) < 2 + (ub bs 1 : Nat) := by have := ae HN; omega
    have k1 : ¬ ((ub bs 1 : Nat) : Int) = 255 := by omega
    clear e1 h255 hl
    generalize ub bs 0 = x at *
    generalize ub bs 1 = l at *
    go_enter Tryz.func131, Tryz.ntmps131
    go_wp2_with fail
    go_quiet (fail)
    go_wp2_with fail
    exact bodyPost_ret (v := .tuple #[.agg #[.int .i64 0, .bool false, .string ByteArray.empty], .int .i64 0, .bool false]) (by simp [results, Tryz.results131, go_sem]; rfl) rfl ⟨rfl, lg (((Kp.refl [] w).alloc _).drewN _)⟩
   ·have e1 : rd1 bs = (⟨ub bs 0, true, ⟨((bs.take (2 + ub bs 1)).drop 2).toArray⟩⟩, 2 + ub bs 1, true) := by unfold rd1; rw [if_neg h2, if_neg h255, if_neg hl]
    rw [e1]
    have k0 : ¬ (n : Int) < 2 + (ub bs 1 : Nat) := by have := ae HN; omega
    have k1 : ¬ ((ub bs 1 : Nat) : Int) = 255 := by omega
    have k2 : 2 + ub bs 1 ≤ c := by have := ae HN; have := ae HC; omega
    obtain ⟨a2, hsl, hb2⟩ := oJ (ae HB) 2 (2 + ub bs 1) c n (by omega) (by omega) (by have := ae HN; have := ae HC; omega) 2 (2 + (ub bs 1 : Nat)) rfl (by omega)
    have e2 : 2 + ub bs 1 - 2 = ub bs 1 := by omega
    rw [e2] at hsl
    have hl2 : ub bs 1 = ((bs.take (2 + ub bs 1)).drop 2).length := by simp; omega
    have hcv := fun m => xD hb2 (ub bs 1) (c - 2) hl2 ((w.alloc (.cells #[.int .i64 0, .bool false, .string ⟨#[]⟩] 98)).drewN m) (((Kp.refl [] w).alloc _).drewN m)
    clear e1 e2 h255 hl hl2 hb2
    generalize (bs.take (2 + ub bs 1)).drop 2 = sb at *
    generalize ub bs 0 = x at *
    generalize ub bs 1 = l at *
    go_enter Tryz.func131, Tryz.ntmps131
    go_wp2_with fail
    go_quiet (fail)
    go_wp2_with fail
    exact bodyPost_ret (v := .tuple #[.agg #[.int .i64 x, .bool true, .string ⟨sb.toArray⟩], .int .i64 (2 + l : Nat), .bool true]) (by simp [results, Tryz.results131, go_sem]) rfl ⟨rfl, (lg (((Kp.refl [] w).alloc _).drewN _)).alloc _⟩
structure LgL (B : Nat) (w : World) (gb : Nat) (F : List Nat) (a : Option Addr) (cap : Nat) (cs : List (List Ver)) (torn : List UInt8) : Prop where
 box : w.heap[gb]? = some (.cells #[.slice a (lb cs ++ torn).length cap, .int .i64 (lb cs).length, .int .i64 cs.length] 165 (0, 0))
 own : bV B w a cap (lb cs ++ torn)
 ne : gb ∉ ob a
 gF : gb ∈ F
 aF : ∀ x, x ∈ ob a → x ∈ F
 lo : ∀ x, x ∈ F → B ≤ x ∧ x < w.heap.size
 inv : df cs
 tl : torn.length ≤ 114
 hB : B ≤ w.heap.size
def Lg (B : Nat) (w : World) (gb : Nat) (F : List Nat) (cs : List (List Ver)) (torn : List UInt8) : Prop := ∃ a cap, LgL B w gb F a cap cs torn
section
variable {B : Nat} {w w' : World} {gb : Nat} {F S : List Nat} {a : Option Addr} {cap : Nat} {cs : List (List Ver)} {torn : List UInt8}
theorem LgL.kp (h : LgL B w gb F a cap cs torn) (hk : Kp S w w') (hS : ∀ x, x ∈ F → x ∉ S) : LgL B w' gb F a cap cs torn :=
 ⟨by rw [hk.block gb (h.lo gb h.gF).2 (hS _ h.gF)]; exact h.box, h.own.kp hk (fun x hx => hS x (h.aF x hx)), h.ne, h.gF, h.aF, fun x hx => ⟨(h.lo x hx).1, Nat.lt_of_lt_of_le (h.lo x hx).2 hk.size⟩, h.inv, h.tl, Nat.le_trans h.hB hk.size⟩
theorem Lg.kp (h : Lg B w gb F cs torn) (hk : Kp S w w') (hS : ∀ x, x ∈ F → x ∉ S) : Lg B w' gb F cs torn := by
 obtain ⟨a, cap, h⟩ := h
 exact ⟨a, cap, h.kp hk hS⟩
theorem Lg.kp0 (h : Lg B w gb F cs torn) (hk : Kp [] w w') : Lg B w' gb F cs torn := h.kp hk (fun _ _ => by simp)
theorem Lg.lo (h : Lg B w gb F cs torn) : ∀ x, x ∈ F → B ≤ x ∧ x < w.heap.size := by
 obtain ⟨a, cap, h⟩ := h
 exact h.lo
theorem Lg.inv (h : Lg B w gb F cs torn) : df cs := by
 obtain ⟨a, cap, h⟩ := h
 exact h.inv
theorem Lg.base {C : Nat} (h : Lg B w gb F cs torn) (hC : C ≤ B) : Lg C w gb F cs torn := by
 obtain ⟨a, cap, h⟩ := h
 exact ⟨a, cap, h.box, h.own.base hC, h.ne, h.gF, h.aF, fun x hx => ⟨Nat.le_trans hC (h.lo x hx).1, (h.lo x hx).2⟩, h.inv, h.tl, Nat.le_trans hC h.hB⟩
theorem LgL.c0 (h : LgL B w gb F a cap cs torn) : w.cell? ⟨gb, 0, none⟩ = some (.slice a (lb cs ++ torn).length cap) := af h.box rfl
theorem LgL.c1 (h : LgL B w gb F a cap cs torn) : w.cell? ⟨gb, 1, none⟩ = some (.int .i64 (lb cs).length) := af h.box rfl
theorem LgL.c2 (h : LgL B w gb F a cap cs torn) : w.cell? ⟨gb, 2, none⟩ = some (.int .i64 cs.length) := af h.box rfl
theorem LgL.fz (h : LgL B w gb F a cap cs torn) (i : Nat) : w.frozen? ⟨gb, i, none⟩ = false := ak i h.box
end
theorem At (w : World) : Calls Tryz.prog 69 #[] w fun e w' => e = .returned (.pointer (some ⟨w.heap.size, 0, none⟩)) ∧ Lg w.heap.size w' w.heap.size [w.heap.size] [] [] ∧ Kp [] w w' := by
 go_enter Tryz.func69, Tryz.ntmps69
 go_wp2
 go_ret
 refine ⟨rfl, ⟨none, 0, ?_, ji _ _, by simp [ob], by simp, by simp [ob], fun x hx => ?_, jl, by simp, by simp⟩, (Kp.refl [] w).alloc _⟩
 ·exact heap_alloc_new w _
 ·simp at hx; subst hx; simp
theorem dG {B : Nat} {w : World} {a : Option Addr} {cap : Nat} {bs : List UInt8} (h : bV B w a cap bs) (k n : Nat) (hk : k ≤ bs.length) (x : Int) (hx : x = k) (W : World) :
 (Instr.slice 87 (.slice a n cap) none (some (.int .i64 x)) none).run Tryz.prog W = .ok (.slice a k cap) W := by
 subst hx
 have hc := h.le
 rw [run_slice_h W 87 a n cap iO .i64 _ (by omega) (by omega), iF, kM]
 rcases h.cases with ⟨rfl, rfl, rfl⟩ | ⟨g, rfl, _⟩
 ·simp [Result.andThen, sliced]
 ·simp [Result.andThen, sliced, ca]
theorem LgL.mend {B : Nat} {w : World} {gb : Nat} {F : List Nat} {a : Option Addr} {cap : Nat} {cs : List (List Ver)} {torn : List UInt8} (h : LgL B w gb F a cap cs torn) :
 LgL B (w.setCell ⟨gb, 0, none⟩ (.slice a (lb cs).length cap)) gb F a cap cs [] ∧ Kp F w (w.setCell ⟨gb, 0, none⟩ (.slice a (lb cs).length cap)) := by
 have hk : Kp [gb] w (w.setCell ⟨gb, 0, none⟩ (.slice a (lb cs).length cap)) := (Kp.refl [gb] w).setCell (.inl (by simp)) _
 refine ⟨⟨?_, ?_, h.ne, h.gF, h.aF, fun x hx => ⟨(h.lo x hx).1, Nat.lt_of_lt_of_le (h.lo x hx).2 hk.size⟩, h.inv, by simp, Nat.le_trans h.hB hk.size⟩, hk.mono (fun x hx => .inl (by rw [List.mem_singleton.1 hx]; exact h.gF))⟩
 ·rw [an 0 _ h.box, List.append_nil]
  rfl
 ·have := (h.own.take (lb cs).length (by simp)).kp hk (fun x hx e => h.ne (by rw [← List.mem_singleton.1 e]; exact hx))
  rw [List.take_left] at this
  rw [List.append_nil]
  exact this
theorem zR {B gb : Nat} {F : List Nat} {cs : List (List Ver)} {torn : List UInt8} (w : World) (h : Lg B w gb F cs torn) :
 Calls Tryz.prog 75 #[.pointer (some ⟨gb, 0, none⟩)] w fun e w' => e = .returned (.int .i64 torn.length) ∧ Lg B w' gb F cs [] ∧ Kp F w w' := by
 obtain ⟨a, cap, h⟩ := h
 have q0 := h.c0
 have q1 := h.c1
 have f0 := h.fz 0
 have hsl := dG h.own (lb cs).length (lb cs ++ torn).length (by simp) _ rfl
 have hb := h.inv.b3000
 have ht := h.tl
 have hl : (lb cs ++ torn).length = (lb cs).length + torn.length := by simp
 have HM : Hid (∀ W, Kp [] w W → Lg B (W.setCell ⟨gb, 0, none⟩ (.slice a (lb cs).length cap)) gb F cs [] ∧ Kp F w (W.setCell ⟨gb, 0, none⟩ (.slice a (lb cs).length cap))) := fun W hW => by
  obtain ⟨h1, h2⟩ := (h.kp hW (fun _ _ => by simp)).mend
  exact ⟨⟨a, cap, h1⟩, (hW.mono (fun x hx => by simp at hx)).trans h2 (fun x hx => .inl hx)⟩
 rw [hl] at q0 hsl
 clear h hl
 generalize (lb cs).length = n at *
 generalize hT : torn.length = t at *
 clear hT
 go_enter Tryz.func75, Tryz.ntmps75
 go_wp2_with fail
 go_quiet (fail)
 go_wp2_with fail
 go_region
 go_wp2_with fail
 go_ret
 obtain ⟨h1, h2⟩ := ae HM _ ((Kp.refl [] w).drewN _).drew
 exact ⟨bu (by omega), h1, h2⟩
def pB (bs : List UInt8) (w : World) (e : Ending) (w' : World) : Prop := ∃ a n cap, e = .returned (.slice a n cap) ∧ n = bs.length ∧ n ≤ cap ∧ Byt w' a bs ∧ Kp [] w w'
theorem wm {B : Nat} {a : Option Addr} {cap : Nat} {bs : List UInt8} (w : World) (h : bV B w a cap bs) (hm : bs.length ≤ 10000) :
 Calls Tryz.prog 105 #[.slice a bs.length cap] w fun e w' => pB bs w e w' := by
 have hnil := fun wx a n c n' c' => Lib.run_eql_slice_nil (P := Tryz.prog) wx 87 5 a n c n' c' Tryz.underlying87
 rcases h.cases with ⟨rfl, rfl, rfl⟩ | ⟨g, rfl, _, _, _⟩
 ·clear h
  go_enter Tryz.func105, Tryz.ntmps105
  go_wp2
  go_ret
  exact ⟨none, 0, 0, rfl, rfl, by simp, fm _ _, Kp.refl _ _⟩
 ·have HB := ag (h.byt.kp0 ((Kp.refl [] w).alloc (.cells #[] 5)))
  clear h
  go_enter Tryz.func105, Tryz.ntmps105
  go_wp2_with (at_builtin; refine lM (by rfl) (.tmp 5) (.tmp 6) 87 rfl _ (.slice (some ⟨g, 0, none⟩) bs.length cap) bs rfl rfl ((ae HB).src cap) (by omega) ?_; intro a2 c2 n2 w2 hn2 hc2 hb2 hk2)
  go_ret
  exact ⟨a2, n2, c2, rfl, ae hn2, ae hc2, ae hb2, ((Kp.refl [] w).alloc _).trans0 (ae hk2)⟩
theorem yq {B gb : Nat} {F : List Nat} {cs : List (List Ver)} {torn : List UInt8} (w : World) (h : Lg B w gb F cs torn) :
 Calls Tryz.prog 77 #[.pointer (some ⟨gb, 0, none⟩)] w fun e w' => pB (lb cs ++ torn) w e w' := by
 obtain ⟨a, cap, h⟩ := h
 have q0 := h.c0
 have hl : (lb cs ++ torn).length ≤ 10000 := by have := h.inv.b3000; have := h.tl; simp; omega
 have HC := ag (wm w h.own hl)
 clear h
 generalize lb cs ++ torn = bs at *
 go_enter Tryz.func77, Tryz.ntmps77
 go_wp2_with fail
 refine (ae HC).mono ?_
 rintro e w2 ⟨a2, n2, c2, rfl, hn2, hc2, hb2, hk2⟩
 have HE : Hid (pB bs w (.returned (.slice a2 n2 c2)) w2) := ⟨a2, n2, c2, rfl, hn2, hc2, hb2, hk2⟩
 clear hn2 hc2 hb2 hk2
 go_wp2
 go_ret
 exact HE
theorem zg {w w2 : World} {ga o k : Nat} {ps : List Ver} {t : Bool} (hs : SlA w ga o ps) (hk : Kp [] w w2) (hlt : k < ps.length) (ht : vt ps k = t) :
 w2.cell? ⟨ga, o + k * 3 + 1, none⟩ = some (.bool t) ∧ w2.cell? ⟨ga, o + k * 3 + 1 + 1, none⟩ = some (.string (vb ps k)) := by
 have h := hs.kp hk (by simp)
 subst ht
 exact ⟨h.at1 k hlt, h.at2 k hlt⟩
theorem Row.src {w0 w : World} {g cap n : Nat} {bs : List UInt8} (h : Row w0 w g cap bs) (hn : n = bs.length) : Src Tryz.prog 1 87 (.slice (some ⟨g, 0, none⟩) n cap) bs.length (aR bs) w := by
 subst hn
 exact h.byt.src cap
theorem tA (w : World) (s : ByteArray) (cap : Nat) (fr : Nat × Nat) : Byt (w.drew.alloc (.cells (bytesRow s cap) 5 fr)) (some ⟨w.heap.size, 0, none⟩) s.data.toList := fun _ => by
 refine ⟨w.heap.size, 0, rfl, fun j hj => ?_⟩
 have hj' : j < s.data.size := by simpa using hj
 have := World.cell?_alloc_mark w.drew (bytesRow s cap) 5 fr j
 rw [bytesRow_at s cap j hj'] at this
 rw [Nat.zero_add]
 have e : s.data[j]? = some s.data[j] := Array.getElem?_eq_getElem hj'
 simpa [ub, List.getD_eq_getElem?_getD, e] using this
theorem tz (w : World) (s : ByteArray) (n cap c : Nat) (fr : Nat × Nat) (hn : n = s.size) : Src Tryz.prog 1 87 (.slice (some ⟨w.heap.size, 0, none⟩) n c) s.data.toList.length (aR s.data.toList) (w.drew.alloc (.cells (bytesRow s cap) 5 fr)) := by
 subst hn
 have := (tA w s cap fr).src c
 rw [go] at this ⊢
 exact this
theorem eM (a : Option Addr) (c : Nat) (ps : List Ver) (w : World) (h : Prs w a ps) (hp : pf (-1) ps = 0) :
 Calls Tryz.prog 97 #[.slice a ps.length c] w fun e w' => un w (enc ps) e w' := by
 have hcv := fun (W : World) (s : ByteArray) => run_bytes_of_string (P := Tryz.prog) W 9 87 5 s Tryz.underlying9 Tryz.underlying87 Tryz.underlying5
 have h8 := ec hp
 have h112 := dS hp
 have HP := ag h
 have HS := ag (nn hp)
 have HPF := ag hp
 clear h hp
 go_enter Tryz.func97, Tryz.ntmps97
 go_wp2_with fail
 go_loopw [3, 4] (fun b i wr => ∃ k g cap n : Nat, k ≤ ps.length ∧ b = .slice (some ⟨g, 0, none⟩) n cap ∧ i = .int .i64 k ∧ Hid (EnI w [b8 ps.length] ps k g cap n wr)) (fun _ i _ => ps.length - (intOf i).toNat)
 case atStart => exact ⟨0, w.heap.size, 1, 1, by omega, rfl, rfl, ks w w (Kp.refl _ _) ps [b8 ps.length] _ (by simp [aR, ← eu]; omega) (by simp) _ _ rfl rfl⟩
 case round =>
  obtain ⟨k, g, cap, n, hk, rfl, rfl, HE⟩ := hrel
  by_cases hlt : k < ps.length
  ·obtain ⟨ga, o, rfl, hs⟩ := (ae HP).mem (by omega)
   have hs2 := hs.kp (ae HE).row.kp (by simp)
   have q0 := hs2.at0 k hlt
   have hbl : (vb ps k).size ≤ 12 := ae HS k hlt
   have htl : (pbs (ps.take k)).length ≤ 112 := by have := il ps k; omega
   have i0 : (0 : Int) ≤ (k : Int) := by omega
   have i1 : (k : Int) < (ps.length : Int) := by omega
   have HS1 := ag hs
   clear hs hs2
   cases ht : vt ps k with
   | false =>
     have HT := ag ht
     clear ht
     go_wp2_with (first | (at_builtin; refine bJ (by rfl) (.tmp 15) (.tmp 22) 87 rfl ((ae HE).row.kp0 ((Kp.refl [] _).alloc _)) n (ae HE).len (.slice (some ⟨wr.heap.size, 0, none⟩) 1 1) [b8 (va ps k)] rfl rfl (ef _ rfl (b8 (va ps k)) _ (eu (va ps k))) (by simp; omega) ?_; intro g2 c2 n2 w2 hn2 hr2 hk2 hg2; obtain ⟨r1, r2⟩ := zg (ae HS1) (ae hr2).kp hlt (ae HT)) | (at_builtin; refine bJ (by rfl) (.tmp 50) (.tmp 51) 87 rfl ((ae hr2).kp0 ((Kp.refl [] _).alloc _)) n2 (ae hn2) (.slice (some ⟨w2.heap.size, 0, none⟩) 1 1) [255] rfl rfl (ef _ rfl 255 _ rfl) (by simp; omega) ?_; intro g3 c3 n3 w3 hn3 hr3 hk3 hg3; clear r1 r2))
     refine ⟨⟨k + 1, g3, c3, n3, by omega, rfl, by go_num, EnI.next hlt ?_ ?_⟩, by simp [intOf]; omega⟩
     ·rw [ae hn3]; simp [pb, ae HT]
     ·have := ae hr3; simpa [pb, ae HT] using this
   | true =>
     have HT := ag ht
     clear ht
     go_wp2_with (first | (at_builtin; refine bJ (by rfl) (.tmp 15) (.tmp 22) 87 rfl ((ae HE).row.kp0 ((Kp.refl [] _).alloc _)) n (ae HE).len (.slice (some ⟨wr.heap.size, 0, none⟩) 1 1) [b8 (va ps k)] rfl rfl (ef _ rfl (b8 (va ps k)) _ (eu (va ps k))) (by simp; omega) ?_; intro g2 c2 n2 w2 hn2 hr2 hk2 hg2; obtain ⟨r1, r2⟩ := zg (ae HS1) (ae hr2).kp hlt (ae HT)) | (at_builtin; refine bJ (by rfl) (.tmp 30) (.tmp 39) 87 rfl ((ae hr2).kp0 ((Kp.refl [] _).alloc _)) n2 (ae hn2) (.slice (some ⟨w2.heap.size, 0, none⟩) 1 1) [b8 (vb ps k).size] rfl rfl (ef _ rfl (b8 (vb ps k).size) _ (by rw [← eu]; omega)) (by simp; omega) ?_; intro g3 c3 n3 w3 hn3 hr3 hk3 hg3; clear r1 r2; obtain ⟨_, r3⟩ := zg (ae HS1) (ae hr3).kp hlt (ae HT)) | (at_builtin; refine bJ (by rfl) (.tmp 41) (.tmp 48) 87 rfl ((ae hr3).kp0 ((Kp.refl [] _).drew.alloc _)) n3 (ae hn3) (.slice (some ⟨w3.heap.size, 0, none⟩) (vb ps k).size _) (vb ps k).data.toList rfl rfl (tz w3 (vb ps k) _ _ _ _ rfl) (by simp; omega) ?_; intro g4 c4 n4 w4 hn4 hr4 hk4 hg4; clear r3))
     refine ⟨⟨k + 1, g4, c4, n4, by omega, rfl, by go_num, EnI.next hlt ?_ ?_⟩, by simp [intOf]; omega⟩
     ·rw [ae hn4]; simp [pb, ae HT]
     ·have := ae hr4; simpa [pb, ae HT] using this
  ·have e : k = ps.length := by omega
   subst e
   have hl := (ae HE).last
   have hn0 : n ≤ 200 := by rw [hl.1]; simp; omega
   have HLL := ag hl
   clear hl
   go_wp2_with (at_builtin; refine bJ (by rfl) (.tmp 57) (.tmp 58) 87 rfl (kR w wr (ae HLL).2.kp [b8 ((n : Int) + 1)] _ (by simp [aR, ← eu]; try omega) (by simp)) 1 rfl (.slice (some ⟨g, 0, none⟩) n cap) ([b8 ps.length] ++ pbs ps) rfl rfl (((ae HLL).2.kp0 ((Kp.refl [] _).alloc _)).src (ae HLL).1) (by simp; omega) ?_; intro g5 c5 n5 w5 hn5 hr5 hk5 hg5)
   go_ret
   have en : b8 ((n : Int) + 1) = b8 ((pbs ps).length + 2 : Nat) := by
    rw [(ae HLL).1]; congr 1
   refine jF ?_ ?_
   ·rw [ae hn5]; simp [enc]
   ·have := ae hr5
    rw [en] at this
    exact this
structure El where
 a : Option Addr
 c : Nat
 ps : List Ver
def eat (xs : List El) (k : Nat) : El := xs.getD k ⟨none, 0, []⟩
def dU (xs : List El) : List Value := xs.map fun e => .slice e.a e.ps.length e.c
def cps (xs : List El) : List (List Ver) := xs.map El.ps
theorem jL (xs : List El) : (dU xs).length = xs.length := by simp [dU]
theorem jM (xs ys : List El) : dU (xs ++ ys) = dU xs ++ dU ys := by simp [dU]
theorem br (xs : List El) : (cps xs).length = xs.length := by simp [cps]
theorem jy (xs ys : List El) : cps (xs ++ ys) = cps xs ++ cps ys := by simp [cps]
theorem qf {xs : List El} {k : Nat} (h : k < xs.length) : (dU xs)[k]? = some (.slice (eat xs k).a (eat xs k).ps.length (eat xs k).c) := by
 simp [dU, eat, List.getD_eq_getElem?_getD, List.getElem?_eq_getElem h]
theorem lk {xs : List El} {k : Nat} (h : k < xs.length) : eat xs k ∈ xs := by
 simp only [eat, List.getD_eq_getElem?_getD, List.getElem?_eq_getElem h, Option.getD_some]
 exact List.getElem_mem h
theorem nH {xs : List El} {k : Nat} (h : k < xs.length) : (cps xs).getD k [] = (eat xs k).ps := by
 simp [cps, eat, List.getD_eq_getElem?_getD, List.getElem?_eq_getElem h]
def dp (B : Nat) (w : World) (a : Option Addr) (cap : Nat) (xs : List El) : Prop := w.ownsRow B 41 1 (.slice a xs.length cap) xs.length (dU xs)
section
variable {B : Nat} {w w' : World} {a : Option Addr} {cap : Nat} {xs : List El}
theorem rZ (B : Nat) (w : World) : dp B w none 0 [] := World.ownsRow_nil _ _ _ _
theorem dp.cases (h : dp B w a cap xs) : (a = none ∧ cap = 0 ∧ xs = []) ∨ ∃ g, a = some ⟨g, 0, none⟩ ∧ B ≤ g ∧ g < w.heap.size ∧ xs.length ≤ cap := by
 rcases h.2 with ⟨e, _⟩ | ⟨g, c, cur, e, h1, h2, h3, _⟩
 ·simp only [Value.slice.injEq] at e
  exact .inl ⟨e.1, e.2.2, List.eq_nil_of_length_eq_zero e.2.1⟩
 ·simp only [Value.slice.injEq, true_and] at e
  obtain ⟨rfl, rfl⟩ := e
  exact .inr ⟨g, rfl, h1, ah h2, h3⟩
theorem dp.lo (h : dp B w a cap xs) : ∀ x ∈ ob a, B ≤ x ∧ x < w.heap.size := by
 intro x hx
 rcases h.cases with ⟨rfl, _⟩ | ⟨g, rfl, h1, h2, _⟩
 ·simp [ob] at hx
 ·simp [ob] at hx; omega
theorem dp.own_block (h : dp B w a cap xs) {n : Nat} : ∀ g, (Value.slice a n cap).ownBlock = some g → g ∈ ob a := by
 intro g hg
 rcases h.cases with ⟨rfl, _⟩ | ⟨g', rfl, _⟩
 ·simp [Value.ownBlock] at hg
 ·have : g' = g := by simpa [Value.ownBlock] using hg
  subst this
  simp [ob]
theorem dp.kp {S : List Nat} (h : dp B w a cap xs) (hk : Kp S w w') (hS : ∀ x ∈ ob a, x ∉ S) : dp B w' a cap xs := dt h hk (fun g hg => hS g (h.own_block g hg))
theorem dp.kp0 (h : dp B w a cap xs) (hk : Kp [] w w') : dp B w' a cap xs := h.kp hk (fun _ _ => by simp)
theorem dp.base {C : Nat} (h : dp B w a cap xs) (hC : C ≤ B) : dp C w a cap xs := cE h hC
theorem dp.le (h : dp B w a cap xs) : xs.length ≤ cap := by
 rcases h.cases with ⟨_, rfl, rfl⟩ | ⟨_, _, _, _, h⟩
 ·simp
 ·exact h
theorem dp.cell (h : dp B w a cap xs) {k : Nat} (hk : k < xs.length) : ∃ g, a = some ⟨g, 0, none⟩ ∧ w.cell? ⟨g, k, none⟩ = some (.slice (eat xs k).a (eat xs k).ps.length (eat xs k).c) := by
 rcases h.cases with ⟨_, _, rfl⟩ | ⟨g, rfl, _⟩
 ·simp at hk
 ·refine ⟨g, rfl, ?_⟩
  have := World.ownsRow.cellAt h k (by omega)
  rw [this, qf hk]
theorem dp.take (h : dp B w a cap xs) (k : Nat) (hk : k ≤ xs.length) : dp B w a cap (xs.take k) := by
 have hl : (xs.take k).length = k := by simp; omega
 refine ⟨by rw [jL]; omega, ?_⟩
 rcases h.2 with ⟨e, e2⟩ | ⟨g, c, cur, e, h1, h2, h3, h4, h5, h6⟩
 ·have : k = 0 := by omega
  subst this
  simp only [Value.slice.injEq] at e
  exact .inl ⟨by simp [e.1, e.2.2], by simp⟩
 ·simp only [Value.slice.injEq, true_and] at e
  obtain ⟨rfl, rfl⟩ := e
  refine .inr ⟨g, cap, cur, rfl, h1, h2, by omega, h4, h5, ?_⟩
  simp only [Nat.mul_one] at h6 ⊢
  have e2 : cur.toList.take k = (cur.toList.take xs.length).take k := by rw [List.take_take, Nat.min_eq_left hk]
  rw [hl, e2, h6]
  simp [dU, List.map_take]
end
theorem dZ {w : World} {a : Option Addr} {ps : List Ver} (h : SlO w a ps) (hp : pf (-1) ps = 0) : Prs w a ps :=
 ⟨by have := ec hp; unfold maxLen; omega, fun k hk => by have := nn hp k hk; unfold maxLen; omega, h⟩
theorem SlO.kp {S : List Nat} {w w' : World} {a : Option Addr} {vs : List Ver} (h : SlO w a vs) (hk : Kp S w w') (hS : ∀ x ∈ ob a, x ∉ S) : SlO w' a vs := fun hp => by
 obtain ⟨g, o, rfl, hs⟩ := h hp
 exact ⟨g, o, rfl, hs.kp hk (hS g (by simp [ob]))⟩
section
variable {B : Nat} {w w' : World} {rb : Nat} {G S : List Nat} {aL : Option Addr} {capL : Nat} {xs : List El} {aT : Option Addr} {cT : Nat} {torn : List UInt8} {cs : List (List Ver)}
theorem Byt.kpo {bs : List UInt8} {a : Option Addr} (h : Byt w a bs) (hk : Kp S w w') (hS : ∀ x ∈ ob a, x ∉ S) : Byt w' a bs := h.kp hk (fun g o e => hS g (by subst e; simp [ob]))
end
structure RbI (w : World) (cs : List (List Ver)) (k : Nat) (a : Option Addr) (cap n : Nat) (wr : World) : Prop where
 len : n = (lb (cs.take k)).length
 own : bV w.heap.size wr a cap (lb (cs.take k))
 kp : Kp [] w wr
theorem RbI.next {w wr w2 w3 : World} {cs : List (List Ver)} {k : Nat} {a a3 : Option Addr} {cap n cap3 n3 : Nat} (h : RbI w cs k a cap n wr) (hk : k < cs.length) (hk2 : Kp [] wr w2) (hn : n3 = (lb (cs.take k) ++ enc (cs.getD k [])).length) (ho : bV w.heap.size w3 a3 cap3 (lb (cs.take k) ++ enc (cs.getD k [])))
 (hk3 : Kp (ob a) w2 w3) : RbI w cs (k + 1) a3 cap3 n3 w3 := by
 rw [← gB hk] at hn ho
 exact ⟨hn, ho, (h.kp.trans0 hk2).trans hk3 (fun x hx => .inr (h.own.lo x hx).1)⟩
theorem Tryz.info41 : (Tryz.prog.info? 41).map (fun i => (i.zero, i.size, i.bytes)) = some (some (.slice none 0 0), 1, 24) := by kernel_rfl
theorem jI {w : World} {a2 : Option Addr} {ps : List Ver} (h : SlO w a2 ps) (hm : ps.length ≤ 1000) (c2 : Nat) (ty : TypeId) :
 ∃ a' c' w', (Builtin.append_ #[41, 41] ty #[.slice none 0 0, .slice a2 ps.length c2]).run Tryz.prog w = .ok (.slice a' ps.length c') w' ∧ SlO w' a' ps ∧ (∀ x ∈ ob a', w.heap.size ≤ x ∧ x < w'.heap.size) ∧ Kp [] w w' := by
 obtain ⟨i0, hi0, hz0, hz1, hz2⟩ := info_parts Tryz.info98
 by_cases hp : 0 < ps.length
 ·obtain ⟨g, o, rfl, hs⟩ := h hp
  obtain ⟨g', cap', w', hr, h2, h3, h4, h5⟩ := run_append_lies (P := Tryz.prog) w 41 ty w.heap.size 98 i0 _ 3 32 Tryz.underlying41 hi0 hz0 hz1 hz2 rfl (by omega) (.slice none 0 0) 0 [] (World.ownsRow_nil _ _ _ _) ⟨g, o, none⟩ ps.length c2 (aw ps) (bj ps) hs.news (eP ps) hp (by unfold maxLen; omega) (by omega) (Nat.le_refl _) _ rfl
  rw [Nat.zero_add] at hr
  rw [Nat.zero_add, List.nil_append] at h2
  refine ⟨_, _, w', hr, dE h2 rfl, fun x hx => ?_, (Kp.refl [] w).grown h3 (fun k hk => by simp [Value.ownBlock] at hk)⟩
  have e : x = g' := by simpa [ob] using hx
  subst e
  exact h2.lt x rfl
 ·have e : ps = [] := List.eq_nil_of_length_eq_zero (by omega)
  subst e
  have hsrc : Src Tryz.prog i0.size 41 (.slice a2 0 c2) 0 [] w := by
   cases a2 with
   | none => exact Src.ofNil w Tryz.underlying41 c2
   | some ad => exact Src.ofSlice w Tryz.underlying41 ad 0 c2 [] (by simp) (by simp) (by simp)
  have hr := run_append_nothing (P := Tryz.prog) w 41 41 ty 98 i0 Tryz.underlying41 hi0 none 0 0 (Nat.le_refl _) (.slice a2 0 c2) hsrc
  exact ⟨none, 0, w, hr, fun h => by simp at h, by simp [ob], Kp.refl _ _⟩
theorem iS {ops : Array Oper} {o : Oper} {ac : Act} {w : World} {K : Act → World → Prop} {Q : Exit → Act → World → Prop} {E : Prop} (hgd : o.guard = none) (s x : Operand)
 (ho : o.op = .call { callee := .builtin .append, args := #[s, x], argTypes := #[41, 41] }) {a2 : Option Addr} {ps : List Ver} (c2 : Nat) (h : SlO w a2 ps) (hm : ps.length ≤ 1000)
 (hs : ac.eval s = .slice none 0 0) (hx : ac.eval x = .slice a2 ps.length c2)
 (k : ∀ a' c' w', Hid (SlO w' a' ps) → Hid (∀ x ∈ ob a', w.heap.size ≤ x ∧ x < w'.heap.size) → Hid (Kp [] w w') → K (ac.put o.dst (.slice a' ps.length c')) w') :
 if Region.wanted o (yielded ops ac.tmps) = true then Oper.wp Tryz.prog o ac w K Q else E := by
 have hw : Region.wanted o (yielded ops ac.tmps) = true := by simp [Region.wanted, hgd]
 obtain ⟨a', c', w', hr, h1, h2, h3⟩ := jI h hm c2 o.type
 rw [if_pos hw]
 unfold Oper.wp execOp
 simp only [ho, resolve, invoke, builtin, Sem.run_bind, Sem.run_pure, Result.andThen_ok, List.map_toArray, List.map_cons, List.map_nil, hs, hx, hr]
 exact k a' c' w' h1 h2 h3
theorem rN {B : Nat} {w : World} {a : Option Addr} {cap : Nat} {xs : List El} (h : dp B w a cap xs) (hB : B ≤ w.heap.size) (e : El) (b : Nat) (hb : w.heap[b]? = some (.cells #[.slice e.a e.ps.length e.c] 41 (0, 0))) (hm : xs.length ≤ 1000) (ty : TypeId) :
 ∃ a' cap' w', (Builtin.append_ #[86, 86] ty #[.slice a xs.length cap, .slice (some ⟨b, 0, none⟩) 1 1]).run Tryz.prog w = .ok (.slice a' (xs.length + 1) cap') w' ∧
  dp B w' a' cap' (xs ++ [e]) ∧ Kp (ob a) w w' ∧ (∀ x ∈ ob a', x ∈ ob a ∨ w.heap.size ≤ x) := by
 obtain ⟨i0, hi0, hz0, hz1, hz2⟩ := info_parts Tryz.info41
 obtain ⟨g', cap', w', hr, h2, h3, h4, h5⟩ := run_append_lies (P := Tryz.prog) w 86 ty B 41 i0 _ 1 24 Tryz.underlying86 hi0 hz0 hz1 hz2 rfl (by omega) (.slice a xs.length cap) xs.length (dU xs) h ⟨b, 0, none⟩ 1 1 [.slice e.a e.ps.length e.c] rfl (World.news_of_block hb) (by simp [Value.oneCell']) (by omega) (by unfold maxLen; omega) (by omega) hB _ rfl
 refine ⟨_, _, w', hr, ?_, (Kp.refl (ob a) w).grown h3 (fun k hk => .inl (h.own_block k hk)), fun x hx => ?_⟩
 ·unfold dp
  rw [jM, List.length_append]
  exact h2
 ·have e2 : x = g' := by simpa [ob] using hx
  subst e2
  rcases h4 with q | q
  ·exact .inl (h.own_block x q)
  ·exact .inr (by omega)
theorem pG {ops : Array Oper} {o : Oper} {ac : Act} {w : World} {K : Act → World → Prop} {Q : Exit → Act → World → Prop} {E : Prop} (hgd : o.guard = none) (s x : Operand)
 (ho : o.op = .call { callee := .builtin .append, args := #[s, x], argTypes := #[86, 86] }) {B : Nat} {a : Option Addr} {cap : Nat} {xs : List El} (h : dp B w a cap xs) (hB : B ≤ w.heap.size) (e : El) (b : Nat) (hb : w.heap[b]? = some (.cells #[.slice e.a e.ps.length e.c] 41 (0, 0))) (hm : xs.length ≤ 1000)
 (hs : ac.eval s = .slice a xs.length cap) (hx : ac.eval x = .slice (some ⟨b, 0, none⟩) 1 1)
 (k : ∀ a' cap' w', Hid (dp B w' a' cap' (xs ++ [e])) → Hid (Kp (ob a) w w') → Hid (∀ x ∈ ob a', x ∈ ob a ∨ w.heap.size ≤ x) → K (ac.put o.dst (.slice a' (xs.length + 1) cap')) w') :
 if Region.wanted o (yielded ops ac.tmps) = true then Oper.wp Tryz.prog o ac w K Q else E := by
 have hw : Region.wanted o (yielded ops ac.tmps) = true := by simp [Region.wanted, hgd]
 obtain ⟨a', c', w', hr, h1, h2, h3⟩ := rN h hB e b hb hm o.type
 rw [if_pos hw]
 unfold Oper.wp execOp
 simp only [ho, resolve, invoke, builtin, Sem.run_bind, Sem.run_pure, Result.andThen_ok, List.map_toArray, List.map_cons, List.map_nil, hs, hx, hr]
 exact k a' c' w' h1 h2 h3
section
variable {B : Nat} {w W w4 : World} {rb : Nat} {G : List Nat} {aL a' : Option Addr} {capL cap' : Nat} {xs : List El} {aT : Option Addr} {cT : Nat}
end
def mU (B : Nat) (w : World) (gb : Nat) (F : List Nat) (cs : List (List Ver)) (torn : List UInt8) (w' : World) : Prop := ∃ F', Lg B w' gb F' cs torn ∧ Kp F w w' ∧ ∀ x, x ∈ F' → x ∈ F ∨ w.heap.size ≤ x
theorem pW {B : Nat} {w w' : World} {gb : Nat} {F : List Nat} {cs : List (List Ver)} {torn : List UInt8} (h : Lg B w gb F cs torn) (hk : Kp [] w w') : mU B w gb F cs torn w' :=
 ⟨F, h.kp0 hk, hk.mono (fun x hx => by simp at hx), fun x hx => .inl hx⟩
section
variable {B : Nat} {w W w2 : World} {gb : Nat} {F : List Nat} {a a' : Option Addr} {cap cap' N : Nat} {cs : List (List Ver)} {bs : List UInt8}
theorem LgL.far (h : LgL B w gb F a cap cs []) (hW : Kp [] w W) (hk : Kp (ob a) W w2) :
 w2.heap[gb]? = some (.cells #[.slice a (lb cs ++ []).length cap, .int .i64 (lb cs).length, .int .i64 cs.length] 165 (0, 0)) := by
 rw [hk.block gb (Nat.lt_of_lt_of_le (h.lo gb h.gF).2 hW.size) h.ne, hW.block gb (h.lo gb h.gF).2 (by simp)]
 exact h.box
theorem LgL.far_cells (h : LgL B w gb F a cap cs []) (hW : Kp [] w W) (hk : Kp (ob a) W w2) :
 w2.cell? ⟨gb, 0, none⟩ = some (.slice a (lb cs).length cap) ∧ w2.frozen? ⟨gb, 0, none⟩ = false ∧ w2.cell? ⟨gb, 1, none⟩ = some (.int .i64 (lb cs).length) ∧ w2.frozen? ⟨gb, 1, none⟩ = false ∧ w2.cell? ⟨gb, 2, none⟩ = some (.int .i64 cs.length) ∧ w2.frozen? ⟨gb, 2, none⟩ = false := by
 have hb := h.far hW hk
 rw [List.append_nil] at hb
 exact ⟨af hb rfl, ak _ hb, af hb rfl, ak _ hb, af hb rfl, ak _ hb⟩
theorem LgL.turn (h : LgL B w gb F a cap cs []) (hW : Kp [] w W) (hk : Kp (ob a) W w2) (ho : bV B w2 a' cap' bs) (hn : ∀ x ∈ ob a', x ∈ ob a ∨ W.heap.size ≤ x)
 {W3 : World} (hk3 : Kp [gb] w2 W3) {cs' : List (List Ver)} {torn : List UInt8} (hbs : bs = lb cs' ++ torn) (hb : W3.heap[gb]? = some (.cells #[.slice a' bs.length cap', .int .i64 (lb cs').length, .int .i64 cs'.length] 165 (0, 0)))
 (hi : df cs') (ht : torn.length ≤ 114) : mU B w gb F cs' torn W3 := by
 subst hbs
 have hgl := (h.lo gb h.gF).2
 have hne : gb ∉ ob a' := fun hm => by
  rcases hn gb hm with e | e
  ·exact h.ne e
  ·have := hW.size; omega
 have hKF : Kp F w W3 := by
  have k1 : Kp F w w2 := (hW.mono (fun x hx => by simp at hx)).trans hk (fun x hx => .inl (h.aF x hx))
  exact k1.trans hk3 (fun x hx => .inl (by rw [List.mem_singleton.1 hx]; exact h.gF))
 have ho3 : bV B W3 a' cap' (lb cs' ++ torn) := ho.kp hk3 (fun x hx e => hne (by rw [← List.mem_singleton.1 e]; exact hx))
 refine ⟨F ++ ob a', ⟨a', cap', hb, ho3, hne, by simp [h.gF], fun x hx => by simp [hx], fun x hx => ?_, hi, ht, Nat.le_trans h.hB hKF.size⟩, hKF, fun x hx => ?_⟩
 ·rcases List.mem_append.1 hx with e | e
  ·exact ⟨(h.lo x e).1, Nat.lt_of_lt_of_le (h.lo x e).2 hKF.size⟩
  ·exact ho3.lo x e
 ·rcases List.mem_append.1 hx with e | e
  ·exact .inl e
  ·rcases hn x e with e2 | e2
   ·exact .inl (h.aF x e2)
   ·exact .inr (Nat.le_trans hW.size e2)
theorem LgL.tear_cut (h : LgL B w gb F a cap cs []) (hW : Kp [] w W) (hk : Kp (ob a) W w2) {t : List UInt8} (ho : bV B w2 a' cap' (lb cs ++ t)) (hn : ∀ x ∈ ob a', x ∈ ob a ∨ W.heap.size ≤ x) (hN : N = (lb cs ++ t).length) (ht : t.length ≤ 114) :
 mU B w gb F cs t (w2.setCell ⟨gb, 0, none⟩ (.slice a' N cap')) := by
 subst hN
 refine h.turn hW hk ho hn ((Kp.refl [gb] w2).setCell (.inl (by simp)) _) rfl ?_ h.inv ht
 rw [an 0 _ (h.far hW hk)]
 rfl
theorem LgL.tear_all (h : LgL B w gb F a cap cs []) (hW : Kp [] w W) (hk : Kp (ob a) W w2) {ps : List Ver} (hc : bc cs ps = 0) (ho : bV B w2 a' cap' (lb cs ++ enc ps)) (hn : ∀ x ∈ ob a', x ∈ ob a ∨ W.heap.size ≤ x) (hN : N = (lb cs ++ enc ps).length)
 {x y : Int} (hx : x = ((lb cs).length + (enc ps).length : Nat)) (hy : y = (cs.length + 1 : Nat)) :
 mU B w gb F (cs ++ [ps]) [] (((w2.setCell ⟨gb, 0, none⟩ (.slice a' N cap')).setCell ⟨gb, 1, none⟩ (.int .i64 x)).setCell ⟨gb, 2, none⟩ (.int .i64 y)) := by
 subst hN hx hy
 refine h.turn hW hk ho hn ((((Kp.refl [gb] w2).setCell (.inl (by simp)) _).setCell (.inl (by simp)) _).setCell (.inl (by simp)) _) (cs' := cs ++ [ps]) (torn := []) (by rw [gC, List.append_nil]) ?_ (h.inv.snoc hc) (by simp)
 rw [an 2 _ (an 1 _ (an 0 _ (h.far hW hk)))]
 rw [gC]
 simp
end
theorem gP {w : World} {a : Option Addr} {bs : List UInt8} (h : Byt w a bs) {n c : Nat} (hn : n = bs.length) : Src Tryz.prog 1 87 (.slice a n c) bs.length (aR bs) w := by
 subst hn
 exact h.src c
theorem oP {B gb : Nat} {F : List Nat} {cs : List (List Ver)} (a2 : Option Addr) (c : Nat) (ps : List Ver) (keep : Int) (w : World) (h : Lg B w gb F cs []) (hp : Prs w a2 ps) (hm : ps.length ≤ 1000) :
 Calls Tryz.prog 129 #[.pointer (some ⟨gb, 0, none⟩), .slice a2 ps.length c, .int .i64 keep] w fun e w' => e = .returned (.int .i64 (bc cs ps)) ∧ mU B w gb F (ct cs ps keep) (gA cs ps keep) w' := by
 have hinv := h.inv
 have hn40 := hinv.n40
 have hb3000 := hinv.b3000
 have HS := ag (fun w' (hk : Kp [] w w') => pW h hk)
 obtain ⟨a, cap, h⟩ := h
 by_cases hpf : pf (-1) ps = 0
 ·have hel := hI hpf
  have HE := ag (qd a2 c ps w hp hpf)
  by_cases hf : 40 ≤ cs.length ∨ 3000 < (lb cs).length + (enc ps).length
  ·have hc := gk hpf hf
   obtain ⟨e1, e2⟩ := eV (cs := cs) (ps := ps) keep (by rw [hc]; simp)
   rw [hc, e1, e2]
   have HB := ag h
   clear h hp hpf hc e1 e2
   by_cases h40 : 40 ≤ cs.length
   ·clear hf
    go_enter Tryz.func129, Tryz.ntmps129
    go_wp2_with fail
    refine (ae HE).mono ?_
    rintro e w1 ⟨gx, cx, nx, rfl, hn, hr⟩
    have r2 : w1.cell? ⟨gb, 2, none⟩ = some (.int .i64 cs.length) := hr.kp.cell (by simp) (ae HB).c2
    have HK := ag hr.kp
    clear hn hr
    generalize cs.length = C at *
    go_wp2_with fail
    go_ret
    exact ⟨rfl, ae HS _ (ae HK)⟩
   ·have hfull : 3000 < (lb cs).length + (enc ps).length := hf.resolve_left h40
    clear hf
    go_enter Tryz.func129, Tryz.ntmps129
    go_wp2_with fail
    refine (ae HE).mono ?_
    rintro e w1 ⟨gx, cx, nx, rfl, hn, hr⟩
    have r2 : w1.cell? ⟨gb, 2, none⟩ = some (.int .i64 cs.length) := hr.kp.cell (by simp) (ae HB).c2
    have r1 : w1.cell? ⟨gb, 1, none⟩ = some (.int .i64 (lb cs).length) := hr.kp.cell (by simp) (ae HB).c1
    have HK := ag hr.kp
    rw [← hn] at hfull hel
    clear hn hr
    have HC := ag HB
    clear HB
    have HS2 : Hid (mU B w gb F cs [] w1) := ae HS _ (ae HK)
    clear HS HC
    generalize cs.length = C at *
    generalize (lb cs).length = L at *
    have f1 : ¬ (40 : Int) ≤ (C : Int) := by omega
    have f2 : (3000 : Int) < (L : Int) + (nx : Int) := by omega
    go_wp2_with fail
    go_ret
    exact ⟨rfl, HS2⟩
  ·have hc := mp hpf hf
   rw [hc]
   have h40 : ¬ 40 ≤ cs.length := fun q => hf (.inl q)
   have hroom : ¬ 3000 < (lb cs).length + (enc ps).length := fun q => hf (.inr q)
   have HC := ag hc
   have HB := ag h
   by_cases hk : ((enc ps).length : Int) ≤ keep
   ·obtain ⟨e1, e2⟩ := gX hc hk
    rw [e1, e2]
    clear h hp hpf hc e1 e2 hf
    go_enter Tryz.func129, Tryz.ntmps129
    go_wp2_with fail
    refine (ae HE).mono ?_
    rintro e w1 ⟨gx, cx, nx, rfl, hn, hr⟩
    have r0 : w1.cell? ⟨gb, 0, none⟩ = some (.slice a (lb cs).length cap) := hr.kp.cell (by simp) (by have := (ae HB).c0; rwa [List.append_nil] at this)
    have r1 : w1.cell? ⟨gb, 1, none⟩ = some (.int .i64 (lb cs).length) := hr.kp.cell (by simp) (ae HB).c1
    have r2 : w1.cell? ⟨gb, 2, none⟩ = some (.int .i64 cs.length) := hr.kp.cell (by simp) (ae HB).c2
    have hO : bV B w1 a cap (lb cs) := by have := (ae HB).own.kp0 hr.kp; rwa [List.append_nil] at this
    have hsl := dG hO (lb cs).length (lb cs).length (Nat.le_refl _) _ rfl
    have hsx := dG hr.ownU nx nx (by omega) _ rfl
    have HO := ag hO
    have HR := ag hr
    have HK := ag hr.kp
    rw [← hn] at hroom hel hk
    have HN := ag hn
    have hB1 : B ≤ w1.heap.size := Nat.le_trans (ae HB).hB hr.kp.size
    clear hn hr hO
    obtain ⟨C, hC⟩ : ∃ C, cs.length = C := ⟨_, rfl⟩
    obtain ⟨L, hL⟩ : ∃ L, (lb cs).length = L := ⟨_, rfl⟩
    rw [hC] at hn40 h40 r2
    rw [hL] at hb3000 hroom r0 r1 hsl
    have f1 : ¬ (40 : Int) ≤ (C : Int) := by omega
    have f2 : ¬ (3000 : Int) < (L : Int) + (nx : Int) := by omega
    have m0 : ¬ keep < 0 := by omega
    have HCC := ag hC
    have HLL := ag hL
    clear hC hL
    rcases Int.lt_or_eq_of_le hk with hk2 | hk2
    case' inr => subst hk2
    all_goals
     go_wp2_with fail
     go_region_law (refine fJ (by rfl) (.tmp 47) (.tmp 50) 87 (by rfl) ((ae HO).kp0 (Kp.refl [] _).drew) (by simpa using hB1) L (ae HLL).symm (.slice (some ⟨gx, 0, none⟩) nx cx) (enc ps) (by rfl) (by rfl) (gP ((ae HR).byt.kp0 (Kp.refl [] _).drew) (ae HN)) (by have := ae HLL; have := ae HN; omega) ?_; intro a3 c3 n3 w3 hn3 ho3 hk3 hx3; obtain ⟨s0, s1, s2, s3, s4, s5⟩ := (ae HB).far_cells ((ae HK).trans0 (Kp.refl [] _).drew) (ae hk3); rw [ae HLL] at s0 s2; rw [ae HCC] at s4)
     all_goals
      go_wp2_with fail
      go_ret
      exact ⟨rfl, (ae HB).tear_all ((ae HK).trans0 (Kp.refl [] _).drew) (ae hk3) (ae HC) (ae ho3) (ae hx3) (ae hn3) (by have := ae HLL; have := ae HN; omega) (by have := ae HCC; omega)⟩
   ·obtain ⟨e1, e2⟩ := kh hc hk
    rw [e1, e2]
    clear h hp hpf hc e1 e2 hf
    by_cases hneg : keep < 0
    ·rw [show keep.toNat = 0 by omega]
     go_enter Tryz.func129, Tryz.ntmps129
     go_wp2_with fail
     refine (ae HE).mono ?_
     rintro e w1 ⟨gx, cx, nx, rfl, hn, hr⟩
     have r0 : w1.cell? ⟨gb, 0, none⟩ = some (.slice a (lb cs).length cap) := hr.kp.cell (by simp) (by have := (ae HB).c0; rwa [List.append_nil] at this)
     have r1 : w1.cell? ⟨gb, 1, none⟩ = some (.int .i64 (lb cs).length) := hr.kp.cell (by simp) (ae HB).c1
     have r2 : w1.cell? ⟨gb, 2, none⟩ = some (.int .i64 cs.length) := hr.kp.cell (by simp) (ae HB).c2
     have hO : bV B w1 a cap (lb cs) := by have := (ae HB).own.kp0 hr.kp; rwa [List.append_nil] at this
     have hsl := dG hO (lb cs).length (lb cs).length (Nat.le_refl _) _ rfl
     have hsx := dG hr.ownU 0 nx (by omega) (0) (by omega)
     have HO := ag hO
     have HR := ag ((hr.ownU.take 0 (by omega)).byt)
     have HK := ag hr.kp
     have hlt : ((enc ps).take 0).length = 0 := by simp
     rw [← hn] at hroom hel hk
     have HT := ag hlt
     have hB1 : B ≤ w1.heap.size := Nat.le_trans (ae HB).hB hr.kp.size
     clear hn hr hO hlt
     obtain ⟨C, hC⟩ : ∃ C, cs.length = C := ⟨_, rfl⟩
     obtain ⟨L, hL⟩ : ∃ L, (lb cs).length = L := ⟨_, rfl⟩
     rw [hC] at hn40 h40 r2
     rw [hL] at hb3000 hroom r0 r1 hsl
     have f1 : ¬ (40 : Int) ≤ (C : Int) := by omega
     have f2 : ¬ (3000 : Int) < (L : Int) + (nx : Int) := by omega
     have m1 : ¬ (nx : Int) < 0 := by omega
     have m2 : ¬ (0 : Int) = (nx : Int) := by omega
     have HCC := ag hC
     have HLL := ag hL
     clear hC hL
     go_wp2_with fail
     go_region_law (refine fJ (by rfl) (.tmp 47) (.tmp 50) 87 (by rfl) ((ae HO).kp0 (Kp.refl [] _).drew) (by simpa using hB1) L (ae HLL).symm (.slice (some ⟨gx, 0, none⟩) 0 cx) ((enc ps).take 0) (by rfl) (by rfl) (gP ((ae HR).kp0 (Kp.refl [] _).drew) (ae HT).symm) (by have := ae HLL; have := ae HT; omega) ?_; intro a3 c3 n3 w3 hn3 ho3 hk3 hx3; obtain ⟨s0, s1, s2, s3, s4, s5⟩ := (ae HB).far_cells ((ae HK).trans0 (Kp.refl [] _).drew) (ae hk3); rw [ae HLL] at s0 s2; rw [ae HCC] at s4)
     all_goals
      go_wp2_with fail
      go_ret
      exact ⟨rfl, (ae HB).tear_cut ((ae HK).trans0 (Kp.refl [] _).drew) (ae hk3) (ae ho3) (ae hx3) (ae hn3) (by have := ae HT; omega)⟩
    ·obtain ⟨k, rfl⟩ : ∃ k : Nat, keep = (k : Int) := ⟨keep.toNat, by omega⟩
     rw [Int.toNat_natCast]
     go_enter Tryz.func129, Tryz.ntmps129
     go_wp2_with fail
     refine (ae HE).mono ?_
     rintro e w1 ⟨gx, cx, nx, rfl, hn, hr⟩
     have r0 : w1.cell? ⟨gb, 0, none⟩ = some (.slice a (lb cs).length cap) := hr.kp.cell (by simp) (by have := (ae HB).c0; rwa [List.append_nil] at this)
     have r1 : w1.cell? ⟨gb, 1, none⟩ = some (.int .i64 (lb cs).length) := hr.kp.cell (by simp) (ae HB).c1
     have r2 : w1.cell? ⟨gb, 2, none⟩ = some (.int .i64 cs.length) := hr.kp.cell (by simp) (ae HB).c2
     have hO : bV B w1 a cap (lb cs) := by have := (ae HB).own.kp0 hr.kp; rwa [List.append_nil] at this
     have hsl := dG hO (lb cs).length (lb cs).length (Nat.le_refl _) _ rfl
     have hsx := dG hr.ownU k nx (by omega) ((k : Int)) (by omega)
     have HO := ag hO
     have HR := ag ((hr.ownU.take k (by omega)).byt)
     have HK := ag hr.kp
     have hlt : ((enc ps).take k).length = k := by simp; omega
     rw [← hn] at hroom hel hk
     have HT := ag hlt
     have hB1 : B ≤ w1.heap.size := Nat.le_trans (ae HB).hB hr.kp.size
     clear hn hr hO hlt
     obtain ⟨C, hC⟩ : ∃ C, cs.length = C := ⟨_, rfl⟩
     obtain ⟨L, hL⟩ : ∃ L, (lb cs).length = L := ⟨_, rfl⟩
     rw [hC] at hn40 h40 r2
     rw [hL] at hb3000 hroom r0 r1 hsl
     have f1 : ¬ (40 : Int) ≤ (C : Int) := by omega
     have f2 : ¬ (3000 : Int) < (L : Int) + (nx : Int) := by omega
     have m1 : ¬ (nx : Int) < (k : Int) := by omega
     have m2 : ¬ ((k : Int) : Int) = (nx : Int) := by omega
     have HCC := ag hC
     have HLL := ag hL
     clear hC hL
     go_wp2_with fail
     go_region_law (refine fJ (by rfl) (.tmp 47) (.tmp 50) 87 (by rfl) ((ae HO).kp0 (Kp.refl [] _).drew) (by simpa using hB1) L (ae HLL).symm (.slice (some ⟨gx, 0, none⟩) k cx) ((enc ps).take k) (by rfl) (by rfl) (gP ((ae HR).kp0 (Kp.refl [] _).drew) (ae HT).symm) (by have := ae HLL; have := ae HT; omega) ?_; intro a3 c3 n3 w3 hn3 ho3 hk3 hx3; obtain ⟨s0, s1, s2, s3, s4, s5⟩ := (ae HB).far_cells ((ae HK).trans0 (Kp.refl [] _).drew) (ae hk3); rw [ae HLL] at s0 s2; rw [ae HCC] at s4)
     all_goals
      go_wp2_with fail
      go_ret
      exact ⟨rfl, (ae HB).tear_cut ((ae HK).trans0 (Kp.refl [] _).drew) (ae hk3) (ae ho3) (ae hx3) (ae hn3) (by have := ae HT; omega)⟩
 ·have hc := ki (cs := cs) hpf
  obtain ⟨e1, e2⟩ := eV (cs := cs) (ps := ps) keep (by rw [hc]; exact hpf)
  rw [hc, e1, e2]
  have HE := ag (nE a2 c ps w hp hm hpf)
  clear h hp hc e1 e2
  generalize pf (-1) ps = z at *
  go_enter Tryz.func129, Tryz.ntmps129
  go_wp2_with fail
  refine (ae HE).mono ?_
  rintro e w1 ⟨rfl, hk1⟩
  have HK := ag (ae HS _ hk1)
  clear hk1 HS HE
  go_wp2_with fail
  go_ret
  exact ⟨rfl, ae HK⟩
theorem si {B gb : Nat} {F : List Nat} {cs : List (List Ver)} (a2 : Option Addr) (c : Nat) (ps : List Ver) (w : World) (h : Lg B w gb F cs []) (hp : Prs w a2 ps) (hm : ps.length ≤ 1000) :
 Calls Tryz.prog 112 #[.pointer (some ⟨gb, 0, none⟩), .slice a2 ps.length c] w fun e w' => e = .returned (.int .i64 (bc cs ps)) ∧ mU B w gb F (dH cs ps) [] w' := by
 have ht := oP a2 c ps 9223372036854775807 w h hp hm
 rw [oQ.1, oQ.2] at ht
 have HT := ag ht
 clear h hp ht
 generalize dH cs ps = cs' at *
 generalize bc cs ps = z at *
 go_enter Tryz.func112, Tryz.ntmps112
 go_wp2_with fail
 refine (ae HT).mono ?_
 rintro e w1 ⟨rfl, h1⟩
 have H1 := ag h1
 clear h1
 go_wp2_with fail
 go_ret
 exact ⟨rfl, ae H1⟩
theorem df.take {cs : List (List Ver)} (h : df cs) (k : Nat) : df (cs.take k) :=
 ⟨fun c hc => h.pf c (List.mem_of_mem_take hc), by have := h.n40; simp; omega, by have := h.b3000; have := gl cs k; omega⟩
theorem jx (xs : List El) (k : Nat) : cps (xs.take k) = (cps xs).take k := by simp [cps, List.map_take]
theorem oV : Tryz.prog.elem 86 = 41 := by simp [Program.elem, Tryz.underlying86]
theorem uQ (W : World) : (sizeOf 41).run Tryz.prog W = .ok 1 W := by
 obtain ⟨i0, hi0, hz0, hz1, hz2⟩ := info_parts Tryz.info41
 simp [sizeOf, typeInfo, hi0, hz1]
theorem rh : Tryz.prog.underlying 86 = some (.slice (Tryz.prog.elem 86)) := by rw [oV]; exact Tryz.underlying86
theorem ke {B : Nat} {w : World} {a : Option Addr} {cap : Nat} {xs : List El} (h : dp B w a cap xs) (k n : Nat) (hk : k ≤ xs.length) (x : Int) (hx : x = k) (W : World) :
 (Instr.slice 86 (.slice a n cap) none (some (.int .i64 x)) none).run Tryz.prog W = .ok (.slice a k cap) W := by
 subst hx
 have hc := h.le
 rw [run_slice_h W 86 a n cap rh .i64 _ (by omega) (by omega), oV, uQ]
 rcases h.cases with ⟨rfl, rfl, rfl⟩ | ⟨g, rfl, _⟩
 ·simp [Result.andThen, sliced]
 ·simp [Result.andThen, sliced, ca]
theorem Prs.kpG {S : List Nat} {w w' : World} {a : Option Addr} {ps : List Ver} (h : Prs w a ps) (hk : Kp S w w') (hS : 0 < ps.length → ∀ g o, a = some ⟨g, o, none⟩ → g ∉ S) : Prs w' a ps :=
 ⟨h.len, h.str, fun hp => by
   obtain ⟨g, o, e, hs⟩ := h.mem hp
   exact ⟨g, o, e, hs.kp hk (hS hp g o e)⟩⟩
section
variable {B : Nat} {w W w4 : World} {rb : Nat} {G : List Nat} {aL a' : Option Addr} {capL cap' : Nat} {xs : List El} {aT : Option Addr} {cT : Nat}
end
structure RxL (B : Nat) (w : World) (rb o : Nat) (bx : Array Value) (T : TypeId) (G : List Nat) (aL : Option Addr) (capL : Nat) (xs : List El) (aT : Option Addr) (cT : Nat) (torn : List UInt8) : Prop where
 box : w.heap[rb]? = some (.cells bx T (0, 0))
 b0 : bx[o]? = some (.slice aL xs.length capL)
 b1 : bx[o + 1]? = some (.slice aT torn.length cT)
 own : dp B w aL capL xs
 els : ∀ e ∈ xs, SlO w e.a e.ps ∧ ∀ x ∈ ob e.a, x ∈ G ∧ x ≠ rb ∧ x ∉ ob aL
 tb : Byt w aT torn
 tn : torn = [] → aT = none ∧ cT = 0
 tG : ∀ x ∈ ob aT, x ∈ G ∧ x ≠ rb
 ne : rb ∉ ob aL
 rG : rb ∈ G
 aG : ∀ x ∈ ob aL, x ∈ G
 lo : ∀ x ∈ G, B ≤ x ∧ x < w.heap.size
 inv : df (cps xs)
 tl : torn.length ≤ 114
 hB : B ≤ w.heap.size
def Rx (B : Nat) (w : World) (rb o : Nat) (bx : Array Value) (T : TypeId) (G : List Nat) (cs : List (List Ver)) (torn : List UInt8) : Prop := ∃ aL capL xs aT cT, RxL B w rb o bx T G aL capL xs aT cT torn ∧ cs = cps xs
def ir (o : Nat) (bx bx' : Array Value) : Prop := bx'.size = bx.size ∧ ∀ i, i ≠ o → i ≠ o + 1 → bx'[i]? = bx[i]?
theorem nc (o : Nat) (bx : Array Value) : ir o bx bx := ⟨rfl, fun _ _ _ => rfl⟩
theorem ir.trans {o : Nat} {a b c : Array Value} (h : ir o a b) (k : ir o b c) : ir o a c := ⟨k.1.trans h.1, fun i h1 h2 => (k.2 i h1 h2).trans (h.2 i h1 h2)⟩
theorem fM (o : Nat) (bx : Array Value) (i : Nat) (v : Value) (hi : i = o ∨ i = o + 1) : ir o bx (bx.setIfInBounds i v) := ⟨by simp, fun j h1 h2 => by rw [Array.getElem?_setIfInBounds_ne (by omega)]⟩
theorem eE {bx : Array Value} {i : Nat} {u : Value} (h : bx[i]? = some u) (v : Value) : (bx.setIfInBounds i v)[i]? = some v := by
 have hl : i < bx.size := (Array.getElem?_eq_some_iff.1 h).1
 simp [hl]
theorem cN {bx : Array Value} {i j : Nat} {u : Value} (h : bx[j]? = some u) (hn : i ≠ j) (v : Value) : (bx.setIfInBounds i v)[j]? = some u := by
 rw [Array.getElem?_setIfInBounds_ne hn]; exact h
section
variable {B : Nat} {w w' : World} {rb o : Nat} {bx : Array Value} {T : TypeId} {G S : List Nat} {aL : Option Addr} {capL : Nat} {xs : List El} {aT : Option Addr} {cT : Nat} {torn : List UInt8} {cs : List (List Ver)}
theorem RxL.kp (h : RxL B w rb o bx T G aL capL xs aT cT torn) (hk : Kp S w w') (hS : ∀ x, x ∈ G → x ∉ S) : RxL B w' rb o bx T G aL capL xs aT cT torn :=
 ⟨by rw [hk.block rb (h.lo rb h.rG).2 (hS _ h.rG)]; exact h.box, h.b0, h.b1, h.own.kp hk (fun x hx => hS x (h.aG x hx)), fun e he => ⟨(h.els e he).1.kp hk (fun x hx => hS x ((h.els e he).2 x hx).1), (h.els e he).2⟩, h.tb.kpo hk (fun x hx => hS x (h.tG x hx).1), h.tn, h.tG, h.ne, h.rG, h.aG, fun x hx => ⟨(h.lo x hx).1, Nat.lt_of_lt_of_le (h.lo x hx).2 hk.size⟩, h.inv, h.tl, Nat.le_trans h.hB hk.size⟩
theorem Rx.kp (h : Rx B w rb o bx T G cs torn) (hk : Kp S w w') (hS : ∀ x, x ∈ G → x ∉ S) : Rx B w' rb o bx T G cs torn := by
 obtain ⟨aL, capL, xs, aT, cT, h, e⟩ := h
 exact ⟨aL, capL, xs, aT, cT, h.kp hk hS, e⟩
theorem Rx.kp0 (h : Rx B w rb o bx T G cs torn) (hk : Kp [] w w') : Rx B w' rb o bx T G cs torn := h.kp hk (fun _ _ => by simp)
theorem Rx.lo (h : Rx B w rb o bx T G cs torn) : ∀ x, x ∈ G → B ≤ x ∧ x < w.heap.size := by
 obtain ⟨aL, capL, xs, aT, cT, h, e⟩ := h
 exact h.lo
theorem Rx.inv (h : Rx B w rb o bx T G cs torn) : df cs := by
 obtain ⟨aL, capL, xs, aT, cT, h, e⟩ := h
 subst e
 exact h.inv
theorem Rx.base {C : Nat} (h : Rx B w rb o bx T G cs torn) (hC : C ≤ B) : Rx C w rb o bx T G cs torn := by
 obtain ⟨aL, capL, xs, aT, cT, h, e⟩ := h
 exact ⟨aL, capL, xs, aT, cT, ⟨h.box, h.b0, h.b1, h.own.base hC, h.els, h.tb, h.tn, h.tG, h.ne, h.rG, h.aG, fun x hx => ⟨Nat.le_trans hC (h.lo x hx).1, (h.lo x hx).2⟩, h.inv, h.tl, Nat.le_trans hC h.hB⟩, e⟩
theorem RxL.c0 (h : RxL B w rb o bx T G aL capL xs aT cT torn) : w.cell? ⟨rb, o, none⟩ = some (.slice aL xs.length capL) := af h.box h.b0
theorem RxL.c1 (h : RxL B w rb o bx T G aL capL xs aT cT torn) : w.cell? ⟨rb, o + 1, none⟩ = some (.slice aT torn.length cT) := af h.box h.b1
theorem RxL.fz (h : RxL B w rb o bx T G aL capL xs aT cT torn) (i : Nat) : w.frozen? ⟨rb, i, none⟩ = false := ak i h.box
end
def fX (B : Nat) (w : World) (rb o : Nat) (bx : Array Value) (T : TypeId) (G : List Nat) (cs : List (List Ver)) (torn : List UInt8) (w' : World) : Prop := ∃ G' bx', Rx B w' rb o bx' T G' cs torn ∧ ir o bx bx' ∧ Kp G w w' ∧ ∀ x, x ∈ G' → x ∈ G ∨ w.heap.size ≤ x
theorem jX {B : Nat} {w w' : World} {rb o : Nat} {bx : Array Value} {T : TypeId} {G : List Nat} {cs : List (List Ver)} {torn : List UInt8} (h : Rx B w rb o bx T G cs torn) (hk : Kp [] w w') : fX B w rb o bx T G cs torn w' :=
 ⟨G, bx, h.kp0 hk, nc _ _, hk.mono (fun x hx => by simp at hx), fun x hx => .inl hx⟩
theorem fX.trans_at {B : Nat} {w w1 w2 : World} {rb o : Nat} {bx bx1 : Array Value} {T : TypeId} {G G1 : List Nat} {cs' : List (List Ver)} {torn' : List UInt8} (hb : ir o bx bx1) (h2 : Kp G w w1) (h3 : ∀ x, x ∈ G1 → x ∈ G ∨ w.heap.size ≤ x) (k : fX B w1 rb o bx1 T G1 cs' torn' w2) : fX B w rb o bx T G cs' torn' w2 := by
 obtain ⟨G2, bx2, k1, kb, k2, k3⟩ := k
 refine ⟨G2, bx2, k1, hb.trans kb, h2.trans k2 h3, fun x hx => ?_⟩
 rcases k3 x hx with e | e
 ·exact h3 x e
 ·exact .inr (Nat.le_trans h2.size e)
theorem RxL.mend {B : Nat} {w : World} {rb o : Nat} {bx : Array Value} {T : TypeId} {G : List Nat} {aL : Option Addr} {capL : Nat} {xs : List El} {aT : Option Addr} {cT : Nat} {torn : List UInt8} (h : RxL B w rb o bx T G aL capL xs aT cT torn) :
 fX B w rb o bx T G (cps xs) [] (w.setCell ⟨rb, o + 1, none⟩ (.slice none 0 0)) := by
 have hk : Kp [rb] w (w.setCell ⟨rb, o + 1, none⟩ (.slice none 0 0)) := (Kp.refl [rb] w).setCell (.inl (by simp)) _
 refine ⟨G, bx.setIfInBounds (o + 1) (.slice none 0 0), ⟨aL, capL, xs, none, 0, ⟨?_, cN h.b0 (by omega) _, eE h.b1 _, ?_, fun e he => ⟨?_, (h.els e he).2⟩, fm _ _, fun _ => ⟨rfl, rfl⟩, by simp [ob], h.ne, h.rG, h.aG, fun x hx => ⟨(h.lo x hx).1, Nat.lt_of_lt_of_le (h.lo x hx).2 hk.size⟩, h.inv, by simp, Nat.le_trans h.hB hk.size⟩, rfl⟩, fM _ _ _ _ (.inr rfl), hk.mono (fun x hx => .inl (by rw [List.mem_singleton.1 hx]; exact h.rG)), fun x hx => .inl hx⟩
 ·exact an (o + 1) _ h.box
 ·exact h.own.kp hk (fun x hx e => h.ne (by rw [← List.mem_singleton.1 e]; exact hx))
 ·exact (h.els e he).1.kp hk (fun x hx e2 => ((h.els e he).2 x hx).2.1 (List.mem_singleton.1 e2))
theorem xQ {B rb o : Nat} {bx : Array Value} {T : TypeId} {G : List Nat} {cs : List (List Ver)} {torn : List UInt8} (w : World) (h : Rx B w rb o bx T G cs torn) :
 Calls Tryz.prog 88 #[.pointer (some ⟨rb, o, none⟩)] w fun e w' => e = .returned (.int .i64 torn.length) ∧ fX B w rb o bx T G cs [] w' := by
 obtain ⟨aL, capL, xs, aT, cT, h, e⟩ := h
 have q1 := h.c1
 have f1 := h.fz (o + 1)
 have HM := ag h.mend
 have hT := h.tl
 have HE := ag e
 clear h e
 generalize torn.length = t at *
 go_enter Tryz.func88, Tryz.ntmps88
 go_wp2_with fail
 go_ret
 exact ⟨rfl, by rw [ae HE]; exact ae HM⟩
theorem uW {B rb o : Nat} {bx : Array Value} {T : TypeId} {G : List Nat} {cs : List (List Ver)} {torn : List UInt8} (w : World) (h : Rx B w rb o bx T G cs torn) :
 Calls Tryz.prog 118 #[.pointer (some ⟨rb, o, none⟩)] w fun e w' => pB (lb cs ++ torn) w e w' := by
 obtain ⟨aL, capL, xs, aT, cT, h, e⟩ := h
 have hlen : cs.length = xs.length := by rw [e, br]
 have hn40 := h.inv.n40
 have hb3 := h.inv.b3000
 rw [← e] at hn40 hb3
 have htl := h.tl
 have HI := ag h.inv
 rw [← e] at HI
 have HE := ag e
 have HL := ag h
 have hx40 : xs.length ≤ 40 := by omega
 clear h e
 go_enter Tryz.func118, Tryz.ntmps118
 go_wp2_with fail
 go_loopw [3, 4] (fun o i wr => ∃ (k : Nat) (a : Option Addr) (cap n : Nat), k ≤ xs.length ∧ o = .slice a n cap ∧ i = .int .i64 k ∧ Hid (RbI w cs k a cap n wr)) (fun _ i _ => xs.length - (intOf i).toNat)
 case atStart => exact ⟨0, none, 0, 0, by omega, rfl, rfl, ⟨by simp [lb], by simpa [lb] using ji _ _, Kp.refl _ _⟩⟩
 case round =>
  obtain ⟨k, a, cap, n, hk, rfl, rfl, HR⟩ := hrel
  have q0 : wr.cell? ⟨rb, o, none⟩ = some (.slice aL xs.length capL) := (ae HR).kp.cell (by simp) (ae HL).c0
  by_cases hlt : k < xs.length
  ·obtain ⟨gL, rfl, hc⟩ := (ae HL).own.cell hlt
   have q1 : wr.cell? ⟨gL, k, none⟩ = some (.slice (eat xs k).a (eat xs k).ps.length (eat xs k).c) := (ae HR).kp.cell (by simp) hc
   have q1' : wr.cell? ⟨gL, 0 + k, none⟩ = some (.slice (eat xs k).a (eat xs k).ps.length (eat xs k).c) := by rw [Nat.zero_add]; exact q1
   have i0 : (0 : Int) ≤ (k : Int) := by omega
   have i1 : (k : Int) < (xs.length : Int) := by omega
   have hcs : cs.getD k [] = (eat xs k).ps := by rw [ae HE, nH hlt]
   have hpf : pf (-1) (eat xs k).ps = 0 := by rw [← hcs]; exact (ae HI).at_ (by omega)
   have hpr := dZ (((ae HL).els _ (lk hlt)).1.kp0 (ae HR).kp) hpf
   have HB := ag (eM (eat xs k).a (eat xs k).c (eat xs k).ps wr hpr hpf)
   have hel := hI hpf
   have HC := ag hcs
   have htk := gl cs k
   clear hc hcs hpf hpr
   go_wp2_with fail
   refine (ae HB).mono ?_
   rintro e w2 ⟨g2, c2, n2, rfl, hn2, hr2⟩
   have HN2 := ag hn2
   have HR2 := ag hr2
   clear hn2 hr2 q0 q1 q1' HB
   go_wp2_with (at_builtin; refine ie (by rfl) (.tmp 14) (.tmp 22) 87 rfl ((ae HR).own.kp0 (ae HR2).kp) (Nat.le_trans (ae HR).kp.size (ae HR2).kp.size) n (ae HR).len (.slice (some ⟨g2, 0, none⟩) n2 c2) (enc (eat xs k).ps) rfl rfl ((ae HR2).src (ae HN2)) (by omega) ?_; intro a3 c3 n3 w3 hn3 ho3 hk3 hx3)
   rw [← ae HC] at hn3 ho3
   exact ⟨⟨k + 1, a3, c3, n3, by omega, rfl, by go_num, (ae HR).next (by omega) (ae HR2).kp (ae hn3) (ae ho3) (ae hk3)⟩, by simp [intOf]; omega⟩
  ·have e : k = cs.length := by omega
   have r1 : wr.cell? ⟨rb, o + 1, none⟩ = some (.slice aT torn.length cT) := (ae HR).kp.cell (by simp) (ae HL).c1
   have hA : n = (lb cs).length ∧ bV w.heap.size wr a cap (lb cs) := by
    have h1 := (ae HR).len
    have h2 := (ae HR).own
    rw [e, List.take_length] at h1 h2
    exact ⟨h1, h2⟩
   have HA := ag hA
   clear hA e
   go_wp2_with (at_builtin; refine ie (by rfl) (.tmp 24) (.tmp 28) 87 rfl (ae HA).2 (ae HR).kp.size n (ae HA).1 (.slice aT torn.length cT) torn rfl rfl (((ae HL).tb.kp0 (ae HR).kp).src cT) (by omega) ?_; intro a3 c3 n3 w3 hn3 ho3 hk3 hx3)
   go_ret
   exact ⟨a3, n3, c3, rfl, ae hn3, by rw [ae hn3]; exact (ae ho3).le, (ae ho3).byt, (ae HR).kp.trans (ae hk3) (fun x hx => .inr ((ae HA).2.lo x hx).1)⟩
section
variable {B : Nat} {w W w4 : World} {rb o : Nat} {bx : Array Value} {T : TypeId} {G : List Nat} {aL a' : Option Addr} {capL cap' : Nat} {xs : List El} {aT : Option Addr} {cT : Nat}
theorem RxL.far (h : RxL B w rb o bx T G aL capL xs aT cT []) (hW : Kp [] w W) (hk : Kp (ob aL) W w4) :
 w4.heap[rb]? = some (.cells bx T (0, 0)) := by
 rw [hk.block rb (Nat.lt_of_lt_of_le (h.lo rb h.rG).2 hW.size) h.ne, hW.block rb (h.lo rb h.rG).2 (by simp)]
 exact h.box
theorem RxL.far_cells (h : RxL B w rb o bx T G aL capL xs aT cT []) (hW : Kp [] w W) (hk : Kp (ob aL) W w4) : w4.cell? ⟨rb, o, none⟩ = some (.slice aL xs.length capL) ∧ w4.frozen? ⟨rb, o, none⟩ = false ∧ rb < w4.heap.size := by
 have hb := h.far hW hk
 exact ⟨af hb h.b0, ak _ hb, ah hb⟩
theorem RxL.put (h : RxL B w rb o bx T G aL capL xs aT cT []) (hW : Kp [] w W) (e : El) (he : SlO W e.a e.ps) (hen : ∀ x ∈ ob e.a, w.heap.size ≤ x ∧ x < W.heap.size) (hk : Kp (ob aL) W w4) (ho : dp B w4 a' cap' (xs ++ [e])) (hn : ∀ x ∈ ob a', x ∈ ob aL ∨ W.heap.size ≤ x)
 (hc : bc (cps xs) e.ps = 0) : fX B w rb o bx T G (cps xs ++ [e.ps]) [] (w4.setCell ⟨rb, o, none⟩ (.slice a' (xs.length + 1) cap')) := by
 obtain ⟨rfl, rfl⟩ := h.tn rfl
 have hgl := (h.lo rb h.rG).2
 have hWs := hW.size
 have hk3 : Kp [rb] w4 (w4.setCell ⟨rb, o, none⟩ (.slice a' (xs.length + 1) cap')) := (Kp.refl [rb] w4).setCell (.inl (by simp)) _
 have hne : rb ∉ ob a' := fun hm => by
  rcases hn rb hm with q | q
  ·exact h.ne q
  ·omega
 have hKG : Kp G w (w4.setCell ⟨rb, o, none⟩ (.slice a' (xs.length + 1) cap')) := by
  have k1 : Kp G w w4 := (hW.mono (fun x hx => by simp at hx)).trans hk (fun x hx => .inl (h.aG x hx))
  exact k1.trans hk3 (fun x hx => .inl (by rw [List.mem_singleton.1 hx]; exact h.rG))
 refine ⟨G ++ ob e.a ++ ob a', bx.setIfInBounds o (.slice a' (xs.length + 1) cap'), ⟨a', cap', xs ++ [e], none, 0, ⟨?_, by rw [eE h.b0]; simp, cN h.b1 (by omega) _, ?_, fun e0 he0 => ?_, fm _ _, fun _ => ⟨rfl, rfl⟩, by simp [ob], hne, by simp [h.rG], fun x hx => by simp [hx], fun x hx => ?_, ?_, by simp, Nat.le_trans h.hB hKG.size⟩, ?_⟩, fM _ _ _ _ (.inl rfl), hKG, fun x hx => ?_⟩
 ·exact an o _ (h.far hW hk)
 ·exact ho.kp hk3 (fun x hx q => hne (by rw [← List.mem_singleton.1 q]; exact hx))
 ·rcases List.mem_append.1 he0 with q | q
  ·obtain ⟨s1, s2⟩ := h.els e0 q
   refine ⟨((s1.kp0 hW).kp hk (fun x hx => (s2 x hx).2.2)).kp hk3 (fun x hx q2 => (s2 x hx).2.1 (List.mem_singleton.1 q2)), fun x hx => ⟨by simp [(s2 x hx).1], (s2 x hx).2.1, fun q2 => ?_⟩⟩
   rcases hn x q2 with q3 | q3
   ·exact (s2 x hx).2.2 q3
   ·have := (h.lo x (s2 x hx).1).2; omega
  ·rw [List.mem_singleton.1 q]
   have haL : ∀ x ∈ ob e.a, x ∉ ob aL := fun x hx q2 => by
    have h1 := (hen x hx).1
    have h2 := (h.lo x (h.aG x q2)).2
    omega
   have hrb : ∀ x ∈ ob e.a, x ≠ rb := fun x hx q2 => by
    have h1 := (hen x hx).1
    omega
   refine ⟨(he.kp hk haL).kp hk3 (fun x hx q2 => hrb x hx (List.mem_singleton.1 q2)), fun x hx => ⟨by simp [hx], hrb x hx, fun q2 => ?_⟩⟩
   rcases hn x q2 with q3 | q3
   ·exact haL x hx q3
   ·have := (hen x hx).2; omega
 ·have hs4 : W.heap.size ≤ (w4.setCell ⟨rb, o, none⟩ (.slice a' (xs.length + 1) cap')).heap.size := Nat.le_trans hk.size hk3.size
  rcases List.mem_append.1 hx with q | q
  ·rcases List.mem_append.1 q with q | q
   ·exact ⟨(h.lo x q).1, Nat.lt_of_lt_of_le (h.lo x q).2 hKG.size⟩
   ·have h1 := hen x q
    have := h.hB
    exact ⟨by omega, by omega⟩
  ·have h1 := ho.lo x q
   exact ⟨h1.1, Nat.lt_of_lt_of_le h1.2 hk3.size⟩
 ·rw [jy]
  exact h.inv.snoc hc
 ·rw [jy]; rfl
 ·rcases List.mem_append.1 hx with q | q
  ·rcases List.mem_append.1 q with q | q
   ·exact .inl q
   ·exact .inr (hen x q).1
  ·rcases hn x q with q3 | q3
   ·exact .inl (h.aG x q3)
   ·exact .inr (by omega)
end
theorem rM {B rb o : Nat} {bx : Array Value} {T : TypeId} {G : List Nat} {cs : List (List Ver)} (a2 : Option Addr) (c : Nat) (ps : List Ver) (w : World) (h : Rx B w rb o bx T G cs []) (hp : Prs w a2 ps) (hm : ps.length ≤ 1000) :
 Calls Tryz.prog 94 #[.pointer (some ⟨rb, o, none⟩), .slice a2 ps.length c] w fun e w' => e = .returned (.int .i64 (bc cs ps)) ∧ fX B w rb o bx T G (dH cs ps) [] w' := by
 have hinv := h.inv
 have hn40 := hinv.n40
 have hb3000 := hinv.b3000
 have HS := ag (fun w' (hk : Kp [] w w') => jX h hk)
 have HBY := ag (fun w' (hk : Kp [] w w') => uW w' (h.kp0 hk))
 obtain ⟨aL, capL, xs, aT, cT, h, e⟩ := h
 have hlen : cs.length = xs.length := by rw [e, br]
 have HP := ag hp
 have HF := ag (gz a2 c ps w hp hm)
 have HB := ag h
 have HE := ag e
 clear h hp e hinv
 by_cases hpf : pf (-1) ps = 0
 ·have hel := hI hpf
  have HBO := ag (fun w' (hk : Kp [] w w') => eM a2 c ps w' ((ae HP).kp0 hk) hpf)
  have HPF := ag hpf
  by_cases h40 : 40 ≤ cs.length
  ·have hc := gk (cs := cs) hpf (.inl h40)
   rw [hc, show dH cs ps = cs by unfold dH; rw [hc]; simp]
   rw [hlen] at h40
   clear hc hpf
   go_enter Tryz.func94, Tryz.ntmps94
   go_wp2_with fail
   refine (ae HF).mono ?_
   rintro e w1 ⟨rfl, hk1⟩
   rw [ae HPF]
   have r0 : w1.cell? ⟨rb, o, none⟩ = some (.slice aL xs.length capL) := hk1.cell (by simp) (ae HB).c0
   have HK := ag hk1
   clear hk1
   generalize xs.length = C at *
   go_wp2_with fail
   go_ret
   exact ⟨rfl, ae HS _ (ae HK)⟩
  ·by_cases hfull : 3000 < (lb cs).length + (enc ps).length
   ·have hc := gk (cs := cs) hpf (.inr hfull)
    rw [hc, show dH cs ps = cs by unfold dH; rw [hc]; simp]
    rw [hlen] at h40
    clear hc hpf
    go_enter Tryz.func94, Tryz.ntmps94
    go_wp2_with fail
    refine (ae HF).mono ?_
    rintro e w1 ⟨rfl, hk1⟩
    rw [ae HPF]
    have r0 : w1.cell? ⟨rb, o, none⟩ = some (.slice aL xs.length capL) := hk1.cell (by simp) (ae HB).c0
    have HK := ag hk1
    clear hk1
    generalize xs.length = C at *
    have f1 : ¬ (40 : Int) ≤ (C : Int) := by omega
    go_wp2_with fail
    refine (ae HBY _ (ae HK)).mono ?_
    rintro e w2 ⟨a3, n3, c3, rfl, hn3, hc3, hb3, hk3⟩
    have HK2 := ag ((ae HK).trans0 hk3)
    rw [List.append_nil] at hn3
    rw [← hn3] at hfull hb3000
    clear hn3 hc3 hb3 hk3
    go_wp2_with fail
    refine (ae HBO _ (ae HK2)).mono ?_
    rintro e w3 ⟨g4, c4, n4, rfl, hn4, hr4⟩
    have HK3 := ag ((ae HK2).trans0 hr4.kp)
    rw [← hn4] at hfull hel
    clear hn4 hr4
    have f2 : (3000 : Int) < (n3 : Int) + (n4 : Int) := by omega
    go_wp2_with fail
    go_ret
    exact ⟨rfl, ae HS _ (ae HK3)⟩
   ·have hc := mp (cs := cs) hpf (fun q => q.elim h40 hfull)
    rw [hc, show dH cs ps = cs ++ [ps] by unfold dH; rw [hc]; simp]
    rw [hlen] at h40
    have HC := ag hc
    clear hc hpf
    go_enter Tryz.func94, Tryz.ntmps94
    go_wp2_with fail
    refine (ae HF).mono ?_
    rintro e w1 ⟨rfl, hk1⟩
    rw [ae HPF]
    have r0 : w1.cell? ⟨rb, o, none⟩ = some (.slice aL xs.length capL) := hk1.cell (by simp) (ae HB).c0
    have HK := ag hk1
    clear hk1
    obtain ⟨C, hC⟩ : ∃ C, xs.length = C := ⟨_, rfl⟩
    rw [hC] at h40 r0
    have f1 : ¬ (40 : Int) ≤ (C : Int) := by omega
    have HCC := ag hC
    clear hC hlen
    go_wp2_with fail
    refine (ae HBY _ (ae HK)).mono ?_
    rintro e w2 ⟨a3, n3, c3, rfl, hn3, hc3, hb3, hk3⟩
    have HK2 := ag ((ae HK).trans0 hk3)
    rw [List.append_nil] at hn3
    rw [← hn3] at hfull hb3000
    clear hn3 hc3 hb3 hk3
    go_wp2_with fail
    refine (ae HBO _ (ae HK2)).mono ?_
    rintro e w3 ⟨g4, c4, n4, rfl, hn4, hr4⟩
    have HK3 := ag ((ae HK2).trans0 hr4.kp)
    rw [← hn4] at hfull hel
    clear hn4 hr4 r0
    have f2 : ¬ (3000 : Int) < (n3 : Int) + (n4 : Int) := by omega
    have r0 : w3.cell? ⟨rb, o, none⟩ = some (.slice aL C capL) := by rw [← ae HCC]; exact (ae HK3).cell (by simp) (ae HB).c0
    have hB3 : B ≤ w3.heap.size := Nat.le_trans (ae HB).hB (ae HK3).size
    go_wp2_with fail
    go_region_law (first | (refine iS (by rfl) (.tmp 33) (.tmp 34) (by rfl) c (((ae HP).kp0 (ae HK3)).kp0 (Kp.refl [] _).drew).mem (by omega) (by rfl) (by rfl) ?_; intro a5 c5 w5 hs5 hx5 hk5; obtain ⟨t0, t1, t2⟩ := (ae HB).far_cells (((ae HK3).drew).trans0 (ae hk5)) (Kp.refl _ _); rw [ae HCC] at t0) | (refine pG (by rfl) (.tmp 32) (.tmp 36) (by rfl) (xs := xs) (((((ae HB).own.kp0 (ae HK3)).kp0 (Kp.refl [] _).drew).kp0 (ae hk5)).kp0 ((Kp.refl [] _).alloc _)) (by have := (ae hk5).size; simp at this; simp; omega) ⟨a5, c5, ps⟩ w5.heap.size (heap_alloc_new w5 _) (by have := ae HCC; omega) (by rw [ae HCC]; rfl) (by rfl) ?_; intro a6 c6 w6 ho6 hk6 hx6; obtain ⟨u0, u1, u2⟩ := (ae HB).far_cells ((((ae HK3).drew).trans0 (ae hk5)).alloc _) (ae hk6); rw [ae HCC] at u0; rw [ae HCC]))
    all_goals
     go_wp2_with fail
     go_ret
     refine ⟨rfl, ?_⟩
     have hput := (ae HB).put ((((ae HK3).drew).trans0 (ae hk5)).alloc _) ⟨a5, c5, ps⟩ ((ae hs5).kp0 ((Kp.refl [] _).alloc _)) (fun x hx => by have h1 := ae hx5 x hx; have h2 := (ae HK3).size; simp at h1; simp; omega) (ae hk6) (ae ho6) (ae hx6) (by rw [← ae HE]; exact ae HC)
     rw [← ae HE, ae HCC] at hput
     exact hput
 ·have hc := ki (cs := cs) hpf
  rw [hc, show dH cs ps = cs by unfold dH; rw [hc, if_neg hpf]]
  clear hc HB HE hlen HBY HP
  generalize pf (-1) ps = z at *
  go_enter Tryz.func94, Tryz.ntmps94
  go_wp2_with fail
  refine (ae HF).mono ?_
  rintro e w1 ⟨rfl, hk1⟩
  have HK := ag (ae HS _ hk1)
  clear hk1 HS HF
  go_wp2_with fail
  go_ret
  exact ⟨rfl, ae HK⟩
section
variable {B : Nat} {w W w4 : World} {rb o : Nat} {bx : Array Value} {T : TypeId} {G : List Nat} {aL a' : Option Addr} {capL cap' : Nat} {xs : List El} {aT : Option Addr} {cT : Nat}
theorem RxL.pop (h : RxL B w rb o bx T G aL capL xs aT cT []) (hW : Kp [] w W) (k : Nat) (hk : k ≤ xs.length) : fX B w rb o bx T G (cps (xs.take k)) [] (W.setCell ⟨rb, o, none⟩ (.slice aL k capL)) := by
 obtain ⟨rfl, rfl⟩ := h.tn rfl
 have hW1 := h.kp hW (fun _ _ => by simp)
 have hk3 : Kp [rb] W (W.setCell ⟨rb, o, none⟩ (.slice aL k capL)) := (Kp.refl [rb] W).setCell (.inl (by simp)) _
 have hKG : Kp G w (W.setCell ⟨rb, o, none⟩ (.slice aL k capL)) := (hW.mono (fun x hx => by simp at hx)).trans hk3 (fun x hx => .inl (by rw [List.mem_singleton.1 hx]; exact h.rG))
 have hl : (xs.take k).length = k := by simp; omega
 refine ⟨G, bx.setIfInBounds o (.slice aL k capL), ⟨aL, capL, xs.take k, none, 0, ⟨?_, by rw [eE h.b0, hl], cN h.b1 (by omega) _, ?_, fun e he => ?_, fm _ _, fun _ => ⟨rfl, rfl⟩, by simp [ob], h.ne, h.rG, h.aG, fun x hx => ⟨(h.lo x hx).1, Nat.lt_of_lt_of_le (h.lo x hx).2 hKG.size⟩, ?_, by simp, Nat.le_trans h.hB hKG.size⟩, rfl⟩, fM _ _ _ _ (.inl rfl), hKG, fun x hx => .inl hx⟩
 ·exact an o _ hW1.box
 ·exact (hW1.own.take k hk).kp hk3 (fun x hx q => h.ne (by rw [← List.mem_singleton.1 q]; exact hx))
 ·have he2 := List.mem_of_mem_take he
  exact ⟨(hW1.els e he2).1.kp hk3 (fun x hx q => ((h.els e he2).2 x hx).2.1 (List.mem_singleton.1 q)), (h.els e he2).2⟩
 ·rw [jx]; exact h.inv.take k
theorem RxL.torn (h : RxL B w rb o bx T G aL capL xs aT cT []) (hW : Kp [] w W) (hk : Kp [] W w4) {a3 : Option Addr} {c3 N : Nat} {t : List UInt8} (ho : bV B w4 a3 c3 t) (hn : ∀ x ∈ ob a3, W.heap.size ≤ x) (hN : N = t.length) (ht : t ≠ []) (htl : t.length ≤ 114) :
 fX B w rb o bx T G (cps xs) t (w4.setCell ⟨rb, o + 1, none⟩ (.slice a3 N c3)) := by
 subst hN
 have hWs := hW.size
 have hW1 := (h.kp hW (fun _ _ => by simp)).kp hk (fun _ _ => by simp)
 have hk3 : Kp [rb] w4 (w4.setCell ⟨rb, o + 1, none⟩ (.slice a3 t.length c3)) := (Kp.refl [rb] w4).setCell (.inl (by simp)) _
 have hKG : Kp G w (w4.setCell ⟨rb, o + 1, none⟩ (.slice a3 t.length c3)) := ((hW.trans0 hk).mono (fun x hx => by simp at hx)).trans hk3 (fun x hx => .inl (by rw [List.mem_singleton.1 hx]; exact h.rG))
 have hrb : ∀ x ∈ ob a3, x ≠ rb := fun x hx q => by
  have h1 := hn x hx
  have h2 := (h.lo rb h.rG).2
  omega
 refine ⟨G ++ ob a3, bx.setIfInBounds (o + 1) (.slice a3 t.length c3), ⟨aL, capL, xs, a3, c3, ⟨?_, cN h.b0 (by omega) _, eE h.b1 _, ?_, fun e he => ?_, ?_, fun q => absurd q ht, fun x hx => ⟨by simp [hx], hrb x hx⟩, h.ne, by simp [h.rG], fun x hx => by simp [h.aG x hx], fun x hx => ?_, h.inv, htl, Nat.le_trans h.hB hKG.size⟩, rfl⟩, fM _ _ _ _ (.inr rfl), hKG, fun x hx => ?_⟩
 ·exact an (o + 1) _ hW1.box
 ·exact hW1.own.kp hk3 (fun x hx q => h.ne (by rw [← List.mem_singleton.1 q]; exact hx))
 ·exact ⟨(hW1.els e he).1.kp hk3 (fun x hx q => ((h.els e he).2 x hx).2.1 (List.mem_singleton.1 q)), fun x hx => ⟨by simp [((h.els e he).2 x hx).1], ((h.els e he).2 x hx).2⟩⟩
 ·exact ho.byt.kpo hk3 (fun x hx q => hrb x hx (List.mem_singleton.1 q))
 ·rcases List.mem_append.1 hx with q | q
  ·exact ⟨(h.lo x q).1, Nat.lt_of_lt_of_le (h.lo x q).2 hKG.size⟩
  ·exact ⟨(ho.lo x q).1, Nat.lt_of_lt_of_le (ho.lo x q).2 hk3.size⟩
 ·rcases List.mem_append.1 hx with q | q
  ·exact .inl q
  ·exact .inr (Nat.le_trans hWs (hn x q))
end
theorem xP {B rb o : Nat} {bx : Array Value} {T : TypeId} {G : List Nat} {cs : List (List Ver)} (a2 : Option Addr) (c : Nat) (ps : List Ver) (keep : Int) (w : World) (h : Rx B w rb o bx T G cs []) (hp : Prs w a2 ps) (hpG : 0 < ps.length → ∀ g o, a2 = some ⟨g, o, none⟩ → g ∉ G) (hm : ps.length ≤ 1000) :
 Calls Tryz.prog 65 #[.pointer (some ⟨rb, o, none⟩), .slice a2 ps.length c, .int .i64 keep] w fun e w' => e = .returned (.int .i64 (bc cs ps)) ∧ fX B w rb o bx T G (ct cs ps keep) (gA cs ps keep) w' := by
 have HU := ag (rM a2 c ps w h hp hm)
 have hn40 := h.inv.n40
 have HG := ag (fun w' (hk : Kp G w w') => hp.kpG hk hpG)
 clear h hp hpG
 by_cases hc : bc cs ps = 0
 ·obtain ⟨hpf, hc40, hroom⟩ := eW hc
  have hel := hI hpf
  have HC := ag hc
  have HPF := ag hpf
  rw [show dH cs ps = cs ++ [ps] by unfold dH; rw [hc]; simp] at HU
  by_cases hk : ((enc ps).length : Int) ≤ keep
  ·obtain ⟨e1, e2⟩ := gX hc hk
   rw [e1, e2]
   rw [hc] at HU ⊢
   clear e1 e2 hpf
   go_enter Tryz.func65, Tryz.ntmps65
   go_wp2_with fail
   refine (ae HU).mono ?_
   rintro e w1 ⟨rfl, h1⟩
   have H1 := ag h1
   obtain ⟨G1, bx1, hR1, hsb, hkG, hG1⟩ := h1
   have HPR := ag (ae HG _ hkG)
   have HSB := ag hsb
   have HKG := ag hkG
   have HG1 := ag hG1
   have HR1 := ag hR1
   clear hkG hsb hG1 hR1
   go_wp2_with fail
   refine (eM a2 c ps w1 (ae HPR) (ae HPF)).mono ?_
   rintro e w2 ⟨gx, cx, nx, rfl, hn, hr⟩
   rw [← hn] at hk hel
   have HK := ag hr.kp
   clear hn hr
   go_wp2_with fail
   go_ret
   exact ⟨rfl, fX.trans_at (ae HSB) (ae HKG) (ae HG1) (jX (ae HR1) (ae HK))⟩
  ·obtain ⟨e1, e2⟩ := kh hc hk
   rw [e1, e2]
   rw [hc] at HU ⊢
   clear e1 e2 hpf
   by_cases hk0 : keep ≤ 0
   ·rw [show keep.toNat = 0 by omega]
    go_enter Tryz.func65, Tryz.ntmps65
    go_wp2_with fail
    refine (ae HU).mono ?_
    rintro e w1 ⟨rfl, h1⟩
    have H1 := ag h1
    obtain ⟨G1, bx1, hR1, hsb, hkG, hG1⟩ := h1
    have HSB := ag hsb
    clear hsb
    have HPR := ag (ae HG _ hkG)
    have HKG := ag hkG
    have HG1 := ag hG1
    obtain ⟨aL, capL, xs, aT, cT, hL, he⟩ := hR1
    have HE := ag he
    have HL := ag hL
    obtain ⟨C, hC⟩ : ∃ C, xs.length = C + 1 := ⟨cs.length, by have := congrArg List.length he; rw [br] at this; simp at this; omega⟩
    have hC2 : C = cs.length := by have := congrArg List.length he; rw [br] at this; simp at this; omega
    have HC1 := ag hC
    have HC2 := ag hC2
    have hC40 : C ≤ 40 := by omega
    clear hkG hG1 he hL
    go_wp2_with fail
    refine (eM a2 c ps w1 (ae HPR) (ae HPF)).mono ?_
    rintro e w2 ⟨gx, cx, nx, rfl, hn, hr⟩
    rw [← hn] at hk hel
    have HK := ag hr.kp
    have r0 : w2.cell? ⟨rb, o, none⟩ = some (.slice aL (C + 1) capL) := by rw [← hC]; exact hr.kp.cell (by simp) (ae HL).c0
    have r1 : w2.frozen? ⟨rb, o, none⟩ = false := by rw [hr.kp.frozen ((ae HL).lo rb (ae HL).rG).2 (by simp)]; exact (ae HL).fz o
    have hsl := ke (ae HL).own C (C + 1) (by omega) (C : Int) rfl
    have hk' : ¬ keep > 0 := by omega
    clear hn hr hC hC2
    go_wp2_with fail
    go_region
    all_goals
     go_wp2_with fail
     go_ret
     refine ⟨rfl, fX.trans_at (ae HSB) (ae HKG) (ae HG1) ?_⟩
     have := (ae HL).pop ((ae HK).drew) C (by have := ae HC1; omega)
     rw [jx, ← ae HE, ae HC2, List.take_left] at this
     rw [List.take_zero, ae HC2]
     exact this
   ·obtain ⟨k, rfl⟩ : ∃ k : Nat, keep = (k : Int) := ⟨keep.toNat, by omega⟩
    rw [Int.toNat_natCast]
    go_enter Tryz.func65, Tryz.ntmps65
    go_wp2_with fail
    refine (ae HU).mono ?_
    rintro e w1 ⟨rfl, h1⟩
    have H1 := ag h1
    obtain ⟨G1, bx1, hR1, hsb, hkG, hG1⟩ := h1
    have HSB := ag hsb
    clear hsb
    have HPR := ag (ae HG _ hkG)
    have HKG := ag hkG
    have HG1 := ag hG1
    obtain ⟨aL, capL, xs, aT, cT, hL, he⟩ := hR1
    have HE := ag he
    have HT := ag (hL.tn rfl)
    have HL := ag hL
    obtain ⟨C, hC⟩ : ∃ C, xs.length = C + 1 := ⟨cs.length, by have := congrArg List.length he; rw [br] at this; simp at this; omega⟩
    have hC2 : C = cs.length := by have := congrArg List.length he; rw [br] at this; simp at this; omega
    have HC1 := ag hC
    have HC2 := ag hC2
    have hC40 : C ≤ 40 := by omega
    clear hkG hG1 he hL
    go_wp2_with fail
    refine (eM a2 c ps w1 (ae HPR) (ae HPF)).mono ?_
    rintro e w2 ⟨gx, cx, nx, rfl, hn, hr⟩
    rw [← hn] at hk hel
    have HK := ag hr.kp
    have r0 : w2.cell? ⟨rb, o, none⟩ = some (.slice aL (C + 1) capL) := by rw [← hC]; exact hr.kp.cell (by simp) (ae HL).c0
    have r1 : w2.frozen? ⟨rb, o, none⟩ = false := by rw [hr.kp.frozen ((ae HL).lo rb (ae HL).rG).2 (by simp)]; exact (ae HL).fz o
    have hsl := ke (ae HL).own C (C + 1) (by omega) (C : Int) rfl
    have hkn : k < nx := by omega
    have hkp : 0 < k := by omega
    have s0 : w2.cell? ⟨rb, o + 1, none⟩ = some (.slice none 0 0) := by have h1 := (ae HL).c1; rw [(ae HT).1, (ae HT).2] at h1; exact hr.kp.cell (by simp) h1
    have s1 : w2.frozen? ⟨rb, o + 1, none⟩ = false := by rw [hr.kp.frozen ((ae HL).lo rb (ae HL).rG).2 (by simp)]; exact (ae HL).fz (o + 1)
    have hsx := dG hr.ownU k nx (by omega) (k : Int) rfl
    have HX := ag ((hr.ownU.take k (by omega)).byt)
    have hlt : ((enc ps).take k).length = k := by simp; omega
    have HLT := ag hlt
    have hgx : rb ≠ gx := by have h1 := hr.lt; have h2 := ((ae HL).lo rb (ae HL).rG).2; omega
    clear hlt
    clear hn hr hC hC2
    go_wp2_with fail
    go_region
    all_goals
     go_wp2_with fail
     obtain ⟨W7, hW8⟩ : ∃ W7, (w2.setCell ⟨rb, o, none⟩ (.slice aL C capL)).drew = W7 := ⟨_, rfl⟩
     have hW7 : w2.drew.setCell ⟨rb, o, none⟩ (.slice aL C capL) = W7 := hW8
     have H7 := ag ((ae HL).pop ((ae HK).drew) C (by have := ae HC1; omega))
     have HX7 : Hid (Byt W7 (some ⟨gx, 0, none⟩) ((enc ps).take k)) := by
      rw [← hW7]
      exact (ae HX).kpo ((Kp.refl [rb] w2).drew.setCell (.inl (by simp)) _) (fun x hx q => hgx (by simp [ob] at hx q; omega))
     have hcs7 : cps (xs.take C) = cs := by rw [jx, ← ae HE, ae HC2, List.take_left]
     rw [hcs7, hW7] at H7
     rw [hW8]
     obtain ⟨G7, bx7, hR7, hsb7, hkG7, hG7⟩ := ae H7
     obtain ⟨aL7, capL7, xs7, aT7, cT7, hL7, he7⟩ := hR7
     obtain ⟨rfl, rfl⟩ := hL7.tn rfl
     have y0 : W7.cell? ⟨rb, o + 1, none⟩ = some (.slice none 0 0) := hL7.c1
     have y1 := hL7.fz (o + 1)
     have hB7 := hL7.hB
     have HKG7 := ag hkG7
     have HSB7 := ag hsb7
     have HG7 := ag hG7
     have HL7 := ag hL7
     have HE7 := ag he7
     clear hsb7 hcs7 hW7 hW8 hkG7 hG7 hL7 he7 H7 r0 r1 s0 s1 hsl
     go_region_law (refine fJ (by rfl) (.tmp 41) (.tmp 44) 87 (by rfl) (ji B _) (by simpa using hB7) 0 rfl (.slice (some ⟨gx, 0, none⟩) k cx) ((enc ps).take k) (by rfl) (by rfl) (gP ((ae HX7).kp0 (Kp.refl [] _).drew) (ae HLT).symm) (by have := ae HLT; simp only [List.length_nil]; omega) ?_; intro a3 c3 n3 w3 hn3 ho3 hk3 hx3; have z0 : w3.cell? ⟨rb, o + 1, none⟩ = some (.slice none 0 0) := (((Kp.refl [] W7).drew).trans0 (ae hk3)).cell (by simp) y0; have z1 : w3.frozen? ⟨rb, o + 1, none⟩ = false := (by rw [(((Kp.refl [] W7).drew).trans0 (ae hk3)).frozen ((ae HL7).lo rb (ae HL7).rG).2 (by simp)]; exact y1))
     all_goals
      go_wp2_with fail
      go_ret
      refine ⟨rfl, fX.trans_at (ae HSB) (ae HKG) (ae HG1) (fX.trans_at (ae HSB7) (ae HKG7) (ae HG7) ?_)⟩
      rw [ae HE7]
      exact (ae HL7).torn (Kp.refl [] W7).drew (ae hk3) (ae ho3) (fun x hx => (ae hx3 x hx).resolve_left (by simp [ob])) (ae hn3) (fun q => by have h1 := ae HLT; rw [q] at h1; simp at h1; omega) (by have := ae HLT; omega)
 ·obtain ⟨e1, e2⟩ := eV keep hc
  rw [e1, e2]
  rw [show dH cs ps = cs by unfold dH; rw [if_neg hc]] at HU
  generalize bc cs ps = z at *
  clear e1 e2
  go_enter Tryz.func65, Tryz.ntmps65
  go_wp2_with fail
  refine (ae HU).mono ?_
  rintro e w1 ⟨rfl, h1⟩
  have H1 := ag h1
  clear h1 HU HG
  go_wp2_with fail
  go_ret
  exact ⟨rfl, ae H1⟩
theorem oE (m : Nat) (bs : List UInt8) : rp (m + 1) bs = if (rd1 bs).2.2 = true then (rp m (bs.drop (rd1 bs).2.1)).map ((rd1 bs).1 :: ·) else none := by
 match bs with
 | [] => simp [rp, rd1]
 | [x] => simp [rp, rd1]
 | k :: l :: r =>
   have e0 : ub (k :: l :: r) 0 = k.toNat := rfl
   have e1 : ub (k :: l :: r) 1 = l.toNat := rfl
   have h2 : ¬ (k :: l :: r).length < 2 := by simp
   have hlen : (k :: l :: r).length = r.length + 2 := rfl
   by_cases hl : l = 255
   ·subst hl
    have er : rd1 (k :: 255 :: r) = (⟨k.toNat, false, ByteArray.empty⟩, 2, true) := by unfold rd1; rw [if_neg h2, e0, e1, if_pos (show UInt8.toNat 255 = 255 from rfl)]
    rw [er]
    simp [rp]
   ·have hl' : ¬ l.toNat = 255 := fun e => hl (UInt8.toNat_inj.1 (by rw [e]; rfl))
    by_cases hr : r.length < l.toNat
    ·have er : rd1 (k :: l :: r) = (dv, 0, false) := by unfold rd1; rw [if_neg h2, e1, if_neg hl', if_pos (by omega)]
     rw [er]
     simp [rp, hl, hr]
    ·have ed : (k :: l :: r).drop (2 + l.toNat) = r.drop l.toNat := by rw [show 2 + l.toNat = l.toNat + 1 + 1 by omega]; rfl
     have et : ((k :: l :: r).take (2 + l.toNat)).drop 2 = r.take l.toNat := by rw [show 2 + l.toNat = l.toNat + 1 + 1 by omega]; rfl
     have er : rd1 (k :: l :: r) = (⟨k.toNat, true, ⟨(r.take l.toNat).toArray⟩⟩, 2 + l.toNat, true) := by unfold rd1; rw [if_neg h2, e0, e1, if_neg hl', if_neg (by omega), et]
     rw [er]
     simp only [rp, if_neg hl, if_neg hr, ed]
     simp
theorem xW {bs : List UInt8} (h : (rd1 bs).2.2 = true) : (rd1 bs).2.1 ≤ bs.length := by
 unfold rd1 at h ⊢
 split at h
 ·simp at h
 ·rename_i h1
  rw [if_neg h1]
  split at h
  ·rename_i h3
   rw [if_pos h3]
   simp; omega
  ·rename_i h3
   rw [if_neg h3]
   split at h
   ·simp at h
   ·rename_i h4
    rw [if_neg h4]
    simp; omega
structure RpI (R : Option (List Ver)) (w : World) (m : Nat) (acc : List Ver) (a : Option Addr) (cap : Nat) (ab : Option Addr) (nb cb : Nat) (bs : List UInt8) (wr : World) : Prop where
 goes : (rp m bs).map (acc ++ ·) = R
 own : wr.ownsRow w.heap.size 98 3 (.slice a acc.length cap) acc.length (aw acc)
 kp : Kp [] w wr
 byt : Byt w ab bs
 len : nb = bs.length
 cap : nb ≤ cb
 small : bs.length ≤ 10000
theorem RpI.fail {R : Option (List Ver)} {w : World} {m : Nat} {acc : List Ver} {a : Option Addr} {cap : Nat} {ab : Option Addr} {nb cb : Nat} {bs : List UInt8} {wr : World} (h : RpI R w (m + 1) acc a cap ab nb cb bs wr) (hr : (rd1 bs).2.2 = false) : R = none := by
 have := h.goes
 rw [oE, if_neg (by rw [hr]; decide)] at this
 rw [← this]; rfl
theorem RpI.next {R : Option (List Ver)} {w : World} {m : Nat} {acc : List Ver} {a : Option Addr} {cap : Nat} {ab : Option Addr} {nb cb : Nat} {bs : List UInt8} {wr W w2 : World} (h : RpI R w (m + 1) acc a cap ab nb cb bs wr) (hr : (rd1 bs).2.2 = true) {v : Ver} {sz : Nat} (hv : (rd1 bs).1 = v) (hs : (rd1 bs).2.1 = sz)
 (hw : Kp [] wr W) {g2 cap2 : Nat} (hown : w2.ownsRow w.heap.size 98 3 (.slice (some ⟨g2, 0, none⟩) (acc.length + 1) cap2) (acc.length + 1) (aw acc ++ [.int .i64 v.a, .bool v.t, .string v.s]))
 (hgrow : W.grownBy w2 (Value.slice a acc.length cap).ownBlock) {ab' : Option Addr} (hb : Byt w ab' (bs.drop sz)) : RpI R w m (acc ++ [v]) (some ⟨g2, 0, none⟩) cap2 ab' (nb - sz) (cb - sz) (bs.drop sz) w2 := by
 subst hv hs
 refine ⟨?_, ?_, (h.kp.trans0 hw).grown hgrow (fun g hg => .inr (es h.own hg)), hb, by rw [h.len]; simp, by have := h.cap; omega, by have := h.small; simp; omega⟩
 ·rw [← h.goes, oE, if_pos hr, Option.map_map]
  congr 1
  funext x
  simp
 ·have hv : aw acc ++ [.int .i64 (rd1 bs).1.a, .bool (rd1 bs).1.t, .string (rd1 bs).1.s] = aw (acc ++ [(rd1 bs).1]) := by rw [bk]; rfl
  rw [hv] at hown
  simpa using hown
def nO (R : Option (List Ver)) (w : World) (e : Ending) (w' : World) : Prop :=
 ∃ a n cap, ∃ q : Bool, e = .returned (.tuple #[.slice a n cap, .bool q]) ∧ (q = true → ∃ ws, R = some ws ∧ n = ws.length ∧ w'.ownsRow w.heap.size 98 3 (.slice a n cap) n (aw ws)) ∧ (q = false → R = none) ∧ Kp [] w w'
theorem me {R : Option (List Ver)} {w w' : World} (h : R = none) (hk : Kp [] w w') : nO R w (.returned (.tuple #[.slice none 0 0, .bool false])) w' := ⟨none, 0, 0, false, rfl, (fun h => by simp at h), fun _ => h, hk⟩
theorem RpI.last {R : Option (List Ver)} {w : World} {acc : List Ver} {a : Option Addr} {cap : Nat} {ab : Option Addr} {nb cb : Nat} {bs : List UInt8} {wr : World} (h : RpI R w 0 acc a cap ab nb cb bs wr) (q : Bool) (hq : q = decide (nb = 0)) : nO R w (.returned (.tuple #[.slice a acc.length cap, .bool q])) wr := by
 have hg := h.goes
 have hl := h.len
 refine ⟨a, acc.length, cap, q, rfl, fun e => ⟨acc, ?_, rfl, h.own⟩, fun e => ?_, h.kp⟩
 ·have e2 : nb = 0 := by subst hq; simpa using e
  have e3 : bs = [] := List.eq_nil_of_length_eq_zero (by omega)
  subst e3
  rw [← hg]; simp [rp]
 ·have e2 : ¬ nb = 0 := by subst hq; simpa using e
  have e3 : ¬ bs = [] := fun e => by subst e; simp at hl; omega
  rw [← hg]; simp [rp, e3]
theorem AA (n : Nat) : ((n : Int) == 0) = decide (n = 0) := by rw [Bool.eq_iff_iff]; simp
theorem mg (ab : Option Addr) (n c : Nat) (bs : List UInt8) (m : Nat) (w : World) (h : Byt w ab bs) (hn : n = bs.length) (hc : n ≤ c) (hm : bs.length ≤ 10000) (hm2 : m ≤ 255) :
 Calls Tryz.prog 122 #[.slice ab n c, .int .i64 m] w fun e w' => nO (rp m bs) w e w' := by
 obtain ⟨i0, hi0, hz0, hz1, hz2⟩ := info_parts Tryz.info98
 have H0 : Hid (RpI (rp m bs) w m [] none 0 ab n c bs w) := ⟨by simp, World.ownsRow_nil _ _ _ _, Kp.refl _ _, h, hn, hc, hm⟩
 generalize rp m bs = R at *
 clear h hn hc hm
 go_enter Tryz.func122, Tryz.ntmps122
 go_wp2_with fail
 go_loopw [0, 6, 11] (fun b s i wr => ∃ (k : Nat) (acc : List Ver) (a : Option Addr) (cap : Nat) (ab : Option Addr) (nb cb : Nat) (bs : List UInt8), k ≤ m ∧ acc.length ≤ k ∧ b = .slice ab nb cb ∧ s = .slice a acc.length cap ∧ i = .int .i64 k ∧ Hid (RpI R w (m - k) acc a cap ab nb cb bs wr)) (fun _ _ i _ => m - (intOf i).toNat)
 case atStart => exact ⟨0, [], none, 0, ab, n, c, bs, by omega, by simp, rfl, rfl, rfl, H0⟩
 case round =>
  clear H0
  obtain ⟨k, acc, a, cap, ab, nb, cb, bs, hk, hal, rfl, rfl, rfl, HE⟩ := hrel
  by_cases hlt : k < m
  ·have i1 : (k : Int) < (m : Int) := by omega
   rw [show m - k = (m - (k + 1)) + 1 by omega] at HE
   go_wp2_with fail
   refine (ng ab nb cb bs wr ((ae HE).byt.kp0 (ae HE).kp) (ae HE).len (ae HE).cap (ae HE).small).mono ?_
   rintro e w1 ⟨rfl, hk1⟩
   have HK1 := ag hk1
   clear hk1
   cases hr : (rd1 bs).2.2 with
   | false =>
     have HR := ag ((ae HE).fail hr)
     clear hr
     have HK2 := ag ((((ae HE).kp.trans0 (ae HK1)).alloc (.cells #[.int .i64 (rd1 bs).1.a, .bool (rd1 bs).1.t, .string (rd1 bs).1.s] 98)))
     generalize (rd1 bs).1 = v at *
     generalize (rd1 bs).2.1 = sz at *
     go_wp2_with fail
     go_ret2
     exact me (ae HR) (ae HK2)
   | true =>
     have hle := xW hr
     obtain ⟨ab', hsl, hb'⟩ := rY (ae HE).byt (rd1 bs).2.1 cb nb (ae HE).len hle (by have := (ae HE).len; have := (ae HE).cap; omega) (rd1 bs).2.1 rfl
     obtain ⟨v, hv⟩ : ∃ v, (rd1 bs).1 = v := ⟨_, rfl⟩
     obtain ⟨sz, hz⟩ : ∃ sz, (rd1 bs).2.1 = sz := ⟨_, rfl⟩
     rw [hv, hz]
     rw [hz] at hsl hb'
     have HR := ag hr
     have HV := ag hv
     have HZ := ag hz
     have HB := ag hb'
     clear hr hv hz hb' hle
     have hwl := ((ae HE).kp.trans0 (ae HK1)).size
     have hOW := ag (ee (ae HE).own (((ae HK1).alloc (.cells #[.int .i64 v.a, .bool v.t, .string v.s] 98)).alloc (.cells #[.int .i64 v.a, .bool v.t, .string v.s] 98)))
     go_wp2_with (at_builtin; refine wpList_append_lies _ rfl _ _ 41 rfl w.heap.size 98 i0 _ 3 32 Tryz.underlying41 hi0 hz0 hz1 hz2 rfl (by omega) (.slice a acc.length cap) acc.length (aw acc) rfl (ae hOW) ⟨w1.heap.size + 1, 0, none⟩ 1 1 [.int .i64 v.a, .bool v.t, .string v.s] (by rfl) (by rfl) (World.news_of_block (cs := #[.int .i64 v.a, .bool v.t, .string v.s]) (t := 98) (fr := (0, 0)) (by have := heap_alloc_new (w1.alloc (.cells #[.int .i64 v.a, .bool v.t, .string v.s] 98)) (.cells #[.int .i64 v.a, .bool v.t, .string v.s] 98); simpa using this)) (by simp [Value.oneCell']) (by omega) (by unfold maxLen; omega) (by omega) (by simp; omega) _ rfl ?_; intro g2 cap2 w2 hown hgrow hat hlt2; have HE2 := ag ((ae HE).next (ae HR) (ae HV) (ae HZ) (((ae HK1).alloc _).alloc _) hown hgrow (ae HB)); clear hown hgrow hat)
     exact ⟨⟨k + 1, _, _, _, _, _, _, _, by omega, by simp; omega, rfl, by simp, by go_num, HE2⟩, by simp [intOf]; omega⟩
  ·have e : k = m := by omega
   subst e
   rw [Nat.sub_self] at HE
   go_wp2_with fail
   go_ret2
   exact (ae HE).last _ (AA nb)
def nQ (D : List Ver × Nat × Int) (w : World) (e : Ending) (w' : World) : Prop :=
 ∃ a n cap, e = .returned (.tuple #[.slice a n cap, .int .i64 (D.2.1 : Nat), .int .i64 D.2.2]) ∧ n = D.1.length ∧ w'.ownsRow w.heap.size 98 3 (.slice a n cap) n (aw D.1) ∧ Kp [] w w'
theorem dJ {D : List Ver × Nat × Int} {w w' : World} (c : Int) (h : D = ([], 0, c)) (hk : Kp [] w w') : nQ D w (.returned (.tuple #[.slice none 0 0, .int .i64 0, .int .i64 c])) w' := by
 subst h
 exact ⟨none, 0, 0, rfl, rfl, World.ownsRow_nil _ _ _ _, hk⟩
theorem qk {D : List Ver × Nat × Int} {w w' : World} (ws : List Ver) (z : Nat) (h : D = (ws, z, 0)) (a : Option Addr) (n cap : Nat) (hn : n = ws.length) (ho : w'.ownsRow w.heap.size 98 3 (.slice a n cap) n (aw ws)) (hk : Kp [] w w') :
 nQ D w (.returned (.tuple #[.slice a n cap, .int .i64 z, .int .i64 0])) w' := by
 subst h
 exact ⟨a, n, cap, rfl, hn, ho, hk⟩
theorem nG {bs : List UInt8} (h : bs.length = 0) : dec bs = ([], 0, 6) := by unfold dec; rw [if_pos (.inl h)]
theorem qh {bs : List UInt8} (h : bs.length < ub bs 0) : dec bs = ([], 0, 6) := by unfold dec; rw [if_pos (.inr h)]
theorem tt {bs : List UInt8} (h0 : bs.length ≠ 0) (h : ¬ bs.length < ub bs 0) (h2 : ub bs 0 < 2) : dec bs = ([], 0, 4) := by
 unfold dec
 rw [if_neg (fun q => q.elim h0 h)]
 exact if_pos h2
theorem qi {bs : List UInt8} (h0 : bs.length ≠ 0) (h : ¬ bs.length < ub bs 0) (h2 : ¬ ub bs 0 < 2) : dec bs = match rp (ub bs 1) ((bs.take (ub bs 0)).drop 2) with
 | none => ([], 0, 4)
 | some ws => if pf (-1) ws = 0 then (ws, ub bs 0, 0) else ([], 0, pf (-1) ws) := by
 unfold dec
 rw [if_neg (fun q => q.elim h0 h)]
 exact if_neg h2
theorem oL {B n : Nat} {w : World} {a : Option Addr} {cap : Nat} {ws : List Ver} (h : w.ownsRow B 98 3 (.slice a n cap) n (aw ws)) (hn : n = ws.length) (hl : ws.length ≤ 1000) (hs : ∀ p ∈ ws, p.s.size ≤ 255) : Prs w a ws := by
 refine ⟨by unfold maxLen; omega, fun k hk => ?_, dE h hn⟩
 have : (vb ws k).size ≤ 255 := by
  simp only [vb, List.getD_eq_getElem?_getD, List.getElem?_eq_getElem hk, Option.getD_some]
  exact hs _ (List.getElem_mem hk)
 unfold maxLen; omega
theorem ts (a : Option Addr) (n c : Nat) (bs : List UInt8) (w : World) (h : Byt w a bs) (hn : n = bs.length) (hc : n ≤ c) (hm : bs.length ≤ 10000) :
 Calls Tryz.prog 103 #[.slice a n c] w fun e w' => nQ (dec bs) w e w' := by
 by_cases h0 : bs.length = 0
 ·have hd := nG h0
  generalize dec bs = D at *
  have HD := ag hd
  have hn0 : n = 0 := by omega
  subst hn0
  clear h hd hn h0
  go_enter Tryz.func103, Tryz.ntmps103
  go_wp2_with fail
  go_ret3
  exact dJ 6 (ae HD) (Kp.refl _ _)
 ·obtain ⟨g, o, rfl, hs⟩ := h (by omega)
  have q0 := hs 0 (by omega)
  have u0 := ot bs 0
  have HB := ag h
  have i0 : (0 : Int) < (n : Int) := by omega
  have j0 : 0 < n := by omega
  have j0' : ¬ n = 0 := by omega
  have j0'' : ¬ (n : Int) = 0 := by omega
  simp only [Nat.add_zero] at q0
  by_cases h1 : bs.length < ub bs 0
  ·have hd := qh h1
   have k0 : (n : Int) < (ub bs 0 : Nat) := by omega
   generalize dec bs = D at *
   have HD := ag hd
   clear h hd hn h0 h1 hs
   generalize ub bs 0 = x at *
   go_enter Tryz.func103, Tryz.ntmps103
   go_wp2_with fail
   go_ret3
   exact dJ 6 (ae HD) (Kp.refl _ _)
  ·have k0 : ¬ (n : Int) < (ub bs 0 : Nat) := by omega
   by_cases h2 : ub bs 0 < 2
   ·have hd := tt h0 h1 h2
    generalize dec bs = D at *
    have HD := ag hd
    clear h hd hn h0 h1 hs
    generalize ub bs 0 = x at *
    go_enter Tryz.func103, Tryz.ntmps103
    go_wp2_with fail
    go_ret3
    exact dJ 4 (ae HD) (Kp.refl _ _)
   ·have hd := qi h0 h1 h2
    have q1 := hs 1 (by omega)
    have u1 := ot bs 1
    have hwr : IntKind.i64.wrap ((ub bs 1 : Nat) : Int) = ((ub bs 1 : Nat) : Int) := bv _ (by omega) (by omega)
    have i1 : (1 : Int) < (n : Int) := by omega
    have j1 : 1 < n := by omega
    have k2 : ub bs 0 ≤ c := by omega
    obtain ⟨a2, hsl, hb2⟩ := oJ (ae HB) 2 (ub bs 0) c n (by omega) (by omega) (by omega) 2 (ub bs 0 : Nat) rfl rfl
    have hl2 : ub bs 0 - 2 = ((bs.take (ub bs 0)).drop 2).length := by simp; omega
    have hrp := fun W (hk : Kp [] w W) => mg a2 (ub bs 0 - 2) (c - 2) ((bs.take (ub bs 0)).drop 2) (ub bs 1) W (hb2.kp0 hk) hl2 (by omega) (by omega) (by omega)
    generalize dec bs = D at *
    generalize hR : rp (ub bs 1) ((bs.take (ub bs 0)).drop 2) = R at *
    have HR := ag hR
    have HD := ag hd
    have HRP := ag hrp
    clear h hd hn h0 h1 hs hb2 hl2 hrp hR
    generalize ub bs 0 = x at *
    generalize ub bs 1 = y at *
    go_enter Tryz.func103, Tryz.ntmps103
    go_wp2_with fail
    go_region_with (go_at_call 122; refine (ae HRP w.drew (Kp.refl [] w).drew).mono ?_; rintro e w1 ⟨ar, nr, cr, q, rfl, hq1, hq2, hk1⟩; have HQ1 := ag hq1; have HQ2 := ag hq2; have HK1 := ag ((Kp.refl [] w).drew.trans0 hk1); clear hq1 hq2 hk1)
    cases q with
    | false =>
      have hd := ae HD
      rw [ae HQ2 rfl] at hd
      have HD2 := ag hd
      clear hd
      go_wp2_with fail
      go_ret3
      exact dJ 4 (ae HD2) (ae HK1)
    | true =>
      obtain ⟨ws, hR, hnr, hown⟩ := ae HQ1 rfl
      have hd := ae HD
      rw [hR] at hd
      simp only at hd
      obtain ⟨hw1, _, hw3⟩ := kQ ((ae HR).trans hR)
      subst hnr
      have hwl : ws.length ≤ 1000 := by omega
      have HO := ag (cE hown (Nat.le_refl w.heap.size))
      have hpr := oL hown rfl hwl hw3
      have hch := eC ar cr ws w1 hpr hwl
      have HCH := ag hch
      have HD2 := ag hd
      clear hd hR hown hw1 hw3 hpr hch HQ1 HQ2 HR HD HRP
      by_cases hp : pf (-1) ws = 0
      ·have hd := ae HD2
       rw [if_pos hp] at hd
       have HD3 := ag hd
       have HP := ag hp
       clear hd hp HD2
       go_wp2_with fail
       refine (ae HCH).mono ?_
       rintro e w2 ⟨rfl, hk2⟩
       have HK2 := ag hk2
       clear hk2
       rw [ae HP]
       go_wp2_with fail
       go_ret3
       exact qk ws x (ae HD3) ar _ cr rfl (ee (ae HO) (ae HK2)) ((ae HK1).trans0 (ae HK2))
      ·have hd := ae HD2
       rw [if_neg hp] at hd
       have HD3 := ag hd
       clear hd HD2
       go_wp2_with fail
       refine (ae HCH).mono ?_
       rintro e w2 ⟨rfl, hk2⟩
       have HK2 := ag ((ae HK1).trans0 hk2)
       clear hk2 HCH
       generalize pf (-1) ws = z at *
       go_wp2_with fail
       go_ret3
       exact dJ z (ae HD3) (ae HK2)
structure TaI (w : World) (bs : List UInt8) (D : List (List Ver)) (tb : Nat) (xs : List (List Ver)) (wr : World) : Prop where
 tbl : ∃ F, Tbl w.heap.size wr tb F (cw xs) xs.length
 kp : Kp [] w wr
 n40 : xs.length ≤ 40
 goes : xs ++ dcs (40 - xs.length) (bs.drop (lb xs).length) = D
 ple : (lb xs).length ≤ bs.length
theorem TaI.stop {w : World} {bs : List UInt8} {D xs : List (List Ver)} {tb : Nat} {wr : World} (h : TaI w bs D tb xs wr) (hc : (dec (bs.drop (lb xs).length)).2.2 ≠ 0) : xs = D := by
 have hg := h.goes
 rcases Nat.eq_zero_or_pos (40 - xs.length) with e | e
 ·rw [e] at hg; simpa [dcs] using hg
 ·obtain ⟨m, hm⟩ := Nat.exists_eq_succ_of_ne_zero (Nat.pos_iff_ne_zero.1 e)
  rw [hm] at hg
  simp only [dcs] at hg
  rw [if_neg hc] at hg
  simpa using hg
theorem TaI.full {w : World} {bs : List UInt8} {D xs : List (List Ver)} {tb : Nat} {wr : World} (h : TaI w bs D tb xs wr) (hc : 40 ≤ xs.length) : xs = D := by
 have hg := h.goes
 rw [show 40 - xs.length = 0 by omega] at hg
 simpa [dcs] using hg
theorem TaI.next {w : World} {bs : List UInt8} {D xs : List (List Ver)} {tb : Nat} {wr w' : World} (h : TaI w bs D tb xs wr) (hc : (dec (bs.drop (lb xs).length)).2.2 = 0) (hn : xs.length < 40)
 (ht : ∃ F, Tbl w.heap.size w' tb F (wst (cw xs) xs.length (dec (bs.drop (lb xs).length)).1) (wn xs.length (dec (bs.drop (lb xs).length)).1)) (hk : Kp [] w w') :
 TaI w bs D tb (xs ++ [(dec (bs.drop (lb xs).length)).1]) w' ∧ (lb (xs ++ [(dec (bs.drop (lb xs).length)).1])).length = (lb xs).length + (dec (bs.drop (lb xs).length)).2.1 ∧ 2 ≤ (dec (bs.drop (lb xs).length)).2.1 := by
 obtain ⟨h1, h2, h3, h4⟩ := lu hc
 have hl : (lb (xs ++ [(dec (bs.drop (lb xs).length)).1])).length = (lb xs).length + (dec (bs.drop (lb xs).length)).2.1 := by rw [gC, List.length_append, ← h4]
 refine ⟨⟨?_, hk, by simp; omega, ?_, ?_⟩, hl, by rw [h4]; exact (hI h1).1⟩
 ·rw [(ez h1 hn).2, ← fG] at ht
  simpa using ht
 ·have hg := h.goes
  rw [show 40 - xs.length = (40 - (xs.length + 1)) + 1 by omega] at hg
  simp only [dcs] at hg
  rw [if_pos hc, List.drop_drop] at hg
  rw [hl, List.length_append, List.append_assoc]
  exact hg
 ·rw [hl]
  have := h.ple
  simp only [List.length_drop] at h2
  omega
def uc (D : List (List Ver)) (w : World) (e : Ending) (w' : World) : Prop := ∃ tb F p, e = .returned (.tuple #[.pointer (some ⟨tb, 0, none⟩), .int .i64 (p : Nat)]) ∧ p = (lb D).length ∧ Tbl w.heap.size w' tb F (cw D) D.length ∧ Kp [] w w'
theorem ua {D xs : List (List Ver)} {w : World} {tb : Nat} {bs : List UInt8} {wr w' : World} (h : TaI w bs D tb xs wr) (hx : xs = D) (hk : Kp [] wr w') {p : Nat} (hp : p = (lb xs).length) : uc D w (.returned (.tuple #[.pointer (some ⟨tb, 0, none⟩), .int .i64 p])) w' := by
 subst hx
 obtain ⟨F, ht⟩ := h.tbl
 exact ⟨tb, F, p, rfl, hp, ht.kp0 hk, h.kp.trans0 hk⟩
theorem lU {w : World} {bs : List UInt8} {D xs : List (List Ver)} {tb : Nat} {wr W : World} (h : TaI w bs D tb xs wr) (hW : Kp [] wr W) (a : Option Addr) (n c : Nat) (ps : List Ver) (hn : n = ps.length) (ho : W.ownsRow wr.heap.size 98 3 (.slice a n c) n (aw ps)) (hl : ps.length ≤ 1000) (hs : ∀ p ∈ ps, p.s.size ≤ 255) :
 Calls Tryz.prog 104 #[.pointer (some ⟨tb, 0, none⟩), .slice a n c] W fun e w' => e = .returned (.tuple #[.int .i64 (dR xs.length ps), .int .i64 (bA xs.length ps)]) ∧
  (∃ F, Tbl w.heap.size w' tb F (wst (cw xs) xs.length ps) (wn xs.length ps)) ∧ Kp [] w w' := by
 obtain ⟨F, ht⟩ := h.tbl
 have hpr := oL ho hn hl hs
 subst hn
 refine (lR a c ps W (ht.kp0 hW) hpr (fun _ g o e hg => ?_) hl).mono ?_
 ·have h1 := es (g := g) ho (by subst e; rfl)
  have h2 := (ht.lo g hg).2
  omega
 ·rintro e w' ⟨rfl, F', k1, k2, k3⟩
  exact ⟨rfl, ⟨F', k1⟩, (h.kp.trans0 hW).trans k2 (fun x hx => .inr (ht.lo x hx).1)⟩
theorem sh (a : Option Addr) (n c : Nat) (bs : List UInt8) (w : World) (h : Byt w a bs) (hn : n = bs.length) (hc : n ≤ c) (hm : bs.length ≤ 10000) :
 Calls Tryz.prog 76 #[.slice a n c] w fun e w' => uc (dcs 40 bs) w e w' := by
 have HB := ag h
 have HN := ag hn
 have hn' : n ≤ 10000 := by omega
 have HG : Hid (dcs 40 bs = dcs 40 bs) := rfl
 generalize hD : dcs 40 bs = D at *
 have HD := ag hD
 clear h hD HG hn
 go_enter Tryz.func76, Tryz.ntmps76
 go_wp2_with fail
 refine (rm w).mono ?_
 rintro e w1 ⟨rfl, ht, hk⟩
 have H0 : Hid (TaI w bs D w.heap.size [] w1) := ⟨ht, hk, by simp, by simpa [lb] using ae HD, by simp [lb]⟩
 clear ht hk HD
 generalize w.heap.size = tb at *
 go_wp2_with fail
 go_loopw [5] (fun i wr => ∃ (p : Nat) (xs : List (List Ver)), i = .int .i64 p ∧ p ≤ n ∧ Hid (p = (lb xs).length) ∧ Hid (TaI w bs D tb xs wr)) (fun i _ => n - (intOf i).toNat)
 case atStart => exact ⟨0, [], rfl, by omega, rfl, H0⟩
 case round =>
  clear H0
  obtain ⟨p, xs, rfl, hp, HP, HI⟩ := hrel
  obtain ⟨a2, hsl, hb2⟩ := rY ((ae HB).kp0 (ae HI).kp) p c n (ae HN) (by have := ae HN; omega) (by have := ae HN; omega) p rfl
  have hd := ts a2 (n - p) (c - p) (bs.drop p) wr hb2 (by rw [List.length_drop]; have := ae HN; omega) (by omega) (by simp; omega)
  have HDD := ag hd
  have ip : (p : Int) ≤ (n : Int) := by omega
  clear hb2 hd
  by_cases hcode : (dec (bs.drop p)).2.2 = 0
  ·have hok := lu hcode
   have hl8 := @vY (bs.drop p)
   have hst := @vX (bs.drop p)
   have hle2 : (dec (bs.drop p)).2.1 ≤ n - p := by have := hok.2.1; rw [List.length_drop] at this; have := ae HN; omega
   by_cases h40 : 40 ≤ xs.length
   ·have hw9 := iL hok.1 h40
    have HX := ag ((ae HI).full h40)
    have HW := ag (fun W hW a n c hn ho => lU (ae HI) (W := W) hW a n c _ hn ho (by omega) hst)
    rw [hw9] at HW
    have hD2 : ∃ z, (dec (bs.drop p)).2.1 = z := ⟨_, rfl⟩
    obtain ⟨z, hz⟩ := hD2
    clear hok hl8 hst hw9
    go_wp2_with fail
    refine (ae HDD).mono ?_
    rintro e w2 ⟨a3, n3, c3, rfl, hn3, ho3, hk3⟩
    rw [hcode, hz]
    have HWW := ag (ae HW w2 hk3 a3 n3 c3 hn3 ho3)
    clear hn3 ho3 hk3 HW HDD hsl
    generalize dR xs.length (dec (bs.drop p)).1 = y at *
    go_wp2_with fail
    refine (ae HWW).mono ?_
    rintro e w3 ⟨rfl, ⟨F3, ht3⟩, hk3⟩
    have HE : Hid (uc D w (.returned (.tuple #[.pointer (some ⟨tb, 0, none⟩), .int .i64 p])) w3) := by
     have hx := ae HX
     have e9 : wst (cw xs) xs.length (dec (bs.drop p)).1 = cw xs ∧ wn xs.length (dec (bs.drop p)).1 = xs.length := by
      have := iL (lu hcode).1 h40
      unfold wst wn
      rw [this]
      simp
     rw [e9.1, e9.2, hx] at ht3
     exact ⟨tb, F3, p, rfl, by rw [← hx]; exact ae HP, ht3, hk3⟩
    clear ht3 hk3 HWW
    go_wp2_with fail
    go_ret2
    exact ae HE
   ·have hw0 := (ez hok.1 (by omega : xs.length < 40)).1
    have HW := ag (fun W hW a n c hn ho => lU (ae HI) (W := W) hW a n c _ hn ho (by omega) hst)
    rw [hw0] at HW
    have hD2 : ∃ z, (dec (bs.drop p)).2.1 = z := ⟨_, rfl⟩
    obtain ⟨z, hz⟩ := hD2
    rw [hz] at hle2
    clear hok hl8 hst hw0
    go_wp2_with fail
    refine (ae HDD).mono ?_
    rintro e w2 ⟨a3, n3, c3, rfl, hn3, ho3, hk3⟩
    rw [hcode, hz]
    have HWW := ag (ae HW w2 hk3 a3 n3 c3 hn3 ho3)
    clear hn3 ho3 hk3 HW HDD hsl
    generalize dR xs.length (dec (bs.drop p)).1 = y at *
    go_wp2_with fail
    refine (ae HWW).mono ?_
    rintro e w3 ⟨rfl, ht3, hk3⟩
    have hpx := ae HP
    subst hpx
    obtain ⟨j1, j2, j3⟩ := (ae HI).next hcode (by omega) ht3 hk3
    rw [hz] at j2 j3
    have J1 := ag j1
    have J2 := ag j2
    clear ht3 hk3 HWW j1 j2
    go_wp2_with fail
    exact ⟨⟨_, _, by go_num, by omega, (ae J2).symm, J1⟩, by simp [intOf]; omega⟩
  ·have HX := ag ((ae HI).stop (by rw [← ae HP]; exact hcode))
   generalize dec (bs.drop p) = Dd at *
   obtain ⟨d1, d2, d3⟩ := Dd
   simp only at hcode
   go_wp2_with fail
   refine (ae HDD).mono ?_
   rintro e w2 ⟨a3, n3, c3, rfl, hn3, ho3, hk3⟩
   have HE := ag (ua (ae HI) (ae HX) hk3 (ae HP))
   clear hn3 ho3 hk3 HDD hsl
   go_wp2_with fail
   go_ret2
   exact ae HE
theorem Tbl.kp1 {B : Nat} {w w' : World} {tb db : Nat} {F : List Nat} {f : Nat → List Ver} {n : Nat} (h : Tbl B w tb F f n) (hk : Kp [db] w w') (hF : db ∉ F) : Tbl B w' tb F f n :=
 h.kp hk (fun x hx hm => hF (by have e : x = db := by simpa using hm
                                rw [← e]; exact hx))
theorem fS {md : Int} {ws : List Ver} {k : Int} {t : Bool} {s : ByteArray} (h : ¬ dpc md k t s = 0) : dpw md ws k t s = ws := by unfold dpw; rw [if_neg h]
theorem oY {md : Int} {ws : List Ver} {k : Int} {t : Bool} {s : ByteArray} (h : dpc md k t s = 0) : dpw md ws k t s = ws ++ [⟨k, t, s⟩] := by unfold dpw; rw [if_pos h]
theorem yJ {db : Nat} {md y : Int} {rs : List Int} {ws : List Ver} (k : Int) (t : Bool) (s : ByteArray) (w : World) (h : Ded w db md y rs ws) (hs : s.size ≤ maxLen) :
 Calls Tryz.prog 82 #[.pointer (some ⟨db, 0, none⟩), .int .i64 k, .agg #[.bool t, .string s]] w fun e w' => e = .returned (.int .i64 (dpc md k t s)) ∧ Ded w' db md y rs (dpw md ws k t s) ∧ Kp [db] w w' := by
 have HD := ag h
 have hlt := h.lt
 have qm := h.mcell
 clear h
 by_cases hk : aN k = true
 ·by_cases hm : md = 3
  ·have hc : dpc md k t s = 3 := by unfold dpc; rw [if_pos hk, if_pos hm]
   rw [fS (by rw [hc]; decide), hc]
   clear hc
   subst hm
   go_enter Tryz.func82, Tryz.ntmps82
   go_wp2_with fail
   refine (cK _ _).mono ?_
   rintro e w' ⟨rfl, rfl⟩
   rw [hk]
   clear hk
   go_wp2_with fail
   go_ret
   exact ⟨rfl, (ae HD).kp0 ((Kp.refl [] w).alloc _), ((Kp.refl [] w).alloc _).mono (by simp)⟩
  ·have hc : dpc md k t s = chk t s := by unfold dpc; rw [if_pos hk, if_neg hm]
   have em : (md == 3) = false := beq_eq_false_iff_ne.2 hm
   by_cases h0 : chk t s = 0
   ·obtain ⟨j, hj, rfl⟩ := dw hk
    rw [oY (by rw [hc]; exact h0), hc, h0]
    have H0 := ag h0
    have i0 : (0 : Int) ≤ (j : Int) := by omega
    have i1 : (j : Int) < 8 := by omega
    clear hc h0 hm
    go_enter Tryz.func82, Tryz.ntmps82
    go_wp2_with fail
    refine (cK _ _).mono ?_
    rintro e w' ⟨rfl, rfl⟩
    rw [hk]
    clear hk
    go_wp2_with fail
    refine (fi t s _ hs).mono ?_
    rintro e w1 ⟨rfl, hkp⟩
    rw [ae H0]
    have b0 : w1.cell? ⟨w.heap.size, 0, none⟩ = some (.bool t) := hkp.cell (by simp) (by simp)
    have b1 : w1.cell? ⟨w.heap.size, 1, none⟩ = some (.string s) := hkp.cell (by simp) (by simp)
    have hkp1 := ((Kp.refl [] w).alloc (.cells #[.bool t, .string s] 24)).trans0 hkp
    have hd1 := (ae HD).kp0 hkp1
    have c1 := hd1.ncell1 hj
    have c2 := hd1.ncell2 hj
    have c3 := hd1.ncell3 hj
    have f1 := hd1.frozen (2 + j * 4 + 1)
    have f2 := hd1.frozen (2 + j * 4 + 2)
    have f3 := hd1.frozen (2 + j * 4 + 2 + 1)
    have hne : db ≠ w.heap.size := by omega
    have HD1 := ag hd1
    have HK1 := ag hkp1
    clear hd1 hkp hkp1 qm em
    go_wp2_with fail
    go_region
    all_goals
     go_wp2_with fail
     go_ret
     refine ⟨rfl, ((ae HD1).kp0 (Kp.refl [] w1).drew).write hj t s, ?_⟩
     exact ((((ae HK1).mono (T := [db]) (by simp)).drew.setCell (.inl (by simp)) _).setCell (.inl (by simp)) _).setCell (.inl (by simp)) _
   ·rw [fS (by rw [hc]; exact h0), hc]
    clear hc hm
    go_enter Tryz.func82, Tryz.ntmps82
    go_wp2_with fail
    refine (cK _ _).mono ?_
    rintro e w' ⟨rfl, rfl⟩
    rw [hk]
    clear hk
    go_wp2_with fail
    refine (fi t s _ hs).mono ?_
    rintro e w1 ⟨rfl, hkp⟩
    have hkp1 := ((Kp.refl [] w).alloc (.cells #[.bool t, .string s] 24)).trans0 hkp
    have HK1 := ag hkp1
    clear hkp hkp1 qm em
    generalize hcc : chk t s = c at *
    have HCC := ag hcc
    clear hcc
    go_wp2_with fail
    go_ret
    exact ⟨bu (ae HCC).symm, (ae HD).kp0 (ae HK1), (ae HK1).mono (by simp)⟩
 ·have hk2 : aN k = false := by simpa using hk
  have hc : dpc md k t s = 1 := by unfold dpc; rw [if_neg hk]
  rw [fS (by rw [hc]; decide), hc]
  clear hc hk
  go_enter Tryz.func82, Tryz.ntmps82
  go_wp2_with fail
  refine (cK _ _).mono ?_
  rintro e w' ⟨rfl, rfl⟩
  rw [hk2]
  clear hk2
  go_wp2_with fail
  go_ret
  exact ⟨rfl, (ae HD).kp0 ((Kp.refl [] w).alloc _), ((Kp.refl [] w).alloc _).mono (by simp)⟩
def xu (L : List Ver × Int × List Int) (w : World) (db : Nat) (md y : Int) (ws : List Ver) (e : Ending) (w' : World) : Prop :=
 ∃ a cap, e = .returned (.tuple #[.slice a L.1.length cap, .int .i64 L.2.1]) ∧ w'.ownsRow w.heap.size 98 3 (.slice a L.1.length cap) L.1.length (aw L.1) ∧ Ded w' db md y L.2.2 ws ∧ Kp [db] w w'
theorem gI {L : List Ver × Int × List Int} {w w' : World} {db : Nat} {md y : Int} {ws : List Ver} (acc : List Ver) (code : Int) (rs : List Int) (a : Option Addr) (cap : Nat) (h : L = (acc, code, rs)) (ho : w'.ownsRow w.heap.size 98 3 (.slice a acc.length cap) acc.length (aw acc))
 (hd : Ded w' db md y rs ws) (hk : Kp [db] w w') : xu L w db md y ws (.returned (.tuple #[.slice a acc.length cap, .int .i64 code])) w' := by
 subst h; exact ⟨a, cap, rfl, ho, hd, hk⟩
structure DlI (R : List Ver × Int × List Int) (w : World) (db : Nat) (md y : Int) (f : Nat → List Ver) (n : Nat) (ws : List Ver) (t k : Nat) (acc : List Ver) (rs : List Int) (a : Option Addr) (cap : Nat) (wr : World) : Prop where
 goes : dgo f n y ws k (t + 1 - k) acc rs = R
 own : wr.ownsRow w.heap.size 98 3 (.slice a acc.length cap) acc.length (aw acc)
 ded : Ded wr db md y rs ws
 kp : Kp [db] w wr
 len : acc.length ≤ k
 lt : db < w.heap.size
section
variable {R : List Ver × Int × List Int} {w wr w1 W w2 : World} {db : Nat} {md y : Int} {f : Nat → List Ver} {n : Nat} {ws : List Ver} {t k : Nat} {acc : List Ver} {rs : List Int} {a : Option Addr} {cap : Nat}
theorem DlI.own1 (h : DlI R w db md y f n ws t k acc rs a cap wr) (hk : Kp [db] wr w1) : w1.ownsRow w.heap.size 98 3 (.slice a acc.length cap) acc.length (aw acc) :=
 dt h.own hk (fun g hg => by have := es h.own hg; have := h.lt; simp; omega)
theorem DlI.skip (h : DlI R w db md y f n ws t k acc rs a cap wr) (hk : k ≤ t) (hw : Kp [db] wr w1) (hd : Ded w1 db md y (dr f n y rs ws k) ws)
 (h0 : (dg f n y ws k).a = 0) (ht : ¬ (dg f n y ws k).t = true) : DlI R w db md y f n ws t (k + 1) acc (dr f n y rs ws k) a cap w1 :=
 ⟨by have := h.goes; rw [show t + 1 - k = (t + 1 - (k + 1)) + 1 by omega] at this; exact mG this h0 ht, h.own1 hw, hd, h.kp.trans hw (by simp), by have := h.len; omega, h.lt⟩
theorem DlI.more (h : DlI R w db md y f n ws t k acc rs a cap wr) (hk : k ≤ t) (hw : Kp [db] wr W) (hd : Ded W db md y (dr f n y rs ws k) ws)
 (h0 : (dg f n y ws k).a = 0) (ht : (dg f n y ws k).t = true) {g2 cap2 : Nat} (hown : w2.ownsRow w.heap.size 98 3 (.slice (some ⟨g2, 0, none⟩) (acc.length + 1) cap2) (acc.length + 1) (aw acc ++ [.int .i64 k, .bool true, .string (dg f n y ws k).s]))
 (hgrow : W.grownBy w2 (Value.slice a acc.length cap).ownBlock) : DlI R w db md y f n ws t (k + 1) (acc ++ [⟨k, (dg f n y ws k).t, (dg f n y ws k).s⟩]) (dr f n y rs ws k) (some ⟨g2, 0, none⟩) cap2 w2 := by
 have hkp : Kp [db] w w2 := (h.kp.trans hw (by simp)).grown hgrow (fun g hg => .inr (es h.own hg))
 refine ⟨by have := h.goes; rw [show t + 1 - k = (t + 1 - (k + 1)) + 1 by omega] at this; exact mH this h0 ht, ?_, ?_, hkp, by have := h.len; simp; omega, h.lt⟩
 ·have hv : aw acc ++ [.int .i64 k, .bool true, .string (dg f n y ws k).s] = aw (acc ++ [⟨k, (dg f n y ws k).t, (dg f n y ws k).s⟩]) := by rw [bk, ht]; rfl
  rw [hv] at hown
  simpa using hown
 ·unfold Ded at hd ⊢
  rw [hgrow.block db (ah hd) (fun e => by have := es h.own e.symm; have := h.lt; omega)]
  exact hd
end
theorem td {f : Nat → List Ver} {n : Nat} {y : Int} {ws : List Ver} {rs : List Int} {p t : Nat} (hf : aN p = true) (ht : aN t = true) : dls f n y ws rs p t = dgo f n y ws p (t + 1 - p) [] rs := by
 unfold dls
 rw [if_pos ⟨hf, ht⟩, Int.toNat_natCast]
 congr 1
 omega
theorem iH {f : Nat → List Ver} {n : Nat} {y : Int} {ws : List Ver} {rs : List Int} {p t : Int} (h : ¬ (aN p = true ∧ aN t = true)) : dls f n y ws rs p t = ([], 1, rs) := by
 unfold dls
 rw [if_neg h]
theorem vV {B tb n db : Nat} {F : List Nat} {f : Nat → List Ver} {md y : Int} {rs : List Int} {ws : List Ver} (fr to_ : Int) (w : World) (h : Tbl B w tb F f n) (hd : Ded w db md y rs ws) (hF : db ∉ F) :
 Calls Tryz.prog 83 #[.pointer (some ⟨db, 0, none⟩), .pointer (some ⟨tb, 0, none⟩), .int .i64 fr, .int .i64 to_] w fun e w' => xu (dls f n y ws rs fr to_) w db md y ws e w' := by
 obtain ⟨in0, hi0, hz0, hz1, hz2⟩ := info_parts Tryz.info98
 have HT := ag h
 have HD := ag hd
 have HF := ag hF
 clear h hd hF
 by_cases hf : aN fr = true
 ·by_cases ht : aN to_ = true
  ·obtain ⟨p, hp, rfl⟩ := dw hf
   obtain ⟨t, ht8, rfl⟩ := dw ht
   have H0 : Hid (DlI (dls f n y ws rs p t) w db md y f n ws t p [] rs none 0 w) := ⟨(td hf ht).symm, World.ownsRow_nil _ _ _ _, ae HD, Kp.refl _ _, by simp, (ae HD).lt⟩
   generalize dls f n y ws rs p t = R at *
   go_enter Tryz.func83, Tryz.ntmps83
   go_wp2_with fail
   refine (cK _ _).mono ?_
   rintro e w' ⟨rfl, hw'⟩
   subst w'
   rw [hf]
   go_wp2_with fail
   refine (cK _ _).mono ?_
   rintro e w' ⟨rfl, hw'⟩
   subst w'
   rw [ht]
   clear hf ht
   go_wp2_with fail
   go_loopw [10, 11] (fun s i wr => ∃ (k : Nat) (acc : List Ver) (rk : List Int) (a : Option Addr) (cap : Nat), k ≤ 8 ∧ s = .slice a acc.length cap ∧ i = .int .i64 k ∧ Hid (DlI R w db md y f n ws t k acc rk a cap wr)) (fun _ i _ => 8 - (intOf i).toNat)
   case atStart => exact ⟨p, [], rs, none, 0, by omega, rfl, rfl, H0⟩
   case round =>
    obtain ⟨k, acc, rk, a, cap, hk, rfl, rfl, HL⟩ := hrel
    by_cases hlt : k ≤ t
    ·have j0 : (k : Int) ≤ (t : Int) := by omega
     go_wp2_with fail
     refine (ti k _ ((ae HT).kp1 (ae HL).kp (ae HF)) (ae HL).ded).mono ?_
     rintro e w1 ⟨rfl, hd1, hk1⟩
     have HK1 := ag hk1
     have HD1 := ag hd1
     clear hk1 hd1
     by_cases h0 : (dg f n y ws k).a = 0
     ·have H00 := ag h0
      rw [h0]
      clear h0
      by_cases h1 : (dg f n y ws k).t = true
      ·have H1 := ag h1
       rw [h1]
       have hOW := ag ((ae HL).own1 (((ae HK1).alloc (.cells #[.bool true, .string (dg f n y ws k).s] 24)).alloc (.cells #[.int .i64 k, .bool true, .string (dg f n y ws k).s] 98)))
       have hal := (ae HL).len
       have hwl := ((ae HL).kp.trans (ae HK1) (by simp)).size
       go_wp2_with (at_builtin; refine wpList_append_lies _ rfl _ _ 41 rfl w.heap.size 98 in0 _ 3 32 Tryz.underlying41 hi0 hz0 hz1 hz2 rfl (by omega) (.slice a acc.length cap) acc.length (aw acc) rfl (ae hOW) ⟨w1.heap.size + 1, 0, none⟩ 1 1 [.int .i64 k, .bool true, .string (dg f n y ws k).s] (by rfl) (by rfl) (World.news_of_block (cs := #[.int .i64 k, .bool true, .string (dg f n y ws k).s]) (t := 98) (fr := (0, 0)) (by have := heap_alloc_new (w1.alloc (.cells #[.bool true, .string (dg f n y ws k).s] 24)) (.cells #[.int .i64 k, .bool true, .string (dg f n y ws k).s] 98); simpa using this)) (by simp [Value.oneCell']) (by omega) (by unfold maxLen; omega) (by omega) (by simp; omega) _ rfl ?_; intro g2 cap2 w2 hown hgrow hat hlt2)
       have HL2 := ag ((ae HL).more hlt (((ae HK1).alloc _).alloc _) ((ae HD1).kp0 (((Kp.refl [] w1).alloc _).alloc _)) (ae H00) (ae H1) hown hgrow)
       clear hown hgrow hat
       go_wp2_with fail
       exact ⟨⟨k + 1, _, _, _, _, by omega, by simp, by go_num, HL2⟩, by simp [intOf]; omega⟩
      ·have HL2 := ag ((ae HL).skip hlt ((ae HK1).alloc (.cells #[.bool (dg f n y ws k).t, .string (dg f n y ws k).s] 24)) ((ae HD1).kp0 ((Kp.refl [] w1).alloc _)) (ae H00) h1)
       have h1' : (dg f n y ws k).t = false := by simpa using h1
       rw [h1'] at HL2 ⊢
       clear h1 h1'
       go_wp2_with fail
       exact ⟨⟨k + 1, acc, _, a, cap, by omega, rfl, by go_num, HL2⟩, by simp [intOf]; omega⟩
     ·have hg := (ae HL).goes
      rw [show t + 1 - k = (t - k) + 1 by omega] at hg
      have hst := mF hg h0
      clear hg
      have HST := ag hst
      have HK2 := ag (((ae HL).kp.trans (ae HK1) (by simp)).alloc (.cells #[.bool (dg f n y ws k).t, .string (dg f n y ws k).s] 24))
      have HD2 := ag ((ae HD1).kp0 ((Kp.refl [] w1).alloc (.cells #[.bool (dg f n y ws k).t, .string (dg f n y ws k).s] 24)))
      clear hst
      generalize (dg f n y ws k).a = q at *
      generalize (dg f n y ws k).t = qt at *
      generalize (dg f n y ws k).s = qs at *
      go_wp2_with fail
      go_ret2
      exact gI [] _ _ none 0 (ae HST) (World.ownsRow_nil _ _ _ _) (ae HD2) (ae HK2)
    ·have j0 : ¬ (k : Int) ≤ (t : Int) := by omega
     have hst := pk (ae HL).goes (by omega)
     have HST := ag hst
     clear hst
     go_wp2_with fail
     go_ret2
     exact gI acc 0 _ a cap (ae HST) (ae HL).own (ae HL).ded (ae HL).kp
  ·have HE1 := ag (iH (f := f) (n := n) (y := y) (ws := ws) (rs := rs) (p := fr) (t := to_) (fun h => ht h.2))
   have ht2 : aN to_ = false := by simpa using ht
   clear ht
   go_enter Tryz.func83, Tryz.ntmps83
   go_wp2_with fail
   refine (cK _ _).mono ?_
   rintro e w' ⟨rfl, rfl⟩
   rw [hf]
   go_wp2_with fail
   refine (cK _ _).mono ?_
   rintro e w' ⟨rfl, rfl⟩
   rw [ht2]
   go_wp2_with fail
   go_ret2
   exact gI [] 1 _ none 0 (ae HE1) (World.ownsRow_nil _ _ _ _) (ae HD) (Kp.refl _ _)
 ·have HE1 := ag (iH (f := f) (n := n) (y := y) (ws := ws) (rs := rs) (p := fr) (t := to_) (fun h => hf h.1))
  have hf2 : aN fr = false := by simpa using hf
  clear hf
  go_enter Tryz.func83, Tryz.ntmps83
  go_wp2_with fail
  refine (cK _ _).mono ?_
  rintro e w' ⟨rfl, rfl⟩
  rw [hf2]
  go_wp2_with fail
  go_ret2
  exact gI [] 1 _ none 0 (ae HE1) (World.ownsRow_nil _ _ _ _) (ae HD) (Kp.refl _ _)
def ig (l : List Int) (k : Nat) : Int := l.getD k 0
def SlI (w : World) (a : Option Addr) (l : List Int) : Prop := 0 < l.length → ∃ g o, a = some ⟨g, o, none⟩ ∧ ∀ j, j < l.length → w.cell? ⟨g, o + j, none⟩ = some (.int .i64 (ig l j))
theorem SlI.kp0 {w w' : World} {a : Option Addr} {l : List Int} (h : SlI w a l) (hk : Kp [] w w') : SlI w' a l := fun hp => by
 obtain ⟨g, o, e, hs⟩ := h hp
 exact ⟨g, o, e, fun j hj => hk.cell (p := ⟨g, o + j, none⟩) (by simp) (hs j hj)⟩
theorem pY {l : List Int} {j : Nat} (h : j < l.length) : (dB l)[j]? = some (.int .i64 (ig l j)) := by
 simp [dB, ig, List.getD_eq_getElem?_getD, h]
theorem uO {B n : Nat} {w : World} {a : Option Addr} {cap : Nat} {l : List Int} (h : w.ownsRow B 3 1 (.slice a n cap) n (dB l)) (hn : n = l.length) : SlI w a l := by
 intro hp
 rcases h.2 with ⟨e, _⟩ | ⟨g, c, cur, e, _⟩
 ·simp only [Value.slice.injEq] at e; omega
 ·simp only [Value.slice.injEq] at e
  obtain ⟨rfl, _, _⟩ := e
  refine ⟨g, 0, rfl, fun j hj => ?_⟩
  subst hn
  have := h.cellAt j (by omega)
  rw [Nat.zero_add, this]; exact pY hj
theorem sf {l : List Int} {x : Int} : x ∈ l ↔ ∃ j, j < l.length ∧ ig l j = x := by
 constructor
 ·intro h
  obtain ⟨j, hj, e⟩ := List.mem_iff_getElem.1 h
  exact ⟨j, hj, by simp [ig, List.getD_eq_getElem?_getD, hj, e]⟩
 ·rintro ⟨j, hj, e⟩
  refine List.mem_iff_getElem.2 ⟨j, hj, ?_⟩
  simpa [ig, List.getD_eq_getElem?_getD, hj] using e
structure dM (B : Nat) (w : World) (wb : Nat) (H : List Nat) (ra : Option Addr) (rc : Nat) (wa : Option Addr) (wc : Nat) (md y : Int) (rs : List Int) (ws : List Ver) : Prop where
 box : w.heap[wb]? = some (.cells #[.int .i64 md, .int .i64 y, .slice ra rs.length rc, .slice wa ws.length wc] 151 (0, 0))
 ro : w.ownsRow B 3 1 (.slice ra rs.length rc) rs.length (dB rs)
 wo : w.ownsRow B 98 3 (.slice wa ws.length wc) ws.length (aw ws)
 rb : ∀ g, (Value.slice ra rs.length rc).ownBlock = some g → g ≠ wb ∧ g ∈ H
 ab : ∀ g, (Value.slice wa ws.length wc).ownBlock = some g → g ≠ wb ∧ g ∈ H
 rw : ∀ g g', (Value.slice ra rs.length rc).ownBlock = some g → (Value.slice wa ws.length wc).ownBlock = some g' → g ≠ g'
 bH : wb ∈ H
 lo : ∀ x, x ∈ H → B ≤ x ∧ x < w.heap.size
def Wrk (B : Nat) (w : World) (wb : Nat) (H : List Nat) (md y : Int) (rs : List Int) (ws : List Ver) : Prop := ∃ ra rc wa wc, dM B w wb H ra rc wa wc md y rs ws
section
variable {B : Nat} {w w' : World} {wb : Nat} {H : List Nat} {ra : Option Addr} {rc : Nat} {wa : Option Addr} {wc : Nat} {md y : Int} {rs : List Int} {ws : List Ver}
theorem dM.kp {S : List Nat} (h : dM B w wb H ra rc wa wc md y rs ws) (hk : Kp S w w') (hS : ∀ x, x ∈ H → x ∉ S) : dM B w' wb H ra rc wa wc md y rs ws :=
 ⟨by rw [hk.block wb (ah h.box) (hS _ h.bH)]; exact h.box, dt h.ro hk (fun g hg => hS g (h.rb g hg).2), dt h.wo hk (fun g hg => hS g (h.ab g hg).2), h.rb, h.ab, h.rw, h.bH, fun x hx => ⟨(h.lo x hx).1, Nat.lt_of_lt_of_le (h.lo x hx).2 hk.size⟩⟩
theorem dM.kp0 (h : dM B w wb H ra rc wa wc md y rs ws) (hk : Kp [] w w') : dM B w' wb H ra rc wa wc md y rs ws := h.kp hk (fun _ _ => by simp)
theorem Wrk.kp {S : List Nat} (h : Wrk B w wb H md y rs ws) (hk : Kp S w w') (hS : ∀ x, x ∈ H → x ∉ S) : Wrk B w' wb H md y rs ws := by
 obtain ⟨ra, rc, wa, wc, h⟩ := h
 exact ⟨ra, rc, wa, wc, h.kp hk hS⟩
theorem Wrk.kp0 (h : Wrk B w wb H md y rs ws) (hk : Kp [] w w') : Wrk B w' wb H md y rs ws := h.kp hk (fun _ _ => by simp)
theorem Wrk.lo (h : Wrk B w wb H md y rs ws) : ∀ x, x ∈ H → B ≤ x ∧ x < w.heap.size := by
 obtain ⟨ra, rc, wa, wc, h⟩ := h
 exact h.lo
theorem dM.c0 (h : dM B w wb H ra rc wa wc md y rs ws) : w.cell? ⟨wb, 0, none⟩ = some (.int .i64 md) := af h.box rfl
theorem dM.c1 (h : dM B w wb H ra rc wa wc md y rs ws) : w.cell? ⟨wb, 1, none⟩ = some (.int .i64 y) := af h.box rfl
theorem dM.c2 (h : dM B w wb H ra rc wa wc md y rs ws) : w.cell? ⟨wb, 2, none⟩ = some (.slice ra rs.length rc) := af h.box rfl
theorem dM.c3 (h : dM B w wb H ra rc wa wc md y rs ws) : w.cell? ⟨wb, 3, none⟩ = some (.slice wa ws.length wc) := af h.box rfl
theorem dM.rsl (h : dM B w wb H ra rc wa wc md y rs ws) : SlI w ra rs := uO h.ro rfl
theorem dM.wsl (h : dM B w wb H ra rc wa wc md y rs ws) : SlO w wa ws := dE h.wo rfl
end
theorem vv {ws : List Ver} {k : Int} {i : Nat} (h : va ws i = k) : lw ws k (i + 1) = some ⟨k, vt ws i, vb ws i⟩ := by simp only [lw]; rw [if_pos h]
theorem vu {ws : List Ver} {k : Int} {i : Nat} (h : ¬ va ws i = k) : lw ws k (i + 1) = lw ws k i := by simp only [lw]; rw [if_neg h]
theorem gp {B wb : Nat} {H : List Nat} {md y : Int} {rs : List Int} {ws : List Ver} (k : Int) (w : World) (h : Wrk B w wb H md y rs ws) (hm : ws.length ≤ 1000) :
 Calls Tryz.prog 91 #[.pointer (some ⟨wb, 0, none⟩), .int .i64 k] w fun e w' => e = .returned (.tuple #[.agg #[.bool ((lwr ws k).getD dv).t, .string ((lwr ws k).getD dv).s], .bool (lwr ws k).isSome]) ∧ Kp [] w w' := by
 obtain ⟨ra, rc, wa, wc, h⟩ := h
 have hlt := ah h.box
 have q3 := h.c3
 have HS := ag h.wsl
 clear h
 go_enter Tryz.func91, Tryz.ntmps91
 go_wp2_with fail
 go_loop [6] (fun i => ∃ d : Nat, d ≤ ws.length ∧ i = .int .i64 ((d : Int) - 1) ∧ Hid (lw ws k d = lwr ws k)) (fun i => (intOf i + 1).toNat)
 case atStart => exact ⟨ws.length, Nat.le_refl _, rfl, rfl⟩
 case round =>
  obtain ⟨d, hd, rfl, HE⟩ := hrel
  by_cases hd0 : 0 < d
  ·obtain ⟨c, rfl⟩ : ∃ c, d = c + 1 := ⟨d - 1, by omega⟩
   have hc1 : ((c + 1 : Nat) : Int) - 1 = (c : Int) := by omega
   rw [hc1]
   obtain ⟨g, o, rfl, hs⟩ := ae HS (by omega)
   have p0 := hs.at0 c (by omega)
   have p1 := hs.at1 c (by omega)
   have p2 : w.cell? ⟨g, o + c * 3 + 1 + 1, none⟩ = some (.string (vb ws c)) := hs.at2 c (by omega)
   have hgl := hs.lt (by omega)
   have i0 : (0 : Int) ≤ (c : Int) := by omega
   have i1 : (c : Int) < (ws.length : Int) := by omega
   clear hs
   by_cases hx : va ws c = k
   ·have HV := ag ((ae HE).symm.trans (vv hx))
    rw [hx] at p0
    clear hx
    go_wp2
    refine bodyPost_ret (v := .tuple #[.agg #[.bool (vt ws c), .string (vb ws c)], .bool true]) (by simp [results, Tryz.results91, go_sem]) rfl ⟨by rw [ae HV]; rfl, ?_⟩
    exact (Kp.refl [] w).alloc _
   ·have HE2 := ag ((vu hx).symm.trans (ae HE))
    have ex : (va ws c == k) = false := beq_eq_false_iff_ne.2 hx
    clear hx
    go_wp2
    exact ⟨⟨c, by omega, by go_num, HE2⟩, by simp [intOf]⟩
  ·have e : d = 0 := by omega
   subst e
   have HV : Hid (lwr ws k = none) := (ae HE).symm
   go_wp2
   refine bodyPost_ret (v := .tuple #[.agg #[.bool false, .string ByteArray.empty], .bool false]) (by simp [results, Tryz.results91, go_sem]; rfl) rfl ⟨by rw [ae HV]; rfl, ?_⟩
   exact (Kp.refl [] w).alloc _
section
variable {B : Nat} {W w2 : World} {wb : Nat} {H : List Nat} {ra : Option Addr} {rc : Nat} {wa : Option Addr} {wc : Nat} {md y : Int} {rs : List Int} {ws : List Ver} {g2 cap2 : Nat}
theorem qN {k : Int} (h : dM B W wb H ra rc wa wc md y rs ws) (hown : w2.ownsRow B 3 1 (.slice (some ⟨g2, 0, none⟩) (rs.length + 1) cap2) (rs.length + 1) (dB rs ++ [.int .i64 k]))
 (hg : W.grownBy w2 (Value.slice ra rs.length rc).ownBlock) (hat : (Value.slice ra rs.length rc).ownBlock = some g2 ∨ g2 = W.heap.size) (hlt : g2 < w2.heap.size) :
 dM B (w2.setCell ⟨wb, 2, none⟩ (.slice (some ⟨g2, 0, none⟩) (rs.length + 1) cap2)) wb (g2 :: H) (some ⟨g2, 0, none⟩) cap2 wa wc md y (rs ++ [k]) ws ∧ Kp H W (w2.setCell ⟨wb, 2, none⟩ (.slice (some ⟨g2, 0, none⟩) (rs.length + 1) cap2)) ∧ (g2 ∈ H ∨ g2 = W.heap.size) := by
 have hwl := ah h.box
 have hwB := h.lo wb h.bH
 have hne : g2 ≠ wb := by
  rcases hat with e | e
  ·exact (h.rb g2 e).1
  ·omega
 have hin : g2 ∈ H ∨ g2 = W.heap.size := by
  rcases hat with e | e
  ·exact .inl (h.rb g2 e).2
  ·exact .inr e
 have hbox : w2.heap[wb]? = some (.cells #[.int .i64 md, .int .i64 y, .slice ra rs.length rc, .slice wa ws.length wc] 151 (0, 0)) := by
  rw [hg.block wb hwl (fun e => (h.rb wb e.symm).1 rfl)]; exact h.box
 have hkH : Kp H W w2 := (Kp.refl H W).grown hg (fun x hx => .inl (h.rb x hx).2)
 have hks : Kp [wb] w2 (w2.setCell ⟨wb, 2, none⟩ (.slice (some ⟨g2, 0, none⟩) (rs.length + 1) cap2)) := (Kp.refl _ _).setCell (.inl (by simp)) _
 have hsz := hks.size
 have hsz2 := hg.size
 refine ⟨⟨?_, ?_, ?_, ?_, fun g hg2 => ⟨(h.ab g hg2).1, List.mem_cons_of_mem _ (h.ab g hg2).2⟩, ?_, List.mem_cons_of_mem _ h.bH, fun x hx => ?_⟩, hkH.trans hks (by simp; exact .inl h.bH), hin⟩
 ·rw [an 2 _ hbox, List.length_append]; rfl
 ·rw [List.length_append]
  have e : dB rs ++ [.int .i64 k] = dB (rs ++ [k]) := by rw [jK]; rfl
  rw [e] at hown
  refine dt hown hks (fun g hg2 => ?_)
  have : g2 = g := by simpa [Value.ownBlock] using hg2
  simp; omega
 ·refine dt (dt h.wo (S := (Value.slice ra rs.length rc).ownBlock.toList) ((Kp.refl _ W).grown hg (fun x hx => .inl (by simp [hx]))) (fun g hg2 hm => ?_)) hks (fun g hg2 => by have := (h.ab g hg2).1; simp; omega)
  exact h.rw g g (by simpa using hm) hg2 rfl
 ·intro g hg2
  have : g2 = g := by simpa [Value.ownBlock] using hg2
  subst this
  exact ⟨hne, by simp⟩
 ·intro g g' hg2 hg3
  have : g2 = g := by simpa [Value.ownBlock] using hg2
  subst this
  rcases hat with e | e
  ·exact h.rw _ _ e hg3
  ·have := (h.lo g' (h.ab g' hg3).2).2; omega
 ·rcases List.mem_cons.1 hx with e | e
  ·subst e
   refine ⟨?_, by omega⟩
   rcases hin with q | q
   ·exact (h.lo _ q).1
   ·omega
  ·have := h.lo x e; omega
theorem pD {k : Int} {t : Bool} {s : ByteArray} (h : dM B W wb H ra rc wa wc md y rs ws) (hown : w2.ownsRow B 98 3 (.slice (some ⟨g2, 0, none⟩) (ws.length + 1) cap2) (ws.length + 1) (aw ws ++ [.int .i64 k, .bool t, .string s]))
 (hg : W.grownBy w2 (Value.slice wa ws.length wc).ownBlock) (hat : (Value.slice wa ws.length wc).ownBlock = some g2 ∨ g2 = W.heap.size) (hlt : g2 < w2.heap.size) :
 dM B (w2.setCell ⟨wb, 3, none⟩ (.slice (some ⟨g2, 0, none⟩) (ws.length + 1) cap2)) wb (g2 :: H) ra rc (some ⟨g2, 0, none⟩) cap2 md y rs (ws ++ [⟨k, t, s⟩]) ∧ Kp H W (w2.setCell ⟨wb, 3, none⟩ (.slice (some ⟨g2, 0, none⟩) (ws.length + 1) cap2)) ∧ (g2 ∈ H ∨ g2 = W.heap.size) := by
 have hwl := ah h.box
 have hwB := h.lo wb h.bH
 have hne : g2 ≠ wb := by
  rcases hat with e | e
  ·exact (h.ab g2 e).1
  ·omega
 have hin : g2 ∈ H ∨ g2 = W.heap.size := by
  rcases hat with e | e
  ·exact .inl (h.ab g2 e).2
  ·exact .inr e
 have hbox : w2.heap[wb]? = some (.cells #[.int .i64 md, .int .i64 y, .slice ra rs.length rc, .slice wa ws.length wc] 151 (0, 0)) := by
  rw [hg.block wb hwl (fun e => (h.ab wb e.symm).1 rfl)]; exact h.box
 have hkH : Kp H W w2 := (Kp.refl H W).grown hg (fun x hx => .inl (h.ab x hx).2)
 have hks : Kp [wb] w2 (w2.setCell ⟨wb, 3, none⟩ (.slice (some ⟨g2, 0, none⟩) (ws.length + 1) cap2)) := (Kp.refl _ _).setCell (.inl (by simp)) _
 have hsz := hks.size
 have hsz2 := hg.size
 refine ⟨⟨?_, ?_, ?_, fun g hg2 => ⟨(h.rb g hg2).1, List.mem_cons_of_mem _ (h.rb g hg2).2⟩, ?_, ?_, List.mem_cons_of_mem _ h.bH, fun x hx => ?_⟩, hkH.trans hks (by simp; exact .inl h.bH), hin⟩
 ·rw [an 3 _ hbox, List.length_append]; rfl
 ·refine dt (dt h.ro (S := (Value.slice wa ws.length wc).ownBlock.toList) ((Kp.refl _ W).grown hg (fun x hx => .inl (by simp [hx]))) (fun g hg2 hm => ?_)) hks (fun g hg2 => by have := (h.rb g hg2).1; simp; omega)
  exact h.rw g g hg2 (by simpa using hm) rfl
 ·rw [List.length_append]
  have e : aw ws ++ [.int .i64 k, .bool t, .string s] = aw (ws ++ [⟨k, t, s⟩]) := by rw [bk]; rfl
  rw [e] at hown
  refine dt hown hks (fun g hg2 => ?_)
  have : g2 = g := by simpa [Value.ownBlock] using hg2
  simp; omega
 ·intro g hg2
  have : g2 = g := by simpa [Value.ownBlock] using hg2
  subst this
  exact ⟨hne, by simp⟩
 ·intro g g' hg2 hg3
  have : g2 = g' := by simpa [Value.ownBlock] using hg3
  subst this
  rcases hat with e | e
  ·exact h.rw _ _ hg2 e
  ·have := (h.lo g (h.rb g hg2).2).2; omega
 ·rcases List.mem_cons.1 hx with e | e
  ·subst e
   refine ⟨?_, by omega⟩
   rcases hin with q | q
   ·exact (h.lo _ q).1
   ·omega
  ·have := h.lo x e; omega
end
def pz (B : Nat) (w : World) (wb : Nat) (H : List Nat) (md y : Int) (rs : List Int) (ws : List Ver) (v : Value) (e : Ending) (w' : World) : Prop :=
 e = .returned v ∧ ∃ H', Wrk B w' wb H' md y rs ws ∧ Kp H w w' ∧ ∀ x, x ∈ H' → x ∈ H ∨ w.heap.size ≤ x
theorem ey {B : Nat} {w w' : World} {wb : Nat} {H : List Nat} {md y : Int} {rs : List Int} {ws : List Ver} {v : Value} {e : Ending} (he : e = .returned v) (h : Wrk B w wb H md y rs ws) (hk : Kp [] w w') : pz B w wb H md y rs ws v e w' :=
 ⟨he, H, h.kp0 hk, hk.mono (by simp), fun _ hx => .inl hx⟩
def Two (w : World) (p : Nat) (t : Bool) (s : ByteArray) : Prop := w.heap[p]? = some (.cells #[.bool t, .string s] 24 (0, 0))
section
variable {w w' : World} {p : Nat} {t : Bool} {s : ByteArray}
theorem Two.kp {S : List Nat} (h : Two w p t s) (hk : Kp S w w') (hS : p ∉ S) : Two w' p t s := by
 unfold Two at h ⊢
 rw [hk.block p (ah h) hS]; exact h
theorem Two.kp0 (h : Two w p t s) (hk : Kp [] w w') : Two w' p t s := h.kp hk (by simp)
theorem Two.c0 (h : Two w p t s) : w.cell? ⟨p, 0, none⟩ = some (.bool t) := af h rfl
theorem Two.c1 (h : Two w p t s) : w.cell? ⟨p, 1, none⟩ = some (.string s) := af h rfl
theorem Two.f0 (h : Two w p t s) : w.frozen? ⟨p, 0, none⟩ = false := ak 0 h
theorem Two.f1 (h : Two w p t s) : w.frozen? ⟨p, 1, none⟩ = false := ak 1 h
theorem Two.lt (h : Two w p t s) : p < w.heap.size := ah h
theorem Two.grown {ob : Option Nat} (h : Two w p t s) (hg : w.grownBy w' ob) (hne : some p ≠ ob) : Two w' p t s := by
 unfold Two at h ⊢
 rw [hg.block p (ah h) hne]; exact h
end
theorem kE (w : World) (t : Bool) (s : ByteArray) : Two (w.alloc (.cells #[.bool t, .string s] 24)) w.heap.size t s := heap_alloc_new w _
theorem vP {B : Nat} {w2 w3 : World} {wb : Nat} {H : List Nat} {ra : Option Addr} {rc : Nat} {wa : Option Addr} {wc : Nat} {md y : Int} {rs : List Int} {ws : List Ver} {R : Nat} {t : Bool} {s : ByteArray} {o : Obj}
 (h : dM B w2 wb H ra rc wa wc md y rs ws) (hR : Two w2 R false ⟨#[]⟩) (hRH : R ∉ H) (hg : ((w2.alloc (.cells #[.bool t, .string s] 24)).alloc o).grownBy w3 (Value.slice ra rs.length rc).ownBlock) :
 w3.cell? ⟨wb, 2, none⟩ = some (.slice ra rs.length rc) ∧ w3.frozen? ⟨wb, 2, none⟩ = false ∧ w3.cell? ⟨w2.heap.size, 0, none⟩ = some (.bool t) ∧ w3.cell? ⟨w2.heap.size, 1, none⟩ = some (.string s) ∧
  w3.cell? ⟨R, 0, none⟩ = some (.bool false) ∧ w3.cell? ⟨R, 1, none⟩ = some (.string ⟨#[]⟩) ∧ w3.frozen? ⟨R, 0, none⟩ = false ∧ w3.frozen? ⟨R, 1, none⟩ = false := by
 have hk : Kp [] w2 ((w2.alloc (.cells #[.bool t, .string s] 24)).alloc o) := ((Kp.refl [] w2).alloc _).alloc _
 have h' := h.kp0 hk
 have hbox : w3.heap[wb]? = some (.cells #[.int .i64 md, .int .i64 y, .slice ra rs.length rc, .slice wa ws.length wc] 151 (0, 0)) := by
  rw [hg.block wb (ah h'.box) (fun e => (h.rb wb e.symm).1 rfl)]; exact h'.box
 have hv : Two w3 w2.heap.size t s := ((kE w2 t s).kp0 ((Kp.refl [] _).alloc o)).grown hg (fun e => by have := (h.lo _ (h.rb _ e.symm).2).2; omega)
 have hr : Two w3 R false ⟨#[]⟩ := (hR.kp0 hk).grown hg (fun e => hRH (h.rb _ e.symm).2)
 exact ⟨af hbox rfl, ak 2 hbox, hv.c0, hv.c1, hr.c0, hr.c1, hr.f0, hr.f1⟩
theorem qS {B : Nat} {w w2 w3 : World} {wb : Nat} {H : List Nat} {ra : Option Addr} {rc : Nat} {wa : Option Addr} {wc : Nat} {md y : Int} {rs : List Int} {ws : List Ver} {t : Bool} {s : ByteArray} {k : Int} {o : Obj} {g2 cap2 : Nat} {v : Value} {e : Ending} (he : e = .returned v)
 (h : dM B w2 wb H ra rc wa wc md y rs ws) (hH : ∀ x, x ∈ H → x < w.heap.size) (hkw : Kp [] w w2) (hlt : w.heap.size < w2.heap.size)
 (hown : w3.ownsRow B 3 1 (.slice (some ⟨g2, 0, none⟩) (rs.length + 1) cap2) (rs.length + 1) (dB rs ++ [.int .i64 k]))
 (hg : ((w2.alloc (.cells #[.bool t, .string s] 24)).alloc o).grownBy w3 (Value.slice ra rs.length rc).ownBlock) (hat : (Value.slice ra rs.length rc).ownBlock = some g2 ∨ g2 = ((w2.alloc (.cells #[.bool t, .string s] 24)).alloc o).heap.size) (hl3 : g2 < w3.heap.size) :
 pz B w wb H md y (rs ++ [k]) ws v e (((w3.setCell ⟨wb, 2, none⟩ (.slice (some ⟨g2, 0, none⟩) (rs.length + 1) cap2)).setCell ⟨w.heap.size, 0, none⟩ (.bool t)).setCell ⟨w.heap.size, 1, none⟩ (.string s)) := by
 have hk : Kp [] w2 ((w2.alloc (.cells #[.bool t, .string s] 24)).alloc o) := ((Kp.refl [] w2).alloc _).alloc _
 obtain ⟨z1, z2, z3⟩ := qN (h.kp0 hk) hown hg hat hl3
 have hsz : w2.heap.size ≤ ((w2.alloc (.cells #[.bool t, .string s] 24)).alloc o).heap.size := hk.size
 have hin : ∀ x, x ∈ g2 :: H → x ∈ H ∨ w.heap.size < x := by
  intro x hx
  rcases List.mem_cons.1 hx with e | e
  ·subst e
   rcases z3 with q | q
   ·exact .inl q
   ·right; omega
  ·exact .inl e
 refine ⟨he, g2 :: H, ⟨_, _, _, _, z1.kp (S := [w.heap.size]) (((Kp.refl _ _).setCell (.inl (by simp)) _).setCell (.inl (by simp)) _) (fun x hx => ?_)⟩, ?_, fun x hx => ?_⟩
 ·rcases hin x hx with q | q
  ·have := hH x q; simp; omega
  ·simp; omega
 ·exact ((((hkw.trans0 hk).mono (T := H) (by simp)).trans z2 (fun x hx => .inl hx)).setCell (.inr (Nat.le_refl _)) _).setCell (.inr (Nat.le_refl _)) _
 ·rcases hin x hx with q | q
  ·exact .inl q
  ·right; omega
theorem sJ {W w2 : World} {o : Obj} {ob : Option Nat} {b i : Nat} {v : Value} (hg : (W.alloc o).drew.grownBy w2 ob) (hne : some b ≠ ob)
 (q0 : W.cell? ⟨b, i, none⟩ = some v) (q1 : W.frozen? ⟨b, i, none⟩ = false) : w2.cell? ⟨b, i, none⟩ = some v ∧ w2.frozen? ⟨b, i, none⟩ = false := by
 have hb := World.block_lt_of_cell? W _ q0
 refine ⟨?_, ?_⟩
 ·rw [hg.cell_far _ (by simp; exact Nat.lt_succ_of_lt hb) hne]
  simp only [World.cell?_drew]
  rw [World.cell?_alloc_lt _ _ _ hb]; exact q0
 ·rw [hg.frozen_far _ (by simp; exact Nat.lt_succ_of_lt hb) hne]
  simp only [World.frozen?_drew]
  rw [World.frozen?_alloc_old _ _ _ (Nat.ne_of_lt hb)]; exact q1
theorem qO {B wb : Nat} {H : List Nat} {md y : Int} {rs : List Int} {ws : List Ver} (k : Int) (t : Bool) (s : ByteArray) (w : World) (hw : Wrk B w wb H md y rs ws) (hs : s.size ≤ maxLen) (hwl : ws.length ≤ 900) :
 Calls Tryz.prog 60 #[.pointer (some ⟨wb, 0, none⟩), .int .i64 k, .agg #[.bool t, .string s]] w fun e w' => pz B w wb H md y rs (dpw md ws k t s) (.int .i64 (dpc md k t s)) e w' := by
 obtain ⟨in0, hi0, hz0, hz1, hz2⟩ := info_parts Tryz.info98
 have HW := ag hw
 obtain ⟨ra, rc, wa, wc, h⟩ := hw
 have hlt := ah h.box
 have qm := h.c0
 have HL := ag h
 clear h
 by_cases hk : aN k = true
 ·by_cases hm : md = 3
  ·have hc : dpc md k t s = 3 := by unfold dpc; rw [if_pos hk, if_pos hm]
   rw [fS (by rw [hc]; decide), hc]
   clear hc
   subst hm
   go_enter Tryz.func60, Tryz.ntmps60
   go_wp2_with fail
   refine (cJ _ _).mono ?_
   rintro e w' ⟨rfl, rfl⟩
   rw [hk]
   clear hk
   go_wp2_with fail
   go_ret
   exact ey rfl (ae HW) ((Kp.refl [] w).alloc _)
  ·have hc : dpc md k t s = chk t s := by unfold dpc; rw [if_pos hk, if_neg hm]
   have em : (md == 3) = false := beq_eq_false_iff_ne.2 hm
   by_cases h0 : chk t s = 0
   ·rw [oY (by rw [hc]; exact h0), hc, h0]
    have H0 := ag h0
    clear hc h0 hm
    go_enter Tryz.func60, Tryz.ntmps60
    go_wp2_with fail
    refine (cJ _ _).mono ?_
    rintro e w' ⟨rfl, rfl⟩
    rw [hk]
    clear hk
    go_wp2_with fail
    refine (dO t s _ hs).mono ?_
    rintro e w1 ⟨rfl, hkp⟩
    rw [ae H0]
    have b0 : w1.cell? ⟨w.heap.size, 0, none⟩ = some (.bool t) := hkp.cell (by simp) (by simp)
    have b1 : w1.cell? ⟨w.heap.size, 1, none⟩ = some (.string s) := hkp.cell (by simp) (by simp)
    have hkp1 := ((Kp.refl [] w).alloc (.cells #[.bool t, .string s] 24)).trans0 hkp
    have h1 := (ae HL).kp0 hkp1
    have c3 := h1.c3
    have f3 : w1.frozen? ⟨wb, 3, none⟩ = false := ak 3 h1.box
    have hl1 := ah h1.box
    have hBb := (h1.lo wb h1.bH).1
    have hRl : w.heap.size < w1.heap.size := by have := hkp.size; simp at this; omega
    have HO := ag (ee h1.wo (((Kp.refl [] w1).alloc (.cells #[.int .i64 k, .bool t, .string s] 98)).drew))
    have HL1 := ag h1
    have HK1 := ag hkp1
    clear h1 hkp hkp1 qm em
    go_wp2_with fail
    go_region_law (refine step_append_lies _ (by rfl) _ _ 41 (by rfl) B 98 in0 _ 3 32 Tryz.underlying41 hi0 hz0 hz1 hz2 rfl (by omega) (.slice wa ws.length wc) ws.length (aw ws) (by rfl) (ae HO) ⟨w1.heap.size, 0, none⟩ 1 1 [.int .i64 k, .bool t, .string s] (by rfl) (by rfl) (World.news_of_block (cs := #[.int .i64 k, .bool t, .string s]) (t := 98) (fr := (0, 0)) (heap_alloc_new w1 _)) (by simp [Value.oneCell']) (by omega) (by unfold maxLen; omega) (by omega) (by simp; omega) (w1.heap.size + 1) (by simp) ?_; intro gg cap2 w2 hown1 hgrow hat hlt2; obtain ⟨r0, r1⟩ := sJ hgrow (fun e => ((ae HL1).ab wb e.symm).1 rfl) c3 f3; have HO1 := ag hown1; have HG1 := ag hgrow; have HA1 := ag hat; clear hown1 hgrow hat)
    all_goals
     go_wp2
     go_ret
     obtain ⟨z1, z2, z3⟩ := pD ((ae HL1).kp0 (((Kp.refl [] w1).alloc (.cells #[.int .i64 k, .bool t, .string s] 98)).drew)) (ae HO1) (ae HG1) (by rcases ae HA1 with e | e; exact .inl e; exact .inr (by simpa using e)) hlt2
     have hkw := (((ae HK1).alloc (.cells #[.int .i64 k, .bool t, .string s] 98)).drew)
     refine ⟨rfl, gg :: H, ⟨_, _, _, _, z1⟩, (hkw.mono (T := H) (by simp)).trans z2 (fun x hx => .inl hx), fun x hx => ?_⟩
     have hsz := hkw.size
     rcases List.mem_cons.1 hx with e | e
     ·subst e
      rcases z3 with q | q
      ·exact .inl q
      ·right; omega
     ·exact .inl e
   ·rw [fS (by rw [hc]; exact h0), hc]
    clear hc hm
    go_enter Tryz.func60, Tryz.ntmps60
    go_wp2_with fail
    refine (cJ _ _).mono ?_
    rintro e w' ⟨rfl, rfl⟩
    rw [hk]
    clear hk
    go_wp2_with fail
    refine (dO t s _ hs).mono ?_
    rintro e w1 ⟨rfl, hkp⟩
    have HK1 := ag (((Kp.refl [] w).alloc (.cells #[.bool t, .string s] 24)).trans0 hkp)
    clear hkp qm em
    generalize hcc : chk t s = c at *
    have HCC := ag hcc
    clear hcc
    go_wp2_with fail
    go_ret
    exact ey (bu (ae HCC).symm) (ae HW) (ae HK1)
 ·have hk2 : aN k = false := by simpa using hk
  have hc : dpc md k t s = 1 := by unfold dpc; rw [if_neg hk]
  rw [fS (by rw [hc]; decide), hc]
  clear hc hk
  go_enter Tryz.func60, Tryz.ntmps60
  go_wp2_with fail
  refine (cJ _ _).mono ?_
  rintro e w' ⟨rfl, rfl⟩
  rw [hk2]
  clear hk2
  go_wp2_with fail
  go_ret
  exact ey rfl (ae HW) ((Kp.refl [] w).alloc _)
theorem fE {B wb : Nat} {H : List Nat} {md y : Int} {rs : List Int} {ws : List Ver} (w : World) (h : Wrk B w wb H md y rs ws) (hwl : ws.length ≤ 900) : Calls Tryz.prog 64 #[.pointer (some ⟨wb, 0, none⟩)] w fun e w' => ug (wk ws 8) w e w' := by
 obtain ⟨in0, hi0, hz0, hz1, hz2⟩ := info_parts Tryz.info98
 have HW := ag h
 have H0 : Hid (jO w (wk ws 0) none 0 w) := ⟨World.ownsRow_nil _ _ _ _, Kp.refl _ _⟩
 clear h
 go_enter Tryz.func64, Tryz.ntmps64
 go_wp2_with fail
 go_loopw [3, 4] (fun s i wr => ∃ (k : Nat) (a : Option Addr) (cap : Nat), k ≤ 8 ∧ s = .slice a (wk ws k).length cap ∧ i = .int .i64 k ∧ Hid (jO w (wk ws k) a cap wr)) (fun _ i _ => 8 - (intOf i).toNat)
 case atStart => exact ⟨0, none, 0, by omega, rfl, rfl, H0⟩
 case round =>
  obtain ⟨k, a, cap, hk, rfl, rfl, HL⟩ := hrel
  by_cases hlt8 : k < 8
  ·have i1 : (k : Int) < 8 := by omega
   have hal := eN ws k
   go_wp2_with fail
   refine (gp k _ ((ae HW).kp0 (ae HL).kp) (by omega)).mono ?_
   rintro e w1 ⟨rfl, hkp⟩
   have HK1 := ag hkp
   clear hkp
   cases hv : lwr ws k with
   | some v =>
     have HN := ag (kw hv)
     simp only [Option.isSome_some, Option.getD_some]
     clear hv
     generalize wk ws k = L at *
     have hOW := ag (ee (ae HL).own (((ae HK1).alloc (.cells #[.bool v.t, .string v.s] 24)).alloc (.cells #[.int .i64 k, .bool v.t, .string v.s] 98)))
     have hwl := ((ae HL).kp.trans0 (ae HK1)).size
     go_wp2_with (at_builtin; refine wpList_append_lies _ rfl _ _ 41 rfl w.heap.size 98 in0 _ 3 32 Tryz.underlying41 hi0 hz0 hz1 hz2 rfl (by omega) (.slice a L.length cap) L.length (aw L) rfl (ae hOW) ⟨w1.heap.size + 1, 0, none⟩ 1 1 [.int .i64 k, .bool v.t, .string v.s] (by rfl) (by rfl) (World.news_of_block (cs := #[.int .i64 k, .bool v.t, .string v.s]) (t := 98) (fr := (0, 0)) (by have := heap_alloc_new (w1.alloc (.cells #[.bool v.t, .string v.s] 24)) (.cells #[.int .i64 k, .bool v.t, .string v.s] 98); simpa using this)) (by simp [Value.oneCell']) (by omega) (by unfold maxLen; omega) (by omega) (by simp; omega) _ rfl ?_; intro g2 cap2 w2 hown hgrow hat hlt2)
     have HL2 := ag ((ae HL).more (((ae HK1).alloc _).alloc _) hown hgrow)
     clear hown hgrow hat
     go_wp2_with fail
     exact ⟨⟨k + 1, some ⟨g2, 0, none⟩, cap2, by omega, by rw [ae HN]; simp, by go_num, by rw [ae HN]; exact HL2⟩, by simp [intOf]; omega⟩
   | none =>
     have HN := ag (nY hv)
     simp only [Option.isSome_none, Option.getD_none]
     clear hv
     have HL2 := ag ((ae HL).skip ((ae HK1).alloc (.cells #[.bool dv.t, .string dv.s] 24)))
     go_wp2_with fail
     exact ⟨⟨k + 1, a, cap, by omega, by rw [ae HN], by go_num, by rw [ae HN]; exact HL2⟩, by simp [intOf]; omega⟩
  ·have e : k = 8 := by omega
   subst e
   go_wp2_with fail
   go_ret
   exact ⟨a, cap, rfl, (ae HL).own, (ae HL).kp⟩
end
section
open Go.RowKit
def Ch (o' : ao) (B : Nat) (w : World) (F : List Nat) (w' : World) : Prop := ∃ F', o'.holds B w' F' ∧ Kp F w w' ∧ ∀ x, x ∈ F' → x ∈ F ∨ w.heap.size ≤ x
section
variable {w0 w w' : World} {o o1 o2 o3 : ao} {r : List ao}
theorem bi (h : Zoo w0 w (o :: r)) : ∃ F, o.holds w0.heap.size w F ∧ ∀ (o' : ao) (w' : World), Ch o' w0.heap.size w F w' → Zoo w0 w' (o' :: r) := h.head
theorem bW (h : Zoo w0 w (o1 :: o :: r)) : ∃ F, o.holds w0.heap.size w F ∧ ∀ (o' : ao) (w' : World), Ch o' w0.heap.size w F w' → Zoo w0 w' (o1 :: o' :: r) := Zoo.at_ (l1 := [o1]) h
theorem uo (h : Zoo w0 w (o1 :: o2 :: o :: r)) : ∃ F, o.holds w0.heap.size w F ∧ ∀ (o' : ao) (w' : World), Ch o' w0.heap.size w F w' → Zoo w0 w' (o1 :: o2 :: o' :: r) := Zoo.at_ (l1 := [o1, o2]) h
theorem Ch.same {o : ao} {B : Nat} {F : List Nat} (h : o.holds B w F) (hk : Kp [] w w') : Ch o B w F w' := ⟨F, o.kp h hk (fun _ _ => by simp), hk.mono (fun x hx => by simp at hx), fun x hx => .inl hx⟩
theorem Ch.trans {o' : ao} {B : Nat} {F F1 : List Nat} {w1 : World} (h2 : Kp F w w1) (h3 : ∀ x, x ∈ F1 → x ∈ F ∨ w.heap.size ≤ x) (k : Ch o' B w1 F1 w') : Ch o' B w F w' := by
 obtain ⟨F2, k1, k2, k3⟩ := k
 refine ⟨F2, k1, h2.trans k2 h3, fun x hx => ?_⟩
 rcases k3 x hx with e | e
 ·exact h3 x e
 ·exact .inr (Nat.le_trans h2.size e)
theorem Ch.to {o o' : ao} {B : Nat} {F : List Nat} {w1 : World} (h : Ch o B w F w1) (k : ∀ F1, o.holds B w1 F1 → Ch o' B w1 F1 w') : Ch o' B w F w' := by
 obtain ⟨F1, h1, h2, h3⟩ := h
 exact Ch.trans h2 h3 (k F1 h1)
theorem Ch.after {o' : ao} {B : Nat} {F : List Nat} {w1 : World} (hk : Kp [] w w1) (h : Ch o' B w1 F w') : Ch o' B w F w' := by
 obtain ⟨F1, h1, h2, h3⟩ := h
 refine ⟨F1, h1, (hk.mono (fun x hx => by simp at hx)).trans h2 (fun x hx => .inl hx), fun x hx => ?_⟩
 rcases h3 x hx with e | e
 ·exact .inl e
 ·exact .inr (Nat.le_trans hk.size e)
end
structure Vlt (B : Nat) (w : World) (vb tb gb : Nat) (F Ft Fg : List Nat) (f : Nat → List Ver) (n : Nat) (cs : List (List Ver)) (torn : List UInt8) : Prop where
 box : w.heap[vb]? = some (.cells #[.pointer (some ⟨tb, 0, none⟩), .pointer (some ⟨gb, 0, none⟩)] 71 (0, 0))
 t : Tbl B w tb Ft f n
 g : Lg B w gb Fg cs torn
 vt : vb ∉ Ft
 vg : vb ∉ Fg
 tg : ∀ x, x ∈ Ft → x ∉ Fg
 vF : vb ∈ F
 tF : ∀ x, x ∈ Ft → x ∈ F
 gF : ∀ x, x ∈ Fg → x ∈ F
 lo : ∀ x, x ∈ F → B ≤ x ∧ x < w.heap.size
section
variable {B : Nat} {w w' : World} {vb tb gb : Nat} {F Ft Fg S : List Nat} {f f' : Nat → List Ver} {n n' : Nat} {cs cs' : List (List Ver)} {torn torn' : List UInt8}
theorem Vlt.kp (h : Vlt B w vb tb gb F Ft Fg f n cs torn) (hk : Kp S w w') (hS : ∀ x, x ∈ F → x ∉ S) : Vlt B w' vb tb gb F Ft Fg f n cs torn :=
 ⟨by rw [hk.block vb (h.lo vb h.vF).2 (hS _ h.vF)]; exact h.box, h.t.kp hk (fun x hx => hS x (h.tF x hx)), h.g.kp hk (fun x hx => hS x (h.gF x hx)), h.vt, h.vg, h.tg, h.vF, h.tF, h.gF, fun x hx => ⟨(h.lo x hx).1, Nat.lt_of_lt_of_le (h.lo x hx).2 hk.size⟩⟩
theorem Vlt.kp0 (h : Vlt B w vb tb gb F Ft Fg f n cs torn) (hk : Kp [] w w') : Vlt B w' vb tb gb F Ft Fg f n cs torn := h.kp hk (fun _ _ => by simp)
theorem Vlt.base {C : Nat} (h : Vlt B w vb tb gb F Ft Fg f n cs torn) (hC : C ≤ B) : Vlt C w vb tb gb F Ft Fg f n cs torn :=
 ⟨h.box, h.t.base hC, h.g.base hC, h.vt, h.vg, h.tg, h.vF, h.tF, h.gF, fun x hx => ⟨Nat.le_trans hC (h.lo x hx).1, (h.lo x hx).2⟩⟩
theorem Vlt.c0 (h : Vlt B w vb tb gb F Ft Fg f n cs torn) : w.cell? ⟨vb, 0, none⟩ = some (.pointer (some ⟨tb, 0, none⟩)) := af h.box rfl
theorem Vlt.c1 (h : Vlt B w vb tb gb F Ft Fg f n cs torn) : w.cell? ⟨vb, 1, none⟩ = some (.pointer (some ⟨gb, 0, none⟩)) := af h.box rfl
theorem Vlt.fz (h : Vlt B w vb tb gb F Ft Fg f n cs torn) (i : Nat) : w.frozen? ⟨vb, i, none⟩ = false := ak i h.box
end
def bh (vb tb gb : Nat) (f : Nat → List Ver) (n : Nat) (cs : List (List Ver)) (torn : List UInt8) : ao where
 holds B w F := ∃ Ft Fg, Vlt B w vb tb gb F Ft Fg f n cs torn
 kp := fun ⟨Ft, Fg, h⟩ hk hS => ⟨Ft, Fg, h.kp hk hS⟩
 lo := fun ⟨_, _, h⟩ => h.lo
 base := fun ⟨Ft, Fg, h⟩ hC => ⟨Ft, Fg, h.base hC⟩
section
variable {B : Nat} {w w' : World} {vb tb gb : Nat} {F Ft Fg S : List Nat} {f f' : Nat → List Ver} {n n' : Nat} {cs cs' : List (List Ver)} {torn torn' : List UInt8}
theorem Vlt.log (h : Vlt B w vb tb gb F Ft Fg f n cs torn) (k : mU B w gb Fg cs' torn' w') : Ch (bh vb tb gb f n cs' torn') B w F w' := by
 obtain ⟨Fg', k1, k2, k3⟩ := k
 have hvb := (h.lo vb h.vF).2
 refine ⟨F ++ Fg', ⟨Ft, Fg', ?_, h.t.kp k2 h.tg, k1, h.vt, fun hm => ?_, fun x hx hm => ?_, by simp [h.vF], fun x hx => by simp [h.tF x hx], fun x hx => by simp [hx], fun x hx => ?_⟩, k2.mono (fun x hx => .inl (h.gF x hx)), fun x hx => ?_⟩
 ·rw [k2.block vb hvb h.vg]; exact h.box
 ·rcases k3 vb hm with e | e
  ·exact h.vg e
  ·omega
 ·rcases k3 x hm with e | e
  ·exact h.tg x hx e
  ·have := (h.lo x (h.tF x hx)).2; omega
 ·rcases List.mem_append.1 hx with e | e
  ·exact ⟨(h.lo x e).1, Nat.lt_of_lt_of_le (h.lo x e).2 k2.size⟩
  ·exact k1.lo x e
 ·rcases List.mem_append.1 hx with e | e
  ·exact .inl e
  ·rcases k3 x e with e | e
   ·exact .inl (h.gF x e)
   ·exact .inr e
theorem Vlt.table (h : Vlt B w vb tb gb F Ft Fg f n cs torn) {Ft' : List Nat} (k1 : Tbl B w' tb Ft' f' n') (k2 : Kp Ft w w') (k3 : ∀ x, x ∈ Ft' → x ∈ Ft ∨ w.heap.size ≤ x) : Ch (bh vb tb gb f' n' cs torn) B w F w' := by
 have hvb := (h.lo vb h.vF).2
 refine ⟨F ++ Ft', ⟨Ft', Fg, ?_, k1, h.g.kp k2 (fun x hx hm => h.tg x hm hx), fun hm => ?_, h.vg, fun x hx hm => ?_, by simp [h.vF], fun x hx => by simp [hx], fun x hx => by simp [h.gF x hx], fun x hx => ?_⟩, k2.mono (fun x hx => .inl (h.tF x hx)), fun x hx => ?_⟩
 ·rw [k2.block vb hvb h.vt]; exact h.box
 ·rcases k3 vb hm with e | e
  ·exact h.vt e
  ·omega
 ·rcases k3 x hx with e | e
  ·exact h.tg x e hm
  ·have := (h.lo x (h.gF x hm)).2; omega
 ·rcases List.mem_append.1 hx with e | e
  ·exact ⟨(h.lo x e).1, Nat.lt_of_lt_of_le (h.lo x e).2 k2.size⟩
  ·exact k1.lo x e
 ·rcases List.mem_append.1 hx with e | e
  ·exact .inl e
  ·rcases k3 x e with e | e
   ·exact .inl (h.tF x e)
   ·exact .inr e
theorem Vlt.put (h : Vlt B w vb tb gb F Ft Fg f n cs torn) {W : World} (hW : Kp [] w W) {tb' : Nat} {Ft' : List Nat} (k1 : Tbl w.heap.size W tb' Ft' f' n') : Ch (bh vb tb' gb f' n' cs torn) B w F (W.setCell ⟨vb, 0, none⟩ (.pointer (some ⟨tb', 0, none⟩))) := by
 have hvb := (h.lo vb h.vF).2
 have hBw : B ≤ w.heap.size := by have := (h.lo vb h.vF).1; omega
 have hk3 : Kp [vb] W (W.setCell ⟨vb, 0, none⟩ (.pointer (some ⟨tb', 0, none⟩))) := (Kp.refl [vb] W).setCell (.inl (by simp)) _
 have hW1 := h.kp0 hW
 have hne : ∀ x, x ∈ Ft' → x ≠ vb := fun x hx e => by have := (k1.lo x hx).1; omega
 refine ⟨vb :: (Fg ++ Ft'), ⟨Ft', Fg, ?_, (k1.base hBw).kp hk3 (fun x hx e => hne x hx (List.mem_singleton.1 e)), hW1.g.kp hk3 (fun x hx e => h.vg (by rw [← List.mem_singleton.1 e]; exact hx)), fun hm => hne vb hm rfl, h.vg, fun x hx hm => ?_, by simp, fun x hx => by simp [hx], fun x hx => by simp [hx], fun x hx => ?_⟩, (hW.mono (fun x hx => by simp at hx)).trans hk3 (fun x hx => .inl (by rw [List.mem_singleton.1 hx]; exact h.vF)), fun x hx => ?_⟩
 ·exact an 0 _ hW1.box
 ·have h1 := (k1.lo x hx).1
  have h2 := (h.lo x (h.gF x hm)).2
  omega
 ·rcases List.mem_cons.1 hx with e | e
  ·subst e; exact ⟨(h.lo _ h.vF).1, Nat.lt_of_lt_of_le (hW1.lo _ h.vF).2 hk3.size⟩
  ·rcases List.mem_append.1 e with e | e
   ·exact ⟨(h.lo x (h.gF x e)).1, Nat.lt_of_lt_of_le (hW1.lo x (h.gF x e)).2 hk3.size⟩
   ·exact ⟨Nat.le_trans hBw (k1.lo x e).1, Nat.lt_of_lt_of_le (k1.lo x e).2 hk3.size⟩
 ·rcases List.mem_cons.1 hx with e | e
  ·subst e; exact .inl h.vF
  ·rcases List.mem_append.1 e with e | e
   ·exact .inl (h.gF x e)
   ·exact .inr (k1.lo x e).1
end
structure Crt (B : Nat) (w : World) (cb sb : Nat) (G Gr Gs : List Nat) (bx : Array Value) (f : Nat → List Ver) (n : Nat) (cs : List (List Ver)) (torn : List UInt8) (st : Nat → Option Addr) : Prop where
 r : Rx B w cb 1 bx 93 Gr cs torn
 b0 : bx[0]? = some (.pointer (some ⟨sb, 0, none⟩))
 bs : ∀ i, i < 5 → bx[3 + i]? = some (.pointer (st i))
 sz : bx.size = 8
 s : Sht B w sb Gs f n
 rs : ∀ x, x ∈ Gr → x ∉ Gs
 rG : ∀ x, x ∈ Gr → x ∈ G
 sG : ∀ x, x ∈ Gs → x ∈ G
 lo : ∀ x, x ∈ G → B ≤ x ∧ x < w.heap.size
section
variable {B : Nat} {w w' W : World} {cb sb : Nat} {G Gr Gs S : List Nat} {bx : Array Value} {f f' : Nat → List Ver} {n n' : Nat} {cs cs' : List (List Ver)} {torn torn' : List UInt8} {st : Nat → Option Addr}
theorem Crt.kp (h : Crt B w cb sb G Gr Gs bx f n cs torn st) (hk : Kp S w w') (hS : ∀ x, x ∈ G → x ∉ S) : Crt B w' cb sb G Gr Gs bx f n cs torn st :=
 ⟨h.r.kp hk (fun x hx => hS x (h.rG x hx)), h.b0, h.bs, h.sz, h.s.kp hk (fun x hx => hS x (h.sG x hx)), h.rs, h.rG, h.sG, fun x hx => ⟨(h.lo x hx).1, Nat.lt_of_lt_of_le (h.lo x hx).2 hk.size⟩⟩
theorem Crt.kp0 (h : Crt B w cb sb G Gr Gs bx f n cs torn st) (hk : Kp [] w w') : Crt B w' cb sb G Gr Gs bx f n cs torn st := h.kp hk (fun _ _ => by simp)
theorem Crt.base {C : Nat} (h : Crt B w cb sb G Gr Gs bx f n cs torn st) (hC : C ≤ B) : Crt C w cb sb G Gr Gs bx f n cs torn st :=
 ⟨h.r.base hC, h.b0, h.bs, h.sz, h.s.base hC, h.rs, h.rG, h.sG, fun x hx => ⟨Nat.le_trans hC (h.lo x hx).1, (h.lo x hx).2⟩⟩
theorem Rx.box {o : Nat} {T : TypeId} (h : Rx B w cb o bx T Gr cs torn) : w.heap[cb]? = some (.cells bx T (0, 0)) := by
 obtain ⟨aL, capL, xs, aT, cT, h, e⟩ := h
 exact h.box
theorem Rx.rG {o : Nat} {T : TypeId} (h : Rx B w cb o bx T Gr cs torn) : cb ∈ Gr := by
 obtain ⟨aL, capL, xs, aT, cT, h, e⟩ := h
 exact h.rG
theorem Crt.c0 (h : Crt B w cb sb G Gr Gs bx f n cs torn st) : w.cell? ⟨cb, 0, none⟩ = some (.pointer (some ⟨sb, 0, none⟩)) := af h.r.box h.b0
theorem Crt.seat (h : Crt B w cb sb G Gr Gs bx f n cs torn st) {i : Nat} (hi : i < 5) : w.cell? ⟨cb, 3 + i, none⟩ = some (.pointer (st i)) := af h.r.box (h.bs i hi)
theorem Crt.fz (h : Crt B w cb sb G Gr Gs bx f n cs torn st) (i : Nat) : w.frozen? ⟨cb, i, none⟩ = false := ak i h.r.box
theorem Crt.cG (h : Crt B w cb sb G Gr Gs bx f n cs torn st) : cb ∈ G := h.rG _ h.r.rG
theorem RxL.other {o : Nat} {T : TypeId} {aL : Option Addr} {capL : Nat} {xs : List El} {aT : Option Addr} {cT : Nat} (h : RxL B w cb o bx T Gr aL capL xs aT cT torn) (i : Nat) (v : Value) (h0 : i ≠ o) (h1 : i ≠ o + 1) :
 RxL B (w.setCell ⟨cb, i, none⟩ v) cb o (bx.setIfInBounds i v) T Gr aL capL xs aT cT torn := by
 have hk : Kp [cb] w (w.setCell ⟨cb, i, none⟩ v) := (Kp.refl [cb] w).setCell (.inl (by simp)) _
 refine ⟨an i _ h.box, cN h.b0 h0 _, cN h.b1 h1 _, h.own.kp hk (fun x hx e => h.ne (by rw [← List.mem_singleton.1 e]; exact hx)), fun e he => ⟨(h.els e he).1.kp hk (fun x hx e2 => ((h.els e he).2 x hx).2.1 (List.mem_singleton.1 e2)), (h.els e he).2⟩, h.tb.kpo hk (fun x hx e => (h.tG x hx).2 (List.mem_singleton.1 e)), h.tn, h.tG, h.ne, h.rG, h.aG, fun x hx => ⟨(h.lo x hx).1, Nat.lt_of_lt_of_le (h.lo x hx).2 hk.size⟩, h.inv, h.tl, Nat.le_trans h.hB hk.size⟩
theorem Rx.other {o : Nat} {T : TypeId} (h : Rx B w cb o bx T Gr cs torn) (i : Nat) (v : Value) (h0 : i ≠ o) (h1 : i ≠ o + 1) : Rx B (w.setCell ⟨cb, i, none⟩ v) cb o (bx.setIfInBounds i v) T Gr cs torn := by
 obtain ⟨aL, capL, xs, aT, cT, h, e⟩ := h
 exact ⟨aL, capL, xs, aT, cT, h.other i v h0 h1, e⟩
end
def cf (cb sb : Nat) (f : Nat → List Ver) (n : Nat) (cs : List (List Ver)) (torn : List UInt8) (st : Nat → Option Addr) : ao where
 holds B w G := ∃ Gr Gs bx, Crt B w cb sb G Gr Gs bx f n cs torn st
 kp := fun ⟨Gr, Gs, bx, h⟩ hk hS => ⟨Gr, Gs, bx, h.kp hk hS⟩
 lo := fun ⟨_, _, _, h⟩ => h.lo
 base := fun ⟨Gr, Gs, bx, h⟩ hC => ⟨Gr, Gs, bx, h.base hC⟩
section
variable {B : Nat} {w w' W : World} {cb sb : Nat} {G Gr Gs S : List Nat} {bx : Array Value} {f f' : Nat → List Ver} {n n' : Nat} {cs cs' : List (List Ver)} {torn torn' : List UInt8} {st : Nat → Option Addr}
theorem Crt.sit (h : Crt B w cb sb G Gr Gs bx f n cs torn st) {i : Nat} (hi : i < 5) (p : Option Addr) : Ch (cf cb sb f n cs torn (upd st i p)) B w G (w.setCell ⟨cb, 3 + i, none⟩ (.pointer p)) := by
 have hk : Kp [cb] w (w.setCell ⟨cb, 3 + i, none⟩ (.pointer p)) := (Kp.refl [cb] w).setCell (.inl (by simp)) _
 refine ⟨G, ⟨Gr, Gs, bx.setIfInBounds (3 + i) (.pointer p), h.r.other _ _ (by omega) (by omega), cN h.b0 (by omega) _, fun j hj => ?_, by simp [h.sz], h.s.kp hk (fun x hx e => h.rs cb h.r.rG (by rw [← List.mem_singleton.1 e]; exact hx)), h.rs, h.rG, h.sG, fun x hx => ⟨(h.lo x hx).1, Nat.lt_of_lt_of_le (h.lo x hx).2 hk.size⟩⟩, hk.mono (fun x hx => .inl (by rw [List.mem_singleton.1 hx]; exact h.cG)), fun x hx => .inl hx⟩
 by_cases e : j = i
 ·subst e
  rw [eE (h.bs j hj), av]
 ·rw [cN (h.bs j hj) (by omega), aq _ _ _ e]
theorem Crt.roll (h : Crt B w cb sb G Gr Gs bx f n cs torn st) (k : fX B w cb 1 bx 93 Gr cs' torn' w') : Ch (cf cb sb f n cs' torn' st) B w G w' := by
 obtain ⟨Gr', bx', k1, kb, k2, k3⟩ := k
 refine ⟨G ++ Gr', ⟨Gr', Gs, bx', k1, by rw [kb.2 0 (by omega) (by omega)]; exact h.b0, fun i hi => by rw [kb.2 (3 + i) (by omega) (by omega)]; exact h.bs i hi, by rw [kb.1]; exact h.sz, h.s.kp k2 (fun x hx hm => h.rs x hm hx), fun x hx hm => ?_, fun x hx => by simp [hx], fun x hx => by simp [h.sG x hx], fun x hx => ?_⟩, k2.mono (fun x hx => .inl (h.rG x hx)), fun x hx => ?_⟩
 ·rcases k3 x hx with e | e
  ·exact h.rs x e hm
  ·have := (h.lo x (h.sG x hm)).2; omega
 ·rcases List.mem_append.1 hx with e | e
  ·exact ⟨(h.lo x e).1, Nat.lt_of_lt_of_le (h.lo x e).2 k2.size⟩
  ·exact k1.lo x e
 ·rcases List.mem_append.1 hx with e | e
  ·exact .inl e
  ·rcases k3 x e with e | e
   ·exact .inl (h.rG x e)
   ·exact .inr e
theorem Crt.sheet (h : Crt B w cb sb G Gr Gs bx f n cs torn st) {Gs' : List Nat} (k1 : Sht B w' sb Gs' f' n') (k2 : Kp Gs w w') (k3 : ∀ x, x ∈ Gs' → x ∈ Gs ∨ w.heap.size ≤ x) : Ch (cf cb sb f' n' cs torn st) B w G w' := by
 refine ⟨G ++ Gs', ⟨Gr, Gs', bx, h.r.kp k2 h.rs, h.b0, h.bs, h.sz, k1, fun x hx hm => ?_, fun x hx => by simp [h.rG x hx], fun x hx => by simp [hx], fun x hx => ?_⟩, k2.mono (fun x hx => .inl (h.sG x hx)), fun x hx => ?_⟩
 ·rcases k3 x hm with e | e
  ·exact h.rs x hx e
  ·have := (h.lo x (h.rG x hx)).2; omega
 ·rcases List.mem_append.1 hx with e | e
  ·exact ⟨(h.lo x e).1, Nat.lt_of_lt_of_le (h.lo x e).2 k2.size⟩
  ·exact k1.lo x e
 ·rcases List.mem_append.1 hx with e | e
  ·exact .inl e
  ·rcases k3 x e with e | e
   ·exact .inl (h.sG x e)
   ·exact .inr e
end
theorem Wrk.base {B C : Nat} {w : World} {wb : Nat} {H : List Nat} {md y : Int} {rs : List Int} {ws : List Ver} (h : Wrk B w wb H md y rs ws) (hC : C ≤ B) : Wrk C w wb H md y rs ws := by
 obtain ⟨ra, rc, wa, wc, h⟩ := h
 exact ⟨ra, rc, wa, wc, h.box, cE h.ro hC, cE h.wo hC, h.rb, h.ab, h.rw, h.bH, fun x hx => ⟨Nat.le_trans hC (h.lo x hx).1, (h.lo x hx).2⟩⟩
section
variable {B : Nat} {w w' : World} {db wb : Nat} {F H : List Nat} {md y : Int} {rs rs2 rs' : List Int} {ws ws2 ws' : List Ver}
end
end
section
open Go.RowKit
attribute [local go_sem ↓] Go.wp_at_zero Go.wp_at_succ
def mcd (f : Nat → List Ver) (md y : Int) (rs : List Int) (k : Nat) : Int := if md = 2 ∧ stl f y rs k = true then 11 else 0
theorem mK {f : Nat → List Ver} {y : Int} {ws : List Ver} {k : Nat} (h : cls f y ws k = true) : ∀ m, k ≤ m → cls f y ws m = true := by
 intro m
 induction m with
 | zero => intro hm; have : k = 0 := by omega
           subst this; exact h
 | succ m ih =>
   intro hm
   by_cases e : k = m + 1
   ·subst e; exact h
   ·simp only [cls]
    split
    ·rfl
    ·exact ih (by omega)
theorem rx {f : Nat → List Ver} {y : Int} {rs : List Int} {k : Nat} (h : stl f y rs k = true) : ∀ m, k ≤ m → stl f y rs m = true := by
 intro m
 induction m with
 | zero => intro hm; have : k = 0 := by omega
           subst this; exact h
 | succ m ih =>
   intro hm
   by_cases e : k = m + 1
   ·subst e; exact h
   ·simp only [stl]
    split
    ·rfl
    ·exact ih (by omega)
theorem pq {f : Nat → List Ver} {y : Int} {ws : List Ver} {k : Nat} {v : Ver} (h : lwr ws k = some v) (hy : y < snc f k) : cls f y ws (k + 1) = true := by
 simp only [cls]; rw [if_pos ⟨by rw [h]; rfl, hy⟩]
theorem pr {f : Nat → List Ver} {y : Int} {ws : List Ver} {k : Nat} (hy : snc f k ≤ y) : cls f y ws (k + 1) = cls f y ws k := by
 simp only [cls]; rw [if_neg (fun h => by have := h.2; omega)]
theorem tB {f : Nat → List Ver} {y : Int} {ws : List Ver} {k : Nat} (h : lwr ws k = none) : cls f y ws (k + 1) = cls f y ws k := by
 simp only [cls]; rw [if_neg (fun hc => by have := hc.1; rw [h] at this; simp at this)]
theorem ov {f : Nat → List Ver} {y : Int} {rs : List Int} {k : Nat} (h : (k : Int) ∈ rs) (hy : y < snc f k) : stl f y rs (k + 1) = true := by
 simp only [stl]; rw [if_pos ⟨h, hy⟩]
theorem ow {f : Nat → List Ver} {y : Int} {rs : List Int} {k : Nat} (hy : snc f k ≤ y) : stl f y rs (k + 1) = stl f y rs k := by
 simp only [stl]; rw [if_neg (fun h => by have := h.2; omega)]
theorem rv {f : Nat → List Ver} {y : Int} {rs : List Int} {k : Nat} (h : ¬ (k : Int) ∈ rs) : stl f y rs (k + 1) = stl f y rs k := by
 simp only [stl]; rw [if_neg (fun hc => h hc.1)]
theorem mD {f : Nat → List Ver} {md y : Int} {rs : List Int} {ws : List Ver} (h : cls f y ws 8 = true) : dm f md y rs ws = 10 := by unfold dm; rw [if_pos h]
theorem tc {f : Nat → List Ver} {md y : Int} {rs : List Int} {ws : List Ver} (h : cls f y ws 8 = false) : dm f md y rs ws = mcd f md y rs 8 := by unfold dm mcd; rw [if_neg (by simp [h])]
theorem kZ {f : Nat → List Ver} {md y : Int} {rs : List Int} {k : Nat} (h : ¬ md = 2) : mcd f md y rs k = 0 := by unfold mcd; rw [if_neg (fun hc => h hc.1)]
theorem ld {f : Nat → List Ver} {md y : Int} {rs : List Int} {k m : Nat} (h : stl f y rs m = stl f y rs k) : mcd f md y rs m = mcd f md y rs k := by unfold mcd; rw [h]
theorem oN {f : Nat → List Ver} {md y : Int} {rs : List Int} {k : Nat} (hm : md = 2) (h : stl f y rs k = true) : mcd f md y rs k = 11 := by unfold mcd; rw [if_pos ⟨hm, h⟩]
theorem eH {B tb n db : Nat} {F : List Nat} {f : Nat → List Ver} {md y : Int} {rs : List Int} {ws : List Ver} {w W : World} {p : Nat} {b0 b1 : Bool} (k : Int) (h : Tbl B w tb F f n) (hd : Ded w db md y rs ws) (hW : Kp [] w W)
 (c0 : W.cell? ⟨p, 0, none⟩ = some (.bool b0)) (c1 : W.cell? ⟨p, 1, none⟩ = some (.bool b1)) (s : Int) (hs : snc f k = s) :
 Calls Tryz.prog 133 #[.pointer (some ⟨tb, 0, none⟩), .int .i64 k] W fun e w' => e = .returned (.int .i64 s) ∧ w'.cell? ⟨db, 1, none⟩ = some (.int .i64 y) ∧ w'.cell? ⟨db, 0, none⟩ = some (.int .i64 md) ∧ w'.cell? ⟨p, 0, none⟩ = some (.bool b0) ∧ w'.cell? ⟨p, 1, none⟩ = some (.bool b1) ∧ Hid (Kp [] w w') := by
 refine (ri k W (h.kp0 hW)).mono ?_
 rintro e w' ⟨rfl, hk⟩
 have hd' := hd.kp0 (hW.trans0 hk)
 exact ⟨by rw [hs], hd'.ycell, hd'.mcell, hk.cell (p := ⟨p, 0, none⟩) (by simp) c0, hk.cell (p := ⟨p, 1, none⟩) (by simp) c1, hW.trans0 hk⟩
theorem yL {B tb n db : Nat} {F : List Nat} {f : Nat → List Ver} {md y : Int} {rs : List Int} {ws : List Ver} (w : World) (h : Tbl B w tb F f n) (hd : Ded w db md y rs ws) :
 Calls Tryz.prog 127 #[.pointer (some ⟨db, 0, none⟩), .pointer (some ⟨tb, 0, none⟩)] w fun e w' => e = .returned (.int .i64 (dm f md y rs ws)) ∧ Kp [] w w' := by
 have HT := ag h
 have HD := ag hd
 have HR := ag hd.range
 clear h hd
 have HC0 : Hid (cls f y ws 0 = false) := rfl
 go_enter Tryz.func127, Tryz.ntmps127
 go_wp2_with (refine wpList_load_mid rfl 173 _ rfl db 2 rfl _ _ (ae HR) Tryz.underlying173 rfl Tryz.size173 ?_)
 obtain ⟨A, hA, hAk⟩ := ml rs ws
 rw [hA]
 have HA := ag hAk
 clear hA hAk HR
 go_loopw [5, 12] (fun s i wr => ∃ k : Nat, k ≤ 8 ∧ s = .int .i64 (mcd f md y rs k) ∧ i = .int .i64 k ∧ Hid (cls f y ws k = false) ∧ Hid (Kp [] w wr)) (fun _ i _ => 8 - (intOf i).toNat)
 case atStart => exact ⟨0, by omega, by simp [mcd, stl], rfl, HC0, Kp.refl _ _⟩
 case round =>
  obtain ⟨k, hk, rfl, rfl, HC, HK⟩ := hrel
  by_cases hlt8 : k < 8
  ·have i0 : (0 : Int) ≤ (k : Int) := by omega
   have i1 : (k : Int) < 8 := by omega
   have hx := (ae HA) k hlt8
   have hdr := (ae HD).kp0 (ae HK)
   have qy := hdr.ycell
   have hdl := hdr.lt
   have HDR := ag hdr
   have HTR := ag ((ae HT).kp0 (ae HK))
   clear hdr
   generalize ((lwr ws k).getD dv).t = b2 at *
   generalize ((lwr ws k).getD dv).s = b3 at *
   generalize hsn : snc f k = sn at *
   have HSN := ag hsn
   clear hsn
   by_cases hle : sn ≤ y
   ·have HN1 := ag (pr (ws := ws) (by rw [ae HSN]; exact hle))
    have HN2 := ag (ld (md := md) (ow (rs := rs) (by rw [ae HSN]; exact hle)))
    generalize decide ((k : Int) ∈ rs) = b0 at *
    generalize (lwr ws k).isSome = b1 at *
    go_wp2_with fail
    go_region_with (go_at_call 133; refine (eH (p := wr.heap.size) (b0 := b0) (b1 := b1) k (ae HTR) (ae HDR) ((Kp.refl [] wr).alloc (.cells #[.bool b0, .bool b1, .bool b2, .string b3] 172)).drew (by simp) (by simp) sn (ae HSN)).mono ?_; rintro e w3 ⟨rfl, z1, z0, z2, z3, HK3⟩)
    all_goals
     go_wp2_with fail
     exact ⟨⟨k + 1, by omega, by rw [ae HN2], by go_num, by rw [ae HN1]; exact HC, (ae HK).trans0 (ae HK3)⟩, by simp [intOf]; omega⟩
   ·have hgt : y < sn := by omega
    cases hv : lwr ws k with
    | some v =>
      have HN := ag (mD (md := md) (rs := rs) (mK (pq hv (by rw [ae HSN]; exact hgt)) 8 (by omega)))
      rw [hv] at hx
      simp only [Option.isSome_some] at hx
      clear hv
      generalize decide ((k : Int) ∈ rs) = b0 at *
      go_wp2_with fail
      go_region_with (go_at_call 133; refine (eH (p := wr.heap.size) (b0 := b0) (b1 := true) k (ae HTR) (ae HDR) ((Kp.refl [] wr).alloc (.cells #[.bool b0, .bool true, .bool b2, .string b3] 172)).drew (by simp) (by simp) sn (ae HSN)).mono ?_; rintro e w3 ⟨rfl, z1, z0, z2, z3, HK3⟩)
      all_goals
       go_wp2_with fail
       go_ret
       exact ⟨bu (ae HN).symm, (ae HK).trans0 (ae HK3)⟩
    | none =>
      have HN1 := ag (tB (f := f) (y := y) hv)
      rw [hv] at hx
      simp only [Option.isSome_none] at hx
      clear hv
      by_cases hr : (k : Int) ∈ rs
      ·have hd : decide ((k : Int) ∈ rs) = true := by simp [hr]
       rw [hd] at hx
       clear hd
       by_cases hm : md = 2
       ·have HN2 := ag (oN hm (ov hr (by rw [ae HSN]; exact hgt)))
        subst hm
        clear hr
        go_wp2_with fail
        go_region_with (go_at_call 133; refine (eH (p := wr.heap.size) (b0 := true) (b1 := false) k (ae HTR) (ae HDR) ((Kp.refl [] wr).alloc (.cells #[.bool true, .bool false, .bool b2, .string b3] 172)).drew (by simp) (by simp) sn (ae HSN)).mono ?_; rintro e w3 ⟨rfl, z1, z0, z2, z3, HK3⟩)
        all_goals
         go_wp2_with fail
         exact ⟨⟨k + 1, by omega, by rw [ae HN2], by go_num, by rw [ae HN1]; exact HC, (ae HK).trans0 (ae HK3)⟩, by simp [intOf]; omega⟩
       ·have HN2 : Hid (mcd f md y rs (k + 1) = mcd f md y rs k) := by rw [kZ hm, kZ hm]; exact rfl
        have em : (md == 2) = false := beq_eq_false_iff_ne.2 hm
        clear hr hm
        go_wp2_with fail
        go_region_with (go_at_call 133; refine (eH (p := wr.heap.size) (b0 := true) (b1 := false) k (ae HTR) (ae HDR) ((Kp.refl [] wr).alloc (.cells #[.bool true, .bool false, .bool b2, .string b3] 172)).drew (by simp) (by simp) sn (ae HSN)).mono ?_; rintro e w3 ⟨rfl, z1, z0, z2, z3, HK3⟩)
        all_goals
         go_wp2_with fail
         exact ⟨⟨k + 1, by omega, by rw [ae HN2], by go_num, by rw [ae HN1]; exact HC, (ae HK).trans0 (ae HK3)⟩, by simp [intOf]; omega⟩
      ·have hd : decide ((k : Int) ∈ rs) = false := by simp [hr]
       rw [hd] at hx
       have HN2 := ag (ld (md := md) (rv (f := f) (y := y) hr))
       clear hd hr
       go_wp2_with fail
       go_region_with (go_at_call 133; refine (eH (p := wr.heap.size) (b0 := false) (b1 := false) k (ae HTR) (ae HDR) ((Kp.refl [] wr).alloc (.cells #[.bool false, .bool false, .bool b2, .string b3] 172)).drew (by simp) (by simp) sn (ae HSN)).mono ?_; rintro e w3 ⟨rfl, z1, z0, z2, z3, HK3⟩)
       all_goals
        go_wp2_with fail
        exact ⟨⟨k + 1, by omega, by rw [ae HN2], by go_num, by rw [ae HN1]; exact HC, (ae HK).trans0 (ae HK3)⟩, by simp [intOf]; omega⟩
  ·have e : k = 8 := by omega
   subst e
   have HN := ag (tc (md := md) (rs := rs) (ae HC))
   go_wp2_with fail
   go_ret
   exact ⟨bu (ae HN).symm, ae HK⟩
theorem uA {w w1 w2 : World} {tb gb : Nat} {Ft Fg : List Nat} {f : Nat → List Ver} {n : Nat} {cs : List (List Ver)} {torn : List UInt8} (h1 : Tbl w.heap.size w1 tb Ft f n) (k1 : Kp [] w w1) (h2 : Lg w1.heap.size w2 gb Fg cs torn) (k2 : Kp [] w1 w2) :
 Vlt w.heap.size (w2.alloc (.cells #[.pointer (some ⟨tb, 0, none⟩), .pointer (some ⟨gb, 0, none⟩)] 71)) w2.heap.size tb gb (w2.heap.size :: (Ft ++ Fg)) Ft Fg f n cs torn := by
 have ka : Kp [] w2 (w2.alloc (.cells #[.pointer (some ⟨tb, 0, none⟩), .pointer (some ⟨gb, 0, none⟩)] 71)) := (Kp.refl [] w2).alloc _
 have hs1 := k1.size
 have hs2 := k2.size
 have hsa : (w2.alloc (.cells #[.pointer (some ⟨tb, 0, none⟩), .pointer (some ⟨gb, 0, none⟩)] 71)).heap.size = w2.heap.size + 1 := by simp
 refine ⟨heap_alloc_new w2 _, (h1.kp0 k2).kp0 ka, (h2.base hs1).kp0 ka, fun hm => ?_, fun hm => ?_, fun x hx hm => ?_, by simp, fun x hx => by simp [hx], fun x hx => by simp [hx], fun x hx => ?_⟩
 ·have := (h1.lo _ hm).2; omega
 ·have := (h2.lo _ hm).2; omega
 ·have := (h1.lo x hx).2
  have := (h2.lo x hm).1
  omega
 ·rw [hsa]
  rcases List.mem_cons.1 hx with e | e
  ·omega
  ·rcases List.mem_append.1 e with e | e
   ·have := h1.lo x e; omega
   ·have := h2.lo x e; omega
theorem fP {B : Nat} {w : World} {e : TypeId} {size n cap : Nat} {a : Option Addr} {xs : List Value} (h : w.ownsRow B e size (.slice a n cap) n xs) : ∀ g o, a = some ⟨g, o, none⟩ → B ≤ g ∧ g < w.heap.size := by
 intro g o ea
 subst ea
 exact h.lt g rfl
theorem Al (w : World) : Calls Tryz.prog 41 #[] w fun e w' => ∃ vb tb gb F, e = .returned (.pointer (some ⟨vb, 0, none⟩)) ∧ (bh vb tb gb (fun _ => [dv]) 0 [] []).holds w.heap.size w' F ∧ Kp [] w w' := by
 go_enter Tryz.func41, Tryz.ntmps41
 go_wp2_with fail
 refine (rm w).mono ?_
 rintro e w1 ⟨rfl, ⟨Ft, hT⟩, hk1⟩
 have HT := ag hT
 have HK1 := ag hk1
 clear hT hk1
 generalize ht : w.heap.size = tb at HT ⊢
 have HTB := ag ht
 clear ht
 go_wp2_with fail
 refine (At w1).mono ?_
 rintro e w2 ⟨rfl, hL, hk2⟩
 have HL := ag hL
 have HK2 := ag hk2
 clear hL hk2
 generalize hg : w1.heap.size = gb at HL ⊢
 have HGB := ag hg
 clear hg
 go_wp2_with fail
 go_ret
 have e1 := (ae HTB).symm
 subst e1
 have e2 := (ae HGB).symm
 subst e2
 exact ⟨_, _, _, _, rfl, ⟨_, _, uA (ae HT) (ae HK1) (ae HL) (ae HK2)⟩, ((ae HK1).trans0 (ae HK2)).alloc _⟩
theorem kz {B vb tb gb n : Nat} {F Ft Fg : List Nat} {f : Nat → List Ver} {cs : List (List Ver)} {torn : List UInt8} (w : World) (h : Vlt B w vb tb gb F Ft Fg f n cs torn) :
 Calls Tryz.prog 48 #[.pointer (some ⟨vb, 0, none⟩)] w fun e w' => e = .returned (.tuple #[]) ∧ ∃ tb', Ch (bh vb tb' gb (cw cs) cs.length cs []) B w F w' := by
 have c1 := h.c1
 have HI := ag h.g.inv
 have HV := ag h
 have HG := ag h.g
 clear h
 go_enter Tryz.func48, Tryz.ntmps48
 go_wp2_with fail
 refine (zR w (ae HG)).mono ?_
 rintro e w1 ⟨rfl, hL, hk⟩
 obtain ⟨F1, ⟨Ft1, Fg1, h1⟩, k1, s1⟩ := (ae HV).log ⟨Fg, hL, hk, fun x hx => .inl hx⟩
 have d1 := h1.c1
 have H1 := ag h1
 have K1 := ag k1
 have S1 := ag s1
 clear h1 k1 s1 c1 HG HV hL hk
 go_wp2_with fail
 refine (yq w1 (ae H1).g).mono ?_
 rintro e w2 ⟨a, nb, cap, rfl, hn, hcap, hbyt, hk2⟩
 have HN := ag hn
 have HB := ag hbyt
 have K2 := ag hk2
 have HC := ag hcap
 clear hn hbyt hk2 hcap
 go_wp2_with fail
 refine (sh a nb cap (lb cs ++ []) w2 (ae HB) (ae HN) (ae HC) (by rw [List.append_nil]; have := (ae HI).b3000; omega)).mono ?_
 rintro e w3 ⟨tb', Ft', p, rfl, hp, hT, hk3⟩
 have K3 := ag hk3
 have HT := ag hT
 rw [List.append_nil, wg (ae HI)] at HT
 have h3 := (ae H1).kp0 ((ae K2).trans0 hk3)
 have d0 := h3.c0
 have f0 := h3.fz 0
 clear h3 hT hk3 hp d1
 go_wp2_with fail
 go_end0
 exact ⟨rfl, tb', Ch.trans (ae K1) (ae S1) ((ae H1).put ((ae K2).trans0 (ae K3)) ((ae HT).base (ae K2).size))⟩
theorem oe {B vb tb gb n db : Nat} {F Ft Fg : List Nat} {f : Nat → List Ver} {cs : List (List Ver)} {torn : List UInt8} {md y : Int} {rs : List Int} {ws : List Ver} (w : World) (h : Vlt B w vb tb gb F Ft Fg f n cs torn) (hd : Ded w db md y rs ws) :
 Calls Tryz.prog 111 #[.pointer (some ⟨vb, 0, none⟩), .pointer (some ⟨db, 0, none⟩)] w fun e w' => zq (if dm f md y rs ws = 0 then wk ws 8 else [], dm f md y rs ws) w e w' := by
 have c0 := h.c0
 have HM := ag (yL w h.t hd)
 have HD := ag hd
 clear h hd
 generalize dm f md y rs ws = z at *
 by_cases hz : z = 0
 ·subst hz
  rw [if_pos rfl]
  go_enter Tryz.func111, Tryz.ntmps111
  go_wp2_with fail
  refine (ae HM).mono ?_
  rintro e w1 ⟨rfl, hk1⟩
  have HK1 := ag hk1
  clear hk1 HM
  go_wp2_with fail
  refine (qg w1 ((ae HD).kp0 (ae HK1))).mono ?_
  rintro e w2 ⟨a, cap, rfl, ho, hk2⟩
  have HO := ag ho
  have HK2 := ag hk2
  clear ho hk2
  go_wp2_with fail
  go_ret2
  exact ⟨a, cap, rfl, cE (ae HO) (ae HK1).size, (ae HK1).trans0 (ae HK2)⟩
 ·rw [if_neg hz]
  go_enter Tryz.func111, Tryz.ntmps111
  go_wp2_with fail
  refine (ae HM).mono ?_
  rintro e w1 ⟨rfl, hk1⟩
  have HK1 := ag hk1
  clear hk1 HM
  go_wp2_with fail
  go_ret2
  exact ⟨none, 0, rfl, World.ownsRow_nil _ _ _ _, ae HK1⟩
def kt (f : Nat → List Ver) (n : Nat) (md at_ : Int) (w : World) (e : Ending) (w' : World) : Prop :=
 (ba f n md at_ = 0 ∧ ∃ D, e = .returned (.tuple #[.pointer (some ⟨D, 0, none⟩), .int .i64 0]) ∧ w.heap.size ≤ D ∧ Ded w' D md (bat n md at_) [] [] ∧ Kp [] w w') ∨
 (¬ ba f n md at_ = 0 ∧ e = .returned (.tuple #[.pointer none, .int .i64 (ba f n md at_)]) ∧ Kp [] w w')
theorem qX {B vb tb gb n : Nat} {F Ft Fg : List Nat} {f : Nat → List Ver} {cs : List (List Ver)} {torn : List UInt8} (md at_ : Int) (w : World) (h : Vlt B w vb tb gb F Ft Fg f n cs torn) :
 Calls Tryz.prog 79 #[.pointer (some ⟨vb, 0, none⟩), .int .i64 md, .int .i64 at_] w fun e w' => kt f n md at_ w e w' := by
 have c0 := h.c0
 have HT := ag h.t
 obtain ⟨x0, x1⟩ := ff h.t.inv 8 (Nat.le_refl _)
 have hn40 := h.t.inv.n40
 clear h
 by_cases hm : 1 ≤ md ∧ md ≤ 3
 ·by_cases h3 : md = 3
  ·subst h3
   by_cases hr : at_ < 0 ∨ (n : Int) < at_
   ·have hb : ba f n 3 at_ = 1 := by unfold ba; rw [if_pos (by omega), if_pos rfl, if_pos hr]
    unfold kt
    rw [hb]
    clear hb
    rcases hr with hr | hr
    ·go_enter Tryz.func79, Tryz.ntmps79
     go_wp2_with fail
     refine (hU 3 at_ w).mono ?_
     rintro e w1 (⟨_, _, rfl, hd, hk⟩ | ⟨hc, _, _⟩)
     rotate_left
     ·exact (hc ⟨by omega, by omega⟩).elim
     have HD := ag hd
     have HK := ag hk
     have HT1 := ag ((ae HT).kp0 hk)
     have d0 : w1.cell? ⟨vb, 0, none⟩ = some (.pointer (some ⟨tb, 0, none⟩)) := hk.cell (by simp) c0
     clear hd hk c0 HT
     generalize hD : w.heap.size = D at HD ⊢
     have HE := ag hD
     clear hD
     go_wp2_with fail
     go_ret2
     exact .inr ⟨by omega, rfl, ae HK⟩
    ·have hr0 : ¬ at_ < 0 := by omega
     go_enter Tryz.func79, Tryz.ntmps79
     go_wp2_with fail
     refine (hU 3 at_ w).mono ?_
     rintro e w1 (⟨_, _, rfl, hd, hk⟩ | ⟨hc, _, _⟩)
     rotate_left
     ·exact (hc ⟨by omega, by omega⟩).elim
     have HD := ag hd
     have HK := ag hk
     have HT1 := ag ((ae HT).kp0 hk)
     have d0 : w1.cell? ⟨vb, 0, none⟩ = some (.pointer (some ⟨tb, 0, none⟩)) := hk.cell (by simp) c0
     clear hd hk c0 HT
     generalize hD : w.heap.size = D at HD ⊢
     have HE := ag hD
     clear hD
     go_wp2_with fail
     refine (cM w1 (ae HT1)).mono ?_
     rintro e w2 ⟨rfl, hw⟩
     subst w2
     go_wp2_with fail
     go_ret2
     exact .inr ⟨by omega, rfl, ae HK⟩
   ·by_cases ho : at_ < fmx f 8
    ·have hb : ba f n 3 at_ = 12 := by unfold ba; rw [if_pos (by omega), if_pos rfl, if_neg hr, if_pos ho]
     unfold kt
     rw [hb]
     clear hb
     have hr0 : ¬ at_ < 0 := by omega
     have hr1 : ¬ (n : Int) < at_ := by omega
     go_enter Tryz.func79, Tryz.ntmps79
     go_wp2_with fail
     refine (hU 3 at_ w).mono ?_
     rintro e w1 (⟨_, _, rfl, hd, hk⟩ | ⟨hc, _, _⟩)
     rotate_left
     ·exact (hc ⟨by omega, by omega⟩).elim
     have HD := ag hd
     have HK := ag hk
     have HT1 := ag ((ae HT).kp0 hk)
     have d0 : w1.cell? ⟨vb, 0, none⟩ = some (.pointer (some ⟨tb, 0, none⟩)) := hk.cell (by simp) c0
     clear hd hk c0 HT
     generalize hD : w.heap.size = D at HD ⊢
     have HE := ag hD
     clear hD
     go_wp2_with fail
     refine (cM w1 (ae HT1)).mono ?_
     rintro e w2 ⟨rfl, hw⟩
     subst w2
     go_wp2_with fail
     refine (iQ w1 (ae HT1)).mono ?_
     rintro e w2 ⟨rfl, hw⟩
     subst w2
     go_wp2_with fail
     go_ret2
     exact .inr ⟨by omega, rfl, ae HK⟩
    ·have hb : ba f n 3 at_ = 0 := by unfold ba; rw [if_pos (by omega), if_pos rfl, if_neg hr, if_neg ho]
     unfold kt
     rw [hb]
     clear hb
     have hr0 : ¬ at_ < 0 := by omega
     have hr1 : ¬ (n : Int) < at_ := by omega
     go_enter Tryz.func79, Tryz.ntmps79
     go_wp2_with fail
     refine (hU 3 at_ w).mono ?_
     rintro e w1 (⟨_, _, rfl, hd, hk⟩ | ⟨hc, _, _⟩)
     rotate_left
     ·exact (hc ⟨by omega, by omega⟩).elim
     have HD := ag hd
     have HK := ag hk
     have HT1 := ag ((ae HT).kp0 hk)
     have d0 : w1.cell? ⟨vb, 0, none⟩ = some (.pointer (some ⟨tb, 0, none⟩)) := hk.cell (by simp) c0
     clear hd hk c0 HT
     generalize hD : w.heap.size = D at HD ⊢
     have HE := ag hD
     clear hD
     go_wp2_with fail
     refine (cM w1 (ae HT1)).mono ?_
     rintro e w2 ⟨rfl, hw⟩
     subst w2
     go_wp2_with fail
     refine (iQ w1 (ae HT1)).mono ?_
     rintro e w2 ⟨rfl, hw⟩
     subst w2
     go_wp2_with fail
     go_ret2
     exact .inl ⟨by trivial, D, rfl, by have := ae HE; omega, by rw [show bat n 3 at_ = at_ from if_pos rfl]; exact ae HD, ae HK⟩
  ·have hb : ba f n md at_ = 0 := by unfold ba; rw [if_pos hm, if_neg h3]
   unfold kt
   rw [hb]
   clear hb
   have hr0 : ¬ (n : Int) < 0 := by omega
   have hr1 : ¬ (n : Int) < (n : Int) := by omega
   have hr2 : ¬ (n : Int) < fmx f 8 := by omega
   go_enter Tryz.func79, Tryz.ntmps79
   go_wp2_with fail
   refine (cM w (ae HT)).mono ?_
   rintro e w0 ⟨rfl, hw⟩
   subst w0
   go_wp2_with fail
   refine (hU md n w).mono ?_
   rintro e w1 (⟨_, _, rfl, hd, hk⟩ | ⟨hc, _, _⟩)
   rotate_left
   ·exact (hc ⟨by omega, by omega⟩).elim
   have HD := ag hd
   have HK := ag hk
   have HT1 := ag ((ae HT).kp0 hk)
   have d0 : w1.cell? ⟨vb, 0, none⟩ = some (.pointer (some ⟨tb, 0, none⟩)) := hk.cell (by simp) c0
   clear hd hk c0 HT
   generalize hD : w.heap.size = D at HD ⊢
   have HE := ag hD
   clear hD
   go_wp2_with fail
   refine (cM w1 (ae HT1)).mono ?_
   rintro e w2 ⟨rfl, hw⟩
   subst w2
   go_wp2_with fail
   refine (iQ w1 (ae HT1)).mono ?_
   rintro e w2 ⟨rfl, hw⟩
   subst w2
   go_wp2_with fail
   go_ret2
   exact .inl ⟨by trivial, D, rfl, by have := ae HE; omega, by rw [show bat n md at_ = n from if_neg h3]; exact ae HD, ae HK⟩
 ·have hb : ba f n md at_ = 3 := by unfold ba; rw [if_neg hm]
  have h3 : ¬ md = 3 := by omega
  unfold kt
  rw [hb]
  clear hb
  go_enter Tryz.func79, Tryz.ntmps79
  go_wp2_with fail
  refine (cM w (ae HT)).mono ?_
  rintro e w0 ⟨rfl, hw⟩
  subst w0
  go_wp2_with fail
  refine (hU md n w).mono ?_
  rintro e w1 (⟨q1, q2, _⟩ | ⟨_, rfl, hw⟩)
  ·exact (hm ⟨q1, q2⟩).elim
  subst w1
  go_wp2_with fail
  go_ret2
  exact .inr ⟨by omega, rfl, Kp.refl _ _⟩
theorem uC {B vb tb gb n db : Nat} {F Ft Fg : List Nat} {f : Nat → List Ver} {cs : List (List Ver)} {md y : Int} {rs : List Int} {ws : List Ver} (w : World) (h : Vlt B w vb tb gb F Ft Fg f n cs []) (hv : VI f n cs) (hd : Ded w db md y rs ws) (hw : WOk ws) :
 Calls Tryz.prog 84 #[.pointer (some ⟨vb, 0, none⟩), .pointer (some ⟨db, 0, none⟩)] w fun e w' => e = .returned (.tuple #[.int .i64 (fV f n cs md y rs ws), .int .i64 (bl f cs md y rs ws)]) ∧ Ch (bh vb tb gb (vf f n cs md y rs ws) (vn f n cs md y rs ws) (vcs f cs md y rs ws) []) B w F w' := by
 have HW := ag (oe w h hd)
 have HV := ag h
 have hpl := eN ws 8
 have HP := ag hw.pf
 have HR := ag hv
 have hn40 := h.t.inv.n40
 clear h hd hw hv
 by_cases hz : dm f md y rs ws = 0
 ·rw [if_pos hz, hz] at HW
  by_cases hl : (wk ws 8).length = 0
  ·obtain ⟨e1, e2⟩ := kB (cs := cs) hz hl
   obtain ⟨e3, e4, e5, e6⟩ := ii (n := n) e2
   rw [e1, e3, e4, e5, e6]
   clear e1 e2 e3 e4 e5 e6 HR HP
   go_enter Tryz.func84, Tryz.ntmps84
   go_wp2_with fail
   refine (ae HW).mono ?_
   rintro e w1 ⟨a, cap, rfl, _, hk⟩
   rw [hl]
   have HK := ag hk
   clear hk hl
   go_wp2_with fail
   go_ret2
   exact ⟨rfl, Ch.same ⟨Ft, Fg, ae HV⟩ (ae HK)⟩
  ·have HL := ag hl
   by_cases hc : bc cs (wk ws 8) = 0
   ·obtain ⟨e1, e2⟩ := ol hz hl hc
    obtain ⟨e3, e4, e5, e6⟩ := oq (n := n) e2
    rw [e1, e3, e4, e5, e6]
    clear e1 e2 e3 e4 e5 e6
    obtain ⟨q1, q2, q3⟩ := (ae HR).room hc
    have hlp : dH cs (wk ws 8) = cs ++ [wk ws 8] := by unfold dH; rw [if_pos hc]
    have HLP := ag hlp
    have HC := ag hc
    have HQ := ag (And.intro q1 (And.intro q2 q3))
    clear q1 q2 q3 hlp hc hz
    generalize wk ws 8 = ps at *
    go_enter Tryz.func84, Tryz.ntmps84
    go_wp2_with fail
    refine (ae HW).mono ?_
    rintro e w1 ⟨a, cap, rfl, ho, hk⟩
    dsimp only at ho ⊢
    have h1 := (ae HV).kp0 hk
    have d1 := h1.c1
    have HPR := ag (dZ (dE ho rfl) (ae HP))
    have HO := ag ho
    have H1 := ag h1
    have HK := ag hk
    clear ho h1 hk HW
    go_wp2_with fail
    refine (si a cap ps w1 (ae H1).g (ae HPR) (by omega)).mono ?_
    rintro e w2 ⟨rfl, hL⟩
    rw [ae HC]
    rw [ae HLP] at hL
    obtain ⟨F2, ⟨Ft2, Fg2, h2⟩, k2, s2⟩ := (ae H1).log hL
    have hfar : ∀ g o, a = some ⟨g, o, none⟩ → g ∉ F := fun g o ea hm => by
     have h3 := (fP (ae HO) g o ea).1
     have h4 := ((ae HV).lo g hm).2
     omega
    have hfar2 : ∀ g o, a = some ⟨g, o, none⟩ → g ∉ Ft2 := fun g o ea hm => by
     rcases s2 g (h2.tF g hm) with e | e
     ·exact hfar g o ea e
     ·have h3 := (fP (ae HO) g o ea).2
      omega
    have HPR2 := ag ((ae HPR).kp k2 hfar)
    have HFAR := ag hfar2
    have d0 := h2.c0
    have H2 := ag h2
    have K2 := ag k2
    have S2 := ag s2
    clear h2 k2 s2 hL hfar hfar2 d1
    go_wp2_with fail
    refine (lR a cap ps w2 (ae H2).t (ae HPR2) (fun _ => ae HFAR) (by omega)).mono ?_
    rintro e w3 ⟨rfl, Ft3, hT, hk3, hs3⟩
    rw [(ae HQ).1, (ae HQ).2.2]
    rw [(ae HQ).2.1] at hT
    have HZ := ag (Ch.after (ae HK) (Ch.trans (ae K2) (ae S2) ((ae H2).table hT hk3 hs3)))
    clear hT hk3 hs3
    go_wp2_with fail
    go_ret2
    exact ⟨rfl, ae HZ⟩
   ·obtain ⟨e1, e2⟩ := qZ hz hl hc
    obtain ⟨e3, e4, e5, e6⟩ := ii (n := n) e2
    rw [e1, e3, e4, e5, e6]
    clear e1 e2 e3 e4 e5 e6
    have hlp : dH cs (wk ws 8) = cs := by unfold dH; rw [if_neg hc]
    have HLP := ag hlp
    clear hlp hz
    generalize hzz : bc cs (wk ws 8) = z at *
    have HZZ := ag hzz
    clear hzz
    generalize wk ws 8 = ps at *
    go_enter Tryz.func84, Tryz.ntmps84
    go_wp2_with fail
    refine (ae HW).mono ?_
    rintro e w1 ⟨a, cap, rfl, ho, hk⟩
    dsimp only at ho ⊢
    have h1 := (ae HV).kp0 hk
    have d1 := h1.c1
    have HPR := ag (dZ (dE ho rfl) (ae HP))
    have H1 := ag h1
    have HK := ag hk
    clear ho h1 hk HW
    go_wp2_with fail
    refine (si a cap ps w1 (ae H1).g (ae HPR) (by omega)).mono ?_
    rintro e w2 ⟨rfl, hL⟩
    rw [ae HZZ]
    rw [ae HLP] at hL
    have HX := ag (Ch.after (ae HK) ((ae H1).log hL))
    clear hL d1
    go_wp2_with fail
    go_ret2
    exact ⟨rfl, ae HX⟩
 ·rw [if_neg hz] at HW
  obtain ⟨e1, e2⟩ := oo (cs := cs) hz
  obtain ⟨e3, e4, e5, e6⟩ := ii (n := n) e2
  rw [e1, e3, e4, e5, e6]
  clear e1 e2 e3 e4 e5 e6 HR HP
  generalize dm f md y rs ws = z at *
  go_enter Tryz.func84, Tryz.ntmps84
  go_wp2_with fail
  refine (ae HW).mono ?_
  rintro e w1 ⟨a, cap, rfl, _, hk⟩
  have HK := ag hk
  clear hk HW
  go_wp2_with fail
  go_ret2
  exact ⟨rfl, Ch.same ⟨Ft, Fg, ae HV⟩ (ae HK)⟩
theorem qW {B vb tb gb n db : Nat} {F Ft Fg : List Nat} {f : Nat → List Ver} {cs : List (List Ver)} {md y : Int} {rs : List Int} {ws : List Ver} (keep : Int) (w : World) (h : Vlt B w vb tb gb F Ft Fg f n cs []) (hd : Ded w db md y rs ws) (hw : WOk ws) :
 Calls Tryz.prog 113 #[.pointer (some ⟨vb, 0, none⟩), .pointer (some ⟨db, 0, none⟩), .int .i64 keep] w fun e w' => e = .returned (.int .i64 (bl f cs md y rs ws)) ∧ ∃ torn, Ch (bh vb tb gb f n (tcs f cs md y rs ws keep) torn) B w F w' := by
 have HW := ag (oe w h hd)
 have HV := ag h
 have hpl := eN ws 8
 have HP := ag hw.pf
 clear h hd hw
 by_cases hz : dm f md y rs ws = 0
 ·rw [if_pos hz, hz] at HW
  by_cases hl : (wk ws 8).length = 0
  ·rw [(kB (cs := cs) hz hl).1, mX (f := f) (cs := cs) (md := md) (y := y) (rs := rs) (keep := keep) hl]
   clear HP
   go_enter Tryz.func113, Tryz.ntmps113
   go_wp2_with fail
   refine (ae HW).mono ?_
   rintro e w1 ⟨a, cap, rfl, _, hk⟩
   rw [hl]
   have HK := ag hk
   clear hk hl
   go_wp2_with fail
   go_ret
   exact ⟨rfl, [], Ch.same ⟨Ft, Fg, ae HV⟩ (ae HK)⟩
  ·have hvc : bl f cs md y rs ws = bc cs (wk ws 8) := by unfold bl; rw [if_pos hz, if_neg hl]
   rw [hvc, iR hz hl]
   clear hvc hz
   generalize wk ws 8 = ps at *
   go_enter Tryz.func113, Tryz.ntmps113
   go_wp2_with fail
   refine (ae HW).mono ?_
   rintro e w1 ⟨a, cap, rfl, ho, hk⟩
   dsimp only at ho ⊢
   have h1 := (ae HV).kp0 hk
   have d1 := h1.c1
   have HPR := ag (dZ (dE ho rfl) (ae HP))
   have H1 := ag h1
   have HK := ag hk
   clear ho h1 hk HW
   go_wp2_with fail
   refine (oP a cap ps keep w1 (ae H1).g (ae HPR) (by omega)).mono ?_
   rintro e w2 ⟨rfl, hL⟩
   have HX := ag (Ch.after (ae HK) ((ae H1).log hL))
   clear hL d1
   go_wp2_with fail
   go_ret
   exact ⟨rfl, _, ae HX⟩
 ·rw [if_neg hz] at HW
  rw [(oo (cs := cs) hz).1, rq hz]
  clear HP
  generalize dm f md y rs ws = z at *
  go_enter Tryz.func113, Tryz.ntmps113
  go_wp2_with fail
  refine (ae HW).mono ?_
  rintro e w1 ⟨a, cap, rfl, _, hk⟩
  have HK := ag hk
  clear hk HW
  go_wp2_with fail
  go_ret
  exact ⟨rfl, [], Ch.same ⟨Ft, Fg, ae HV⟩ (ae HK)⟩
theorem zB {B vb tb gb n db : Nat} {F Ft Fg : List Nat} {f : Nat → List Ver} {cs : List (List Ver)} {md y : Int} {rs : List Int} {ws : List Ver} (keep : Int) (w : World) (h : Vlt B w vb tb gb F Ft Fg f n cs []) (hv : VI f n cs) (hd : Ded w db md y rs ws) (hw : WOk ws) :
 Calls Tryz.prog 85 #[.pointer (some ⟨vb, 0, none⟩), .pointer (some ⟨db, 0, none⟩), .int .i64 keep] w fun e w' => e = .returned (.tuple #[.int .i64 (eQ f cs md y rs ws keep), .int .i64 (bl f cs md y rs ws)]) ∧ ∃ tb', Ch (bh vb tb' gb (cw (tcs f cs md y rs ws keep)) (tcs f cs md y rs ws keep).length (tcs f cs md y rs ws keep) []) B w F w' := by
 have HG := ag (qW keep w h hd hw)
 have c0 := h.c0
 have HV := ag h
 have hn40 := h.t.inv.n40
 have hlen := hv.len
 clear h hd hw hv
 rcases jW (f := f) (cs := cs) (md := md) (y := y) (rs := rs) (ws := ws) (keep := keep) with hcs | ⟨hcs, hc0, _⟩
 ·rw [fI hcs]
  have HCS := ag hcs
  rw [hcs]
  clear hcs
  have HLEN := ag hlen
  clear hlen
  generalize hzz : bl f cs md y rs ws = z at *
  clear hzz
  by_cases hz : z = 0
  ·subst hz
   go_enter Tryz.func85, Tryz.ntmps85
   go_wp2_with fail
   refine (cM w (ae HV).t).mono ?_
   rintro e w0 ⟨rfl, hw0⟩
   subst w0
   go_wp2_with fail
   refine (ae HG).mono ?_
   rintro e w1 ⟨rfl, torn, F1, ⟨Ft1, Fg1, h1⟩, k1, s1⟩
   have H1 := ag h1
   have K1 := ag k1
   have S1 := ag s1
   clear h1 k1 s1 HG
   rw [ae HCS] at H1
   go_wp2_with fail
   refine (kz w1 (ae H1)).mono ?_
   rintro e w2 ⟨rfl, tb2, F2, ⟨Ft2, Fg2, h2⟩, k2, s2⟩
   have d0 := h2.c0
   have H2 := ag h2
   have HX := ag (Ch.trans (o' := bh vb tb2 gb (cw cs) cs.length cs []) (ae K1) (ae S1) ⟨F2, ⟨Ft2, Fg2, h2⟩, k2, s2⟩)
   clear h2 k2 s2 c0
   go_wp2_with fail
   refine (cM w2 (ae H2).t).mono ?_
   rintro e w3 ⟨rfl, hw3⟩
   subst w3
   rw [← ae HLEN]
   go_wp2_with fail
   go_ret2
   exact ⟨rfl, tb2, ae HX⟩
  ·go_enter Tryz.func85, Tryz.ntmps85
   go_wp2_with fail
   refine (cM w (ae HV).t).mono ?_
   rintro e w0 ⟨rfl, hw0⟩
   subst w0
   go_wp2_with fail
   refine (ae HG).mono ?_
   rintro e w1 ⟨rfl, torn, F1, ⟨Ft1, Fg1, h1⟩, k1, s1⟩
   have H1 := ag h1
   have K1 := ag k1
   have S1 := ag s1
   clear h1 k1 s1 HG
   rw [ae HCS] at H1
   go_wp2_with fail
   refine (kz w1 (ae H1)).mono ?_
   rintro e w2 ⟨rfl, tb2, F2, ⟨Ft2, Fg2, h2⟩, k2, s2⟩
   have d0 := h2.c0
   have H2 := ag h2
   have HX := ag (Ch.trans (o' := bh vb tb2 gb (cw cs) cs.length cs []) (ae K1) (ae S1) ⟨F2, ⟨Ft2, Fg2, h2⟩, k2, s2⟩)
   clear h2 k2 s2 c0
   go_wp2_with fail
   go_ret2
   exact ⟨rfl, tb2, ae HX⟩
 ·rw [jV hcs, hc0]
  rw [hc0] at HG
  have HCS := ag hcs
  rw [hcs]
  clear hcs hc0
  have HLEN := ag hlen
  have hN : ¬ ((cs ++ [wk ws 8]).length : Int) = (n : Int) := by have : (cs ++ [wk ws 8]).length = cs.length + 1 := (by simp); omega
  have hN2 : ((cs ++ [wk ws 8]).length : Int) = (cs.length : Int) + 1 := by simp
  generalize cs ++ [wk ws 8] = cs2 at *
  have HN2 := ag hN2
  clear hlen hN2
  go_enter Tryz.func85, Tryz.ntmps85
  go_wp2_with fail
  refine (cM w (ae HV).t).mono ?_
  rintro e w0 ⟨rfl, hw0⟩
  subst w0
  go_wp2_with fail
  refine (ae HG).mono ?_
  rintro e w1 ⟨rfl, torn, F1, ⟨Ft1, Fg1, h1⟩, k1, s1⟩
  have H1 := ag h1
  have K1 := ag k1
  have S1 := ag s1
  clear h1 k1 s1 HG
  rw [ae HCS] at H1
  go_wp2_with fail
  refine (kz w1 (ae H1)).mono ?_
  rintro e w2 ⟨rfl, tb2, F2, ⟨Ft2, Fg2, h2⟩, k2, s2⟩
  have d0 := h2.c0
  have H2 := ag h2
  have HX := ag (Ch.trans (o' := bh vb tb2 gb (cw cs2) cs2.length cs2 []) (ae K1) (ae S1) ⟨F2, ⟨Ft2, Fg2, h2⟩, k2, s2⟩)
  clear h2 k2 s2 c0
  go_wp2_with fail
  refine (cM w2 (ae H2).t).mono ?_
  rintro e w3 ⟨rfl, hw3⟩
  subst w3
  go_wp2_with fail
  refine (cM w2 (ae H2).t).mono ?_
  rintro e w3 ⟨rfl, hw3⟩
  subst w3
  go_wp2_with fail
  go_ret2
  exact ⟨by rw [ae HN2]; rfl, tb2, ae HX⟩
theorem uN {f : Nat → List Ver} {k : Nat} (hk : k < 8) : snc f k = va (f k) ((f k).length - 1) := by
 unfold snc
 rw [if_pos (by simp [aN]; omega), Int.toNat_natCast]
theorem iz {B : Nat} {w : World} {sb : Nat} {G : List Nat} {g o cap : Nat → Nat} {f : Nat → List Ver} {n : Nat} {k : Nat} (W : World) (h : fD B w sb G g o cap f n) (hW : Kp [] w W) (hk : k < 8) (s : Int) (hs : snc f k = s) :
 Calls Tryz.prog 95 #[.slice (some ⟨g k, o k, none⟩) (f k).length (cap k)] W fun e w' => e = .returned (.int .i64 s) ∧ w' = W := by
 have h' := h.kp hW (fun _ _ => by simp)
 refine (lf (g k) (o k) (cap k) W (h'.sla k hk) (h'.inv.pos k hk) (by have := h'.inv.len41 hk; omega)).mono ?_
 rintro e w' ⟨rfl, rfl⟩
 exact ⟨by rw [← hs, uN hk], rfl⟩
theorem Sht.ncell {B : Nat} {w : World} {sb : Nat} {G : List Nat} {f : Nat → List Ver} {n : Nat} (h : Sht B w sb G f n) : w.cell? ⟨sb, 8, none⟩ = some (.int .i64 n) := by
 obtain ⟨g, o, cap, h⟩ := h
 exact h.ncell
theorem Sht.inv {B : Nat} {w : World} {sb : Nat} {G : List Nat} {f : Nat → List Ver} {n : Nat} (h : Sht B w sb G f n) : Inv f n := by
 obtain ⟨g, o, cap, h⟩ := h
 exact h.inv
def wi (sb : Nat) : Array Value := #[.pointer (some ⟨sb, 0, none⟩), .slice none 0 0, .slice none 0 0, .pointer none, .pointer none, .pointer none, .pointer none, .pointer none]
theorem wh {w w1 : World} {sb : Nat} {Gs : List Nat} {f : Nat → List Ver} {n : Nat} (h1 : Sht w.heap.size w1 sb Gs f n) (k1 : Kp [] w w1) :
 Crt w.heap.size (w1.alloc (.cells (wi sb) 93)) w1.heap.size sb (w1.heap.size :: Gs) [w1.heap.size] Gs (wi sb) f n [] [] (fun _ => none) := by
 have ka : Kp [] w1 (w1.alloc (.cells (wi sb) 93)) := (Kp.refl [] w1).alloc _
 have hs1 := k1.size
 have hsa : (w1.alloc (.cells (wi sb) 93)).heap.size = w1.heap.size + 1 := by simp
 refine ⟨⟨none, 0, [], none, 0, ⟨heap_alloc_new w1 _, rfl, rfl, rZ _ _, fun e he => by simp at he, fm _ _, fun _ => ⟨rfl, rfl⟩, by simp [ob], by simp [ob], by simp, by simp [ob], fun x hx => ?_, jl, by simp, by omega⟩, rfl⟩, rfl, fun i hi => ?_, rfl, h1.kp0 ka, fun x hx hm => ?_, fun x hx => by simp at hx; simp [hx], fun x hx => by simp [hx], fun x hx => ?_⟩
 ·simp at hx; omega
 ·have : i = 0 ∨ i = 1 ∨ i = 2 ∨ i = 3 ∨ i = 4 := by omega
  rcases this with e | e | e | e | e <;> subst e <;> rfl
 ·simp at hx
  have := (h1.lo x hm).2
  omega
 ·rw [hsa]
  rcases List.mem_cons.1 hx with e | e
  ·omega
  ·have := h1.lo x e; omega
theorem Av (w : World) : Calls Tryz.prog 24 #[] w fun e w' => ∃ cb sb G, e = .returned (.pointer (some ⟨cb, 0, none⟩)) ∧ (cf cb sb (fun _ => [dv]) 0 [] [] (fun _ => none)).holds w.heap.size w' G ∧ Kp [] w w' := by
 go_enter Tryz.func24, Tryz.ntmps24
 go_wp2_with fail
 refine (rD w).mono ?_
 rintro e w1 ⟨rfl, ⟨Gs, hT⟩, hk1⟩
 have HT := ag hT
 have HK1 := ag hk1
 clear hT hk1
 generalize ht : w.heap.size = sb at HT ⊢
 have HTB := ag ht
 clear ht
 go_wp2_with fail
 go_ret
 have e1 := (ae HTB).symm
 subst e1
 exact ⟨_, _, _, rfl, ⟨_, _, _, wh (ae HT) (ae HK1)⟩, (ae HK1).alloc _⟩
theorem nU (w : World) (md y : Int) : Wrk w.heap.size (w.alloc (.cells #[.int .i64 md, .int .i64 y, .slice none 0 0, .slice none 0 0] 151)) w.heap.size [w.heap.size] md y [] [] :=
 ⟨none, 0, none, 0, heap_alloc_new _ _, World.ownsRow_nil _ _ _ _, World.ownsRow_nil _ _ _ _, fun g hg => by simp [Value.ownBlock] at hg, fun g hg => by simp [Value.ownBlock] at hg, fun g g' hg => by simp [Value.ownBlock] at hg, by simp, fun x hx => by simp at hx; simp; omega⟩
def um (f : Nat → List Ver) (n : Nat) (md at_ : Int) (w : World) (e : Ending) (w' : World) : Prop :=
 (ba f n md at_ = 0 ∧ ∃ D H, e = .returned (.tuple #[.pointer (some ⟨D, 0, none⟩), .int .i64 0]) ∧ Wrk w.heap.size w' D H md (bat n md at_) [] [] ∧ Kp [] w w') ∨
 (¬ ba f n md at_ = 0 ∧ e = .returned (.tuple #[.pointer none, .int .i64 (ba f n md at_)]) ∧ Kp [] w w')
theorem eL {f : Nat → List Ver} {n : Nat} {md at_ c : Int} {w w' : World} (hb : ba f n md at_ = c) (hc : c ≠ 0) (hk : Kp [] w w') : um f n md at_ w (.returned (.tuple #[.pointer none, .int .i64 c])) w' := .inr ⟨by rw [hb]; exact hc, by rw [hb], hk⟩
theorem mN {f : Nat → List Ver} {n : Nat} {md at_ : Int} {w w' : World} {D : Nat} {H : List Nat} (hb : ba f n md at_ = 0) (hd : Wrk w.heap.size w' D H md (bat n md at_) [] []) (hk : Kp [] w w') : um f n md at_ w (.returned (.tuple #[.pointer (some ⟨D, 0, none⟩), .int .i64 0])) w' := .inl ⟨hb, D, H, rfl, hd, hk⟩
theorem tP {B cb sb n : Nat} {G Gr Gs : List Nat} {bx : Array Value} {f : Nat → List Ver} {cs : List (List Ver)} {torn : List UInt8} {st : Nat → Option Addr} (md at_ : Int) (w : World) (h : Crt B w cb sb G Gr Gs bx f n cs torn st) :
 Calls Tryz.prog 58 #[.pointer (some ⟨cb, 0, none⟩), .int .i64 md, .int .i64 at_] w fun e w' => um f n md at_ w e w' := by
 have c0 := h.c0
 have n0 := h.s.ncell
 have HT := ag h.s
 obtain ⟨x0, x1⟩ := ff h.s.inv 8 (Nat.le_refl _)
 have hn40 := h.s.inv.n40
 clear h
 by_cases hm : 1 ≤ md ∧ md ≤ 3
 ·have hm1 : ¬ md < 1 := by omega
  have hm3 : ¬ 3 < md := by omega
  by_cases h3 : md = 3
  ·subst h3
   by_cases hr : at_ < 0 ∨ (n : Int) < at_
   ·have hb : ba f n 3 at_ = 1 := by unfold ba; rw [if_pos (by omega), if_pos rfl, if_pos hr]
    have HBB := ag hb
    clear hb
    rcases hr with hr | hr
    ·go_enter Tryz.func58, Tryz.ntmps58
     go_wp2_with fail
     go_ret2
     exact eL (ae HBB) (by omega) (Kp.refl _ _)
    ·have hr0 : ¬ at_ < 0 := by omega
     go_enter Tryz.func58, Tryz.ntmps58
     go_wp2_with fail
     go_ret2
     exact eL (ae HBB) (by omega) (Kp.refl _ _)
   ·have hr0 : ¬ at_ < 0 := by omega
    have hr1 : ¬ (n : Int) < at_ := by omega
    by_cases ho : at_ < fmx f 8
    ·have hb : ba f n 3 at_ = 12 := by unfold ba; rw [if_pos (by omega), if_pos rfl, if_neg hr, if_pos ho]
     have HBB := ag hb
     clear hb
     go_enter Tryz.func58, Tryz.ntmps58
     go_wp2_with fail
     refine (iZ w (ae HT)).mono ?_
     rintro e w2 ⟨rfl, hw⟩
     subst w2
     go_wp2_with fail
     go_ret2
     exact eL (ae HBB) (by omega) (Kp.refl _ _)
    ·have hb : ba f n 3 at_ = 0 := by unfold ba; rw [if_pos (by omega), if_pos rfl, if_neg hr, if_neg ho]
     have HBB := ag hb
     clear hb
     go_enter Tryz.func58, Tryz.ntmps58
     go_wp2_with fail
     refine (iZ w (ae HT)).mono ?_
     rintro e w2 ⟨rfl, hw⟩
     subst w2
     go_wp2_with fail
     go_ret2
     exact mN (ae HBB) (by rw [show bat n 3 at_ = at_ from if_pos rfl]; exact nU w 3 at_) ((Kp.refl [] w).alloc _)
  ·have hb : ba f n md at_ = 0 := by unfold ba; rw [if_pos hm, if_neg h3]
   have HBB := ag hb
   clear hb
   have hr0 : ¬ (n : Int) < 0 := by omega
   have hr1 : ¬ (n : Int) < (n : Int) := by omega
   have hr2 : ¬ (n : Int) < fmx f 8 := by omega
   go_enter Tryz.func58, Tryz.ntmps58
   go_wp2_with fail
   refine (iZ w (ae HT)).mono ?_
   rintro e w2 ⟨rfl, hw⟩
   subst w2
   go_wp2_with fail
   go_ret2
   exact mN (ae HBB) (by rw [show bat n md at_ = n from if_neg h3]; exact nU w md n) ((Kp.refl [] w).alloc _)
 ·have hb : ba f n md at_ = 3 := by unfold ba; rw [if_neg hm]
  have HBB := ag hb
  clear hb
  by_cases hm1 : md < 1
  ·go_enter Tryz.func58, Tryz.ntmps58
   go_wp2_with fail
   go_ret2
   exact eL (ae HBB) (by omega) (Kp.refl _ _)
  ·have hm3 : 3 < md := by omega
   go_enter Tryz.func58, Tryz.ntmps58
   go_wp2_with fail
   go_ret2
   exact eL (ae HBB) (by omega) (Kp.refl _ _)
theorem Crt.newS {B : Nat} {w W : World} {cb sb sb' : Nat} {G Gr Gs Gs' : List Nat} {bx : Array Value} {f f' : Nat → List Ver} {n n' : Nat} {cs : List (List Ver)} {torn : List UInt8} {st : Nat → Option Addr} (h : Crt B w cb sb G Gr Gs bx f n cs torn st) (hW : Kp [] w W) (k1 : Sht w.heap.size W sb' Gs' f' n') :
 Ch (cf cb sb' f' n' cs torn st) B w G (W.setCell ⟨cb, 0, none⟩ (.pointer (some ⟨sb', 0, none⟩))) := by
 have hcb := (h.lo cb h.cG).2
 have hBw : B ≤ w.heap.size := by have := (h.lo cb h.cG).1; omega
 have hk3 : Kp [cb] W (W.setCell ⟨cb, 0, none⟩ (.pointer (some ⟨sb', 0, none⟩))) := (Kp.refl [cb] W).setCell (.inl (by simp)) _
 have hW1 := h.kp0 hW
 have hne : ∀ x, x ∈ Gs' → x ≠ cb := fun x hx e => by have := (k1.lo x hx).1; omega
 refine ⟨Gr ++ Gs', ⟨Gr, Gs', bx.setIfInBounds 0 (.pointer (some ⟨sb', 0, none⟩)), hW1.r.other 0 _ (by omega) (by omega), eE h.b0 _, fun i hi => cN (h.bs i hi) (by omega) _, by simp [h.sz], (k1.base hBw).kp hk3 (fun x hx e => hne x hx (List.mem_singleton.1 e)), fun x hx hm => ?_, fun x hx => by simp [hx], fun x hx => by simp [hx], fun x hx => ?_⟩, (hW.mono (fun x hx => by simp at hx)).trans hk3 (fun x hx => .inl (by rw [List.mem_singleton.1 hx]; exact h.cG)), fun x hx => ?_⟩
 ·have h1 := (k1.lo x hm).1
  have h2 := (h.lo x (h.rG x hx)).2
  omega
 ·rcases List.mem_append.1 hx with e | e
  ·exact ⟨(h.lo x (h.rG x e)).1, Nat.lt_of_lt_of_le (hW1.lo x (h.rG x e)).2 hk3.size⟩
  ·exact ⟨Nat.le_trans hBw (k1.lo x e).1, Nat.lt_of_lt_of_le (k1.lo x e).2 hk3.size⟩
 ·rcases List.mem_append.1 hx with e | e
  ·exact .inl (h.rG x e)
  ·exact .inr (k1.lo x e).1
structure AgL (B : Nat) (w : World) (G : List Nat) (cb sb : Nat) (bx : Array Value) (st : Nat → Option Addr) (aL : Option Addr) (capL : Nat) (xs : List El) (i : Nat) (wr : World) (Gr Gs : List Nat) : Prop where
 r : ∃ aT cT, RxL B wr cb 1 bx 93 Gr aL capL xs aT cT []
 s : Sht B wr sb Gs (cw ((cps xs).take i)) i
 rs : ∀ x, x ∈ Gr → x ∉ Gs
 b0 : bx[0]? = some (.pointer (some ⟨sb, 0, none⟩))
 bs : ∀ j, j < 5 → bx[3 + j]? = some (.pointer (st j))
 sz : bx.size = 8
 kp : Kp G w wr
 rG : ∀ x, x ∈ Gr → x ∈ G ∨ w.heap.size ≤ x
 sG : ∀ x, x ∈ Gs → x ∈ G ∨ w.heap.size ≤ x
def Ag (B : Nat) (w : World) (G : List Nat) (cb sb : Nat) (bx : Array Value) (st : Nat → Option Addr) (aL : Option Addr) (capL : Nat) (xs : List El) (i : Nat) (wr : World) : Prop := ∃ Gr Gs, AgL B w G cb sb bx st aL capL xs i wr Gr Gs
section
variable {B : Nat} {w wr w' : World} {G : List Nat} {cb sb : Nat} {bx : Array Value} {st : Nat → Option Addr} {aL : Option Addr} {capL : Nat} {xs : List El} {i : Nat}
theorem Ag.kp0 (h : Ag B w G cb sb bx st aL capL xs i wr) (hk : Kp [] wr w') : Ag B w G cb sb bx st aL capL xs i w' := by
 obtain ⟨Gr, Gs, h⟩ := h
 obtain ⟨aT, cT, hr⟩ := h.r
 exact ⟨Gr, Gs, ⟨aT, cT, hr.kp hk (fun _ _ => by simp)⟩, h.s.kp0 hk, h.rs, h.b0, h.bs, h.sz, h.kp.trans0 hk, h.rG, h.sG⟩
theorem Ag.c0 (h : Ag B w G cb sb bx st aL capL xs i wr) : wr.cell? ⟨cb, 0, none⟩ = some (.pointer (some ⟨sb, 0, none⟩)) := by
 obtain ⟨Gr, Gs, h⟩ := h
 obtain ⟨aT, cT, hr⟩ := h.r
 exact af hr.box h.b0
theorem Ag.c1 (h : Ag B w G cb sb bx st aL capL xs i wr) : wr.cell? ⟨cb, 1, none⟩ = some (.slice aL xs.length capL) := by
 obtain ⟨Gr, Gs, h⟩ := h
 obtain ⟨aT, cT, hr⟩ := h.r
 exact hr.c0
theorem Ag.at_ (h : Ag B w G cb sb bx st aL capL xs i wr) {k : Nat} (hk : k < xs.length) : ∃ g, aL = some ⟨g, 0, none⟩ ∧ wr.cell? ⟨g, k, none⟩ = some (.slice (eat xs k).a (eat xs k).ps.length (eat xs k).c) := by
 obtain ⟨Gr, Gs, h⟩ := h
 obtain ⟨aT, cT, hr⟩ := h.r
 exact hr.own.cell hk
theorem tW (h : Ag B w G cb sb bx st aL capL xs i wr) (hi : i < xs.length) {W : World} (hW : Kp [] wr W) :
 Calls Tryz.prog 89 #[.pointer (some ⟨sb, 0, none⟩), .slice (eat xs i).a (eat xs i).ps.length (eat xs i).c] W fun e w' => ∃ a b, e = .returned (.tuple #[.int .i64 a, .int .i64 b]) ∧ Hid (Ag B w G cb sb bx st aL capL xs (i + 1) w') := by
 obtain ⟨Gr, Gs, h⟩ := h.kp0 hW
 obtain ⟨aT, cT, hr⟩ := h.r
 have hpf : pf (-1) (eat xs i).ps = 0 := by rw [← nH hi]; exact hr.inv.at_ (by rw [br]; exact hi)
 have hpr : Prs W (eat xs i).a (eat xs i).ps := dZ (hr.els _ (lk hi)).1 hpf
 have h8 := ec hpf
 have hn40 := hr.inv.n40
 rw [br] at hn40
 obtain ⟨q1, q2⟩ := ez (n := i) hpf (by omega)
 refine (lW _ _ _ W h.s hpr (fun _ g o e hg => ?_) (by omega)).mono ?_
 ·have := ((hr.els _ (lk hi)).2 g (by rw [e]; simp [ob])).1
  exact h.rs g this hg
 ·rintro e w' ⟨rfl, Gs', k1, k2, k3⟩
  refine ⟨_, _, rfl, Gr, Gs', ⟨aT, cT, hr.kp k2 (fun x hx hh => h.rs x hx hh)⟩, ?_, fun x hx hm => ?_, h.b0, h.bs, h.sz, h.kp.trans k2 h.sG, h.rG, fun x hx => ?_⟩
  ·rw [q2] at k1
   have e1 : (cps xs).take (i + 1) = (cps xs).take i ++ [(eat xs i).ps] := by
    rw [List.take_succ_eq_append_getElem (by rw [br]; exact hi), ← nH hi]
    simp [List.getD_eq_getElem?_getD, br, hi]
   rw [e1, fG]
   have e2 : ((cps xs).take i).length = i := by rw [List.length_take, br]; omega
   rw [e2]
   exact k1
  ·rcases k3 x hm with e | e
   ·exact h.rs x hx e
   ·have := (hr.lo x hx).2; omega
  ·rcases k3 x hx with e | e
   ·exact h.sG x e
   ·exact .inr (Nat.le_trans h.kp.size e)
theorem Ag.crt (h : Ag B w G cb sb bx st aL capL xs i wr) (hi : i = xs.length) : Ch (cf cb sb (cw (cps xs)) (cps xs).length (cps xs) [] st) B w G wr := by
 obtain ⟨Gr, Gs, h⟩ := h
 obtain ⟨aT, cT, hr⟩ := h.r
 have hs := h.s
 rw [hi, ← br, List.take_length] at hs
 refine ⟨Gr ++ Gs, ⟨Gr, Gs, bx, ⟨aL, capL, xs, aT, cT, hr, rfl⟩, h.b0, h.bs, h.sz, hs, h.rs, fun x hx => by simp [hx], fun x hx => by simp [hx], fun x hx => ?_⟩, h.kp, fun x hx => ?_⟩
 ·rcases List.mem_append.1 hx with e | e
  ·exact hr.lo x e
  ·exact hs.lo x e
 ·rcases List.mem_append.1 hx with e | e
  ·exact h.rG x e
  ·exact h.sG x e
end
theorem tX {B : Nat} {w w1 : World} {G : List Nat} {cb sb : Nat} {cs : List (List Ver)} {st : Nat → Option Addr} (h : Ch (cf cb sb (fun _ => [dv]) 0 cs [] st) B w G w1) : ∃ bx aL capL xs, cs = cps xs ∧ Ag B w G cb sb bx st aL capL xs 0 w1 := by
 obtain ⟨G1, ⟨Gr, Gs, bx, h1⟩, h2, h3⟩ := h
 obtain ⟨aL, capL, xs, aT, cT, hr, e⟩ := h1.r
 exact ⟨bx, aL, capL, xs, e, Gr, Gs, ⟨aT, cT, hr⟩, h1.s, h1.rs, h1.b0, h1.bs, h1.sz, h2, fun x hx => h3 x (h1.rG x hx), fun x hx => h3 x (h1.sG x hx)⟩
theorem Crt.stand {B : Nat} {w : World} {cb sb : Nat} {G Gr Gs : List Nat} {bx : Array Value} {f : Nat → List Ver} {n : Nat} {cs : List (List Ver)} {torn : List UInt8} {st : Nat → Option Addr} (h : Crt B w cb sb G Gr Gs bx f n cs torn st) :
 Ch (cf cb sb f n cs torn (fun _ => none)) B w G (((((w.setCell ⟨cb, 3, none⟩ (.pointer none)).setCell ⟨cb, 4, none⟩ (.pointer none)).setCell ⟨cb, 5, none⟩ (.pointer none)).setCell ⟨cb, 6, none⟩ (.pointer none)).setCell ⟨cb, 7, none⟩ (.pointer none)) := by
 have h5 := (h.sit (i := 0) (by omega) none).to fun G1 ⟨Gr1, Gs1, bx1, h1⟩ => (h1.sit (i := 1) (by omega) none).to fun G2 ⟨Gr2, Gs2, bx2, h2⟩ => (h2.sit (i := 2) (by omega) none).to fun G3 ⟨Gr3, Gs3, bx3, h3⟩ => (h3.sit (i := 3) (by omega) none).to fun G4 ⟨Gr4, Gs4, bx4, h4⟩ => h4.sit (i := 4) (by omega) none
 obtain ⟨F', ⟨Gr', Gs', bx', k⟩, k2, k3⟩ := h5
 refine ⟨F', ⟨Gr', Gs', bx', k.r, k.b0, fun i hi => ?_, k.sz, k.s, k.rs, k.rG, k.sG, k.lo⟩, k2, k3⟩
 rw [k.bs i hi]
 have : i = 0 ∨ i = 1 ∨ i = 2 ∨ i = 3 ∨ i = 4 := by omega
 rcases this with e | e | e | e | e <;> subst e <;> rfl
theorem yU {B cb sb n : Nat} {G Gr Gs : List Nat} {bx : Array Value} {f : Nat → List Ver} {cs : List (List Ver)} {torn : List UInt8} {st : Nat → Option Addr} (w : World) (h : Crt B w cb sb G Gr Gs bx f n cs torn st) :
 Calls Tryz.prog 57 #[.pointer (some ⟨cb, 0, none⟩)] w fun e w' => e = .returned (.tuple #[]) ∧ ∃ sb', Ch (cf cb sb' (cw cs) cs.length cs [] (fun _ => none)) B w G w' := by
 have HV := ag h
 have HR := ag h.r
 have hn40 := h.r.inv.n40
 clear h
 go_enter Tryz.func57, Tryz.ntmps57
 go_wp2_with fail
 refine (xQ w (ae HR)).mono ?_
 rintro e w1 ⟨rfl, hL⟩
 obtain ⟨G1, ⟨Gr1, Gs1, bx1, h1⟩, k1, s1⟩ := (ae HV).roll hL
 have H1 := ag h1
 have K1 := ag k1
 have S1 := ag s1
 clear h1 k1 s1 hL HR
 go_wp2_with fail
 refine (rD w1).mono ?_
 rintro e w2 ⟨rfl, ⟨Gs2, hT⟩, hk2⟩
 have h2 := (ae H1).kp0 hk2
 have d0 := h2.c0
 have f0 := h2.fz 0
 have HCH := ag (Ch.trans (ae K1) (ae S1) ((ae H1).newS hk2 hT))
 clear h2 hT hk2
 generalize w1.heap.size = sb2 at *
 generalize hW3 : w2.setCell ⟨cb, 0, none⟩ (.pointer (some ⟨sb2, 0, none⟩)) = w3 at HCH
 obtain ⟨bx, aL, capL, xs, hcs, hag⟩ := tX (ae HCH)
 have HAG := ag hag
 have HCS := ag hcs
 have hlen : cs.length = xs.length := by rw [hcs, br]
 have hx40 : xs.length ≤ 40 := by omega
 have HW3 := ag hW3
 have HLEN := ag hlen
 clear hag hcs hlen hn40 hW3
 go_wp2_with fail
 rw [ae HW3]
 go_loopw [2] (fun i wr => ∃ k : Nat, k ≤ xs.length ∧ i = .int .i64 k ∧ Hid (Ag B w G cb sb2 bx st aL capL xs k wr)) (fun i _ => xs.length - (intOf i).toNat)
 case atStart => exact ⟨0, by omega, rfl, HAG⟩
 case round =>
  obtain ⟨k, hk, rfl, HI⟩ := hrel
  have r0 := (ae HI).c1
  by_cases hlt : k < xs.length
  ·have i0 : (0 : Int) ≤ (k : Int) := by omega
   have i1 : (k : Int) < (xs.length : Int) := by omega
   have q0 := (ae HI).c0
   obtain ⟨gL, rfl, q1⟩ := (ae HI).at_ hlt
   have q1' : wr.cell? ⟨gL, 0 + k, none⟩ = some (.slice (eat xs k).a (eat xs k).ps.length (eat xs k).c) := by rw [Nat.zero_add]; exact q1
   go_wp2_with fail
   go_region_with (go_at_call 89; refine (tW (ae HI) hlt (Kp.refl [] wr).drew).mono ?_; rintro e w4 ⟨za, zb, rfl, HI4⟩)
   all_goals
    go_wp2_with fail
    exact ⟨⟨k + 1, by omega, by go_num, HI4⟩, by simp [intOf]; omega⟩
  ·have hkk : k = xs.length := by omega
   have HC5 := ag ((ae HI).crt hkk)
   obtain ⟨G5, ⟨Gr5, Gs5, bx5, h5⟩, k5, s5⟩ := (ae HI).crt hkk
   have y0 := h5.seat (i := 0) (by omega)
   have y1 := h5.seat (i := 1) (by omega)
   have y2 := h5.seat (i := 2) (by omega)
   have y3 := h5.seat (i := 3) (by omega)
   have y4 := h5.seat (i := 4) (by omega)
   have z0 := h5.fz 3
   have z1 := h5.fz 4
   have z2 := h5.fz 5
   have z3 := h5.fz 6
   have z4 := h5.fz 7
   have HX := ag (Ch.trans k5 s5 h5.stand)
   clear h5 k5 s5 hkk
   go_wp2_with fail
   go_end0
   rw [← ae HCS] at HX
   exact ⟨rfl, sb2, ae HX⟩
def bE (s : Int) : Bool := decide (0 ≤ s ∧ s < 5)
theorem ck (k : Int) (w : World) : Calls Tryz.prog 25 #[.int .i64 k] w fun e w' => e = .returned (.bool (bE k)) ∧ w' = w := by
 go_enter Tryz.func25, Tryz.ntmps25
 go_wp2
 all_goals
  go_ret
  exact ⟨eF (by simp [bE]; omega), rfl⟩
theorem Ch.side {o' : ao} {B : Nat} {w W w1 w' : World} {G : List Nat} {p : Nat} (h : Ch o' B W G w1) (hW : Kp [] w W) (hG : ∀ x, x ∈ G → x < w.heap.size) (hp : w.heap.size ≤ p) (hp2 : p < W.heap.size) (hk : Kp [p] w1 w') : Ch o' B w G w' := by
 obtain ⟨F1, h1, h2, h3⟩ := h
 have hpF : ∀ x, x ∈ F1 → x ≠ p := fun x hx e => by
  subst e
  rcases h3 x hx with q | q
  ·have := hG x q; omega
  ·omega
 refine ⟨F1, o'.kp h1 hk (fun x hx e => hpF x hx (List.mem_singleton.1 e)), ((hW.mono (fun x hx => by simp at hx)).trans h2 (fun x hx => .inl hx)).trans hk (fun x hx => .inr (by rw [List.mem_singleton.1 hx]; exact hp)), fun x hx => ?_⟩
 rcases h3 x hx with q | q
 ·exact .inl q
 ·exact .inr (Nat.le_trans hW.size q)
theorem Ch.far {o' : ao} {B : Nat} {W w1 : World} {G : List Nat} (h : Ch o' B W G w1) {p : Nat} {o : Obj} (hp : p ∉ G) (hb : W.heap[p]? = some o) : w1.heap[p]? = some o := by
 obtain ⟨F1, h1, h2, h3⟩ := h
 rw [h2.block p (ah hb) hp]; exact hb
theorem pF (w : World) (o1 o2 : Obj) : ((w.alloc o1).alloc o2).heap[w.heap.size + 1]? = some o2 := by
 have h : (w.alloc o1).heap.size = w.heap.size + 1 := by simp
 rw [← h]
 exact heap_alloc_new _ _
def EvB (w : World) (p : Nat) : Prop := w.heap[p]? = some (.cells #[.int .i64 0, .int .i64 0, .bool false, .string ⟨#[]⟩, .slice none 0 0] 74 (0, 0))
structure EvC (w : World) (p : Nat) : Prop where
 c0 : w.cell? ⟨p, 0, none⟩ = some (.int .i64 0)
 c1 : w.cell? ⟨p, 1, none⟩ = some (.int .i64 0)
 c2 : w.cell? ⟨p, 2, none⟩ = some (.bool false)
 c3 : w.cell? ⟨p, 3, none⟩ = some (.string ⟨#[]⟩)
 c4 : w.cell? ⟨p, 4, none⟩ = some (.slice none 0 0)
 f0 : w.frozen? ⟨p, 0, none⟩ = false
 f1 : w.frozen? ⟨p, 1, none⟩ = false
 f2 : w.frozen? ⟨p, 2, none⟩ = false
 f3 : w.frozen? ⟨p, 3, none⟩ = false
 f4 : w.frozen? ⟨p, 4, none⟩ = false
theorem EvB.c {w : World} {p : Nat} (h : EvB w p) : EvC w p :=
 ⟨af h rfl, af h rfl, af h rfl, af h rfl, af h rfl, ak _ h, ak _ h, ak _ h, ak _ h, ak _ h⟩
theorem ev5 {w1 : World} {p : Nat} (a b c d e : Value) : Kp [p] w1 (((((w1.setCell ⟨p, 0, none⟩ a).setCell ⟨p, 1, none⟩ b).setCell ⟨p, 2, none⟩ c).setCell ⟨p, 3, none⟩ d).setCell ⟨p, 4, none⟩ e) :=
 (((((Kp.refl [p] w1).setCell (.inl (by simp)) _).setCell (.inl (by simp)) _).setCell (.inl (by simp)) _).setCell (.inl (by simp)) _).setCell (.inl (by simp)) _
end
section
open Go.RowKit
def au (q : Nat) (cs : Array Value) (T : TypeId) : ao where
 holds B w F := w.heap[q]? = some (.cells cs T (0, 0)) ∧ F = [q] ∧ B ≤ q
 kp := fun ⟨h1, h2, h3⟩ hk hS => ⟨by rw [hk.block q (ah h1) (hS q (by rw [h2]; simp))]; exact h1, h2, h3⟩
 lo := fun ⟨h1, h2, h3⟩ x hx => by rw [h2] at hx; simp at hx; rw [hx]; exact ⟨h3, ah h1⟩
 base := fun ⟨h1, h2, h3⟩ hC => ⟨h1, h2, Nat.le_trans hC h3⟩
section
variable {w0 w w' : World} {o o1 o2 o3 : ao} {r : List ao}
theorem Zoo.box (h : Zoo w0 w r) (cs : Array Value) (T : TypeId) : Zoo w0 (w.alloc (.cells cs T)) (au w.heap.size cs T :: r) :=
 h.cons (F := [w.heap.size]) ⟨heap_alloc_new w _, rfl, Nat.le_refl _⟩ ((Kp.refl [] w).alloc _)
theorem Zoo.var {q : Nat} {cs : Array Value} {T : TypeId} (h : Zoo w0 w (au q cs T :: r)) : w.heap[q]? = some (.cells cs T (0, 0)) := by
 obtain ⟨F, h1, _⟩ := bi h
 exact h1.1
theorem Zoo.base (h : Zoo w0 w r) : w0.heap.size ≤ w.heap.size := h.kp.size
end
section
variable {B : Nat} {w w' W : World} {hb : Nat} {F S : List Nat} {vb cb : Nat} {da a' : Option Addr} {dc c' : Nat} {wa : Option Addr} {wc dn wn : Nat} {dbs wbs l : List Nat}
end
def bn (e : TypeId) (k : Nat) (B : Nat) (w : World) (a : Option Addr) (n cap : Nat) (xs : List Value) : Prop :=
 xs.length = n * k ∧ ((a = none ∧ n = 0 ∧ cap = 0) ∨ ∃ g cur, a = some ⟨g, 0, none⟩ ∧ B ≤ g ∧ w.heap[g]? = some (.cells cur e (0, 0)) ∧ n ≤ cap ∧ cap ≤ maxLen ∧ cap * k ≤ cur.size ∧ cur.toList.take (n * k) = xs)
section
variable {e : TypeId} {k B : Nat} {w w' : World} {a : Option Addr} {n cap : Nat} {xs : List Value}
theorem mr (e : TypeId) (k B : Nat) (w : World) : bn e k B w none 0 0 [] := ⟨by simp, .inl ⟨rfl, rfl, rfl⟩⟩
theorem bn.le (h : bn e k B w a n cap xs) : n ≤ cap := by
 rcases h.2 with ⟨_, e1, e2⟩ | ⟨g, cur, _, _, _, h1, _⟩
 ·omega
 ·exact h1
theorem bn.lo (h : bn e k B w a n cap xs) : ∀ x ∈ ob a, B ≤ x ∧ x < w.heap.size := by
 intro x hx
 rcases h.2 with ⟨rfl, _⟩ | ⟨g, cur, rfl, h1, h2, _⟩
 ·simp [ob] at hx
 ·simp [ob] at hx
  have := ah h2
  omega
theorem bn.kp {S : List Nat} (h : bn e k B w a n cap xs) (hk : Kp S w w') (hS : ∀ x ∈ ob a, x ∉ S) : bn e k B w' a n cap xs := by
 refine ⟨h.1, ?_⟩
 rcases h.2 with hn | ⟨g, cur, rfl, h1, h2, h3⟩
 ·exact .inl hn
 ·exact .inr ⟨g, cur, rfl, h1, by rw [hk.block g (ah h2) (hS g (by simp [ob]))]; exact h2, h3⟩
theorem bn.kp0 (h : bn e k B w a n cap xs) (hk : Kp [] w w') : bn e k B w' a n cap xs := h.kp hk (fun _ _ => by simp)
theorem bn.base {C : Nat} (h : bn e k B w a n cap xs) (hC : C ≤ B) : bn e k C w a n cap xs := by
 refine ⟨h.1, ?_⟩
 rcases h.2 with hn | ⟨g, cur, rfl, h1, h2⟩
 ·exact .inl hn
 ·exact .inr ⟨g, cur, rfl, by omega, h2⟩
theorem bn.cell (h : bn e k B w a n cap xs) {j : Nat} {v : Value} (hj : xs[j]? = some v) : ∃ g, a = some ⟨g, 0, none⟩ ∧ w.cell? ⟨g, j, none⟩ = some v := by
 have hl : j < n * k := by rw [← h.1]; exact (List.getElem?_eq_some_iff.1 hj).1
 rcases h.2 with ⟨_, e1, _⟩ | ⟨g, cur, rfl, h1, h2, h3, h4, h5, h6⟩
 ·subst e1; omega
 ·refine ⟨g, rfl, af h2 ?_⟩
  rw [← h6, List.getElem?_take] at hj
  rw [if_pos hl] at hj
  simpa using hj
theorem ms {t : TypeId} {z : Value} {by_ : Nat} (hu : Tryz.prog.underlying t = some (.slice e)) (hi : (Tryz.prog.info? e).map (fun i => (i.zero, i.size, i.bytes)) = some (some z, k, by_)) (hz : z.cells.size = k) (hby : by_ ≤ 1000)
 (h : bn e k B w a n cap xs) (hB : B ≤ w.heap.size) (ty : TypeId) (x : Value) (news : List Value) (m : Nat) (hs : Src Tryz.prog k t x m news w) (hl : n + m ≤ 100000) :
 ∃ a' cap' w', (Builtin.append_ #[t, t] ty #[.slice a n cap, x]).run Tryz.prog w = .ok (.slice a' (n + m) cap') w' ∧ bn e k B w' a' (n + m) cap' (xs ++ news) ∧ Kp (ob a) w w' ∧ ∀ y ∈ ob a', y ∈ ob a ∨ w.heap.size ≤ y := by
 obtain ⟨i0, hi0, hz0, hz1, hz2⟩ := info_parts hi
 have hs' : Src Tryz.prog i0.size t x m news w := by rw [hz1]; exact hs
 have hnl : news.length = m * k := hs.newsLen
 have hxl := h.1
 have hle := h.le
 have hall : (xs ++ news).length = (n + m) * k := by rw [List.length_append, hxl, hnl, Nat.add_mul]
 by_cases hp : m = 0
 ·subst hp
  have e0 : news = [] := List.eq_nil_of_length_eq_zero (by rw [hnl]; omega)
  subst e0
  have hr := run_append_nothing (P := Tryz.prog) w t t ty e i0 hu hi0 a n cap hle x hs'
  exact ⟨a, cap, w, hr, by rw [List.append_nil]; exact h, Kp.refl _ _, fun y hy => .inl hy⟩
 have hold : (Builtin.firstCells i0.size n (.slice a n cap)).run Tryz.prog w.drew = .ok xs.toArray w.drew := by
  rcases h.2 with ⟨rfl, rfl, rfl⟩ | ⟨g, cur, rfl, h1, h2, h3, h4, h5, h6⟩
  ·have : xs = [] := List.eq_nil_of_length_eq_zero (by rw [hxl]; omega)
   subst this
   exact run_firstCells_none w.drew i0.size 0 0 0
  ·refine run_firstCells_some (P := Tryz.prog) w.drew i0.size n ⟨g, 0, none⟩ n cap xs (by rw [hz1, hxl]) (fun j u hj => ?_)
   obtain ⟨g', e', hc⟩ := h.cell hj
   simp only [Option.some.injEq, Addr.mk.injEq, and_true] at e'
   subst e'
   rw [ca, Nat.zero_add]
   exact hc
 by_cases hroom : n + m ≤ cap
 ·rcases h.2 with ⟨_, _, _⟩ | ⟨g, cur, rfl, h1, h2, h3, h4, h5, h6⟩
  ·omega
  ·have hcm : (n + m) * k ≤ cap * k := Nat.mul_le_mul_right k hroom
   have hst := run_storeCells_at Tryz.prog g (n * k) e news 0 cur w h2 (by rw [hnl]; rw [Nat.add_mul] at hcm; omega) hs.one
   simp only [Nat.add_zero] at hst
   refine ⟨some ⟨g, 0, none⟩, cap, w.setRow g (cur.toList.take (n * k) ++ news ++ cur.toList.drop (n * k + news.length)).toArray, ?_, ⟨hall, .inr ⟨g, _, rfl, h1, setRow_heap w g cur _ e _ h2, hroom, h4, ?_, ?_⟩⟩, ?_, fun y hy => .inl hy⟩
   ·rcases hs'.kind with ⟨e', hk⟩ | hk <;> simp [Builtin.append_, run_underlying hu, sizeOf, typeInfo, hi0, hz1, hs.len, hroom, hs.cells, Addr.add_lit, hst]
   ·simp only [List.size_toArray, List.length_append, List.length_take, List.length_drop, Array.length_toList]
    rw [Nat.add_mul] at hcm
    omega
   ·rw [h6, ← hall]
    exact List.take_left
   ·exact ⟨rfl, rfl, rfl, by simp, fun k _ hn => setRow_other w g k _ (by simpa [ob] using hn)⟩
 ·have hge := grownCap_ge w (n + m) cap e
  have hfit : Builtin.nextslicecap (n + m) cap * i0.bytes ≤ 281474976710656 := growslice_fits (by omega) (by
   rw [hz2]
   have := Nat.mul_le_mul hl hby
   omega)
  have hr := run_append_grow_src (P := Tryz.prog) w t t ty e i0 _ hu hi0 hz0 a n cap xs hold x m news hs' (by omega) (by omega) hfit
  refine ⟨_, _, _, hr, ⟨hall, .inr ⟨w.heap.size, _, rfl, hB, heap_alloc_new w.drew _, hge, grownCap_le_maxLen w _ _ _ (by unfold maxLen; omega), ?_, ?_⟩⟩, (Kp.refl _ w).drew.alloc _, fun y hy => .inr (by simp [ob] at hy; omega)⟩
  ·rw [Array.size_append, size_zeroCells, hz]
   simp only [List.size_toArray, hall]
   rw [← Nat.add_mul]
   exact Nat.mul_le_mul_right k (by omega)
  ·simp only [Array.toList_append]
   rw [← hall]
   exact List.take_left
end
theorem bC {ops : Array Oper} {rest : List Oper} {o : Oper} {ac : Act} {w : World} {Q : Exit → Act → World → Prop} (hw : Region.wanted o (yielded ops ac.tmps) = true) (s x : Operand) (t : TypeId)
 (ho : o.op = .call { callee := .builtin .append, args := #[s, x], argTypes := #[t, t] }) {e : TypeId} {k by_ : Nat} {z : Value} (hu : Tryz.prog.underlying t = some (.slice e)) (hi : (Tryz.prog.info? e).map (fun i => (i.zero, i.size, i.bytes)) = some (some z, k, by_)) (hz : z.cells.size = k) (hby : by_ ≤ 1000)
 {B : Nat} {a : Option Addr} {n cap : Nat} {xs : List Value} (h : bn e k B w a n cap xs) (hB : B ≤ w.heap.size) (xv : Value) (news : List Value) (m : Nat)
 (hs : ac.eval s = .slice a n cap) (hx : ac.eval x = xv) (hsrc : Src Tryz.prog k t xv m news w) (hm : n + m ≤ 100000) (N : Nat) (hN : n + m = N)
 (kk : ∀ a' cap' w', Hid (bn e k B w' a' N cap' (xs ++ news)) → Hid (Kp (ob a) w w') → Hid (∀ x ∈ ob a', x ∈ ob a ∨ w.heap.size ≤ x) → wpList Tryz.prog ops Q rest (ac.put o.dst (.slice a' N cap')) w') : wpList Tryz.prog ops Q (o :: rest) ac w := by
 subst hN
 obtain ⟨a', cap', w', hr, h1, h2, h3⟩ := ms hu hi hz hby h hB o.type xv news m hsrc hm
 refine wpList_step fun K hK => ?_
 rw [if_pos hw]
 unfold Oper.wp execOp
 simp only [ho, resolve, invoke, builtin, Sem.run_bind, Sem.run_pure, Result.andThen_ok, List.map_toArray, List.map_cons, List.map_nil, hs, hx, hr]
 exact hK _ _ (kk a' cap' w' h1 h2 h3)
theorem aQ {t e : TypeId} {k : Nat} (hu : Tryz.prog.underlying t = some (.slice e)) {w : World} {g c : Nat} {cs : Array Value} {T : TypeId} {fr : Nat × Nat} (h : w.heap[g]? = some (.cells cs T fr)) (hl : cs.size = k) (h1 : ∀ u ∈ cs.toList, u.oneCell' = true) : Src Tryz.prog k t (.slice (some ⟨g, 0, none⟩) 1 c) 1 cs.toList w := by
 refine Src.ofSlice w hu ⟨g, 0, none⟩ 1 c cs.toList (by simp [hl]) (fun j u hj => ?_) h1
 rw [ca, Nat.zero_add, cell_of_row w g j _ _ _ h]
 simpa using hj
def KwT (e : TypeId) (k : Nat) (a : Option Addr) (n cap : Nat) (xs : List Value) : ao where
 holds B w F := bn e k B w a n cap xs ∧ F = ob a
 kp := fun ⟨h1, h2⟩ hk hS => ⟨h1.kp hk (fun x hx => hS x (by rw [h2]; exact hx)), h2⟩
 lo := fun ⟨h1, h2⟩ x hx => h1.lo x (by rw [← h2]; exact hx)
 base := fun ⟨h1, h2⟩ hC => ⟨h1.base hC, h2⟩
section
variable {w0 w w' : World} {l1 r : List ao} {e : TypeId} {k : Nat} {a a' : Option Addr} {n cap n' cap' : Nat} {xs ys : List Value}
theorem du (e : TypeId) (k : Nat) (hz : Zoo w0 w r) : Zoo w0 w (KwT e k none 0 0 [] :: r) := by
 obtain ⟨X, h1, hk⟩ := hz
 exact ⟨X, ⟨[], X, ⟨mr _ _ _ _, rfl⟩, h1, fun _ hx => by simp at hx, rfl⟩, hk⟩
theorem bq (hz : Zoo w0 w (l1 ++ KwT e k a n cap xs :: r)) : bn e k w0.heap.size w a n cap xs := by
 obtain ⟨F, h1, _⟩ := hz.at_
 exact h1.1
theorem cS (hz : Zoo w0 w (l1 ++ KwT e k a n cap xs :: r)) (h1 : bn e k w0.heap.size w' a' n' cap' ys) (h2 : Kp (ob a) w w') (h3 : ∀ x ∈ ob a', x ∈ ob a ∨ w.heap.size ≤ x) : Zoo w0 w' (l1 ++ KwT e k a' n' cap' ys :: r) := by
 obtain ⟨F, ⟨g1, g2⟩, k2⟩ := hz.at_
 subst g2
 exact k2 _ _ ⟨ob a', ⟨h1, rfl⟩, h2, h3⟩
end
theorem uR {f : Nat → List Ver} {n : Nat} {l y : Int} (hi : Inv f n) (hl : l ≤ y) : shw (clm f l 8) n y 8 = shw f n y 8 := fK (Nat.le_refl _) (fun _ hj => xC hi hl hj)
theorem xI {f : Nat → List Ver} {n : Nat} {cs : List (List Ver)} {md y' y : Int} {rs : List Int} {ws : List Ver} (hi : Inv f n) (hv : VI f n cs) (hy : y ≤ n) : shw (vf f n cs md y' rs ws) (vn f n cs md y' rs ws) y 8 = shw f n y 8 := by
 unfold vf vn
 split
 ·rename_i h
  have hl : bc cs (wk ws 8) = 0 := by unfold cW at h; simp at h; exact h.2.2
  have e := (hv.room hl).2.1
  exact fK (Nat.le_refl _) (fun j hj => by have := lS hi (wk ws 8) hy hj; rw [e] at this; exact this)
 ·rfl
inductive aW (h : HSt) (x : ax) : HSt → Ev → Prop
 | kind : (x.d < 1 ∨ 10 < x.d) → aW h x h (evc 3)
 | clear : x.d = 8 → aW h x { h with f := clm h.f (bm h.n h.seat 5) 8 } (evn 0 (cln h.f (bm h.n h.seat 5) 8 : Nat))
 | crash : x.d = 9 → aW h x ⟨cw h.cs, h.cs.length, h.cs, fun _ => none⟩ ev0
 | range : (1 ≤ x.d ∧ x.d ≤ 10 ∧ x.d ≠ 8 ∧ x.d ≠ 9) → ¬ (0 ≤ x.s ∧ x.s < 5) → aW h x h (evc 1)
 | began : x.d = 1 → (0 ≤ x.s ∧ x.s < 5) → h.seat x.s.toNat = none → ba h.f h.n x.md x.at_ = 0 → aW h x (sit h x.s (some ⟨x.md, bat h.n x.md x.at_, [], []⟩)) (evc 0)
 | beganNot : x.d = 1 → (0 ≤ x.s ∧ x.s < 5) → h.seat x.s.toNat = none → ¬ ba h.f h.n x.md x.at_ = 0 → aW h x h (evc (ba h.f h.n x.md x.at_))
 | none_ : (2 ≤ x.d ∧ x.d ≤ 10 ∧ x.d ≠ 8 ∧ x.d ≠ 9) → (0 ≤ x.s ∧ x.s < 5) → h.seat x.s.toNat = none → aW h x h (evc 7)
 | there (d : Dp) : x.d = 1 → (0 ≤ x.s ∧ x.s < 5) → h.seat x.s.toNat = some d → aW h x h (evc 8)
 | get (d : Dp) : x.d = 2 → (0 ≤ x.s ∧ x.s < 5) → h.seat x.s.toNat = some d → aW h x (sit h x.s (some { d with rs := dr h.f h.n d.y d.rs d.ws x.key })) ⟨(dg h.f h.n d.y d.ws x.key).a, 0, (dg h.f h.n d.y d.ws x.key).t, (dg h.f h.n d.y d.ws x.key).s, []⟩
 | put (d : Dp) : x.d = 3 → (0 ≤ x.s ∧ x.s < 5) → h.seat x.s.toNat = some d → aW h x (sit h x.s (some { d with ws := dpw d.md d.ws x.key true x.b })) (evc (dpc d.md x.key true x.b))
 | drop (d : Dp) : x.d = 4 → (0 ≤ x.s ∧ x.s < 5) → h.seat x.s.toNat = some d → aW h x (sit h x.s (some { d with ws := dpw d.md d.ws x.key false ⟨#[]⟩ })) (evc (dpc d.md x.key false ⟨#[]⟩))
 | list (d : Dp) : x.d = 5 → (0 ≤ x.s ∧ x.s < 5) → h.seat x.s.toNat = some d → aW h x (sit h x.s (some { d with rs := (dls h.f h.n d.y d.ws d.rs x.key x.to_).2.2 })) ⟨(dls h.f h.n d.y d.ws d.rs x.key x.to_).2.1, 0, false, ⟨#[]⟩, (dls h.f h.n d.y d.ws d.rs x.key x.to_).1⟩
 | commit (d : Dp) : x.d = 6 → (0 ≤ x.s ∧ x.s < 5) → h.seat x.s.toNat = some d → aW h x ⟨vf h.f h.n h.cs d.md d.y d.rs d.ws, vn h.f h.n h.cs d.md d.y d.rs d.ws, vcs h.f h.cs d.md d.y d.rs d.ws, upd h.seat x.s.toNat none⟩ (evn (bl h.f h.cs d.md d.y d.rs d.ws) (fV h.f h.n h.cs d.md d.y d.rs d.ws))
 | tear (d : Dp) : x.d = 10 → (0 ≤ x.s ∧ x.s < 5) → h.seat x.s.toNat = some d → aW h x ⟨cw (tcs h.f h.cs d.md d.y d.rs d.ws x.keep), (tcs h.f h.cs d.md d.y d.rs d.ws x.keep).length, tcs h.f h.cs d.md d.y d.rs d.ws x.keep, fun _ => none⟩ (evn (bl h.f h.cs d.md d.y d.rs d.ws) (eQ h.f h.cs d.md d.y d.rs d.ws x.keep))
 | abort (d : Dp) : x.d = 7 → (0 ≤ x.s ∧ x.s < 5) → h.seat x.s.toNat = some d → aW h x (sit h x.s none) ev0
theorem ko (h : HSt) (x : ax) : aW h x (hdo h x) (hev h x) := by
 unfold hdo hev
 by_cases c0 : x.d < 1 ∨ 10 < x.d
 ·rw [if_pos c0, if_pos c0]; exact .kind c0
 rw [if_neg c0, if_neg c0]
 by_cases c8 : x.d = 8
 ·rw [if_pos c8, if_pos c8]; exact .clear c8
 rw [if_neg c8, if_neg c8]
 by_cases c9 : x.d = 9
 ·rw [if_pos c9, if_pos c9]; exact .crash c9
 rw [if_neg c9, if_neg c9]
 by_cases hs : 0 ≤ x.s ∧ x.s < 5
 ·have hns : ¬ ¬ (0 ≤ x.s ∧ x.s < 5) := fun q => q hs
  rw [if_neg hns, if_neg hns]
  cases hd : h.seat x.s.toNat with
  | none =>
    dsimp only
    by_cases c1 : x.d = 1
    ·rw [if_pos c1]
     by_cases hb : ba h.f h.n x.md x.at_ = 0
     ·rw [if_pos ⟨c1, hb⟩, hb]; exact .began c1 hs hd hb
     ·rw [if_neg (fun q => hb q.2)]; exact .beganNot c1 hs hd hb
    ·rw [if_neg (fun q => c1 q.1), if_neg c1]; exact .none_ (by omega) hs hd
  | some d =>
    dsimp only
    by_cases c1 : x.d = 1
    ·rw [if_pos c1, if_pos c1]; exact .there d c1 hs hd
    rw [if_neg c1, if_neg c1]
    by_cases c2 : x.d = 2
    ·rw [if_pos c2, if_pos c2]; exact .get d c2 hs hd
    rw [if_neg c2, if_neg c2]
    by_cases c3 : x.d = 3
    ·rw [if_pos c3, if_pos c3]; exact .put d c3 hs hd
    rw [if_neg c3, if_neg c3]
    by_cases c4 : x.d = 4
    ·rw [if_pos c4, if_pos c4]; exact .drop d c4 hs hd
    rw [if_neg c4, if_neg c4]
    by_cases c5 : x.d = 5
    ·rw [if_pos c5, if_pos c5]; exact .list d c5 hs hd
    rw [if_neg c5, if_neg c5]
    by_cases c6 : x.d = 6
    ·rw [if_pos c6, if_pos c6]; exact .commit d c6 hs hd
    rw [if_neg c6, if_neg c6]
    by_cases c10 : x.d = 10
    ·rw [if_pos c10, if_pos c10]; exact .tear d c10 hs hd
    rw [if_neg c10, if_neg c10]
    exact .abort d (by omega) hs hd
 ·rw [if_pos hs, if_pos hs]; exact .range (by omega) hs
def nA (h : HSt) (d : Dp) : Nat → Ver := lay (shw h.f h.n d.y 8) d.ws
theorem lq {h : HSt} (hi : bT h) {s : Nat} {d : Dp} (hs : h.seat s = some d) {k : Nat} (hk : k < 8) : dg h.f h.n d.y d.ws k = ⟨0, (nA h d k).t, (nA h d k).s⟩ := by
 obtain ⟨k1, k2⟩ := hi.known s d hs
 have ha := iP hi.inv k1 k2 hk
 have hkb : aN (k : Int) = true := by simp [aN]; omega
 unfold dg nA lay
 rw [if_pos hkb]
 cases lwr d.ws k with
 | some v => rfl
 | none =>
   dsimp only
   unfold shw
   rw [if_pos hk]
   rw [← ha]
theorem ci {h : HSt} {x : Int} {e : Option Dp} {s : Nat} {d' : Dp} (h' : (sit h x e).seat s = some d') : (s = x.toNat ∧ e = some d') ∨ (s ≠ x.toNat ∧ h.seat s = some d') := by
 simp only [sit, eo] at h'
 split at h'
 ·exact .inl ⟨by assumption, h'⟩
 ·exact .inr ⟨by assumption, h'⟩
theorem sA {h : HSt} (hi : bT h) (x : ax) {s : Nat} {d d' : Dp} (hs : h.seat s = some d) (hs' : (hdo h x).seat s = some d') :
 d'.y = d.y ∧ d'.md = d.md ∧ shw (hdo h x).f (hdo h x).n d.y 8 = shw h.f h.n d.y 8 ∧
  (d'.ws = d.ws ∨ (x.s = s ∧ x.d = 3 ∧ d'.ws = dpw d.md d.ws x.key true x.b) ∨ (x.s = s ∧ x.d = 4 ∧ d'.ws = dpw d.md d.ws x.key false ⟨#[]⟩)) := by
 obtain ⟨k1, k2⟩ := hi.known s d hs
 have hk := ko h x
 generalize hdo h x = h2 at *
 generalize hev h x = e at *
 have same : ∀ {d' : Dp}, h.seat s = some d' → d' = d := fun q => by rw [hs] at q; cases q; rfl
 cases hk with
 | kind c => have q := same hs'; subst q; exact ⟨rfl, rfl, rfl, .inl rfl⟩
 | clear c =>
   have q := same hs'
   subst q
   have h5 : s < 5 := by
    rcases Nat.lt_or_ge s 5 with q | q
    ·exact q
    ·rw [hi.five s q] at hs; cases hs
   exact ⟨rfl, rfl, uR hi.inv ((mo h.n h.seat 5).2 s _ h5 hs), .inl rfl⟩
 | crash c => cases hs'
 | range c1 c2 => have q := same hs'; subst q; exact ⟨rfl, rfl, rfl, .inl rfl⟩
 | began c1 c2 c3 c4 =>
   rcases ci hs' with ⟨q1, q2⟩ | ⟨q1, q2⟩
   ·rw [← q1, hs] at c3; cases c3
   ·have q := same q2; subst q; exact ⟨rfl, rfl, rfl, .inl rfl⟩
 | beganNot c1 c2 c3 c4 => have q := same hs'; subst q; exact ⟨rfl, rfl, rfl, .inl rfl⟩
 | none_ c1 c2 c3 => have q := same hs'; subst q; exact ⟨rfl, rfl, rfl, .inl rfl⟩
 | there d0 c1 c2 c3 => have q := same hs'; subst q; exact ⟨rfl, rfl, rfl, .inl rfl⟩
 | get d0 c1 c2 c3 =>
   rcases ci hs' with ⟨q1, q2⟩ | ⟨q1, q2⟩
   ·rw [← q1] at c3; have q := same c3; subst q; cases q2; exact ⟨rfl, rfl, rfl, .inl rfl⟩
   ·have q := same q2; subst q; exact ⟨rfl, rfl, rfl, .inl rfl⟩
 | put d0 c1 c2 c3 =>
   rcases ci hs' with ⟨q1, q2⟩ | ⟨q1, q2⟩
   ·rw [← q1] at c3; have q := same c3; subst q; cases q2; exact ⟨rfl, rfl, rfl, .inr (.inl ⟨by omega, c1, rfl⟩)⟩
   ·have q := same q2; subst q; exact ⟨rfl, rfl, rfl, .inl rfl⟩
 | drop d0 c1 c2 c3 =>
   rcases ci hs' with ⟨q1, q2⟩ | ⟨q1, q2⟩
   ·rw [← q1] at c3; have q := same c3; subst q; cases q2; exact ⟨rfl, rfl, rfl, .inr (.inr ⟨by omega, c1, rfl⟩)⟩
   ·have q := same q2; subst q; exact ⟨rfl, rfl, rfl, .inl rfl⟩
 | list d0 c1 c2 c3 =>
   rcases ci hs' with ⟨q1, q2⟩ | ⟨q1, q2⟩
   ·rw [← q1] at c3; have q := same c3; subst q; cases q2; exact ⟨rfl, rfl, rfl, .inl rfl⟩
   ·have q := same q2; subst q; exact ⟨rfl, rfl, rfl, .inl rfl⟩
 | commit d0 c1 c2 c3 =>
   simp only [eo] at hs'
   split at hs'
   ·cases hs'
   ·have q := same hs'; subst q; exact ⟨rfl, rfl, xI hi.inv hi.vi k2, .inl rfl⟩
 | tear d0 c1 c2 c3 => cases hs'
 | abort d0 c1 c2 c3 =>
   rcases ci hs' with ⟨q1, q2⟩ | ⟨q1, q2⟩
   ·cases q2
   ·have q := same q2; subst q; exact ⟨rfl, rfl, rfl, .inl rfl⟩
theorem xB {ps : List Ver} {k : Int} (h : ∃ p ∈ ps, p.a = k) : ∃ i, i < ps.length ∧ va ps i = k := by
 obtain ⟨p, hp, e⟩ := h
 obtain ⟨i, hi, rfl⟩ := List.mem_iff_getElem.1 hp
 exact ⟨i, hi, by simp [va, List.getD_eq_getElem?_getD, List.getElem?_eq_getElem hi, e]⟩
section
variable {f g : Nat → List Ver} {n : Nat} {y : Int} {ws : List Ver}
end
structure zr (h g : HSt) : Prop where
 hi : bT h
 gi : bT g
 sfx : Sfx h.f g.f
 n : h.n = g.n
 cs : h.cs = g.cs
 seat : h.seat = g.seat
theorem zr.clear {h g : HSt} (r : zr h g) {x : ax} (hx : x.d = 8) : zr (hdo h x) g := by
 have hi := r.hi.step x
 have e : hdo h x = { h with f := clm h.f (bm h.n h.seat 5) 8 } := by
  have n0 : ¬ (x.d < 1 ∨ 10 < x.d) := by omega
  unfold hdo
  rw [if_neg n0, if_pos hx]
 rw [e] at hi ⊢
 exact ⟨hi, r.gi, r.sfx.clear _ r.hi.inv, r.n, r.cs, r.seat⟩
theorem aW.eq {h : HSt} {x : ax} {h' : HSt} {e : Ev} (k : aW h x h' e) : hdo h x = h' ∧ hev h x = e := by
 unfold hdo hev
 cases k with
 | kind c => rw [if_pos c, if_pos c]; exact ⟨rfl, rfl⟩
 | clear c =>
   have n0 : ¬ (x.d < 1 ∨ 10 < x.d) := by omega
   rw [if_neg n0, if_neg n0, if_pos c, if_pos c]; exact ⟨rfl, rfl⟩
 | crash c =>
   have n0 : ¬ (x.d < 1 ∨ 10 < x.d) := by omega
   have n8 : ¬ x.d = 8 := by omega
   rw [if_neg n0, if_neg n0, if_neg n8, if_neg n8, if_pos c, if_pos c]; exact ⟨rfl, rfl⟩
 | range c1 c2 =>
   have n0 : ¬ (x.d < 1 ∨ 10 < x.d) := by omega
   have n8 : ¬ x.d = 8 := by omega
   have n9 : ¬ x.d = 9 := by omega
   rw [if_neg n0, if_neg n0, if_neg n8, if_neg n8, if_neg n9, if_neg n9, if_pos c2, if_pos c2]; exact ⟨rfl, rfl⟩
 | began c1 c2 c3 c4 =>
   have n0 : ¬ (x.d < 1 ∨ 10 < x.d) := by omega
   have n8 : ¬ x.d = 8 := by omega
   have n9 : ¬ x.d = 9 := by omega
   have hns : ¬ ¬ (0 ≤ x.s ∧ x.s < 5) := fun q => q c2
   rw [if_neg n0, if_neg n0, if_neg n8, if_neg n8, if_neg n9, if_neg n9, if_neg hns, if_neg hns, c3]
   dsimp only
   rw [if_pos ⟨c1, c4⟩, if_pos c1, c4]; exact ⟨rfl, rfl⟩
 | beganNot c1 c2 c3 c4 =>
   have n0 : ¬ (x.d < 1 ∨ 10 < x.d) := by omega
   have n8 : ¬ x.d = 8 := by omega
   have n9 : ¬ x.d = 9 := by omega
   have hns : ¬ ¬ (0 ≤ x.s ∧ x.s < 5) := fun q => q c2
   rw [if_neg n0, if_neg n0, if_neg n8, if_neg n8, if_neg n9, if_neg n9, if_neg hns, if_neg hns, c3]
   dsimp only
   have hq : ¬ (x.d = 1 ∧ ba h.f h.n x.md x.at_ = 0) := fun q => c4 q.2
   rw [if_neg hq, if_pos c1]; exact ⟨rfl, rfl⟩
 | none_ c1 c2 c3 =>
   have n0 : ¬ (x.d < 1 ∨ 10 < x.d) := by omega
   have n8 : ¬ x.d = 8 := by omega
   have n9 : ¬ x.d = 9 := by omega
   have hns : ¬ ¬ (0 ≤ x.s ∧ x.s < 5) := fun q => q c2
   have hn1 : ¬ x.d = 1 := by omega
   rw [if_neg n0, if_neg n0, if_neg n8, if_neg n8, if_neg n9, if_neg n9, if_neg hns, if_neg hns, c3]
   dsimp only
   have hq : ¬ (x.d = 1 ∧ ba h.f h.n x.md x.at_ = 0) := fun q => hn1 q.1
   rw [if_neg hq, if_neg hn1]; exact ⟨rfl, rfl⟩
 | there d c1 c2 c3 =>
   have n0 : ¬ (x.d < 1 ∨ 10 < x.d) := by omega
   have n8 : ¬ x.d = 8 := by omega
   have n9 : ¬ x.d = 9 := by omega
   have hns : ¬ ¬ (0 ≤ x.s ∧ x.s < 5) := fun q => q c2
   rw [if_neg n0, if_neg n0, if_neg n8, if_neg n8, if_neg n9, if_neg n9, if_neg hns, if_neg hns, c3]
   dsimp only
   rw [if_pos c1, if_pos c1]; exact ⟨rfl, rfl⟩
 | get d c1 c2 c3 =>
   have n0 : ¬ (x.d < 1 ∨ 10 < x.d) := by omega
   have n8 : ¬ x.d = 8 := by omega
   have n9 : ¬ x.d = 9 := by omega
   have hns : ¬ ¬ (0 ≤ x.s ∧ x.s < 5) := fun q => q c2
   have m1 : ¬ x.d = 1 := by omega
   rw [if_neg n0, if_neg n0, if_neg n8, if_neg n8, if_neg n9, if_neg n9, if_neg hns, if_neg hns, c3]
   dsimp only
   rw [if_neg m1, if_neg m1, if_pos c1, if_pos c1]; exact ⟨rfl, rfl⟩
 | put d c1 c2 c3 =>
   have n0 : ¬ (x.d < 1 ∨ 10 < x.d) := by omega
   have n8 : ¬ x.d = 8 := by omega
   have n9 : ¬ x.d = 9 := by omega
   have hns : ¬ ¬ (0 ≤ x.s ∧ x.s < 5) := fun q => q c2
   have m1 : ¬ x.d = 1 := by omega
   have m2 : ¬ x.d = 2 := by omega
   rw [if_neg n0, if_neg n0, if_neg n8, if_neg n8, if_neg n9, if_neg n9, if_neg hns, if_neg hns, c3]
   dsimp only
   rw [if_neg m1, if_neg m1, if_neg m2, if_neg m2, if_pos c1, if_pos c1]; exact ⟨rfl, rfl⟩
 | drop d c1 c2 c3 =>
   have n0 : ¬ (x.d < 1 ∨ 10 < x.d) := by omega
   have n8 : ¬ x.d = 8 := by omega
   have n9 : ¬ x.d = 9 := by omega
   have hns : ¬ ¬ (0 ≤ x.s ∧ x.s < 5) := fun q => q c2
   have m1 : ¬ x.d = 1 := by omega
   have m2 : ¬ x.d = 2 := by omega
   have m3 : ¬ x.d = 3 := by omega
   rw [if_neg n0, if_neg n0, if_neg n8, if_neg n8, if_neg n9, if_neg n9, if_neg hns, if_neg hns, c3]
   dsimp only
   rw [if_neg m1, if_neg m1, if_neg m2, if_neg m2, if_neg m3, if_neg m3, if_pos c1, if_pos c1]; exact ⟨rfl, rfl⟩
 | list d c1 c2 c3 =>
   have n0 : ¬ (x.d < 1 ∨ 10 < x.d) := by omega
   have n8 : ¬ x.d = 8 := by omega
   have n9 : ¬ x.d = 9 := by omega
   have hns : ¬ ¬ (0 ≤ x.s ∧ x.s < 5) := fun q => q c2
   have m1 : ¬ x.d = 1 := by omega
   have m2 : ¬ x.d = 2 := by omega
   have m3 : ¬ x.d = 3 := by omega
   have m4 : ¬ x.d = 4 := by omega
   rw [if_neg n0, if_neg n0, if_neg n8, if_neg n8, if_neg n9, if_neg n9, if_neg hns, if_neg hns, c3]
   dsimp only
   rw [if_neg m1, if_neg m1, if_neg m2, if_neg m2, if_neg m3, if_neg m3, if_neg m4, if_neg m4, if_pos c1, if_pos c1]; exact ⟨rfl, rfl⟩
 | commit d c1 c2 c3 =>
   have n0 : ¬ (x.d < 1 ∨ 10 < x.d) := by omega
   have n8 : ¬ x.d = 8 := by omega
   have n9 : ¬ x.d = 9 := by omega
   have hns : ¬ ¬ (0 ≤ x.s ∧ x.s < 5) := fun q => q c2
   have m1 : ¬ x.d = 1 := by omega
   have m2 : ¬ x.d = 2 := by omega
   have m3 : ¬ x.d = 3 := by omega
   have m4 : ¬ x.d = 4 := by omega
   have m5 : ¬ x.d = 5 := by omega
   rw [if_neg n0, if_neg n0, if_neg n8, if_neg n8, if_neg n9, if_neg n9, if_neg hns, if_neg hns, c3]
   dsimp only
   rw [if_neg m1, if_neg m1, if_neg m2, if_neg m2, if_neg m3, if_neg m3, if_neg m4, if_neg m4, if_neg m5, if_neg m5, if_pos c1, if_pos c1]; exact ⟨rfl, rfl⟩
 | tear d c1 c2 c3 =>
   have n0 : ¬ (x.d < 1 ∨ 10 < x.d) := by omega
   have n8 : ¬ x.d = 8 := by omega
   have n9 : ¬ x.d = 9 := by omega
   have hns : ¬ ¬ (0 ≤ x.s ∧ x.s < 5) := fun q => q c2
   have m1 : ¬ x.d = 1 := by omega
   have m2 : ¬ x.d = 2 := by omega
   have m3 : ¬ x.d = 3 := by omega
   have m4 : ¬ x.d = 4 := by omega
   have m5 : ¬ x.d = 5 := by omega
   have m6 : ¬ x.d = 6 := by omega
   rw [if_neg n0, if_neg n0, if_neg n8, if_neg n8, if_neg n9, if_neg n9, if_neg hns, if_neg hns, c3]
   dsimp only
   rw [if_neg m1, if_neg m1, if_neg m2, if_neg m2, if_neg m3, if_neg m3, if_neg m4, if_neg m4, if_neg m5, if_neg m5, if_neg m6, if_neg m6, if_pos c1, if_pos c1]; exact ⟨rfl, rfl⟩
 | abort d c1 c2 c3 =>
   have n0 : ¬ (x.d < 1 ∨ 10 < x.d) := by omega
   have n8 : ¬ x.d = 8 := by omega
   have n9 : ¬ x.d = 9 := by omega
   have hns : ¬ ¬ (0 ≤ x.s ∧ x.s < 5) := fun q => q c2
   have m1 : ¬ x.d = 1 := by omega
   have m2 : ¬ x.d = 2 := by omega
   have m3 : ¬ x.d = 3 := by omega
   have m4 : ¬ x.d = 4 := by omega
   have m5 : ¬ x.d = 5 := by omega
   have m6 : ¬ x.d = 6 := by omega
   have m10 : ¬ x.d = 10 := by omega
   rw [if_neg n0, if_neg n0, if_neg n8, if_neg n8, if_neg n9, if_neg n9, if_neg hns, if_neg hns, c3]
   dsimp only
   rw [if_neg m1, if_neg m1, if_neg m2, if_neg m2, if_neg m3, if_neg m3, if_neg m4, if_neg m4, if_neg m5, if_neg m5, if_neg m6, if_neg m6, if_neg m10, if_neg m10]; exact ⟨rfl, rfl⟩
section
variable {f : Nat → List Ver} {n : Nat} {cs : List (List Ver)} {md y : Int} {rs : List Int} {ws : List Ver}
end
theorem mz {md k : Int} {t : Bool} {s : ByteArray} (h : dpc md k t s = 0) : ∃ j : Nat, j < 8 ∧ k = (j : Int) := by
 unfold dpc at h
 split at h
 ·rename_i hk
  refine ⟨k.toNat, ?_⟩
  simp only [aN, decide_eq_true_eq] at hk
  omega
 ·simp at h
def wl (v : Nat → Ver) (a b : Int) : Nat → List Ver
 | 0 => []
 | m + 1 => if a ≤ (m : Int) ∧ (m : Int) ≤ b ∧ (v m).t = true then wl v a b m ++ [⟨(m : Int), (v m).t, (v m).s⟩] else wl v a b m
theorem kv (v : Nat → Ver) (a b : Int) : ∀ m, (wl v a b m).length ≤ m := by
 intro m
 induction m with
 | zero => simp [wl]
 | succ m ih => simp only [wl]; split <;> (try simp) <;> omega
theorem lO {v : Nat → Ver} {a b : Int} : ∀ {m : Nat}, (m : Int) ≤ a → wl v a b m = [] := by
 intro m
 induction m with
 | zero => intro _; rfl
 | succ m ih => intro h; simp only [wl]; rw [if_neg (by omega), ih (by omega)]
theorem qR {v : Nat → Ver} {a b : Int} {m : Nat} (hm : b < (m : Int)) : ∀ j, wl v a b (m + j) = wl v a b m := by
 intro j
 induction j with
 | zero => rfl
 | succ j ih => rw [show m + (j + 1) = (m + j) + 1 by omega]; simp only [wl]; rw [if_neg (by push_cast; omega), ih]
theorem tf {f : Nat → List Ver} {n : Nat} {y : Int} {ws : List Ver} {v : Nat → Ver} {p t : Nat} (ht : t < 8) (hv : ∀ k : Nat, k < 8 → dg f n y ws k = ⟨0, (v k).t, (v k).s⟩) : ∀ (m k : Nat) (acc : List Ver) (rs : List Int), p ≤ k → k + m ≤ t + 1 → acc = wl v p t k → (dgo f n y ws k m acc rs).1 = wl v p t (k + m) ∧ (dgo f n y ws k m acc rs).2.1 = 0 := by
 intro m
 induction m with
 | zero => intro k acc rs _ _ e; exact ⟨e, rfl⟩
 | succ m ih =>
   intro k acc rs h1 h2 e
   have hk := hv k (by omega)
   simp only [dgo]
   rw [hk]
   dsimp only
   rw [show k + (m + 1) = (k + 1) + m by omega]
   simp only [if_true]
   cases hb : (v k).t with
   | true =>
     simp only [if_true]
     exact ih (k + 1) _ _ (by omega) (by omega) (by rw [e]; simp only [wl]; rw [if_pos ⟨by omega, by omega, hb⟩, hb])
   | false =>
     simp only [Bool.false_eq_true, if_false]
     exact ih (k + 1) _ _ (by omega) (by omega) (by rw [e]; simp only [wl]; rw [if_neg (fun q => by rw [hb] at q; exact absurd q.2.2 (by simp))])
theorem yM {f : Nat → List Ver} {n : Nat} {y : Int} {ws : List Ver} {rs : List Int} {v : Nat → Ver} {a b : Int} (hv : ∀ k : Nat, k < 8 → dg f n y ws k = ⟨0, (v k).t, (v k).s⟩) (hc : (dls f n y ws rs a b).2.1 = 0) : (dls f n y ws rs a b).1 = wl v a b 8 := by
 unfold dls at hc ⊢
 split
 ·rename_i hk
  simp only [aN, decide_eq_true_eq] at hk
  obtain ⟨p, rfl⟩ : ∃ p : Nat, a = (p : Int) := ⟨a.toNat, by omega⟩
  obtain ⟨t, rfl⟩ : ∃ t : Nat, b = (t : Int) := ⟨b.toNat, by omega⟩
  rw [Int.toNat_natCast, show ((t : Int) + 1 - (p : Int)).toNat = t + 1 - p by omega]
  by_cases hpt : p ≤ t + 1
  ·rw [(tf (f := f) (n := n) (y := y) (ws := ws) (v := v) (p := p) (t := t) (by omega) hv (t + 1 - p) p [] rs (Nat.le_refl _) (by omega) (lO (Int.le_refl _)).symm).1]
   rw [show p + (t + 1 - p) = t + 1 by omega]
   have := qR (v := v) (a := (p : Int)) (b := (t : Int)) (m := t + 1) (by push_cast; omega) (8 - (t + 1))
   rw [show t + 1 + (8 - (t + 1)) = 8 by omega] at this
   exact this.symm
  ·rw [show t + 1 - p = 0 by omega]
   show [] = _
   have h1 := qR (v := v) (a := (p : Int)) (b := (t : Int)) (m := t + 1) (by push_cast; omega) (8 - (t + 1))
   rw [show t + 1 + (8 - (t + 1)) = 8 by omega] at h1
   rw [h1, lO (by push_cast; omega)]
 ·rename_i hk
  rw [if_neg hk] at hc
  exact absurd hc (by simp)

end
namespace Srt
variable {α : Type}
def sg (d : Nat → α) (a : Nat) : Nat → List α
 | 0 => []
 | n + 1 => d a :: sg d (a + 1) n
theorem iY (d : Nat → α) : ∀ (n a : Nat), (sg d a n).length = n := by
 intro n
 induction n with
 | zero => intro a; rfl
 | succ n ih => intro a; simp only [sg, List.length_cons, ih]
theorem gU (d : Nat → α) : ∀ (m n a : Nat), sg d a (m + n) = sg d a m ++ sg d (a + m) n := by
 intro m
 induction m with
 | zero => intro n a; simp [sg]
 | succ m ih =>
   intro n a
   rw [show m + 1 + n = (m + n) + 1 by omega]
   simp only [sg, List.cons_append]
   rw [ih n (a + 1), show a + 1 + m = a + (m + 1) by omega]
theorem lY {d e : Nat → α} : ∀ (n a : Nat), (∀ x, a ≤ x → x < a + n → d x = e x) → sg d a n = sg e a n := by
 intro n
 induction n with
 | zero => intro a _; rfl
 | succ n ih =>
   intro a h
   simp only [sg]
   rw [h a (by omega) (by omega), ih (a + 1) (fun x h1 h2 => h x (by omega) (by omega))]
theorem lX {d e : Nat → α} (b : Nat) : ∀ (n a : Nat), (∀ i, i < n → d (a + i) = e (b + i)) → sg d a n = sg e b n := by
 intro n
 induction n generalizing b with
 | zero => intro a _; rfl
 | succ n ih =>
   intro a h
   simp only [sg]
   have h0 := h 0 (by omega)
   simp only [Nat.add_zero] at h0
   rw [h0, ih (b + 1) (a + 1) (fun i hi => by have := h (i + 1) (by omega); rw [show a + 1 + i = a + (i + 1) by omega, show b + 1 + i = b + (i + 1) by omega]; exact this)]
theorem iX {d : Nat → α} {x : α} : ∀ {n a : Nat}, x ∈ sg d a n ↔ ∃ i, a ≤ i ∧ i < a + n ∧ d i = x := by
 intro n
 induction n with
 | zero => intro a; simp only [sg, List.not_mem_nil, false_iff]; rintro ⟨i, h1, h2, _⟩; omega
 | succ n ih =>
   intro a
   simp only [sg, List.mem_cons, ih]
   constructor
   ·rintro (h | ⟨i, h1, h2, h3⟩)
    ·exact ⟨a, by omega, by omega, h.symm⟩
    ·exact ⟨i, by omega, by omega, h3⟩
   ·rintro ⟨i, h1, h2, h3⟩
    by_cases e : i = a
    ·subst e; exact .inl h3.symm
    ·exact .inr ⟨i, by omega, by omega, h3⟩
theorem wR (d : Nat → α) : ∀ (n a i : Nat), i < n → (sg d a n)[i]? = some (d (a + i)) := by
 intro n
 induction n with
 | zero => intro a i h; omega
 | succ n ih =>
   intro a i h
   cases i with
   | zero => simp [sg]
   | succ i => simp only [sg, List.getElem?_cons_succ]; rw [ih (a + 1) i (by omega), show a + 1 + i = a + (i + 1) by omega]
def kf (key : α → Int) (k : Int) (l : List α) : List α := l.filter (fun x => decide (key x = k))
theorem gY (key : α → Int) (k : Int) (l m : List α) : kf key k (l ++ m) = kf key k l ++ kf key k m := by simp [kf]
structure Stb (key : α → Int) (a b : Nat) (d d' : Nat → α) : Prop where
 out : ∀ x, ¬ (a ≤ x ∧ x < b) → d' x = d x
 ord : ∀ k, kf key k (sg d' a (b - a)) = kf key k (sg d a (b - a))
theorem Stb.refl (key : α → Int) (a b : Nat) (d : Nat → α) : Stb key a b d d := ⟨fun _ _ => rfl, fun _ => rfl⟩
theorem Stb.trans {key : α → Int} {a b : Nat} {d e f : Nat → α} (h : Stb key a b d e) (k : Stb key a b e f) : Stb key a b d f :=
 ⟨fun x hx => (k.out x hx).trans (h.out x hx), fun i => (k.ord i).trans (h.ord i)⟩
theorem Stb.wide {key : α → Int} {a b p q : Nat} {d d' : Nat → α} (h : Stb key a b d d') (h1 : p ≤ a) (h2 : a ≤ b) (h3 : b ≤ q) : Stb key p q d d' := by
 refine ⟨fun x hx => h.out x (fun k => hx ⟨by omega, by omega⟩), fun k => ?_⟩
 have e : q - p = (a - p) + ((b - a) + (q - b)) := by omega
 rw [e, gU, gU, gU d, gU d, gY, gY, gY, gY]
 rw [show p + (a - p) = a by omega, show a + (b - a) = b by omega, h.ord k]
 rw [lY (d := d') (e := d) (a - p) p (fun x _ _ => h.out x (by omega)), lY (d := d') (e := d) (q - b) b (fun x _ _ => h.out x (by omega))]
theorem Stb.mem {key : α → Int} {a b : Nat} {d d' : Nat → α} (h : Stb key a b d d') {x : Nat} (h1 : a ≤ x) (h2 : x < b) : ∃ y, a ≤ y ∧ y < b ∧ d' x = d y := by
 have hm : d' x ∈ kf key (key (d' x)) (sg d' a (b - a)) := by
  unfold kf
  rw [List.mem_filter]
  exact ⟨iX.2 ⟨x, h1, by omega, rfl⟩, by simp⟩
 rw [h.ord] at hm
 unfold kf at hm
 rw [List.mem_filter] at hm
 obtain ⟨y, k1, k2, k3⟩ := iX.1 hm.1
 exact ⟨y, k1, by omega, k3.symm⟩
def rot (d : Nat → α) (p m q : Nat) : Nat → α := fun x => if p ≤ x ∧ x < p + (q - m) then d (m + (x - p)) else if p + (q - m) ≤ x ∧ x < q then d (x - (q - m)) else d x
theorem je {d : Nat → α} {p m q x : Nat} (h : p ≤ x ∧ x < p + (q - m)) : rot d p m q x = d (m + (x - p)) := by unfold rot; rw [if_pos h]
theorem kW {d : Nat → α} {p m q x : Nat} (h : p + (q - m) ≤ x ∧ x < q) : rot d p m q x = d (x - (q - m)) := by unfold rot; rw [if_neg (by omega), if_pos h]
theorem fO {d : Nat → α} {p m q x : Nat} (hp : p ≤ m) (hq : m ≤ q) (h : ¬ (p ≤ x ∧ x < q)) : rot d p m q x = d x := by unfold rot; rw [if_neg (by omega), if_neg (by omega)]
theorem xT {d : Nat → α} {p m q : Nat} (hp : p ≤ m) (hq : m ≤ q) : sg (rot d p m q) p (q - p) = sg d m (q - m) ++ sg d p (m - p) := by
 rw [show q - p = (q - m) + (m - p) by omega, gU]
 rw [lX (e := d) m (q - m) p (fun i hi => by rw [je (by omega)]; congr 1; omega)]
 rw [lX (e := d) p (m - p) (p + (q - m)) (fun i hi => by rw [kW (by omega)]; congr 1; omega)]
theorem kT {key : α → Int} {d : Nat → α} {p m q : Nat} (hp : p ≤ m) (hq : m ≤ q) (h : ∀ x y, p ≤ x → x < m → m ≤ y → y < q → key (d y) < key (d x)) : Stb key p q d (rot d p m q) := by
 refine ⟨fun x hx => fO hp hq hx, fun k => ?_⟩
 rw [xT hp hq, show q - p = (m - p) + (q - m) by omega, gU, show p + (m - p) = m by omega, gY, gY]
 by_cases e : ∃ y, m ≤ y ∧ y < q ∧ key (d y) = k
 ·obtain ⟨y, h1, h2, h3⟩ := e
  have : kf key k (sg d p (m - p)) = [] := by
   unfold kf
   rw [List.filter_eq_nil_iff]
   intro z hz hk
   obtain ⟨x, k1, k2, k3⟩ := iX.1 hz
   have := h x y k1 (by omega) h1 h2
   simp at hk
   rw [← k3] at hk
   omega
  rw [this]; simp
 ·have : kf key k (sg d m (q - m)) = [] := by
   unfold kf
   rw [List.filter_eq_nil_iff]
   intro z hz hk
   obtain ⟨x, k1, k2, k3⟩ := iX.1 hz
   simp at hk
   rw [← k3] at hk
   exact e ⟨x, k1, by omega, hk⟩
  rw [this]; simp
def swp (d : Nat → α) (i j : Nat) : Nat → α := fun x => if x = i then d j else if x = j then d i else d x
def swr (d : Nat → α) (a b n : Nat) : Nat → α := fun x => if a ≤ x ∧ x < a + n then d (b + (x - a)) else if b ≤ x ∧ x < b + n then d (a + (x - b)) else d x
theorem rr (d : Nat → α) (a b : Nat) : swr d a b 0 = d := by
 funext x; unfold swr; rw [if_neg (by omega), if_neg (by omega)]
theorem rt (d : Nat → α) {a b n : Nat} (h : a + n < b) : swp (swr d a b n) (a + n) (b + n) = swr d a b (n + 1) := by
 funext x
 unfold swp swr
 by_cases e1 : x = a + n
 ·subst e1
  rw [if_pos rfl, if_neg (by omega), if_neg (by omega), if_pos (by omega)]
  congr 1; omega
 rw [if_neg e1]
 by_cases e2 : x = b + n
 ·subst e2
  rw [if_pos rfl, if_neg (by omega), if_neg (by omega), if_neg (by omega), if_pos (by omega)]
  congr 1; omega
 rw [if_neg e2]
 by_cases c1 : a ≤ x ∧ x < a + n
 ·rw [if_pos c1, if_pos (by omega)]
 rw [if_neg c1, if_neg (c := a ≤ x ∧ x < a + (n + 1)) (by omega)]
 by_cases c2 : b ≤ x ∧ x < b + n
 ·rw [if_pos c2, if_pos (by omega)]
 ·rw [if_neg c2, if_neg (by omega)]
theorem rQ {d : Nat → α} {m i j : Nat} (hi : i ≤ m) (h : j < i) : rot (swr d (m - i) m j) (m - (i - j)) m (m + j) = rot d (m - i) m (m + j) := by
 funext x
 simp only [rot, swr]
 repeat' split
 all_goals first | rfl | (congr 1; omega)
theorem pN {d : Nat → α} {m i j : Nat} (hi : i ≤ m) (h : i < j) : rot (swr d (m - i) (m + j - i) i) (m - i) m (m + (j - i)) = rot d (m - i) m (m + j) := by
 funext x
 unfold rot swr
 have e : m + j - m = j := by omega
 have e' : m + (j - i) - m = j - i := by omega
 rw [e, e']
 by_cases c0 : m - i ≤ x ∧ x < m - i + (j - i)
 ·rw [if_pos c0, if_pos (c := m - i ≤ x ∧ x < m - i + j) (by omega)]
  by_cases c1 : m - i ≤ m + (x - (m - i)) ∧ m + (x - (m - i)) < m - i + i
  ·omega
  rw [if_neg c1, if_neg (by omega)]
 rw [if_neg c0]
 by_cases c1 : m - i + (j - i) ≤ x ∧ x < m + (j - i)
 ·rw [if_pos c1, if_pos (by omega), if_pos (by omega)]
  congr 1; omega
 rw [if_neg c1]
 by_cases c2 : m + j - i ≤ x ∧ x < m + j - i + i
 ·rw [if_neg (by omega), if_pos c2, if_neg (by omega), if_pos (by omega)]
  congr 1; omega
 ·rw [if_neg (by omega), if_neg c2, if_neg (by omega), if_neg (by omega)]
theorem uZ {d : Nat → α} {m i : Nat} (hi : i ≤ m) : swr d (m - i) m i = rot d (m - i) m (m + i) := by
 funext x
 unfold rot swr
 have e : m + i - m = i := by omega
 rw [e]
 by_cases c0 : m - i ≤ x ∧ x < m - i + i
 ·rw [if_pos c0, if_pos c0]
 rw [if_neg c0, if_neg c0]
 by_cases c1 : m ≤ x ∧ x < m + i
 ·rw [if_pos c1, if_pos (by omega)]; congr 1; omega
 ·rw [if_neg c1, if_neg (by omega)]
theorem uY (d : Nat → α) (a : Nat) : rot d a (a + 1) (a + 1) = d := by
 funext x; unfold rot
 rw [if_neg (by omega)]
 by_cases c : a + (a + 1 - (a + 1)) ≤ x ∧ x < a + 1
 ·rw [if_pos c]; congr 1; omega
 ·rw [if_neg c]
theorem xS (d : Nat → α) {a k : Nat} (h : a ≤ k) : swp (rot d a (a + 1) (k + 1)) k (k + 1) = rot d a (a + 1) (k + 2) := by
 funext x
 unfold swp rot
 by_cases e1 : x = k
 ·subst e1
  rw [if_pos rfl, if_neg (by omega), if_neg (by omega), if_pos (by omega)]; congr 1; omega
 rw [if_neg e1]
 by_cases e2 : x = k + 1
 ·subst e2
  rw [if_pos rfl, if_neg (by omega), if_pos (by omega), if_neg (by omega), if_pos (by omega)]; congr 1; omega
 rw [if_neg e2]
 by_cases c : a ≤ x ∧ x < a + (k + 1 - (a + 1))
 ·rw [if_pos c, if_pos (by omega)]
 ·rw [if_neg c, if_neg (by omega), if_neg (by omega), if_neg (by omega)]
theorem jZ (d : Nat → α) (m : Nat) : rot d m m (m + 1) = d := by
 funext x; unfold rot
 by_cases c : m ≤ x ∧ x < m + (m + 1 - m)
 ·rw [if_pos c]; congr 1; omega
 ·rw [if_neg c, if_neg (by omega)]
theorem mf (d : Nat → α) {m k : Nat} (h : k + 1 ≤ m) : swp (rot d (k + 1) m (m + 1)) (k + 1) k = rot d k m (m + 1) := by
 funext x
 unfold swp rot
 have e : m + 1 - m = 1 := by omega
 rw [e]
 by_cases e1 : x = k + 1
 ·subst e1
  rw [if_pos rfl, if_neg (by omega), if_neg (by omega), if_neg (by omega), if_pos (by omega)]; congr 1
 rw [if_neg e1]
 by_cases e2 : x = k
 ·subst e2
  rw [if_pos rfl, if_pos (by omega), if_pos (by omega)]; congr 1; omega
 rw [if_neg e2]
 by_cases c : k + 1 ≤ x ∧ x < k + 1 + 1
 ·omega
 rw [if_neg c]
 by_cases c1 : k + 1 + 1 ≤ x ∧ x < m + 1
 ·rw [if_pos c1, if_neg (by omega), if_pos (by omega)]
 ·rw [if_neg c1, if_neg (by omega), if_neg (by omega)]
def aM (key : α → Int) (d : Nat → α) (a b : Nat) : Prop := ∀ x y, a ≤ x → x ≤ y → y < b → key (d x) ≤ key (d y)
theorem aM.sub {key : α → Int} {d : Nat → α} {a b p q : Nat} (h : aM key d a b) (h1 : a ≤ p) (h2 : q ≤ b) : aM key d p q := fun x y k1 k2 k3 => h x y (by omega) k2 (by omega)
theorem aM.congr {key : α → Int} {d e : Nat → α} {a b : Nat} (h : aM key d a b) (he : ∀ x, a ≤ x → x < b → e x = d x) : aM key e a b := fun x y k1 k2 k3 => by
 rw [he x k1 (by omega), he y (by omega) k3]; exact h x y k1 k2 k3
theorem ox {key : α → Int} {d : Nat → α} {a i j : Nat} (h : aM key d a i) (hj : a ≤ j ∧ j ≤ i) (h1 : ∀ x, j ≤ x → x < i → key (d i) < key (d x)) (h2 : a < j → key (d (j - 1)) ≤ key (d i)) :
 aM key (rot d j i (i + 1)) a (i + 1) ∧ Stb key a (i + 1) d (rot d j i (i + 1)) := by
 have e : i + 1 - i = 1 := by omega
 have lo : ∀ x, x < j → rot d j i (i + 1) x = d x := fun x hx => fO (by omega) (by omega) (by omega)
 have mid : rot d j i (i + 1) j = d i := by rw [je (by omega)]; congr 1; omega
 have hi : ∀ x, j < x → x < i + 1 → rot d j i (i + 1) x = d (x - 1) := fun x h3 h4 => by rw [kW (by omega), e]
 refine ⟨fun x y k1 k2 k3 => ?_, (kT hj.2 (by omega) (fun x y k1 k2 k3 k4 => by rw [show y = i by omega]; exact h1 x k1 k2)).wide hj.1 (by omega) (Nat.le_refl _)⟩
 rcases Nat.lt_trichotomy x j with c | c | c
 ·rw [lo x c]
  rcases Nat.lt_trichotomy y j with c' | c' | c'
  ·rw [lo y c']; exact h x y k1 k2 (by omega)
  ·rw [c', mid]
   have := h x (j - 1) k1 (by omega) (by omega)
   have := h2 (by omega)
   omega
  ·rw [hi y c' k3]; exact h x (y - 1) k1 (by omega) (by omega)
 ·rw [c, mid]
  rcases Nat.lt_trichotomy y j with c' | c' | c'
  ·omega
  ·rw [c', mid]; exact Int.le_refl _
  ·rw [hi y c' k3]
   have := h1 (y - 1) (by omega) (by omega)
   omega
 ·rw [hi x c (by omega), hi y (by omega) k3]
  exact h (x - 1) (y - 1) (by omega) (by omega) (by omega)
theorem pH {key : α → Int} {d : Nat → α} {a b i : Nat} (h : aM key d (a + 1) b) (hi : a + 1 ≤ i ∧ i ≤ b) (h1 : ∀ x, a + 1 ≤ x → x < i → key (d x) < key (d a)) (h2 : i < b → key (d a) ≤ key (d i)) :
 aM key (rot d a (a + 1) i) a b ∧ Stb key a b d (rot d a (a + 1) i) := by
 have lo : ∀ x, a ≤ x → x + 1 < i → rot d a (a + 1) i x = d (x + 1) := fun x h3 h4 => by rw [je (by omega)]; congr 1; omega
 have mid : rot d a (a + 1) i (i - 1) = d a := by rw [kW (by omega)]; congr 1; omega
 have hh : ∀ x, i ≤ x → rot d a (a + 1) i x = d x := fun x h3 => fO (by omega) (by omega) (by omega)
 refine ⟨fun x y k1 k2 k3 => ?_, (kT (by omega) hi.1 (fun x y k1 k2 k3 k4 => by rw [show x = a by omega]; exact h1 y k3 k4)).wide (Nat.le_refl _) (by omega) hi.2⟩
 rcases Nat.lt_trichotomy x (i - 1) with c | c | c
 ·rw [lo x k1 (by omega)]
  rcases Nat.lt_trichotomy y (i - 1) with c' | c' | c'
  ·rw [lo y (by omega) (by omega)]; exact h (x + 1) (y + 1) (by omega) (by omega) (by omega)
  ·rw [c', mid]
   have := h1 (x + 1) (by omega) (by omega)
   omega
  ·rw [hh y (by omega)]; exact h (x + 1) y (by omega) (by omega) k3
 ·rw [c, mid]
  rcases Nat.lt_trichotomy y (i - 1) with c' | c' | c'
  ·omega
  ·rw [c', mid]; exact Int.le_refl _
  ·rw [hh y (by omega)]
   have := h i y (by omega) (by omega) k3
   have := h2 (by omega)
   omega
 ·rw [hh x (by omega), hh y (by omega)]
  exact h x y (by omega) k2 k3
theorem oy {key : α → Int} {d : Nat → α} {a m b mid start end_ : Nat} (ham : a ≤ m) (hmb : m ≤ b) (hs : a ≤ start ∧ start ≤ m) (he : m ≤ end_ ∧ end_ ≤ b) (hmid : start + (end_ - m) = mid)
 (h1 : aM key d a m) (h2 : aM key d m b) (h3 : start < m → m < end_ → key (d (end_ - 1)) < key (d start)) (h4 : a < start → end_ < b → key (d (start - 1)) ≤ key (d end_)) :
 let e := rot d start m end_
 aM key e a start ∧ aM key e start mid ∧ aM key e mid end_ ∧ aM key e end_ b ∧ Stb key a b d e ∧ ∀ x y, a ≤ x → x < mid → mid ≤ y → y < b → key (e x) ≤ key (e y) := by
 intro e
 have out : ∀ x, ¬ (start ≤ x ∧ x < end_) → e x = d x := fun x hx => fO hs.2 he.1 hx
 have lo : ∀ x, start ≤ x → x < mid → e x = d (m + (x - start)) := fun x k1 k2 => je (by omega)
 have hi : ∀ x, mid ≤ x → x < end_ → e x = d (x - (end_ - m)) := fun x k1 k2 => kW (by omega)
 have ap : ∀ x y, start ≤ x → x < m → m ≤ y → y < end_ → key (d y) < key (d x) := fun x y k1 k2 k3 k4 => by
  have q1 := h1 start x hs.1 k1 k2
  have q2 := h2 y (end_ - 1) k3 (by omega) (by omega)
  have q3 := h3 (by omega) (by omega)
  omega
 refine ⟨h1.sub (Nat.le_refl _) hs.2 |>.congr (fun x _ k => out x (by omega)), fun x y k1 k2 k3 => ?_, fun x y k1 k2 k3 => ?_, h2.sub he.1 (Nat.le_refl _) |>.congr (fun x k _ => out x (by omega)), (kT hs.2 he.1 ap).wide hs.1 (by omega) he.2, fun x y k1 k2 k3 k4 => ?_⟩
 ·rw [lo x k1 (by omega), lo y (by omega) k3]; exact h2 _ _ (by omega) (by omega) (by omega)
 ·rw [hi x k1 (by omega), hi y (by omega) k3]; exact h1 _ _ (by omega) (by omega) (by omega)
 ·by_cases c1 : x < start
  ·rw [out x (by omega)]
   by_cases c2 : y < end_
   ·rw [hi y k3 c2]; exact h1 _ _ k1 (by omega) (by omega)
   ·rw [out y (by omega)]
    have q1 := h1 x (start - 1) k1 (by omega) (by omega)
    have q2 := h2 end_ y (by omega) (by omega) k4
    have q3 := h4 (by omega) (by omega)
    omega
  ·rw [lo x (by omega) k2]
   by_cases c2 : y < end_
   ·rw [hi y k3 c2]
    have := ap (y - (end_ - m)) (m + (x - start)) (by omega) (by omega) (by omega) (by omega)
    omega
   ·rw [out y (by omega)]; exact h2 _ _ (by omega) (by omega) k4
theorem ry {key : α → Int} {e f : Nat → α} {a mid b : Nat} (_ha : a ≤ mid) (_hb : mid ≤ b) (hle : ∀ x y, a ≤ x → x < mid → mid ≤ y → y < b → key (e x) ≤ key (e y)) {g : Nat → α} (s1 : Stb key a mid e g) (s2 : Stb key mid b g f) (h1 : aM key g a mid) (h2 : aM key f mid b) : aM key f a b := by
 have lo : ∀ x, x < mid → f x = g x := fun x hx => s2.out x (by omega)
 intro x y k1 k2 k3
 by_cases c1 : y < mid
 ·rw [lo x (by omega), lo y c1]; exact h1 x y k1 k2 c1
 ·by_cases c2 : x < mid
  ·rw [lo x c2]
   obtain ⟨x', p1, p2, p3⟩ := s1.mem k1 c2
   obtain ⟨y', q1, q2, q3⟩ := s2.mem (x := y) (by omega) k3
   rw [p3, q3, s1.out y' (by omega)]
   exact hle x' y' p1 p2 q1 q2
  ·exact h2 x y (by omega) k2 k3
def Bks (key : α → Int) (d : Nat → α) (s a n : Nat) : Prop := ∀ t, aM key d (a + t * s) (min (a + t * s + s) n)
theorem nM {key : α → Int} {d : Nat → α} {s u n : Nat} (h : ∀ t, t < u → aM key d (t * s) (t * s + s)) (h1 : aM key d (u * s) n) (h2 : n < u * s + s) : Bks key d s 0 n := by
 intro t
 rw [Nat.zero_add]
 rcases Nat.lt_trichotomy t u with c | c | c
 ·exact (h t c).sub (Nat.le_refl _) (by omega)
 ·subst c
  exact h1.sub (Nat.le_refl _) (by omega)
 ·have := Nat.mul_le_mul_right s (show u + 1 ≤ t by omega)
  rw [Nat.succ_mul] at this
  intro x y k1 k2 k3
  omega
theorem iI {key : α → Int} {d : Nat → α} {s a n : Nat} (h : Bks key d s a n) : aM key d a (min (a + s) n) ∧ aM key d (a + s) (min (a + s + s) n) := by
 have h0 := h 0
 have h1 := h 1
 rw [Nat.zero_mul, Nat.add_zero] at h0
 rw [Nat.one_mul] at h1
 exact ⟨h0, h1⟩
theorem tT {key : α → Int} {d e : Nat → α} {s a n : Nat} (h : Bks key d s a n) (he : ∀ x, a + 2 * s ≤ x → e x = d x) : Bks key e s (a + 2 * s) n := by
 intro t
 have h2 := h (t + 2)
 rw [Nat.add_mul, show a + (t * s + 2 * s) = a + 2 * s + t * s by omega] at h2
 exact h2.congr (fun x k1 _ => he x (by omega))
theorem mQ {key : α → Int} {d e : Nat → α} {s u : Nat} (h : ∀ t, t < u → aM key d (t * s) (t * s + s)) (h1 : aM key e (u * s) (u * s + s)) (he : ∀ x, x < u * s → e x = d x) : ∀ t, t < u + 1 → aM key e (t * s) (t * s + s) := by
 intro t ht
 by_cases c : t = u
 ·subst c; exact h1
 ·have := Nat.mul_le_mul_right s (show t + 1 ≤ u by omega)
  rw [Nat.succ_mul] at this
  exact (h t (by omega)).congr (fun x k1 k2 => he x (by omega))
def iw (key : α → Int) (l : List α) : Prop := l.Pairwise (fun x y => key x ≤ key y)
theorem uL {key : α → Int} {d : Nat → α} : ∀ (n a : Nat), aM key d a (a + n) → iw key (sg d a n) := by
 intro n
 induction n with
 | zero => intro a _; exact List.Pairwise.nil
 | succ n ih =>
   intro a h
   refine List.Pairwise.cons (fun y hy => ?_) (ih (a + 1) (h.sub (by omega) (by omega)))
   obtain ⟨i, h1, h2, rfl⟩ := iX.1 hy
   exact h a i (Nat.le_refl _) (by omega) (by omega)
theorem nw {key : α → Int} {l m : List α} (h : ∀ k, kf key k l = kf key k m) {x : α} (hx : x ∈ l) : x ∈ m := by
 have : x ∈ kf key (key x) l := by unfold kf; rw [List.mem_filter]; exact ⟨hx, by simp⟩
 rw [h] at this
 unfold kf at this
 exact (List.mem_filter.1 this).1
theorem iT {key : α → Int} (k : Int) : ∀ {l : List α}, iw key l → (∀ x, x ∈ l → k ≤ key x) → l = kf key k l ++ l.filter (fun x => decide (k < key x)) := by
 intro l
 induction l with
 | nil => intro _ _; rfl
 | cons x l ih =>
   intro h hk
   have h2 := List.pairwise_cons.1 h
   have hx := hk x (by simp)
   by_cases e : key x = k
   ·have := ih h2.2 (fun y hy => hk y (by simp [hy]))
    unfold kf at *
    rw [List.filter_cons_of_pos (by simp [e]), List.filter_cons_of_neg (by simp; omega), List.cons_append, ← this]
   ·have hall : ∀ y, y ∈ x :: l → k < key y := fun y hy => by
     rcases List.mem_cons.1 hy with q | q
     ·subst q; omega
     ·have := h2.1 y q; omega
    have e1 : kf key k (x :: l) = [] := by
     unfold kf; rw [List.filter_eq_nil_iff]; intro y hy q; have := hall y hy; simp at q; omega
    have e2 : (x :: l).filter (fun x => decide (k < key x)) = x :: l := by
     rw [List.filter_eq_self]; intro y hy; have := hall y hy; simp [this]
    rw [e1, e2, List.nil_append]
theorem jo {key : α → Int} {k j : Int} (h : k < j) (l : List α) : kf key j (l.filter (fun x => decide (k < key x))) = kf key j l := by
 unfold kf
 rw [List.filter_filter]
 apply List.filter_congr
 intro x _
 by_cases e : key x = j
 ·simp [e, h]
 ·simp [e]
theorem ik {key : α → Int} {l : List α} (h : iw key l) (p : α → Bool) : iw key (l.filter p) := List.Pairwise.filter p h
end Srt
section
open Go.RowKit Srt
attribute [local go_sem ↓] Go.wp_at_zero Go.wp_at_succ
structure Ac where
 kd : Int
 key : Int
 to_ : Int
 t : Bool
 s : ByteArray
 l : List Ver
structure Dn where
 n : Int
 at_ : Int
 md : Int
 acts : List Ac
structure Dx where
 d : Dn
 a : Option Addr
 c : Nat
def dxc (x : Dx) : List Value := [.int .i64 x.d.n, .int .i64 x.d.at_, .int .i64 x.d.md, .slice x.a x.d.acts.length x.c]
def dxv (x : Dx) : Value := .agg #[.int .i64 x.d.n, .int .i64 x.d.at_, .int .i64 x.d.md, .slice x.a x.d.acts.length x.c]
structure Dc4 (cur : Array Value) (i : Nat) (x : Dx) : Prop where
 c0 : cur[i * 4]? = some (.int .i64 x.d.n)
 c1 : cur[i * 4 + 1]? = some (.int .i64 x.d.at_)
 c2 : cur[i * 4 + 2]? = some (.int .i64 x.d.md)
 c3 : cur[i * 4 + 3]? = some (.slice x.a x.d.acts.length x.c)
def bL (w : World) (g n : Nat) (d : Nat → Dx) : Prop := ∃ cur, w.heap[g]? = some (.cells cur 36 (0, 0)) ∧ ∀ i, i < n → Dc4 cur i (d i)
section
variable {w w' : World} {g n i j : Nat} {d : Nat → Dx} {S : List Nat} {a : Option Addr}
theorem bL.kp (h : bL w g n d) (hk : Kp S w w') (hg : g ∉ S) : bL w' g n d := by
 obtain ⟨cur, h1, h2⟩ := h
 exact ⟨cur, by rw [hk.block g (ah h1) hg]; exact h1, h2⟩
theorem bL.kp0 (h : bL w g n d) (hk : Kp [] w w') : bL w' g n d := h.kp hk (by simp)
theorem bL.cells (h : bL w g n d) (hi : i < n) : w.cell? ⟨g, i * 4, none⟩ = some (.int .i64 (d i).d.n) ∧ w.cell? ⟨g, i * 4 + 1, none⟩ = some (.int .i64 (d i).d.at_) ∧ w.cell? ⟨g, i * 4 + 1 + 1, none⟩ = some (.int .i64 (d i).d.md) ∧ w.cell? ⟨g, i * 4 + 1 + 1 + 1, none⟩ = some (.slice (d i).a (d i).d.acts.length (d i).c) := by
 obtain ⟨cur, h1, h2⟩ := h
 have h3 := h2 i hi
 exact ⟨af h1 h3.c0, af h1 h3.c1, af h1 h3.c2, af h1 h3.c3⟩
theorem bL.fz (h : bL w g n d) (o : Nat) : w.frozen? ⟨g, o, none⟩ = false := by
 obtain ⟨cur, h1, h2⟩ := h
 exact ak o h1
def iv (w : World) (g i : Nat) (x : Dx) : World := (((w.setCell ⟨g, i * 4, none⟩ (.int .i64 x.d.n)).setCell ⟨g, i * 4 + 1, none⟩ (.int .i64 x.d.at_)).setCell ⟨g, i * 4 + 2, none⟩ (.int .i64 x.d.md)).setCell ⟨g, i * 4 + 3, none⟩ (.slice x.a x.d.acts.length x.c)
theorem oI (w : World) (g i : Nat) (x : Dx) : Kp [g] w (iv w g i x) := ((((Kp.refl [g] w).setCell (.inl (by simp)) _).setCell (.inl (by simp)) _).setCell (.inl (by simp)) _).setCell (.inl (by simp)) _
theorem bL.put (h : bL w g n d) (hi : i < n) (x : Dx) : bL (iv w g i x) g n (fun j => if j = i then x else d j) := by
 obtain ⟨cur, h1, h2⟩ := h
 refine ⟨_, an _ _ (an _ _ (an _ _ (an _ _ h1))), fun j hj => ?_⟩
 have h3 := h2 j hj
 have h4 := h2 i hi
 have b0 := (Array.getElem?_eq_some_iff.1 h4.c0).1
 have b1 := (Array.getElem?_eq_some_iff.1 h4.c1).1
 have b2 := (Array.getElem?_eq_some_iff.1 h4.c2).1
 have b3 := (Array.getElem?_eq_some_iff.1 h4.c3).1
 dsimp only
 by_cases e : j = i
 ·subst e
  rw [if_pos rfl]
  constructor <;> simp only [Array.getElem?_setIfInBounds, Array.size_setIfInBounds] <;> (repeat' split) <;> first | rfl | omega | contradiction | simp_all
 ·rw [if_neg e]
  constructor <;> simp only [Array.getElem?_setIfInBounds, Array.size_setIfInBounds]
  ·rw [if_neg (by omega), if_neg (by omega), if_neg (by omega), if_neg (by omega)]; exact h3.c0
  ·rw [if_neg (by omega), if_neg (by omega), if_neg (by omega), if_neg (by omega)]; exact h3.c1
  ·rw [if_neg (by omega), if_neg (by omega), if_neg (by omega), if_neg (by omega)]; exact h3.c2
  ·rw [if_neg (by omega), if_neg (by omega), if_neg (by omega), if_neg (by omega)]; exact h3.c3
theorem bL.congr {e : Nat → Dx} (h : bL w g n d) (he : ∀ i, i < n → e i = d i) : bL w g n e := by
 obtain ⟨cur, h1, h2⟩ := h
 exact ⟨cur, h1, fun i hi => by rw [he i hi]; exact h2 i hi⟩
theorem bL.swap (h : bL w g n d) (hi : i < n) (hj : j < n) (hne : i ≠ j) : bL (iv (iv w g i (d j)) g j (d i)) g n (swp d i j) := by
 refine ((h.put hi (d j)).put hj (d i)).congr (fun x _ => ?_)
 unfold swp
 by_cases e : x = i
 ·subst e; rw [if_pos rfl, if_neg hne, if_pos rfl]
 ·rw [if_neg e]
  by_cases e2 : x = j
  ·rw [if_pos e2, if_pos e2]
  ·rw [if_neg e2, if_neg e2, if_neg e]
theorem bL.swap2 (h : bL w g n d) (hi : i < n) (hj : j < n) (hne : i ≠ j) : bL (iv (iv w g i (d j)) g j (d i)) g n (swp d i j) ∧ Kp [g] w (iv (iv w g i (d j)) g j (d i)) :=
 ⟨h.swap hi hj hne, (oI _ _ _ _).trans (oI _ _ _ _) (fun _ hx => .inl hx)⟩
def SlD (w : World) (a : Option Addr) (n : Nat) (d : Nat → Dx) : Prop := 0 < n → ∃ g, a = some ⟨g, 0, none⟩ ∧ bL w g n d
def obd (a : Option Addr) : List Nat := match a with | some x => [x.block] | none => []
theorem SlD.kp (h : SlD w a n d) (hk : Kp S w w') (hg : ∀ x, x ∈ obd a → x ∉ S) : SlD w' a n d := fun hp => by
 obtain ⟨g, rfl, h1⟩ := h hp
 exact ⟨g, rfl, h1.kp hk (hg g (by simp [obd]))⟩
theorem SlD.kp0 (h : SlD w a n d) (hk : Kp [] w w') : SlD w' a n d := h.kp hk (fun _ _ => by simp)
end
def cQ (x y : Int) : Int := if x < y then -1 else if y < x then 1 else 0
theorem kl (x : Int) (w : World) : Calls Tryz.prog 67 #[.int .i64 x] w fun e w' => e = .returned (.bool false) ∧ w' = w := by
 go_enter Tryz.func67, Tryz.ntmps67
 go_wp2_with fail
 go_ret
 exact ⟨by simp, rfl⟩
theorem pp (x y : Int) (w : World) : Calls Tryz.prog 36 #[.int .i64 x, .int .i64 y] w fun e w' => e = .returned (.int .i64 (cQ x y)) ∧ w' = w := by
 unfold cQ
 by_cases h1 : x < y
 ·rw [if_pos h1]
  go_enter Tryz.func36, Tryz.ntmps36
  go_wp2_with fail
  refine (kl x w).mono ?_
  rintro e w' ⟨rfl, rfl⟩
  go_wp2_with fail
  refine (kl y _).mono ?_
  rintro e w' ⟨rfl, rfl⟩
  go_wp2_with fail
  go_ret
  exact ⟨rfl, rfl⟩
 ·rw [if_neg h1]
  by_cases h2 : y < x
  ·rw [if_pos h2]
   go_enter Tryz.func36, Tryz.ntmps36
   go_wp2_with fail
   refine (kl x w).mono ?_
   rintro e w' ⟨rfl, rfl⟩
   go_wp2_with fail
   refine (kl y _).mono ?_
   rintro e w' ⟨rfl, rfl⟩
   go_wp2_with fail
   go_ret
   exact ⟨rfl, rfl⟩
  ·rw [if_neg h2]
   go_enter Tryz.func36, Tryz.ntmps36
   go_wp2_with fail
   refine (kl x w).mono ?_
   rintro e w' ⟨rfl, rfl⟩
   go_wp2_with fail
   refine (kl y _).mono ?_
   rintro e w' ⟨rfl, rfl⟩
   go_wp2_with fail
   go_ret
   exact ⟨rfl, rfl⟩
theorem Aw (x y : Dx) (w : World) : Calls Tryz.prog 35 #[dxv x, dxv y] w fun e w' => e = .returned (.int .i64 (cQ x.d.n y.d.n)) ∧ Kp [] w w' := by
 have hk : Kp [] w ((w.alloc (.cells (dxc x).toArray 36)).alloc (.cells (dxc y).toArray 36)) := ((Kp.refl [] w).alloc _).alloc _
 obtain ⟨⟨n, at_, md, acts⟩, a, c⟩ := x
 obtain ⟨⟨n', at', md', acts'⟩, a', c'⟩ := y
 dsimp only [dxv, dxc] at *
 generalize acts.length = l at *
 generalize acts'.length = l' at *
 go_enter Tryz.func35, Tryz.ntmps35
 go_wp2_with fail
 refine (pp n n' _).mono ?_
 rintro e w' ⟨rfl, rfl⟩
 go_wp2_with fail
 go_ret
 exact ⟨rfl, hk⟩
theorem Ay (x y : Dx) (w : World) : Calls Tryz.prog 38 #[dxv x, dxv y] w fun e w' => e = .returned (.int .i64 (cQ x.d.at_ y.d.at_)) ∧ Kp [] w w' := by
 have hk : Kp [] w ((w.alloc (.cells (dxc x).toArray 36)).alloc (.cells (dxc y).toArray 36)) := ((Kp.refl [] w).alloc _).alloc _
 obtain ⟨⟨n, at_, md, acts⟩, a, c⟩ := x
 obtain ⟨⟨n', at', md', acts'⟩, a', c'⟩ := y
 dsimp only [dxv, dxc] at *
 generalize acts.length = l at *
 generalize acts'.length = l' at *
 go_enter Tryz.func38, Tryz.ntmps38
 go_wp2_with fail
 refine (pp at_ at' _).mono ?_
 rintro e w' ⟨rfl, rfl⟩
 go_wp2_with fail
 go_ret
 exact ⟨rfl, hk⟩
end
end Go.Proofs.YtldkeaeohceckacGreat
