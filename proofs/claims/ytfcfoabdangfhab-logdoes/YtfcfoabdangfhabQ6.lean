/- readPairs, by its contract. -/
import Derived.Test.YtfcfoabdangfhabQ5
import Derived.Test.YtfcfoabdangfhabPq
namespace Go.Proofs.Ytfcfoabdangfhab
open Go.RowKit
set_option maxRecDepth 20000
attribute [local go_sem ↓] Go.wp_at_zero Go.wp_at_succ

theorem rp_step (m : Nat) (bs : List UInt8) : rp (m + 1) bs = if (rd1 bs).2.2 = true then (rp m (bs.drop (rd1 bs).2.1)).map ((rd1 bs).1 :: ·) else none := by
  match bs with
  | [] => simp [rp, rd1]
  | [x] => simp [rp, rd1]
  | k :: l :: r =>
    have e0 : ub (k :: l :: r) 0 = k.toNat := rfl
    have e1 : ub (k :: l :: r) 1 = l.toNat := rfl
    have h2 : ¬ (k :: l :: r).length < 2 := by simp
    have hlen : (k :: l :: r).length = r.length + 2 := rfl
    by_cases hl : l = 255
    · subst hl
      have er : rd1 (k :: 255 :: r) = (⟨k.toNat, false, ByteArray.empty⟩, 2, true) := by unfold rd1; rw [if_neg h2, e0, e1, if_pos (show UInt8.toNat 255 = 255 from rfl)]
      rw [er]
      simp [rp]
    · have hl' : ¬ l.toNat = 255 := fun e => hl (UInt8.toNat_inj.1 (by rw [e]; rfl))
      by_cases hr : r.length < l.toNat
      · have er : rd1 (k :: l :: r) = (dv, 0, false) := by unfold rd1; rw [if_neg h2, e1, if_neg hl', if_pos (by omega)]
        rw [er]
        simp [rp, hl, hr]
      · have ed : (k :: l :: r).drop (2 + l.toNat) = r.drop l.toNat := by rw [show 2 + l.toNat = l.toNat + 1 + 1 by omega]; rfl
        have et : ((k :: l :: r).take (2 + l.toNat)).drop 2 = r.take l.toNat := by rw [show 2 + l.toNat = l.toNat + 1 + 1 by omega]; rfl
        have er : rd1 (k :: l :: r) = (⟨k.toNat, true, ⟨(r.take l.toNat).toArray⟩⟩, 2 + l.toNat, true) := by unfold rd1; rw [if_neg h2, e0, e1, if_neg hl', if_neg (by omega), et]
        rw [er]
        simp only [rp, if_neg hl, if_neg hr, ed]
        simp
theorem rd1_le {bs : List UInt8} (h : (rd1 bs).2.2 = true) : (rd1 bs).2.1 ≤ bs.length := by
  unfold rd1 at h ⊢
  split at h
  · simp at h
  · rename_i h1
    rw [if_neg h1]
    split at h
    · rename_i h3
      rw [if_pos h3]
      simp; omega
    · rename_i h3
      rw [if_neg h3]
      split at h
      · simp at h
      · rename_i h4
        rw [if_neg h4]
        simp; omega

/-- At the head of a round of readPairs. -/
structure RpI (R : Option (List Ver)) (w : World) (m : Nat) (acc : List Ver) (a : Option Addr) (cap : Nat) (ab : Option Addr) (nb cb : Nat) (bs : List UInt8) (wr : World) : Prop where
  goes : (rp m bs).map (acc ++ ·) = R
  own : wr.ownsRow w.heap.size 40 3 (.slice a acc.length cap) acc.length (vcells acc)
  kp : Kp [] w wr
  byt : Byt w ab bs
  len : nb = bs.length
  cap : nb ≤ cb
  small : bs.length ≤ 10000

theorem RpI.fail {R : Option (List Ver)} {w : World} {m : Nat} {acc : List Ver} {a : Option Addr} {cap : Nat} {ab : Option Addr} {nb cb : Nat} {bs : List UInt8} {wr : World} (h : RpI R w (m + 1) acc a cap ab nb cb bs wr) (hr : (rd1 bs).2.2 = false) : R = none := by
  have := h.goes
  rw [rp_step, if_neg (by rw [hr]; decide)] at this
  rw [← this]; rfl
theorem RpI.next {R : Option (List Ver)} {w : World} {m : Nat} {acc : List Ver} {a : Option Addr} {cap : Nat} {ab : Option Addr} {nb cb : Nat} {bs : List UInt8} {wr W w2 : World} (h : RpI R w (m + 1) acc a cap ab nb cb bs wr) (hr : (rd1 bs).2.2 = true) {v : Ver} {sz : Nat} (hv : (rd1 bs).1 = v) (hs : (rd1 bs).2.1 = sz)
    (hw : Kp [] wr W) {g2 cap2 : Nat} (hown : w2.ownsRow w.heap.size 40 3 (.slice (some ⟨g2, 0, none⟩) (acc.length + 1) cap2) (acc.length + 1) (vcells acc ++ [.int .i64 v.a, .bool v.t, .string v.s]))
    (hgrow : W.grownBy w2 (Value.slice a acc.length cap).ownBlock) {ab' : Option Addr} (hb : Byt w ab' (bs.drop sz)) : RpI R w m (acc ++ [v]) (some ⟨g2, 0, none⟩) cap2 ab' (nb - sz) (cb - sz) (bs.drop sz) w2 := by
  subst hv hs
  refine ⟨?_, ?_, (h.kp.trans0 hw).grown hgrow (fun g hg => .inr (own_ge h.own hg)), hb, by rw [h.len]; simp, by have := h.cap; omega, by have := h.small; simp; omega⟩
  · rw [← h.goes, rp_step, if_pos hr, Option.map_map]
    congr 1
    funext x
    simp
  · have hv : vcells acc ++ [.int .i64 (rd1 bs).1.a, .bool (rd1 bs).1.t, .string (rd1 bs).1.s] = vcells (acc ++ [(rd1 bs).1]) := by rw [vcells_append]; rfl
    rw [hv] at hown
    simpa using hown

def RpsEnd (R : Option (List Ver)) (w : World) (e : Ending) (w' : World) : Prop :=
  ∃ a n cap, ∃ q : Bool, e = .returned (.tuple #[.slice a n cap, .bool q]) ∧ (q = true → ∃ ws, R = some ws ∧ n = ws.length ∧ w'.ownsRow w.heap.size 40 3 (.slice a n cap) n (vcells ws)) ∧ (q = false → R = none) ∧ Kp [] w w'
theorem rpsEnd_none {R : Option (List Ver)} {w w' : World} (h : R = none) (hk : Kp [] w w') : RpsEnd R w (.returned (.tuple #[.slice none 0 0, .bool false])) w' := ⟨none, 0, 0, false, rfl, (fun h => by simp at h), fun _ => h, hk⟩
theorem RpI.last {R : Option (List Ver)} {w : World} {acc : List Ver} {a : Option Addr} {cap : Nat} {ab : Option Addr} {nb cb : Nat} {bs : List UInt8} {wr : World} (h : RpI R w 0 acc a cap ab nb cb bs wr) (q : Bool) (hq : q = decide (nb = 0)) : RpsEnd R w (.returned (.tuple #[.slice a acc.length cap, .bool q])) wr := by
  have hg := h.goes
  have hl := h.len
  refine ⟨a, acc.length, cap, q, rfl, fun e => ⟨acc, ?_, rfl, h.own⟩, fun e => ?_, h.kp⟩
  · have e2 : nb = 0 := by subst hq; simpa using e
    have e3 : bs = [] := List.eq_nil_of_length_eq_zero (by omega)
    subst e3
    rw [← hg]; simp [rp]
  · have e2 : ¬ nb = 0 := by subst hq; simpa using e
    have e3 : ¬ bs = [] := fun e => by subst e; simp at hl; omega
    rw [← hg]; simp [rp, e3]

theorem beq0 (n : Nat) : ((n : Int) == 0) = decide (n = 0) := by rw [Bool.eq_iff_iff]; simp

set_option maxHeartbeats 2000000 in
theorem readPairs20 (ab : Option Addr) (n c : Nat) (bs : List UInt8) (m : Nat) (w : World) (h : Byt w ab bs) (hn : n = bs.length) (hc : n ≤ c) (hm : bs.length ≤ 10000) (hm2 : m ≤ 255) :
    Calls Try.prog 40 #[.slice ab n c, .int .i64 m] w fun e w' => RpsEnd (rp m bs) w e w' := by
  obtain ⟨i0, hi0, hz0, hz1, hz2⟩ := info_parts Try.info40
  have H0 : Hid (RpI (rp m bs) w m [] none 0 ab n c bs w) := ⟨by simp, World.ownsRow_nil _ _ _ _, Kp.refl _ _, h, hn, hc, hm⟩
  generalize rp m bs = R at *
  clear h hn hc hm
  go_enter Try.func40, Try.ntmps40
  go_wp2_with fail
  go_loopw [0, 6, 11] (fun b s i wr => ∃ (k : Nat) (acc : List Ver) (a : Option Addr) (cap : Nat) (ab : Option Addr) (nb cb : Nat) (bs : List UInt8), k ≤ m ∧ acc.length ≤ k ∧ b = .slice ab nb cb ∧ s = .slice a acc.length cap ∧ i = .int .i64 k ∧ Hid (RpI R w (m - k) acc a cap ab nb cb bs wr)) (fun _ _ i _ => m - (intOf i).toNat)
  case atStart => exact ⟨0, [], none, 0, ab, n, c, bs, by omega, by simp, rfl, rfl, rfl, H0⟩
  case round =>
    clear H0
    obtain ⟨k, acc, a, cap, ab, nb, cb, bs, hk, hal, rfl, rfl, rfl, HE⟩ := hrel
    by_cases hlt : k < m
    · have i1 : (k : Int) < (m : Int) := by omega
      rw [show m - k = (m - (k + 1)) + 1 by omega] at HE
      go_wp2_with fail
      refine (readPair23 ab nb cb bs wr ((unhide HE).byt.kp0 (unhide HE).kp) (unhide HE).len (unhide HE).cap (unhide HE).small).mono ?_
      rintro e w1 ⟨rfl, hk1⟩
      have HK1 := hide hk1
      clear hk1
      cases hr : (rd1 bs).2.2 with
      | false =>
        have HR := hide ((unhide HE).fail hr)
        clear hr
        have HK2 := hide ((((unhide HE).kp.trans0 (unhide HK1)).alloc (.cells #[.int .i64 (rd1 bs).1.a, .bool (rd1 bs).1.t, .string (rd1 bs).1.s] 40)))
        generalize (rd1 bs).1 = v at *
        generalize (rd1 bs).2.1 = sz at *
        go_wp2_with fail
        go_ret2
        exact rpsEnd_none (unhide HR) (unhide HK2)
      | true =>
        have hle := rd1_le hr
        obtain ⟨ab', hsl, hb'⟩ := part_l (unhide HE).byt (rd1 bs).2.1 cb nb (unhide HE).len hle (by have := (unhide HE).len; have := (unhide HE).cap; omega) (rd1 bs).2.1 rfl
        obtain ⟨v, hv⟩ : ∃ v, (rd1 bs).1 = v := ⟨_, rfl⟩
        obtain ⟨sz, hz⟩ : ∃ sz, (rd1 bs).2.1 = sz := ⟨_, rfl⟩
        rw [hv, hz]
        rw [hz] at hsl hb'
        have HR := hide hr
        have HV := hide hv
        have HZ := hide hz
        have HB := hide hb'
        clear hr hv hz hb' hle
        have hwl := ((unhide HE).kp.trans0 (unhide HK1)).size
        have hOW := hide (own_kp0 (unhide HE).own (((unhide HK1).alloc (.cells #[.int .i64 v.a, .bool v.t, .string v.s] 40)).alloc (.cells #[.int .i64 v.a, .bool v.t, .string v.s] 40)))
        go_wp2_with (at_builtin; refine wpList_append_lies _ rfl _ _ 22 rfl w.heap.size 40 i0 _ 3 32 Try.underlying22 hi0 hz0 hz1 hz2 rfl (by omega) (.slice a acc.length cap) acc.length (vcells acc) rfl (unhide hOW) ⟨w1.heap.size + 1, 0, none⟩ 1 1 [.int .i64 v.a, .bool v.t, .string v.s] (by rfl) (by rfl) (World.news_of_block (cs := #[.int .i64 v.a, .bool v.t, .string v.s]) (t := 40) (fr := (0, 0)) (by have := heap_alloc_new (w1.alloc (.cells #[.int .i64 v.a, .bool v.t, .string v.s] 40)) (.cells #[.int .i64 v.a, .bool v.t, .string v.s] 40); simpa using this)) (by simp [Value.oneCell']) (by omega) (by unfold maxLen; omega) (by omega) (by simp; omega) _ rfl ?_; intro g2 cap2 w2 hown hgrow hat hlt2; have HE2 := hide ((unhide HE).next (unhide HR) (unhide HV) (unhide HZ) (((unhide HK1).alloc _).alloc _) hown hgrow (unhide HB)); clear hown hgrow hat)
        exact ⟨⟨k + 1, _, _, _, _, _, _, _, by omega, by simp; omega, rfl, by simp, by go_num, HE2⟩, by simp [intOf]; omega⟩
    · have e : k = m := by omega
      subst e
      rw [Nat.sub_self] at HE
      go_wp2_with fail
      go_ret2
      exact (unhide HE).last _ (beq0 nb)
end Go.Proofs.Ytfcfoabdangfhab
