/- Plain words for commits as bytes: what Encode and Decode tell of them; no statement of the program yet. -/
import Derived.Test.YtfcfoabdangfhabP0
namespace Go.Proofs.Ytfcfoabdangfhab
open Go.RowKit
set_option maxRecDepth 20000

/-- byte(n). -/
def b8 (n : Int) : UInt8 := UInt8.ofNat (n % 256).toNat
theorem b8_toNat (n : Int) : ((b8 n).toNat : Int) = n % 256 := by
  have h : (n % 256).toNat < 256 := by omega
  simp only [b8, UInt8.toNat_ofNat']
  omega
theorem b8_nat {n : Nat} (h : n < 256) : (b8 n).toNat = n := by
  have := b8_toNat n
  omega
theorem b8_back (u : UInt8) : b8 u.toNat = u := by
  apply UInt8.toNat_inj.1
  exact b8_nat u.toNat_lt

/-- The bytes of a pair, of pairs, of a commit. -/
def pb (p : Ver) : List UInt8 := b8 p.a :: (if p.t = true then b8 p.s.size :: p.s.data.toList else [255])
def pbs : List Ver → List UInt8
  | [] => []
  | p :: r => pb p ++ pbs r
def enc (ps : List Ver) : List UInt8 := b8 ((pbs ps).length + 2 : Nat) :: b8 ps.length :: pbs ps

theorem pbs_append (xs ys : List Ver) : pbs (xs ++ ys) = pbs xs ++ pbs ys := by
  induction xs with
  | nil => rfl
  | cons p r ih => simp only [List.cons_append, pbs, ih, List.append_assoc]

/-- That many pairs, if the bytes are just these. -/
def rp : Nat → List UInt8 → Option (List Ver)
  | 0, b => if b = [] then some [] else none
  | n + 1, k :: l :: r =>
    if l = 255 then (rp n r).map (⟨k.toNat, false, ByteArray.empty⟩ :: ·)
    else if r.length < l.toNat then none
    else (rp n (r.drop l.toNat)).map (⟨k.toNat, true, ⟨(r.take l.toNat).toArray⟩⟩ :: ·)
  | _ + 1, _ => none

/-- What Decode tells: the pairs, how many bytes, the code. -/
def dec (b : List UInt8) : List Ver × Nat × Int :=
  if b.length = 0 ∨ b.length < (b.getD 0 0).toNat then ([], 0, 6)
  else if (b.getD 0 0).toNat < 2 then ([], 0, 4)
  else match rp (b.getD 1 0).toNat ((b.take (b.getD 0 0).toNat).drop 2) with
    | none => ([], 0, 4)
    | some ws => if pf (-1) ws = 0 then (ws, (b.getD 0 0).toNat, 0) else ([], 0, pf (-1) ws)

theorem chk_zero {t : Bool} {s : ByteArray} (h : chk t s = 0) : s.size ≤ 12 ∧ (t = false → s = ByteArray.empty) := by
  unfold chk at h
  split at h
  · simp at h
  · split at h
    · simp at h
    · rename_i h1 h2
      refine ⟨by omega, fun ht => ?_⟩
      have hs : s.size = 0 := by
        rcases Nat.eq_zero_or_pos s.size with h3 | h3
        · exact h3
        · exact absurd ⟨ht, h3⟩ h2
      exact ByteArray.size_eq_zero_iff.1 hs

/-- What is so of pairs that may be. -/
theorem pf_cons {a : Int} {p : Ver} {r : List Ver} (h : pf a (p :: r) = 0) : 0 ≤ p.a ∧ p.a < 8 ∧ a < p.a ∧ chk p.t p.s = 0 ∧ pf p.a r = 0 := by
  unfold pf at h
  split at h
  · simp at h
  · rename_i h1
    split at h
    · simp at h
    · split at h
      · simp [keyB] at h1
        refine ⟨by omega, by omega, by omega, by assumption, h⟩
      · rename_i h2; exact absurd h h2

theorem pf_len {a : Int} {ps : List Ver} (h : pf a ps = 0) (ha : -1 ≤ a) : (ps.length : Int) ≤ if a < 7 then 7 - a else 0 := by
  induction ps generalizing a with
  | nil => simp; split <;> omega
  | cons p r ih =>
    obtain ⟨h1, h2, h3, _, h5⟩ := pf_cons h
    have := ih h5 (by omega)
    simp only [List.length_cons]
    split at this <;> (split <;> omega)
theorem pf_len8 {ps : List Ver} (h : pf (-1) ps = 0) : ps.length ≤ 8 := by
  have := pf_len h (by omega)
  simp at this
  omega

theorem bytes_size (s : ByteArray) : s.data.toList.length = s.size := by simp

theorem pb_len {p : Ver} (h : chk p.t p.s = 0) : (pb p).length = 2 + p.s.size := by
  obtain ⟨h1, h2⟩ := chk_zero h
  unfold pb
  split
  · simp; omega
  · rename_i ht
    rw [h2 (by simpa using ht)]
    rfl

theorem pbs_len {a : Int} {ps : List Ver} (h : pf a ps = 0) : (pbs ps).length ≤ 14 * ps.length := by
  induction ps generalizing a with
  | nil => simp [pbs]
  | cons p r ih =>
    obtain ⟨h1, h2, h3, h4, h5⟩ := pf_cons h
    have := ih h5
    have := pb_len h4
    have := (chk_zero h4).1
    simp only [pbs, List.length_append, List.length_cons]
    omega
theorem pbs_len112 {ps : List Ver} (h : pf (-1) ps = 0) : (pbs ps).length ≤ 112 := by
  have := pbs_len h
  have := pf_len8 h
  omega
theorem enc_length (ps : List Ver) : (enc ps).length = (pbs ps).length + 2 := by simp [enc]

/-- How many bytes pairs have in all. -/
def vsum : List Ver → Nat
  | [] => 0
  | p :: r => 2 + p.s.size + vsum r
theorem pbs_vsum {a : Int} {ps : List Ver} (h : pf a ps = 0) : (pbs ps).length = vsum ps := by
  induction ps generalizing a with
  | nil => rfl
  | cons p r ih =>
    obtain ⟨h1, h2, h3, h4, h5⟩ := pf_cons h
    have := ih h5
    have := pb_len h4
    simp only [pbs, List.length_append, vsum]
    omega

/-- There and back, of pairs. -/
theorem rp_pbs {a : Int} {ps : List Ver} (h : pf a ps = 0) : rp ps.length (pbs ps) = some ps := by
  induction ps generalizing a with
  | nil => rfl
  | cons p r ih =>
    obtain ⟨h1, h2, h3, h4, h5⟩ := pf_cons h
    obtain ⟨h6, h7⟩ := chk_zero h4
    have ih := ih h5
    obtain ⟨pa, pt, ps⟩ := p
    simp only at h1 h2 h3 h4 h6 h7
    have ek : ((b8 pa).toNat : Int) = pa := by rw [b8_toNat]; omega
    cases pt with
    | false =>
      have e := h7 rfl
      subst e
      simp [pbs, pb, rp, ih, ek]
    | true =>
      have el : (b8 ps.size).toNat = ps.size := b8_nat (by omega)
      have e1 : ¬ (b8 (ps.size : Int) = 255) := fun e => by
        rw [e] at el
        have : (255 : UInt8).toNat = 255 := rfl
        omega
      have hl : ps.data.toList.length = ps.size := bytes_size ps
      simp only [pbs, pb, if_true, List.cons_append, rp, List.length_cons, if_neg e1, el]
      rw [if_neg (by rw [List.length_append, hl]; omega)]
      have e2 : (ps.data.toList ++ pbs r).drop ps.size = pbs r := by rw [← hl]; exact List.drop_left
      have e3 : (ps.data.toList ++ pbs r).take ps.size = ps.data.toList := by rw [← hl]; exact List.take_left
      rw [e2, e3, ih, ek]
      simp

/-- Back and there. -/
theorem rp_back {n : Nat} {b : List UInt8} {ws : List Ver} (h : rp n b = some ws) : ws.length = n ∧ pbs ws = b ∧ ∀ p ∈ ws, p.s.size ≤ 255 := by
  induction n generalizing b ws with
  | zero =>
    unfold rp at h
    split at h
    · simp only [Option.some.injEq] at h; subst h; subst b; simp [pbs]
    · simp at h
  | succ n ih =>
    match b with
    | [] => simp [rp] at h
    | [_] => simp [rp] at h
    | k :: l :: r =>
      unfold rp at h
      split at h
      · rename_i hl
        simp only [Option.map_eq_some_iff] at h
        obtain ⟨us, hu, rfl⟩ := h
        obtain ⟨h1, h2, h3⟩ := ih hu
        refine ⟨by simp [h1], by simp [pbs, pb, h2, b8_back, hl], ?_⟩
        intro p hp
        rcases List.mem_cons.1 hp with e | e
        · subst e; simp
        · exact h3 p e
      · rename_i hl
        split at h
        · simp at h
        · rename_i hr
          simp only [Option.map_eq_some_iff] at h
          obtain ⟨us, hu, rfl⟩ := h
          obtain ⟨h1, h2, h3⟩ := ih hu
          have hsz : (⟨(r.take l.toNat).toArray⟩ : ByteArray).size = l.toNat := by simp [ByteArray.size]; omega
          refine ⟨by simp [h1], ?_, ?_⟩
          · simp only [pbs, pb, if_true, h2, b8_back, hsz]
            simp [List.take_append_drop]
          · intro p hp
            rcases List.mem_cons.1 hp with e | e
            · subst e
              have := l.toNat_lt
              simp only [hsz]; omega
            · exact h3 p e

theorem dec_enc {ps : List Ver} (b : List UInt8) (h : pf (-1) ps = 0) : dec (enc ps ++ b) = (ps, (enc ps).length, 0) := by
  have h1 := pbs_len112 h
  have h2 := pf_len8 h
  have e0 : ((enc ps ++ b).getD 0 0).toNat = (pbs ps).length + 2 := b8_nat (by omega)
  have e1 : ((enc ps ++ b).getD 1 0).toNat = ps.length := b8_nat (by omega)
  have hl := enc_length ps
  unfold dec
  rw [e0, e1, if_neg (by simp [hl]), if_neg (by omega)]
  have e2 : ((enc ps ++ b).take ((pbs ps).length + 2)).drop 2 = pbs ps := by
    rw [← hl, List.take_left]; rfl
  rw [e2, rp_pbs h]
  simp only [if_pos h, hl]

/-- What Decode tells without a code: the bytes begin with those of it. -/
theorem dec_ok {b : List UInt8} (h : (dec b).2.2 = 0) : pf (-1) (dec b).1 = 0 ∧ (dec b).2.1 ≤ b.length ∧ b.take (dec b).2.1 = enc (dec b).1 ∧ (dec b).2.1 = (enc (dec b).1).length := by
  unfold dec at h ⊢
  split at h
  · simp at h
  · rename_i h0
    rw [if_neg h0]
    split at h
    · simp at h
    · rename_i h1
      rw [if_neg h1]
      generalize hr : rp (b.getD 1 0).toNat ((b.take (b.getD 0 0).toNat).drop 2) = r at h ⊢
      match r, hr with
      | none, _ => simp at h
      | some ws, hr =>
        simp only at h ⊢
        split at h
        · rename_i hp
          simp only [if_pos hp]
          obtain ⟨q1, q2, _⟩ := rp_back hr
          have hlen : (b.take (b.getD 0 0).toNat).length = (b.getD 0 0).toNat := by simp only [List.length_take]; omega
          have e : b.take (b.getD 0 0).toNat = enc ws := by
            match b, h0, h1, q1, q2, hlen with
            | [], h0, _, _, _, _ => simp at h0
            | [x], h0, h1, _, _, _ => simp at h0 h1; omega
            | x :: y :: r, h0, h1, q1, q2, hlen =>
              simp only [List.getD_cons_zero, List.getD_cons_succ] at h0 h1 q1 q2 hlen ⊢
              have e2 : x.toNat = (x.toNat - 2) + 1 + 1 := by omega
              rw [e2] at q2 hlen ⊢
              simp only [List.take_succ_cons, List.drop_succ_cons, List.drop_zero, List.length_cons] at q2 hlen ⊢
              unfold enc
              rw [q2, q1, b8_back]
              congr 1
              have e3 : (r.take (x.toNat - 2)).length + 2 = x.toNat := by omega
              rw [e3, b8_back]
          exact ⟨hp, by omega, e, by rw [← e, hlen]⟩
        · rename_i hp; exact absurd h hp

theorem dec_bad {b : List UInt8} (h : (dec b).2.2 ≠ 0) : (dec b).1 = [] ∧ (dec b).2.1 = 0 := by
  unfold dec at h ⊢
  split
  · exact ⟨rfl, rfl⟩
  · split
    · exact ⟨rfl, rfl⟩
    · split
      · exact ⟨rfl, rfl⟩
      · split
        · rename_i h0 h1 _ ws hr hp
          rw [if_neg h0, if_neg h1, hr] at h
          simp [if_pos hp] at h
        · exact ⟨rfl, rfl⟩

theorem dec_len {b : List UInt8} : (dec b).1.length ≤ 8 := by
  by_cases h : (dec b).2.2 = 0
  · exact pf_len8 (dec_ok h).1
  · rw [(dec_bad h).1]; simp
theorem dec_str {b : List UInt8} : ∀ p ∈ (dec b).1, p.s.size ≤ 255 := by
  intro p hp
  unfold dec at hp
  split at hp
  · simp at hp
  · split at hp
    · simp at hp
    · split at hp
      · simp at hp
      · rename_i ws hr
        split at hp
        · exact (rp_back hr).2.2 p hp
        · simp at hp

/-- Cut, it is none. -/
theorem dec_cut {ps : List Ver} {k : Nat} (h : pf (-1) ps = 0) (hk : k < (enc ps).length) : dec ((enc ps).take k) = ([], 0, 6) := by
  have h1 := pbs_len112 h
  have hl := enc_length ps
  unfold dec
  rw [if_pos]
  by_cases hz : k = 0
  · left; simp [hz]
  · right
    have e0 : (((enc ps).take k).getD 0 0) = b8 ((pbs ps).length + 2 : Nat) := by
      obtain ⟨j, rfl⟩ := Nat.exists_eq_succ_of_ne_zero hz
      rfl
    rw [e0, b8_nat (by omega)]
    simp only [List.length_take]
    omega

theorem enc_inj {ps qs : List Ver} (h : pf (-1) ps = 0) (h' : pf (-1) qs = 0) (e : enc ps = enc qs) : ps = qs := by
  have e1 := dec_enc [] h
  have e2 := dec_enc [] h'
  rw [e] at e1
  rw [e1] at e2
  exact (Prod.mk.inj e2).1

end Go.Proofs.Ytfcfoabdangfhab
