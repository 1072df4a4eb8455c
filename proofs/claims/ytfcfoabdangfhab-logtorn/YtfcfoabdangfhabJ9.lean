/- A log and a roll beside each other; steps of a log; greatLog, by its contract. -/
import Derived.Test.YtfcfoabdangfhabJ8
import Derived.Test.YtfcfoabdangfhabE3
namespace Go.Proofs.Ytfcfoabdangfhab
open Go.RowKit
set_option maxRecDepth 20000
attribute [local go_sem ↓] Go.wp_at_zero Go.wp_at_succ

/-- A log and a roll that share no memory, both made since w0, all that was there as it was. -/
def Duo (w0 wr : World) (gb rb : Nat) (cs : List (List Ver)) (tg : List UInt8) (ds : List (List Ver)) (td : List UInt8) : Prop :=
  ∃ F G, Lg w0.heap.size wr gb F cs tg ∧ Rl w0.heap.size wr rb G ds td ∧ (∀ x, x ∈ F → x ∉ G) ∧ Kp [] w0 wr

section
variable {w0 wr w' : World} {gb rb : Nat} {cs ds : List (List Ver)} {tg td : List UInt8}
theorem Duo.kp (h : Duo w0 wr gb rb cs tg ds td) : Kp [] w0 wr := by
  obtain ⟨_, _, _, _, _, h⟩ := h
  exact h
theorem Duo.kp0 (h : Duo w0 wr gb rb cs tg ds td) (hk : Kp [] wr w') : Duo w0 w' gb rb cs tg ds td := by
  obtain ⟨F, G, h1, h2, h3, h4⟩ := h
  exact ⟨F, G, h1.kp0 hk, h2.kp0 hk, h3, h4.trans0 hk⟩
theorem Duo.inv (h : Duo w0 wr gb rb cs tg ds td) : LInv cs := by
  obtain ⟨_, _, h, _⟩ := h
  exact h.inv
theorem Duo.rinv (h : Duo w0 wr gb rb cs tg ds td) : LInv ds := by
  obtain ⟨_, _, _, h, _⟩ := h
  exact h.inv
theorem duo_start {w1 w2 : World} {F G : List Nat} (h1 : Lg w0.heap.size w1 gb F cs tg) (k1 : Kp [] w0 w1) (h2 : Rl w1.heap.size w2 rb G ds td) (k2 : Kp [] w1 w2) : Duo w0 w2 gb rb cs tg ds td := by
  refine ⟨F, G, h1.kp0 k2, h2.base k1.size, fun x hx hg => ?_, k1.trans0 k2⟩
  have := (h1.lo x hx).2
  have := (h2.lo x hg).1
  omega
theorem duo_log {F G : List Nat} {cs' : List (List Ver)} {tg' : List UInt8} (h1 : Lg w0.heap.size wr gb F cs tg) (h2 : Rl w0.heap.size wr rb G ds td) (h3 : ∀ x, x ∈ F → x ∉ G) (h4 : Kp [] w0 wr) (k : LgTo w0.heap.size wr gb F cs' tg' w') : Duo w0 w' gb rb cs' tg' ds td := by
  obtain ⟨F', k1, k2, k3⟩ := k
  refine ⟨F', G, k1, h2.kp k2 (fun x hx hf => h3 x hf hx), fun x hx hg => ?_, h4.trans k2 (fun x hx => .inr (h1.lo x hx).1)⟩
  rcases k3 x hx with e | e
  · exact h3 x e hg
  · have := (h2.lo x hg).2; omega
theorem duo_roll {F G : List Nat} {ds' : List (List Ver)} {td' : List UInt8} (h1 : Lg w0.heap.size wr gb F cs tg) (h2 : Rl w0.heap.size wr rb G ds td) (h3 : ∀ x, x ∈ F → x ∉ G) (h4 : Kp [] w0 wr) (k : RlTo w0.heap.size wr rb G ds' td' w') : Duo w0 w' gb rb cs tg ds' td' := by
  obtain ⟨G', k1, k2, k3⟩ := k
  refine ⟨F, G', h1.kp k2 h3, k1, fun x hx hg => ?_, h4.trans k2 (fun x hx => .inr (h2.lo x hx).1)⟩
  rcases k3 x hg with e | e
  · exact h3 x hx e
  · have := (h1.lo x hx).2; omega

theorem duo_put (a : Option Addr) (c : Nat) (ps : List Ver) (h : Duo w0 wr gb rb cs [] ds td) (hp : Prs w0 a ps) (hm : ps.length ≤ 1000) :
    Calls Try.prog 31 #[.pointer (some ⟨gb, 0, none⟩), .slice a ps.length c] wr fun e w' => e = .returned (.int .i64 (lcode cs ps)) ∧ Hid (Duo w0 w' gb rb (lput cs ps) [] ds td) := by
  obtain ⟨F, G, h1, h2, h3, h4⟩ := h
  refine (lput31 a c ps wr h1 (hp.kp0 h4) hm).mono ?_
  rintro e w' ⟨rfl, k⟩
  exact ⟨rfl, duo_log h1 h2 h3 h4 k⟩
theorem duo_rput (a : Option Addr) (c : Nat) (ps : List Ver) (h : Duo w0 wr gb rb cs tg ds []) (hp : Prs w0 a ps) (hm : ps.length ≤ 1000) :
    Calls Try.prog 42 #[.pointer (some ⟨rb, 0, none⟩), .slice a ps.length c] wr fun e w' => e = .returned (.int .i64 (lcode ds ps)) ∧ Hid (Duo w0 w' gb rb cs tg (lput ds ps) []) := by
  obtain ⟨F, G, h1, h2, h3, h4⟩ := h
  refine (rput42 a c ps wr h2 (hp.kp0 h4) hm).mono ?_
  rintro e w' ⟨rfl, k⟩
  exact ⟨rfl, duo_roll h1 h2 h3 h4 k⟩
theorem duo_tear (a : Option Addr) (c : Nat) (ps : List Ver) (keep : Int) (h : Duo w0 wr gb rb cs [] ds td) (hp : Prs w0 a ps) (hm : ps.length ≤ 1000) :
    Calls Try.prog 30 #[.pointer (some ⟨gb, 0, none⟩), .slice a ps.length c, .int .i64 keep] wr fun e w' => e = .returned (.int .i64 (lcode cs ps)) ∧ Hid (Duo w0 w' gb rb (ltear cs ps keep) (ltorn cs ps keep) ds td) := by
  obtain ⟨F, G, h1, h2, h3, h4⟩ := h
  refine (ltear30 a c ps keep wr h1 (hp.kp0 h4) hm).mono ?_
  rintro e w' ⟨rfl, k⟩
  exact ⟨rfl, duo_log h1 h2 h3 h4 k⟩
theorem duo_rtear (a : Option Addr) (c : Nat) (ps : List Ver) (keep : Int) (h : Duo w0 wr gb rb cs tg ds []) (hp : Prs w0 a ps) (hm : ps.length ≤ 1000) :
    Calls Try.prog 43 #[.pointer (some ⟨rb, 0, none⟩), .slice a ps.length c, .int .i64 keep] wr fun e w' => e = .returned (.int .i64 (lcode ds ps)) ∧ Hid (Duo w0 w' gb rb cs tg (ltear ds ps keep) (ltorn ds ps keep)) := by
  obtain ⟨F, G, h1, h2, h3, h4⟩ := h
  have hG : ∀ x, x ∈ G → w0.heap.size ≤ x := fun x hx => (h2.lo x hx).1
  refine (rtear43 a c ps keep wr h2 (hp.kp0 h4) (hp.far hG) hm).mono ?_
  rintro e w' ⟨rfl, k⟩
  exact ⟨rfl, duo_roll h1 h2 h3 h4 k⟩
theorem duo_len (h : Duo w0 wr gb rb cs tg ds td) : Calls Try.prog 22 #[.pointer (some ⟨gb, 0, none⟩)] wr fun e w' => e = .returned (.int .i64 cs.length) ∧ w' = wr := by
  obtain ⟨F, G, h1, h2, h3, h4⟩ := h
  exact llen wr h1
theorem duo_bytes (h : Duo w0 wr gb rb cs tg ds td) : Calls Try.prog 23 #[.pointer (some ⟨gb, 0, none⟩)] wr fun e w' => BtEnd (lb cs ++ tg) wr e w' := by
  obtain ⟨F, G, h1, h2, h3, h4⟩ := h
  exact lbytes wr h1
theorem duo_rbytes (h : Duo w0 wr gb rb cs tg ds td) : Calls Try.prog 24 #[.pointer (some ⟨rb, 0, none⟩)] wr fun e w' => BtEnd (lb ds ++ td) wr e w' := by
  obtain ⟨F, G, h1, h2, h3, h4⟩ := h
  exact rbytes24 wr h2
theorem duo_mend (h : Duo w0 wr gb rb cs tg ds td) : Calls Try.prog 32 #[.pointer (some ⟨gb, 0, none⟩)] wr fun e w' => e = .returned (.int .i64 tg.length) ∧ Hid (Duo w0 w' gb rb cs [] ds td) := by
  obtain ⟨F, G, h1, h2, h3, h4⟩ := h
  refine (lmend wr h1).mono ?_
  rintro e w' ⟨rfl, k1, k2⟩
  exact ⟨rfl, duo_log h1 h2 h3 h4 ⟨F, k1, k2, fun x hx => .inl hx⟩⟩
theorem duo_rmend (h : Duo w0 wr gb rb cs tg ds td) : Calls Try.prog 44 #[.pointer (some ⟨rb, 0, none⟩)] wr fun e w' => e = .returned (.int .i64 td.length) ∧ Hid (Duo w0 w' gb rb cs tg ds []) := by
  obtain ⟨F, G, h1, h2, h3, h4⟩ := h
  refine (rmend44 wr h2).mono ?_
  rintro e w' ⟨rfl, k1, k2⟩
  exact ⟨rfl, duo_roll h1 h2 h3 h4 ⟨G, k1, k2, fun x hx => .inl hx⟩⟩
theorem Duo.cell (h : Duo w0 wr gb rb cs tg ds td) : ∃ aL capL, wr.cell? ⟨rb, 0, none⟩ = some (.slice aL ds.length capL) ∧ rb < wr.heap.size ∧ w0.heap.size ≤ rb := by
  obtain ⟨F, G, h1, ⟨aL, capL, xs, aT, cT, hL, e⟩, h3, h4⟩ := h
  refine ⟨aL, capL, ?_, (hL.lo rb hL.rG).2, (hL.lo rb hL.rG).1⟩
  rw [e, cps_length]
  exact hL.c0
end

def GlEnd (n : Nat) (st : Nat → TStep) (w : World) (e : Ending) (w' : World) : Prop := ∃ q : Bool, e = .returned (.bool q) ∧ (q = false → n ≤ 80 ∧ ∀ i, i < n → (st i).ps.length ≤ 50) ∧ w' = w
theorem glEnd_mk {n : Nat} {st : Nat → TStep} {w : World} (q : Bool) (h : q = false → n ≤ 80 ∧ ∀ i, i < n → (st i).ps.length ≤ 50) : GlEnd n st w (.returned (.bool q)) w := ⟨q, rfl, h, rfl⟩

set_option maxHeartbeats 400000 in
theorem glog20 (a : Option Addr) (n c : Nat) (st : Nat → TStep) (w : World) (h : TSts w a n st) :
    Calls Try.prog 20 #[.slice a n c] w fun e w' => GlEnd n st w e w' := by
  obtain ⟨hm, h⟩ := h
  unfold maxLen at hm
  have HP := hide h
  clear h
  go_enter Try.func20, Try.ntmps20
  go_wp2_with fail
  go_loop [3] (fun i => ∃ k : Nat, k ≤ n ∧ k ≤ 100 ∧ i = .int .i64 k ∧ Hid (∀ i, i < k → (st i).ps.length ≤ 50)) (fun i => n - (intOf i).toNat)
  case atStart => exact ⟨0, Nat.zero_le _, by omega, rfl, fun i hi => by omega⟩
  case round =>
    obtain ⟨k, hk, hk2, rfl, HL⟩ := hrel
    by_cases hlt : k < n
    · by_cases hlt2 : k < 100
      · obtain ⟨b, o, rfl, hs⟩ := (unhide HP) (by omega)
        obtain ⟨_, _, q2, hpr⟩ := hs k hlt
        have q2' : w.cell? ⟨b, o + k * 3 + 1 + 1, none⟩ = some (.slice (st k).a (st k).ps.length (st k).c) := q2
        have HR := hide hpr
        have i0 : (0 : Int) ≤ (k : Int) := by omega
        have i1 : (k : Int) < (n : Int) := by omega
        clear hs hpr
        go_wp2_with fail
        refine (gpairs30 (st k).a (st k).c (st k).ps w (unhide HR)).mono ?_
        rintro e w' ⟨q, rfl, hq, hw'⟩
        subst w'
        cases q with
        | true =>
          clear hq
          go_wp2_with fail
          go_ret
          exact glEnd_mk _ (fun h => by simp at h)
        | false =>
          have hq' := hq rfl
          clear hq
          go_wp2_with fail
          refine ⟨⟨k + 1, by omega, by omega, by go_num, fun i hi => ?_⟩, by simp [intOf]; omega⟩
          rcases Nat.lt_or_ge i k with e | e
          · exact unhide HL i e
          · have : i = k := by omega
            rw [this]; exact hq'
      · go_wp2
        go_ret
        exact glEnd_mk _ (fun h => by simp at h; omega)
    · have e : k = n := by omega
      go_wp2
      go_ret
      refine glEnd_mk _ (fun h => ⟨by simp at h; omega, ?_⟩)
      rw [← e]; exact unhide HL
end Go.Proofs.Ytfcfoabdangfhab
