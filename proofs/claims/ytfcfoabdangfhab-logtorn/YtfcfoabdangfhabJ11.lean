/- logBegun answers true. -/
import Derived.Test.YtfcfoabdangfhabJ3
import Derived.Test.YtfcfoabdangfhabJ6
namespace Go.Proofs.Ytfcfoabdangfhab
open Go.RowKit
set_option maxRecDepth 20000
attribute [local go_sem ↓] Go.wp_at_zero Go.wp_at_succ

theorem dcs_all {cs : List (List Ver)} (h : LInv cs) : dcs 40 (lb cs) = cs := by
  have := dcs_take h.pf 40 (lb cs).length h.n40
  rw [List.take_length] at this
  generalize dcs 40 (lb cs) = D at *
  obtain ⟨h1, h2, h3, h4⟩ := this
  rcases Nat.lt_or_ge D.length cs.length with e | e
  · exfalso
    have h5 := h4 e
    have h6 := lb_take_succ e
    have h7 := lb_take_le cs (D.length + 1)
    rw [h6, ← h1, List.length_append] at h7
    omega
  · rw [List.take_of_length_le e] at h1
    exact h1

/-- A log that was made since w0, all that was there as it was. -/
def One (w0 w : World) (gb : Nat) (cs : List (List Ver)) (torn : List UInt8) : Prop := ∃ F, Lg w0.heap.size w gb F cs torn ∧ Kp [] w0 w
section
variable {w0 w w' : World} {gb : Nat} {cs : List (List Ver)} {torn : List UInt8}
theorem One.kp (h : One w0 w gb cs torn) : Kp [] w0 w := by
  obtain ⟨_, _, h⟩ := h
  exact h
theorem One.kp0 (h : One w0 w gb cs torn) (hk : Kp [] w w') : One w0 w' gb cs torn := by
  obtain ⟨F, h1, h2⟩ := h
  exact ⟨F, h1.kp0 hk, h2.trans0 hk⟩
theorem one_to {F : List Nat} {cs' : List (List Ver)} {torn' : List UInt8} (h1 : Lg w0.heap.size w gb F cs torn) (h2 : Kp [] w0 w) (k : LgTo w0.heap.size w gb F cs' torn' w') : One w0 w' gb cs' torn' := by
  obtain ⟨F', k1, k2, k3⟩ := k
  exact ⟨F', k1, h2.trans k2 (fun x hx => .inr (h1.lo x hx).1)⟩
theorem one_new (w : World) : Calls Try.prog 41 #[] w fun e w' => ∃ gb, e = .returned (.pointer (some ⟨gb, 0, none⟩)) ∧ Hid (One w w' gb [] []) := by
  refine (lnew w).mono ?_
  rintro e w' ⟨rfl, h1, h2⟩
  exact ⟨_, rfl, _, h1, h2⟩
theorem one_put (a : Option Addr) (c : Nat) (ps : List Ver) (h : One w0 w gb cs []) (hp : Prs w a ps) (hm : ps.length ≤ 1000) :
    Calls Try.prog 31 #[.pointer (some ⟨gb, 0, none⟩), .slice a ps.length c] w fun e w' => e = .returned (.int .i64 (lcode cs ps)) ∧ Hid (One w0 w' gb (lput cs ps) []) := by
  obtain ⟨F, h1, h2⟩ := h
  refine (lput31 a c ps w h1 hp hm).mono ?_
  rintro e w' ⟨rfl, k⟩
  exact ⟨rfl, one_to h1 h2 k⟩
theorem one_tear (a : Option Addr) (c : Nat) (ps : List Ver) (keep : Int) (h : One w0 w gb cs []) (hp : Prs w a ps) (hm : ps.length ≤ 1000) :
    Calls Try.prog 30 #[.pointer (some ⟨gb, 0, none⟩), .slice a ps.length c, .int .i64 keep] w fun e w' => e = .returned (.int .i64 (lcode cs ps)) ∧ Hid (One w0 w' gb (ltear cs ps keep) (ltorn cs ps keep)) := by
  obtain ⟨F, h1, h2⟩ := h
  refine (ltear30 a c ps keep w h1 hp hm).mono ?_
  rintro e w' ⟨rfl, k⟩
  exact ⟨rfl, one_to h1 h2 k⟩
theorem one_len (h : One w0 w gb cs torn) : Calls Try.prog 22 #[.pointer (some ⟨gb, 0, none⟩)] w fun e w' => e = .returned (.int .i64 cs.length) ∧ w' = w := by
  obtain ⟨F, h1, h2⟩ := h
  exact llen w h1
theorem one_bytes (h : One w0 w gb cs torn) : Calls Try.prog 23 #[.pointer (some ⟨gb, 0, none⟩)] w fun e w' => BtEnd (lb cs ++ torn) w e w' := by
  obtain ⟨F, h1, h2⟩ := h
  exact lbytes w h1
theorem one_mend (h : One w0 w gb cs torn) : Calls Try.prog 32 #[.pointer (some ⟨gb, 0, none⟩)] w fun e w' => e = .returned (.int .i64 torn.length) ∧ Hid (One w0 w' gb cs []) := by
  obtain ⟨F, h1, h2⟩ := h
  refine (lmend w h1).mono ?_
  rintro e w' ⟨rfl, k1, k2⟩
  exact ⟨rfl, one_to h1 h2 ⟨F, k1, k2, fun x hx => .inl hx⟩⟩
end

theorem prs_1 (w : World) (k : Int) (t : Bool) (s : ByteArray) (hs : s.size ≤ 1000) (b : Nat) (hb : b = w.heap.size) : Prs (w.alloc (.cells #[.int .i64 k, .bool t, .string s] 40)) (some ⟨b, 0, none⟩) [⟨k, t, s⟩] := by
  subst hb
  have hb := heap_alloc_new w (.cells #[.int .i64 k, .bool t, .string s] 40)
  refine ⟨by simp [maxLen], fun j hj => ?_, fun _ => ⟨w.heap.size, 0, rfl, fun j u hu => ?_⟩⟩
  · have : j = 0 := by simp at hj; omega
    subst this; unfold maxLen; simp [vb]; omega
  · rw [Nat.zero_add, cell_of_row _ _ _ _ _ _ hb]
    show (vcells [⟨k, t, s⟩]).toArray[j]? = some u
    rw [List.getElem?_toArray]
    exact hu

def lg1 : List Ver := [⟨1, true, ⟨#[120]⟩⟩]
def lg2 : List Ver := [⟨2, false, ⟨#[]⟩⟩]
theorem lg_z1 : lcode [] lg1 = 0 := by decide
theorem lg_c1 : lcode [] lg1 = 0 ∧ lput [] lg1 = [lg1] := ⟨lg_z1, by unfold lput; rw [if_pos lg_z1]; rfl⟩
theorem lg_z2 : lcode [lg1] lg2 = 0 := by decide
theorem lg_k2 : ¬ ((enc lg2).length : Int) ≤ 3 := by decide
theorem lg_c2 : lcode [lg1] lg2 = 0 ∧ ltear [lg1] lg2 3 = [lg1] ∧ (ltorn [lg1] lg2 3).length = 3 := ⟨lg_z2, (ltear_cut lg_z2 lg_k2).1, by decide⟩
theorem lg_len : (lb [lg1]).length = 5 := by decide
theorem lg_inv : LInv [lg1] := ⟨by decide, by decide, by decide⟩

set_option maxHeartbeats 1000000 in
theorem lbegun19 (w : World) : Calls Try.prog 19 #[] w fun e w' => e = .returned (.bool true) ∧ Kp [] w w' := by
  go_enter Try.func19, Try.ntmps19
  go_wp2_with fail
  refine (one_new w).mono ?_
  rintro e w1 ⟨gb, rfl, H1⟩
  go_wp2_with fail
  refine (has24 _ w1).mono ?_
  rintro e w2 ⟨rfl, hk⟩
  have H2 := hide (((unhide H1).kp0 hk).kp0 ((Kp.refl [] w2).alloc (.cells #[.int .i64 1, .bool true, .string ⟨#[120]⟩] 40)))
  clear hk H1
  go_wp2_with fail
  have hc := one_put (some ⟨w2.heap.size, 0, none⟩) 1 lg1 (unhide H2) (prs_1 w2 1 true ⟨#[120]⟩ (by decide) _ rfl) (by decide)
  rw [lg_c1.1, lg_c1.2] at hc
  refine hc.mono ?_
  clear hc
  rintro e w3 ⟨rfl, H3⟩
  have H4 := hide ((unhide H3).kp0 ((Kp.refl [] w3).alloc (.cells #[.int .i64 2, .bool false, .string ⟨#[]⟩] 40)))
  clear H2 H3
  go_wp2_with fail
  have hc := one_tear (some ⟨w3.heap.size, 0, none⟩) 1 lg2 3 (unhide H4) (prs_1 w3 2 false ⟨#[]⟩ (by decide) _ rfl) (by decide)
  rw [lg_c2.1, lg_c2.2.1] at hc
  refine hc.mono ?_
  clear hc
  rintro e w5 ⟨rfl, H5⟩
  have hl3 := lg_c2.2.2
  generalize ltorn [lg1] lg2 3 = tt at *
  have HT := hide hl3
  clear H4 hl3
  go_wp2_with fail
  refine (one_len (unhide H5)).mono ?_
  rintro e w' ⟨rfl, hw'⟩
  subst w'
  go_wp2_with fail
  refine (one_bytes (unhide H5)).mono ?_
  rintro e w6 ⟨a6, n6, c6, rfl, hn6, hc6, hb6, hk6⟩
  have hn8 : n6 = 8 := by rw [hn6, List.length_append, lg_len, unhide HT]
  subst hn8
  have H6 := hide ((unhide H5).kp0 hk6)
  clear hn6 hc6 hb6 hk6 H5
  go_wp2_with fail
  refine (one_mend (unhide H6)).mono ?_
  rintro e w7 ⟨rfl, H7⟩
  rw [unhide HT]
  clear H6 HT
  go_wp2_with fail
  refine (one_bytes (unhide H7)).mono ?_
  rintro e w8 ⟨a8, n8, c8, rfl, hn8, hc8, hb8, hk8⟩
  rw [List.append_nil] at hn8 hb8
  have hn5 : n8 = 5 := by rw [hn8, lg_len]
  subst hn5
  have hd := ltable25 a8 5 c8 (lb [lg1]) w8 hb8 hn8 hc8 (by rw [lg_len]; omega)
  rw [dcs_all lg_inv] at hd
  have HK := hide ((unhide H7).kp.trans0 hk8)
  have HD := hide hd
  clear hd hn8 hc8 hb8 hk8 H7
  go_wp2_with fail
  refine (unhide HD).mono ?_
  rintro e w9 ⟨tb, F, p, rfl, hp, ht, hk9⟩
  rw [lg_len] at hp
  subst hp
  have HT := hide (tlast38 w9 ht)
  have HK9 := hide ((unhide HK).trans0 hk9)
  clear ht hk9 HD
  go_wp2_with fail
  refine (unhide HT).mono ?_
  rintro e w' ⟨rfl, hw'⟩
  subst w'
  go_wp2_with fail
  go_ret
  exact ⟨rfl, unhide HK9⟩
end Go.Proofs.Ytfcfoabdangfhab
