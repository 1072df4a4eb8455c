/- Pairs that are handed in; Check of a table and PairsFault, by their contracts. -/
import Derived.Test.YtfcfoabdangfhabP0
namespace Go.Proofs.Ytfcfoabdangfhab
open Go.RowKit
set_option maxRecDepth 20000
attribute [local go_sem ↓] Go.wp_at_zero Go.wp_at_succ

/-- The pairs (a: the key) lie behind the slice's address. -/
structure Prs (w : World) (a : Option Addr) (ps : List Ver) : Prop where
  len : ps.length ≤ maxLen
  str : ∀ k, k < ps.length → (vb ps k).size ≤ maxLen
  mem : 0 < ps.length → ∃ g o, a = some ⟨g, o, none⟩ ∧ SlA w g o ps

theorem Prs.kp {S : List Nat} {w w' : World} {a : Option Addr} {ps : List Ver} (h : Prs w a ps) (hk : Kp S w w') (hS : ∀ g o, a = some ⟨g, o, none⟩ → g ∉ S) : Prs w' a ps := by
  refine ⟨h.len, h.str, fun hp => ?_⟩
  obtain ⟨g, o, e, hs⟩ := h.mem hp
  exact ⟨g, o, e, hs.kp hk (hS g o e)⟩
theorem Prs.kp0 {w w' : World} {a : Option Addr} {ps : List Ver} (h : Prs w a ps) (hk : Kp [] w w') : Prs w' a ps := h.kp hk (fun _ _ _ => by simp)

def prev (ps : List Ver) (k : Nat) : Int := if k = 0 then -1 else va ps (k - 1)
theorem prev_succ (ps : List Ver) (k : Nat) : prev ps (k + 1) = va ps k := by simp [prev]

theorem ver_drop {ps : List Ver} {k : Nat} (h : k < ps.length) : ps.drop k = ⟨va ps k, vt ps k, vb ps k⟩ :: ps.drop (k + 1) := by
  have e : (⟨va ps k, vt ps k, vb ps k⟩ : Ver) = ps[k] := by simp [va, vt, vb, List.getD_eq_getElem?_getD, List.getElem?_eq_getElem h]
  rw [e]
  exact List.drop_eq_getElem_cons h

theorem pf_at {ps : List Ver} {k : Nat} (a : Int) (h : k < ps.length) : pf a (ps.drop k) =
    if keyB (va ps k) = false then 1 else if va ps k ≤ a then 5 else if chk (vt ps k) (vb ps k) = 0 then pf (va ps k) (ps.drop (k + 1)) else chk (vt ps k) (vb ps k) := by
  rw [ver_drop h]; rfl

theorem pf_end {ps : List Ver} {k : Nat} (a : Int) (h : ¬ k < ps.length) : pf a (ps.drop k) = 0 := by
  rw [List.drop_eq_nil_of_le (by omega)]; rfl

set_option maxHeartbeats 1000000 in
theorem tcheck36 (a : Option Addr) (c : Nat) (ps : List Ver) (w : World) (h : Prs w a ps) (hm : ps.length ≤ 1000) :
    Calls Try.prog 36 #[.slice a ps.length c] w fun e w' => e = .returned (.int .i64 (pf (-1) ps)) ∧ Kp [] w w' := by
  have HP := hide h
  clear h
  go_enter Try.func36, Try.ntmps36
  go_wp2_with fail
  go_loopw [3, 9] (fun x i wr => ∃ k : Nat, k ≤ ps.length ∧ x = .int .i64 (prev ps k) ∧ i = .int .i64 k ∧ Hid (pf (prev ps k) (ps.drop k) = pf (-1) ps) ∧ Hid (Kp [] w wr)) (fun _ i _ => ps.length - (intOf i).toNat)
  case atStart => exact ⟨0, by omega, rfl, rfl, rfl, Kp.refl _ _⟩
  case round =>
    obtain ⟨k, hk, rfl, rfl, HE, HK⟩ := hrel
    by_cases hlt : k < ps.length
    · obtain ⟨g, o, rfl, hs⟩ := (unhide HP).mem (by omega)
      have hs2 := hs.kp (unhide HK) (by simp)
      have q0 := hs2.at0 k hlt
      have q1 := hs2.at1 k hlt
      have q2 : _ = _ := hs2.at2 k hlt
      have hsz := (unhide HP).str k hlt
      have i0 : (0 : Int) ≤ (k : Int) := by omega
      have i1 : (k : Int) < (ps.length : Int) := by omega
      clear hs hs2
      have hpe := unhide HE
      rw [pf_at _ hlt] at hpe
      by_cases hK : keyB (va ps k) = true
      · by_cases ha : va ps k ≤ prev ps k
        · rw [if_neg (by simp [hK]), if_pos ha] at hpe
          have HPE := hide hpe
          have HHA := hide ha
          clear hpe HE ha
          go_wp2_with fail
          refine (key11 _ _).mono ?_
          rintro e w' ⟨rfl, rfl⟩
          rw [hK]
          clear hK
          have ha := unhide HHA
          go_wp2_with fail
          go_ret
          exact ⟨ret_int (unhide HPE), (unhide HK).alloc _⟩
        · by_cases hc : chk (vt ps k) (vb ps k) = 0
          · rw [if_neg (by simp [hK]), if_neg ha, if_pos hc] at hpe
            have HPE := hide hpe
            have HHA := hide ha
            have HCC := hide hc
            clear hpe HE ha hc
            go_wp2_with fail
            refine (key11 _ _).mono ?_
            rintro e w' ⟨rfl, rfl⟩
            rw [hK]
            clear hK
            have ha := unhide HHA
            go_wp2_with fail
            refine (check13 _ _ _ hsz).mono ?_
            rintro e w2 ⟨rfl, hk2⟩
            have p0 := hk2.cell (p := ⟨wr.heap.size, 0, none⟩) (v := .int .i64 (va ps k)) (by simp) (by simp)
            have HK2 := hide (((unhide HK).alloc _).trans0 hk2)
            rw [unhide HCC]
            clear hk2
            go_wp2_with fail
            exact ⟨⟨k + 1, by omega, by rw [prev_succ], by go_num, by rw [prev_succ]; exact unhide HPE, HK2⟩, by simp [intOf]; omega⟩
          · rw [if_neg (by simp [hK]), if_neg ha, if_neg hc] at hpe
            have HPE := hide hpe
            have HHA := hide ha
            clear hpe HE ha
            go_wp2_with fail
            refine (key11 _ _).mono ?_
            rintro e w' ⟨rfl, rfl⟩
            rw [hK]
            clear hK
            have ha := unhide HHA
            go_wp2_with fail
            refine (check13 _ _ _ hsz).mono ?_
            rintro e w2 ⟨rfl, hk2⟩
            have HK2 := hide (((unhide HK).alloc _).trans0 hk2)
            clear hk2
            generalize chk (vt ps k) (vb ps k) = q at *
            go_wp2_with fail
            go_ret
            exact ⟨ret_int (unhide HPE), unhide HK2⟩
      · have hK2 : keyB (va ps k) = false := by simpa using hK
        rw [if_pos hK2] at hpe
        have HPE := hide hpe
        clear hpe HE hK
        go_wp2_with fail
        refine (key11 _ _).mono ?_
        rintro e w' ⟨rfl, rfl⟩
        rw [hK2]
        clear hK2
        go_wp2_with fail
        go_ret
        exact ⟨ret_int (unhide HPE), (unhide HK).alloc _⟩
    · have hpe := unhide HE
      rw [pf_end _ hlt] at hpe
      have HPE := hide hpe
      clear hpe HE
      go_wp2_with fail
      go_ret
      exact ⟨ret_int (unhide HPE), unhide HK⟩
end Go.Proofs.Ytfcfoabdangfhab
