/- May of the document's deed, by its contract. -/
import Derived.Test.YtainekjcdmabbaaG3
import Derived.Test.YtainekjcdmabbaaD4
namespace Go.Proofs.Ytainekjcdmabbaa
open Go.RowKit
set_option maxRecDepth 20000
attribute [local go_sem ↓] Go.wp_at_zero Go.wp_at_succ

theorem snc_key {f : Nat → List Ver} {k : Nat} (hk : k < 8) : snc f k = va (f k) ((f k).length - 1) := by
  unfold snc
  rw [if_pos (by simp [keyB]; omega), Int.toNat_natCast]
theorem sl_last {B : Nat} {w : World} {sb : Nat} {G : List Nat} {g o cap : Nat → Nat} {f : Nat → List Ver} {n : Nat} {k : Nat} (W : World) (h : ShtL B w sb G g o cap f n) (hW : Kp [] w W) (hk : k < 8) (s : Int) (hs : snc f k = s) :
    Calls Try.prog 25 #[.slice (some ⟨g k, o k, none⟩) (f k).length (cap k)] W fun e w' => e = .returned (.int .i64 s) ∧ w' = W := by
  have h' := h.kp hW (fun _ _ => by simp)
  refine (llast16 (g k) (o k) (cap k) W (h'.sla k hk) (h'.inv.pos k hk) (by have := h'.inv.len41 hk; omega)).mono ?_
  rintro e w' ⟨rfl, rfl⟩
  exact ⟨by rw [← hs, snc_key hk], rfl⟩

set_option maxHeartbeats 2000000 in
theorem wmay69 {B sb n wb : Nat} {G H : List Nat} {f : Nat → List Ver} {md y : Int} {rs : List Int} {ws : List Ver} (w : World) (h : Sht B w sb G f n) (hd : Wrk B w wb H md y rs ws) (hrl : rs.length ≤ 900) (hwl : ws.length ≤ 900) :
    Calls Try.prog 69 #[.pointer (some ⟨wb, 0, none⟩), .pointer (some ⟨sb, 0, none⟩)] w fun e w' => e = .returned (.int .i64 (dm f md y rs ws)) ∧ Kp [] w w' := by
  obtain ⟨g, o, cap, h⟩ := h
  have HT := hide h
  have HD := hide hd
  clear h hd
  have HC0 : Hid (cls f y ws 0 = false) := rfl
  go_enter Try.func69, Try.ntmps69
  go_wp2_with fail
  go_loopw [5] (fun i wr => ∃ k : Nat, k ≤ 8 ∧ i = .int .i64 k ∧ Hid (cls f y ws k = false) ∧ Hid (Kp [] w wr)) (fun i _ => 8 - (intOf i).toNat)
  case atStart => exact ⟨0, by omega, rfl, HC0, Kp.refl _ _⟩
  case round =>
    obtain ⟨k, hk, rfl, HC, HK⟩ := hrel
    by_cases hlt8 : k < 8
    · have i0 : (0 : Int) ≤ (k : Int) := by omega
      have i1 : (k : Int) < 8 := by omega
      go_wp2_with fail
      refine (wlast81 k _ ((unhide HD).kp0 (unhide HK)) (by omega)).mono ?_
      rintro e w1 ⟨rfl, hkp⟩
      have hk1 := (unhide HK).trans0 hkp
      generalize hsn : snc f k = sn at *
      have HSN := hide hsn
      clear hsn
      cases hv : lwr ws k with
      | some v =>
        simp only [Option.isSome_some, Option.getD_some]
        have hk2 := hk1.alloc (.cells #[.bool v.t, .string v.s] 24)
        obtain ⟨ra, rc, wa, wc, hw1⟩ := (unhide HD).kp0 hk1
        have ht1 := (unhide HT).kp hk1 (fun _ _ => by simp)
        have qL := ht1.kcell hlt8
        have qy := hw1.c1
        have hlb := lt_of_block hw1.box
        have hls := (ht1.lo sb ht1.sG).2
        have HK2 := hide hk2
        have HV := hide hv
        clear hkp hk1 hk2 hw1 ht1 hv
        by_cases hgt : y < sn
        · have HN := hide (dm_clash (md := md) (rs := rs) (cls_mono (cls_yes (unhide HV) (by rw [unhide HSN]; exact hgt)) 8 (by omega)))
          go_wp2_with fail
          go_quiet ((go_at_call 25; exact Calls.quiet_of_same (sl_last _ (unhide HT) ((unhide HK2).drewN _) hlt8 sn (unhide HSN))))
          go_wp2
          go_ret
          exact ⟨ret_int (unhide HN).symm, (unhide HK2).drewN _⟩
        · have HN := hide (cls_old (ws := ws) (f := f) (y := y) (k := k) (by rw [unhide HSN]; omega))
          have hle : sn ≤ y := by omega
          go_wp2_with fail
          go_quiet ((go_at_call 25; exact Calls.quiet_of_same (sl_last _ (unhide HT) ((unhide HK2).drewN _) hlt8 sn (unhide HSN))))
          go_wp2
          exact ⟨⟨k + 1, by omega, by go_num, by rw [unhide HN]; exact HC, (unhide HK2).drewN _⟩, by simp [intOf]; omega⟩
      | none =>
        simp only [Option.isSome_none, Option.getD_none]
        have HK2 := hide (hk1.alloc (.cells #[.bool dv.t, .string dv.s] 24))
        have HN := hide (cls_no (f := f) (y := y) hv)
        clear hkp hk1 hv
        go_wp2_with fail
        go_quiet (fail)
        go_wp2
        exact ⟨⟨k + 1, by omega, by go_num, by rw [unhide HN]; exact HC, (unhide HK2).drewN _⟩, by simp [intOf]; omega⟩
    · have e : k = 8 := by omega
      subst e
      have HE := hide (dm_end (md := md) (rs := rs) (unhide HC))
      have HM0 : Hid (mcd f md y rs 0 = 0) := by simp [mcd, stl]; exact trivial
      have HK0 := HK
      clear HC
      go_wp2_with fail
      go_loopw [8] (fun i wr => ∃ k : Nat, k ≤ 8 ∧ i = .int .i64 k ∧ Hid (mcd f md y rs k = 0) ∧ Hid (Kp [] w wr)) (fun i _ => 8 - (intOf i).toNat)
      case atStart => exact ⟨0, by omega, rfl, HM0, HK0⟩
      case round =>
        obtain ⟨k, hk, rfl, HC, HK⟩ := hrel
        by_cases hlt8 : k < 8
        · have i0 : (0 : Int) ≤ (k : Int) := by omega
          have i1 : (k : Int) < 8 := by omega
          obtain ⟨ra, rc, wa, wc, hw1⟩ := (unhide HD).kp0 (unhide HK)
          have ht1 := (unhide HT).kp (unhide HK) (fun _ _ => by simp)
          have qL := ht1.kcell hlt8
          have qm := hw1.c0
          have qy := hw1.c1
          have qr := hw1.c2
          have HS := hide hw1.rsl
          clear hw1 ht1
          generalize hsn : snc f k = sn at *
          have HSN := hide hsn
          clear hsn
          by_cases hm : md = 2
          · by_cases hr : (k : Int) ∈ rs
            · have hd : decide ((k : Int) ∈ rs) = true := by simp [hr]
              have HD2 := hide hd
              by_cases hgt : y < sn
              · have HN : Hid (dm f md y rs ws = 11) := (unhide HE).trans (mcd_yes hm (stl_mono (stl_yes hr (by rw [unhide HSN]; exact hgt)) 8 (by omega)))
                subst hm
                clear hr hd
                go_wp2_with fail
                go_quiet ((first | (go_at_call 72; exact Calls.quiet_of_same ((in72 ra rc k _ ((unhide HS).kp0 ((Kp.refl [] _).drewN _)) (by omega)).mono (fun e w' q => ⟨by rw [q.1, unhide HD2], q.2⟩))) | (go_at_call 25; exact Calls.quiet_of_same (sl_last _ (unhide HT) ((unhide HK).drewN _) hlt8 sn (unhide HSN)))))
                go_wp2
                go_ret
                exact ⟨ret_int (unhide HN).symm, (unhide HK).drewN _⟩
              · have HN := hide ((mcd_eq (md := md) (stl_old (rs := rs) (f := f) (y := y) (k := k) (by rw [unhide HSN]; omega))).trans (unhide HC))
                have hle : sn ≤ y := by omega
                subst hm
                clear hr hd
                go_wp2_with fail
                go_quiet ((first | (go_at_call 72; exact Calls.quiet_of_same ((in72 ra rc k _ ((unhide HS).kp0 ((Kp.refl [] _).drewN _)) (by omega)).mono (fun e w' q => ⟨by rw [q.1, unhide HD2], q.2⟩))) | (go_at_call 25; exact Calls.quiet_of_same (sl_last _ (unhide HT) ((unhide HK).drewN _) hlt8 sn (unhide HSN)))))
                go_wp2
                refine ⟨⟨_, _, _, _, _, _, _, _, _, _, _, _, _, _, _, _, _, _, _, _, _, _, _, _, _, _, _, _, _, _, _, _, _, ?_, rfl⟩, by simp [intOf]; omega⟩
                exact ⟨k + 1, by omega, by go_num, HN, (unhide HK).drewN _⟩
            · have hd : decide ((k : Int) ∈ rs) = false := by simp [hr]
              have HD2 := hide hd
              have HN := hide ((mcd_eq (md := md) (stl_no (f := f) (y := y) hr)).trans (unhide HC))
              subst hm
              clear hr hd
              go_wp2_with fail
              go_quiet ((go_at_call 72; exact Calls.quiet_of_same ((in72 ra rc k _ ((unhide HS).kp0 ((Kp.refl [] _).drewN _)) (by omega)).mono (fun e w' q => ⟨by rw [q.1, unhide HD2], q.2⟩))))
              go_wp2
              exact ⟨⟨k + 1, by omega, by go_num, HN, (unhide HK).drewN _⟩, by simp [intOf]; omega⟩
          · have HN := hide (mcd_not (f := f) (y := y) (rs := rs) (k := k + 1) hm)
            have em : (md == 2) = false := beq_eq_false_iff_ne.2 hm
            clear hm
            go_wp2_with fail
            go_quiet (fail)
            go_wp2
            exact ⟨⟨k + 1, by omega, by go_num, HN, (unhide HK).drewN _⟩, by simp [intOf]; omega⟩
        · have e : k = 8 := by omega
          subst e
          have HN := hide ((unhide HE).trans (unhide HC))
          go_wp2_with fail
          go_ret
          exact ⟨ret_int (unhide HN).symm, unhide HK⟩
end Go.Proofs.Ytainekjcdmabbaa
