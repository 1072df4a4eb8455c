/- chainBegun answers true. -/
import Derived.Test.YtainekjcdmabbaaB1
namespace Go.Proofs.Ytainekjcdmabbaa
open Go.RowKit
set_option maxRecDepth 20000
attribute [local go_sem ↓] Go.wp_at_zero Go.wp_at_succ

set_option maxHeartbeats 4000000 in
set_option maxRecDepth 100000 in
theorem begun6 (w : World) : Calls Try.prog 15 #[] w fun e w' => e = .returned (.bool true) ∧ Kp [] w w' := by
  go_enter Try.func15, Try.ntmps15
  go_wp2_with fail
  refine (new23 w).mono ?_
  rintro e w1 ⟨rfl, hc, hk⟩
  have HB : Hid (Bg w w1 (w.heap.size + 1) [dv]) := ⟨_, _, hc, hk⟩
  clear hc hk
  generalize w.heap.size + 1 = b at *
  go_wp2_with fail
  refine (has24 _ w1).mono ?_
  rintro e w2 ⟨rfl, hk⟩
  have HB2 := hide ((unhide HB).kp0 hk)
  clear hk HB
  go_wp2_with fail
  refine (bg_put 3 true bx w2 (unhide HB2) (by simp) bxs).mono ?_
  rintro e w3 ⟨rfl, hb⟩
  rw [pc1]
  rw [pv1] at hb
  have HB3 := hide hb
  clear hb HB2
  go_wp2_with fail
  refine (has24 _ w3).mono ?_
  rintro e w4 ⟨rfl, hk⟩
  have HB4 := hide ((unhide HB3).kp0 hk)
  clear hk HB3
  go_wp2_with fail
  refine (bg_put 3 true by_ w4 (unhide HB4) (by simp) bys).mono ?_
  rintro e w5 ⟨rfl, hb⟩
  rw [pc2]
  rw [pv2] at hb
  have HB5 := hide hb
  clear hb HB4
  go_wp2_with fail
  refine (bg_read 2 w5 (unhide HB5) rise2 (by simp) _ _ _ rd2).mono ?_
  rintro e w6 ⟨rfl, hb, hk⟩
  have HB6 := hide (hb.kp0 ((Kp.refl [] w6).alloc (.cells #[.bool false, .string ByteArray.empty] 24)))
  have hl6 := hb.blt.1
  clear hb hk HB5
  go_wp2_with fail
  refine (bg_read 9 _ (unhide HB6) rise2 (by simp) _ _ _ rd9).mono ?_
  rintro e w7 ⟨rfl, hb, hk⟩
  have p0 : w7.cell? ⟨w6.heap.size, 0, none⟩ = some (.bool false) := hk.cell (by simp) (by simp)
  have hk7 := (hk.cell (p := ⟨w6.heap.size, 0, none⟩) (by simp) (by simp) : w7.cell? ⟨w6.heap.size, 0, none⟩ = some (.bool false))
  have hp7 := World.block_lt_of_cell? w7 _ hk7
  have HB7 := hide (hb.kp0 ((Kp.refl [] w7).alloc (.cells #[.bool true, .string bx] 24)))
  have hl7 := hb.blt.1
  clear hb hk HB6 hk7
  generalize w6.heap.size = p1 at *
  go_wp2_with fail
  refine (bg_clear 3 _ (unhide HB7) rise2 (by simp) 2 (cnt9 3 (by decide))).mono ?_
  rintro e w8 ⟨rfl, hb, hk⟩
  have hb1 : p1 ≠ b := by omega
  have r0 : w8.cell? ⟨p1, 0, none⟩ = some (.bool false) := hk.cell (by simp; omega) (by rw [World.cell?_alloc_lt _ _ _ hp7]; exact p0)
  have r1 : w8.cell? ⟨w7.heap.size, 0, none⟩ = some (.bool true) := hk.cell (by simp; omega) (by simp)
  have r2 : w8.cell? ⟨w7.heap.size, 1, none⟩ = some (.string bx) := hk.cell (by simp; omega) (by simp)
  have HB8 := hide (show Bg w w8 b [v3] from hb)
  clear hb hk HB7 p0
  generalize w7.heap.size = p2 at *
  go_wp2_with fail
  refine (bg_read 2 _ (unhide HB8) (rise1 _) (by simp) _ _ _ rdo).mono ?_
  rintro e w9 ⟨rfl, hb, hk⟩
  have s0 := hk.cell (p := ⟨p1, 0, none⟩) (by simp) r0
  have s1 := hk.cell (p := ⟨p2, 0, none⟩) (by simp) r1
  have s2 := hk.cell (p := ⟨p2, 1, none⟩) (by simp) r2
  have HB9 := hide hb
  clear hb hk HB8 r0 r1 r2
  go_wp2_with fail
  have t0 := ((Kp.refl [] w9).alloc (.cells #[.bool false, .string ByteArray.empty] 24)).cell (p := ⟨p1, 0, none⟩) (by simp) s0
  have t1 := ((Kp.refl [] w9).alloc (.cells #[.bool false, .string ByteArray.empty] 24)).cell (p := ⟨p2, 0, none⟩) (by simp) s1
  have t2 : (w9.alloc (.cells #[.bool false, .string ByteArray.empty] 24)).cell? ⟨p2, 1, none⟩ = some (.string ⟨#[120]⟩) := ((Kp.refl [] w9).alloc (.cells #[.bool false, .string ByteArray.empty] 24)).cell (p := ⟨p2, 1, none⟩) (by simp) s2
  have HBW := hide (And.intro ((unhide HB9).kp0 ((Kp.refl [] w9).alloc (.cells #[.bool false, .string ByteArray.empty] 24)).drew) (show Three p1 p2 (w9.alloc (.cells #[.bool false, .string ByteArray.empty] 24)).drew from ⟨t0, t1, t2⟩))
  clear s0 s1 s2 HB9
  generalize w9.alloc (.cells #[.bool false, .string ByteArray.empty] 24) = W at *
  generalize w9.heap.size = p3 at *
  go_region_held3 (fun w' => w'.cell? ⟨p1, 0, none⟩ = some (.bool false) ∧ w'.cell? ⟨p2, 0, none⟩ = some (.bool true) ∧ w'.cell? ⟨p2, 1, none⟩ = some (.string ⟨#[120]⟩)) (first | exact (unhide HB15).2 | exact (unhide HB14).2 | exact (unhide HB13).2 | exact (unhide HB12).2 | exact (unhide HB11).2 | exact (unhide HB10).2 | go_keep)
    ((first | (go_at_call 74; refine (rg24 (unhide HBW)).mono ?_; rintro e w10 ⟨rfl, HB10⟩) | (go_at_call 29; refine (rg20 (unhide HB10)).mono ?_; rintro e w11 ⟨g', cap', rfl, HB11⟩) | (go_at_call 26; refine (rg17 (unhide HB11)).mono ?_; rintro e w12 ⟨rfl, HB12⟩) | (go_at_call 24; refine (rg15 (unhide HB12)).mono ?_; rintro e w13 ⟨rfl, HB13⟩) | (go_at_call 20; refine (rg11 (unhide HB13)).mono ?_; rintro e w14 ⟨rfl, HB14⟩) | (go_at_call 22; refine (rg13 (unhide HB14)).mono ?_; rintro e w15 ⟨rfl, HB15⟩)))
  go_wp2
  go_ret
  exact ⟨rfl, (unhide HB15).1.kp⟩
end Go.Proofs.Ytainekjcdmabbaa
