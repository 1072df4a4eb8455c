/- tableBegun answers true. -/
import Derived.Test.YtainekjcdmabbaaE6
namespace Go.Proofs.Ytainekjcdmabbaa
open Go.RowKit
set_option maxRecDepth 20000
attribute [local go_sem ↓] Go.wp_at_zero Go.wp_at_succ

set_option maxHeartbeats 4000000 in
set_option maxRecDepth 100000 in
theorem tbegun28 (w : World) : Calls Try.prog 32 #[] w fun e w' => e = .returned (.bool true) ∧ Kp [] w w' := by
  go_enter Try.func32, Try.ntmps32
  go_wp2_with fail
  refine (tbx_new w w (Kp.refl _ _)).mono ?_
  rintro e w1 ⟨tb, rfl, H1⟩
  go_wp2_with fail
  refine (has24 _ w1).mono ?_
  rintro e w2 ⟨rfl, hk⟩
  have H2 := hide ((unhide H1).kp0 hk)
  clear hk H1
  go_wp2_with fail
  refine (tbx_write_lit 2 true px pxs (unhide H2)).mono ?_
  rintro e w3 ⟨rfl, H3⟩
  rw [show wnum 0 [(⟨2, true, px⟩ : Ver)] = 1 from bn1, show wcode 0 [(⟨2, true, px⟩ : Ver)] = 0 from bc1]
  have H3' : Hid (Tbx w w3 tb bF1 1 []) := H3
  clear H2 H3
  go_wp2_with fail
  refine (tbx_write_lit 2 false ByteArray.empty emps (unhide H3')).mono ?_
  rintro e w4 ⟨rfl, H4⟩
  rw [show wnum 1 [(⟨2, false, ByteArray.empty⟩ : Ver)] = 2 from bn2, show wcode 1 [(⟨2, false, ByteArray.empty⟩ : Ver)] = 0 from bc2]
  have H4' : Hid (Tbx w w4 tb bF2 2 []) := H4
  clear H3' H4
  go_wp2_with fail
  refine (beg_read (unhide H4')).mono ?_
  rintro e w5 ⟨rfl, H5⟩
  have H6 := hide (beg_mk (unhide H5))
  clear H4' H5
  go_wp2_with fail
  refine (beg_list (unhide H6)).mono ?_
  rintro e w6 ⟨a, cap, rfl, HB⟩
  clear H6
  have d0 := (unhide HB).c0
  have d1 := (unhide HB).c1
  generalize w5.heap.size = p at *
  go_wp2_with fail
  have HBW := hide ((unhide HB).kp0 (Kp.refl [] w6).drew)
  clear HB
  go_region_held3 (fun w' => w'.cell? ⟨p, 0, none⟩ = some (.bool true) ∧ w'.cell? ⟨p, 1, none⟩ = some (.string ⟨#[120]⟩)) (first | exact ⟨(unhide HB15).c0, (unhide HB15).c1⟩ | exact ⟨(unhide HB14).c0, (unhide HB14).c1⟩ | exact ⟨(unhide HB13).c0, (unhide HB13).c1⟩ | exact ⟨(unhide HB12).c0, (unhide HB12).c1⟩ | exact ⟨(unhide HB11).c0, (unhide HB11).c1⟩ | exact ⟨(unhide HB10).c0, (unhide HB10).c1⟩ | go_keep)
    ((first | (go_at_call 74; refine (beg_has (unhide HBW)).mono ?_; rintro e w10 ⟨rfl, HB10⟩) | (go_at_call 44; refine (beg_since8 (unhide HB11)).mono ?_; rintro e w12 ⟨rfl, HB12⟩) | (go_at_call 44; refine (beg_since2 (unhide HB10)).mono ?_; rintro e w11 ⟨rfl, HB11⟩) | (go_at_call 42; refine (beg_last (unhide HB12)).mono ?_; rintro e w13 ⟨rfl, HB13⟩) | (go_at_call 46; refine (beg_first (unhide HB13)).mono ?_; rintro e w14 ⟨rfl, HB14⟩) | (go_at_call 40; refine (beg_check (unhide HB14)).mono ?_; rintro e w15 ⟨rfl, HB15⟩)))
  go_wp2
  go_ret
  exact ⟨rfl, (unhide HB15).tbx.kp⟩
end Go.Proofs.Ytainekjcdmabbaa
