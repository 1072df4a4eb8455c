/- codecBegun, by its contract. -/
import Derived.Test.YtlodlepnaliilabQ7
namespace Go.Proofs.Ytlodlepnaliilab
open Go.RowKit
set_option maxRecDepth 20000
attribute [local go_sem ↓] Go.wp_at_zero Go.wp_at_succ

def cbX : ByteArray := ⟨#[120]⟩
def cbP : List Ver := [⟨1, true, cbX⟩, ⟨3, false, ByteArray.empty⟩]
theorem cb_pf : pf (-1) cbP = 0 := by decide
theorem cb_enc : enc cbP = [7, 2, 1, 1, 120, 3, 255] := by decide
theorem cb_dec : dec ([7, 2, 1, 1, 120, 3, 255] ++ [9]) = (cbP, 7, 0) := by
  have := dec_enc [9] cb_pf
  rw [cb_enc] at this
  exact this
theorem cb_nil : dec [] = ([], 0, 6) := rfl
theorem cb_prs (w : World) (b : Nat) (hb : b = w.heap.size) : Prs (w.alloc (.cells #[.int .i64 1, .bool true, .string ⟨#[120]⟩, .int .i64 3, .bool false, .string ⟨#[]⟩] 40)) (some ⟨b, 0, none⟩) cbP := by
  subst hb
  have hb := heap_alloc_new w (.cells #[.int .i64 1, .bool true, .string ⟨#[120]⟩, .int .i64 3, .bool false, .string ⟨#[]⟩] 40)
  refine ⟨by unfold maxLen; decide, fun k hk => ?_, fun _ => ⟨w.heap.size, 0, rfl, fun j u hu => ?_⟩⟩
  · match k, hk with
    | 0, _ => unfold maxLen; decide
    | 1, _ => unfold maxLen; decide
  · rw [Nat.zero_add, cell_of_row _ _ _ _ _ _ hb]
    show (vcells cbP).toArray[j]? = some u
    rw [List.getElem?_toArray]
    exact hu

set_option maxHeartbeats 1000000 in
theorem codecBegun7 (w : World) : Calls Try.prog 7 #[] w fun e w' => e = .returned (.bool true) ∧ Kp [] w w' := by
  go_enter Try.func7, Try.ntmps7
  go_wp2_with fail
  refine (has24 _ w).mono ?_
  rintro e w1 ⟨rfl, hk1⟩
  have HK1 := hide hk1
  clear hk1
  go_wp2_with fail
  refine (encode_ok (some ⟨w1.heap.size, 0, none⟩) 2 cbP _ (cb_prs w1 _ rfl) cb_pf).mono ?_
  rintro e w2 ⟨g, cap, n, rfl, hn, hr⟩
  rw [cb_enc] at hn hr
  have hn7 : n = 7 := hn
  subst hn7
  have HR := hide (hr.since ((unhide HK1).alloc _))
  clear hn hr
  go_wp2_with (first | (at_builtin; refine wpList_app_nil (by rfl) _ _ 23 rfl (unhide HR).kp (.slice (some ⟨g, 0, none⟩) 7 cap) [7, 2, 1, 1, 120, 3, 255] rfl rfl ((unhide HR).byt.src cap) (by simp) (by simp) ?_; intro g3 c3 n3 w3 hn3 hr3 hk3 hg3; have hn3' : n3 = 7 := unhide hn3; subst n3) | (at_builtin; refine wpList_app (by rfl) _ _ 23 rfl ((unhide hr3).kp0 ((Kp.refl [] _).alloc _)) 7 rfl (.slice (some ⟨w3.heap.size, 0, none⟩) 1 1) [9] rfl rfl (one_src _ rfl 9 _ rfl) (by simp) ?_; intro g4 c4 n4 w4 hn4 hr4 hk4 hg4; have hn4' : n4 = 8 := unhide hn4; subst n4))
  have hd := decode12 (some ⟨g4, 0, none⟩) 8 c4 ([7, 2, 1, 1, 120, 3, 255] ++ [9]) w4 (unhide hr4).byt rfl (unhide hr4).cap (by simp)
  rw [cb_dec] at hd
  refine hd.mono ?_
  clear hd
  rintro e w5 ⟨a5, n5, c5, rfl, hn5, ho5, hk5⟩
  have hn5' : n5 = 2 := hn5
  subst hn5'
  have HK5 := hide ((unhide hr4).kp.trans0 hk5)
  have HB5 := hide (((unhide HR).byt.kp0 (unhide hk3)).kp0 ((Kp.refl [] w3).alloc (.cells #[.int .u8 9] 5)))
  clear hn5 ho5
  have HK45 := hide hk5
  clear hk5
  go_wp2_with fail
  have hd := decode12 none 0 0 [] w5 (byt_nil _ _) rfl (by omega) (by simp)
  rw [cb_nil] at hd
  refine hd.mono ?_
  clear hd
  rintro e w6 ⟨a6, n6, c6, rfl, hn6, ho6, hk6⟩
  have hn6' : n6 = 0 := hn6
  subst hn6'
  have hg34 : g ≠ g3 := by have h1 := (unhide HR).lt; have h2 := unhide hg3; omega
  have hb6 : Byt w6 (some ⟨g, 0, none⟩) [7, 2, 1, 1, 120, 3, 255] := (((unhide HB5).kp (unhide hk4) (fun g' o' e => by cases e; simpa using hg34)).kp0 (unhide HK45)).kp0 hk6
  have hcv := str_of hb6 7 cap rfl w6 (Kp.refl _ _)
  have HK6 := hide ((unhide HK5).trans0 hk6)
  clear hn6 ho6 hk6 hb6
  go_wp2_with fail
  go_ret
  exact ⟨rfl, unhide HK6⟩
end Go.Proofs.Ytlodlepnaliilab
