/- deedBegun answers true. -/
import Derived.Test.YtainekjcdmabbaaY1
import Derived.Test.YtainekjcdmabbaaG2
import Derived.Test.YtainekjcdmabbaaE6
namespace Go.Proofs.Ytainekjcdmabbaa
open Go.RowKit
set_option maxRecDepth 20000
attribute [local go_sem ↓] Go.wp_at_zero Go.wp_at_succ

def py : ByteArray := ⟨#[121]⟩
theorem pys : py.size ≤ maxLen := by unfold maxLen; decide
def eP1 : List Ver := [⟨1, true, px⟩]
def eP2 : List Ver := [⟨1, false, ByteArray.empty⟩]
def eW : List Ver := [⟨2, true, py⟩]
def eF1 : Nat → List Ver := wst (fun _ => [dv]) 0 eP1
def eF2 : Nat → List Ver := wst eF1 1 eP2
theorem ec1 : wcode 0 eP1 = 0 := by decide
theorem em1 : wn 0 eP1 = 1 := by decide
theorem ec2 : wcode 1 eP2 = 0 := by decide
theorem em2 : wn 1 eP2 = 2 := by decide
theorem eg1 : dg eF1 1 1 [] 1 = ⟨0, true, ⟨#[120]⟩⟩ := by rfl
theorem er1 : dr eF1 1 1 [] [] 1 = [1] := by rfl
theorem epc : dpc 2 2 true py = 0 := by decide
theorem epw : dpw 2 [] 2 true py = eW := by rfl
theorem eg2 : dg eF1 1 1 eW 2 = ⟨0, true, ⟨#[121]⟩⟩ := by rfl
theorem er2 : dr eF1 1 1 [1] eW 2 = [1] := by rfl
theorem erk : rk [1] 8 = [1] := by decide
theorem ewk : (wk eW 8).length = 1 := by rfl
theorem edm : dm eF2 2 1 [1] eW = 11 := by rfl

/-- What stands ahead of the last answer of deedBegun. -/
structure Dbg (w0 w : World) (tb db p q : Nat) : Prop where
  t : Tdx w0 w tb db eF2 2 2 1 [1] eW []
  p : Two w p true ⟨#[120]⟩
  q : Two w q true ⟨#[121]⟩
def Dbg.S (w : World) (p q : Nat) : Prop := w.cell? ⟨p, 0, none⟩ = some (.bool true) ∧ w.cell? ⟨p, 1, none⟩ = some (.string ⟨#[120]⟩) ∧ w.cell? ⟨q, 0, none⟩ = some (.bool true) ∧ w.cell? ⟨q, 1, none⟩ = some (.string ⟨#[121]⟩)

section
variable {w0 w w' : World} {tb db p q : Nat}
theorem Dbg.kp0 (h : Dbg w0 w tb db p q) (hk : Kp [] w w') : Dbg w0 w' tb db p q := ⟨h.t.kp0 hk, h.p.kp0 hk, h.q.kp0 hk⟩
theorem Dbg.s (h : Dbg w0 w tb db p q) : w.cell? ⟨p, 0, none⟩ = some (.bool true) ∧ w.cell? ⟨p, 1, none⟩ = some (.string ⟨#[120]⟩) ∧ w.cell? ⟨q, 0, none⟩ = some (.bool true) ∧ w.cell? ⟨q, 1, none⟩ = some (.string ⟨#[121]⟩) := ⟨h.p.c0, h.p.c1, h.q.c0, h.q.c1⟩
theorem dbg_hasx (h : Dbg w0 w tb db p q) : Calls Try.prog 74 #[.string ⟨#[120]⟩] w fun e w' => e = .returned (.agg #[.bool true, .string ⟨#[120]⟩]) ∧ Hid (Dbg w0 w' tb db p q) := by
  refine (has24 _ w).mono ?_
  rintro e w' ⟨rfl, hk⟩
  exact ⟨rfl, h.kp0 hk⟩
theorem dbg_hasy (h : Dbg w0 w tb db p q) : Calls Try.prog 74 #[.string ⟨#[121]⟩] w fun e w' => e = .returned (.agg #[.bool true, .string ⟨#[121]⟩]) ∧ Hid (Dbg w0 w' tb db p q) := by
  refine (has24 _ w).mono ?_
  rintro e w' ⟨rfl, hk⟩
  exact ⟨rfl, h.kp0 hk⟩
theorem dbg_reads (h : Dbg w0 w tb db p q) : Calls Try.prog 64 #[.pointer (some ⟨db, 0, none⟩)] w fun e w' => ∃ a cap, e = .returned (.slice a 1 cap) ∧ Hid (SlI w' a [1]) ∧ Hid (Dbg w0 w' tb db p q) := by
  refine (tdx_reads h.t).mono ?_
  rintro e w' ⟨a, cap, rfl, h1, _, hk⟩
  rw [erk] at h1 ⊢
  exact ⟨a, cap, rfl, h1, h.kp0 (unhide hk)⟩
theorem sli_one (w : World) : SlI (w.alloc (.cells #[.int .i64 1] 3)) (some ⟨w.heap.size, 0, none⟩) [1] := by
  intro _
  refine ⟨w.heap.size, 0, rfl, fun j hj => ?_⟩
  have : j = 0 := by simp at hj; omega
  subst this
  exact cell_of_block (heap_alloc_new w _) rfl
theorem dbg_same {a : Option Addr} {cap : Nat} (h : Dbg w0 w tb db p q) (hs : SlI w a [1]) : Calls Try.prog 63 #[.slice a 1 cap, .slice (some ⟨w.heap.size, 0, none⟩) 1 1] (w.alloc (.cells #[.int .i64 1] 3)) fun e w' => e = .returned (.bool true) ∧ Hid (Dbg w0 w' tb db p q) := by
  refine (sameints63 (l := [1]) a (some ⟨w.heap.size, 0, none⟩) cap 1 _ (hs.kp0 ((Kp.refl [] w).alloc _)) (sli_one w) (by simp)).mono ?_
  rintro e w' ⟨rfl, m, rfl⟩
  exact ⟨rfl, h.kp0 (((Kp.refl [] w).alloc _).drewN m)⟩
theorem dbg_readsA (h : Dbg w0 w tb db p q) : Calls Try.prog 64 #[.pointer (some ⟨db, 0, none⟩)] (w.alloc (.cells #[.int .i64 1] 3)) fun e w' => ∃ a cap, e = .returned (.slice a 1 cap) ∧ Hid (SlI w' a [1]) ∧ Hid (SlI w' (some ⟨w.heap.size, 0, none⟩) [1]) ∧ Hid (Dbg w0 w' tb db p q) := by
  have h' := h.kp0 ((Kp.refl [] w).alloc (.cells #[.int .i64 1] 3))
  refine (tdx_reads h'.t).mono ?_
  rintro e w' ⟨a, cap, rfl, h1, _, hk⟩
  rw [erk] at h1 ⊢
  exact ⟨a, cap, rfl, h1, (sli_one w).kp0 (unhide hk), h'.kp0 (unhide hk)⟩
theorem dbg_sameA {a b : Option Addr} {cap : Nat} (h : Dbg w0 w tb db p q) (hs : SlI w a [1]) (hb : SlI w b [1]) : Calls Try.prog 63 #[.slice a 1 cap, .slice b 1 1] w fun e w' => e = .returned (.bool true) ∧ Hid (Dbg w0 w' tb db p q) := by
  refine (sameints63 (l := [1]) a b cap 1 _ hs hb (by simp)).mono ?_
  rintro e w' ⟨rfl, m, rfl⟩
  exact ⟨rfl, h.kp0 ((Kp.refl [] w).drewN m)⟩
theorem dbg_writes (h : Dbg w0 w tb db p q) : Calls Try.prog 66 #[.pointer (some ⟨db, 0, none⟩)] w fun e w' => ∃ a cap, e = .returned (.slice a 1 cap) ∧ Hid (Dbg w0 w' tb db p q) := by
  refine (tdx_writes h.t).mono ?_
  rintro e w' ⟨a, cap, rfl, h1, _, hk⟩
  rw [ewk]
  exact ⟨a, cap, rfl, h.kp0 (unhide hk)⟩
theorem dbg_may (h : Dbg w0 w tb db p q) : Calls Try.prog 68 #[.pointer (some ⟨db, 0, none⟩), .pointer (some ⟨tb, 0, none⟩)] w fun e w' => e = .returned (.int .i64 11) ∧ Hid (Dbg w0 w' tb db p q) := by
  refine (tdx_may h.t 11 edm).mono ?_
  rintro e w' ⟨rfl, _, hk⟩
  exact ⟨rfl, h.kp0 (unhide hk)⟩
theorem dbg_mode (h : Dbg w0 w tb db p q) : Calls Try.prog 70 #[.pointer (some ⟨db, 0, none⟩)] w fun e w' => e = .returned (.int .i64 2) ∧ Hid (Dbg w0 w' tb db p q) := by
  refine (tdx_mode h.t).mono ?_
  rintro e w' ⟨rfl, rfl⟩
  exact ⟨rfl, h⟩
theorem dbg_at (h : Dbg w0 w tb db p q) : Calls Try.prog 71 #[.pointer (some ⟨db, 0, none⟩)] w fun e w' => e = .returned (.int .i64 1) ∧ Hid (Dbg w0 w' tb db p q) := by
  refine (tdx_at h.t).mono ?_
  rintro e w' ⟨rfl, rfl⟩
  exact ⟨rfl, h⟩
end

theorem tdx_write_lit {w0 W : World} {tb db : Nat} {f : Nat → List Ver} {n : Nat} {md y : Int} {rs : List Int} {ws : List Ver} {X : List Nat} (k : Int) (t : Bool) (s : ByteArray) (hs : s.size ≤ maxLen) (h : Tdx w0 W tb db f n md y rs ws X) :
    Calls Try.prog 49 #[.pointer (some ⟨tb, 0, none⟩), .slice (some ⟨W.heap.size, 0, none⟩) 1 1] (W.alloc (.cells #[.int .i64 k, .bool t, .string s] 72)) fun e w' =>
      e = .returned (.tuple #[.int .i64 (wnum n [⟨k, t, s⟩]), .int .i64 (wcode n [⟨k, t, s⟩])]) ∧ Hid (Tdx w0 w' tb db (wst f n [⟨k, t, s⟩]) (wn n [⟨k, t, s⟩]) md y rs ws X) ∧ Hid (SameX X W w') := by
  have hlo := h.t.lo
  refine (tdx_write (some ⟨W.heap.size, 0, none⟩) 1 [⟨k, t, s⟩] (h.alloc (.cells #[.int .i64 k, .bool t, .string s] 72)) (prs_one k t s hs (heap_alloc_new _ _)) (by simp) (fun _ g o e => ?_)).mono ?_
  · right
    simp only [Option.some.injEq, Addr.mk.injEq, and_true] at e
    simp [e.1]
  · rintro e w' ⟨rfl, h1, h2⟩
    refine ⟨rfl, (unhide h1).sub (fun x hx => by simp [hx]), fun x hx => ?_⟩
    have hx1 := (unhide h2) x (by simp [hx])
    rw [hx1]
    exact ((Kp.refl [] W).alloc (.cells #[.int .i64 k, .bool t, .string s] 72)).block x (hlo x (by simp [hx])).2 (by simp)

theorem tdx_two {w0 w : World} {tb db : Nat} {f : Nat → List Ver} {n : Nat} {md y : Int} {rs : List Int} {ws : List Ver} {X : List Nat} (h : Tdx w0 w tb db f n md y rs ws X) (t : Bool) (s : ByteArray) :
    Hid (Tdx w0 (w.alloc (.cells #[.bool t, .string s] 24)) tb db f n md y rs ws (w.heap.size :: X)) ∧ Hid (Two (w.alloc (.cells #[.bool t, .string s] 24)) w.heap.size t s) := ⟨h.alloc _, two_new w t s⟩

set_option maxHeartbeats 20000000 in
set_option maxRecDepth 100000 in
theorem dbegun52 (w : World) : Calls Try.prog 52 #[] w fun e w' => e = .returned (.bool true) ∧ Kp [] w w' := by
  go_enter Try.func52, Try.ntmps52
  go_wp2_with fail
  refine (tbx_new w w (Kp.refl _ _)).mono ?_
  rintro e w1 ⟨tb, rfl, H1⟩
  go_wp2_with fail
  refine (has24 _ w1).mono ?_
  rintro e w2 ⟨rfl, hk⟩
  have H2 := hide ((unhide H1).kp0 hk)
  clear hk H1
  go_wp2_with fail
  refine (tbx_write_lit 1 true px pxs (unhide H2)).mono ?_
  rintro e w3 ⟨rfl, H3⟩
  have H3' : Hid (Tbx w w3 tb eF1 1 []) := H3
  clear H2 H3
  go_wp2_with fail
  refine (tdx_new 2 1 (unhide H3') (by omega)).mono ?_
  rintro e w4 ⟨db, rfl, H4⟩
  clear H3'
  go_wp2_with fail
  refine (dnew54 4 1 w4).mono ?_
  rintro e w5 (⟨_, h2, _⟩ | ⟨_, rfl, hw5⟩)
  · omega
  subst w5
  go_wp2_with fail
  refine (tdx_get 1 (unhide H4)).mono ?_
  rintro e w5 ⟨rfl, H5, _⟩
  rw [eg1]
  rw [er1] at H5
  obtain ⟨H6, P6⟩ := tdx_two (unhide H5) true ⟨#[120]⟩
  clear H4 H5
  go_wp2_with fail
  have H6' : Hid (Tdx w (w5.alloc (.cells #[.bool true, .string ⟨#[120]⟩] 24)) tb db eF1 1 2 1 [1] [] [w5.heap.size]) := H6
  clear H6
  generalize w5.alloc (.cells #[.bool true, .string ⟨#[120]⟩] 24) = W6 at *
  generalize w5.heap.size = p at *
  refine (has24 _ W6).mono ?_
  rintro e w7 ⟨rfl, hk⟩
  have H7 := hide ((unhide H6').kp0 hk)
  have P7 := hide ((unhide P6).kp0 hk)
  clear H6' P6 hk
  go_wp2_with fail
  refine (tdx_put 2 true py (unhide H7) pys).mono ?_
  rintro e w8 ⟨rfl, H8, K8⟩
  rw [epc]
  rw [epw] at H8
  have P8 := hide ((unhide P7).kp (unhide K8) (fun hm => (unhide H7).x (by simp at hm; simp [hm])))
  clear H7 P7 K8
  go_wp2_with fail
  refine (tdx_get 2 (unhide H8)).mono ?_
  rintro e w9 ⟨rfl, H9, K9⟩
  rw [eg2]
  rw [er2] at H9
  have P9 := hide ((unhide P8).kp (unhide K9) (fun hm => (unhide H8).x (by simp at hm; simp [hm])))
  obtain ⟨H10, Q10⟩ := tdx_two (unhide H9) true ⟨#[121]⟩
  have P10 := hide ((unhide P9).kp0 ((Kp.refl [] w9).alloc (.cells #[.bool true, .string ⟨#[121]⟩] 24)))
  clear H8 P8 K9 H9 P9
  go_wp2_with fail
  have hsz : (w9.alloc (.cells #[.bool true, .string ⟨#[121]⟩] 24)).heap.size = w9.heap.size + 1 := by simp
  generalize w9.alloc (.cells #[.bool true, .string ⟨#[121]⟩] 24) = W10 at *
  generalize w9.heap.size = q at *
  rw [← hsz]
  clear hsz
  refine (tdx_write_lit 1 false ByteArray.empty emps (unhide H10)).mono ?_
  rintro e w11 ⟨rfl, H11, X11⟩
  rw [show wn 1 [(⟨1, false, ByteArray.empty⟩ : Ver)] = 2 from em2, show wst eF1 1 [(⟨1, false, ByteArray.empty⟩ : Ver)] = eF2 from rfl] at H11
  have H12 := hide ((unhide H11).sub (Z := []) (by simp))
  generalize hF2 : eF2 = F2 at H11 H12
  have HB := hide (show Dbg w w11 tb db p q from ⟨by rw [hF2]; exact unhide H12, ((unhide X11) p (by simp)).trans (unhide P10), ((unhide X11) q (by simp)).trans (unhide Q10)⟩)
  clear hF2 H12 H10 P10 Q10 H11 X11
  obtain ⟨d0, d1, d2, d3⟩ := (unhide HB).s
  go_wp2_with fail
  have HBW := hide ((unhide HB).kp0 (Kp.refl [] w11).drew)
  clear HB
  go_region_held3 (fun w' => w'.cell? ⟨p, 0, none⟩ = some (.bool true) ∧ w'.cell? ⟨p, 1, none⟩ = some (.string ⟨#[120]⟩) ∧ w'.cell? ⟨q, 0, none⟩ = some (.bool true) ∧ w'.cell? ⟨q, 1, none⟩ = some (.string ⟨#[121]⟩)) (first | exact (unhide HB8).s | exact (unhide HB7).s | exact (unhide HB6).s | exact (unhide HB5).s | exact (unhide HB4).s | exact (unhide HB3).s | exact (unhide HB2).s | exact (unhide HB1).s | go_keep)
    ((first | (go_at_call 74; refine (dbg_hasy (unhide HB1)).mono ?_; rintro e w22 ⟨rfl, HB2⟩) | (go_at_call 74; refine (dbg_hasx (unhide HBW)).mono ?_; rintro e w21 ⟨rfl, HB1⟩) | (go_at_call 64; refine (dbg_reads (unhide HB2)).mono ?_; rintro e w23 ⟨a3, cap3, rfl, HS3, HB3⟩) | (go_at_call 64; refine (dbg_readsA (unhide HB2)).mono ?_; rintro e w23 ⟨a3, cap3, rfl, HS3, HSA, HB3⟩) | (go_at_call 63; refine (dbg_sameA (unhide HB3) (unhide HS3) (unhide HSA)).mono ?_; rintro e w24 ⟨rfl, HB4⟩) | (go_at_call 63; refine (dbg_same (unhide HB3) (unhide HS3)).mono ?_; rintro e w24 ⟨rfl, HB4⟩) | (go_at_call 66; refine (dbg_writes (unhide HB4)).mono ?_; rintro e w25 ⟨a5, cap5, rfl, HB5⟩) | (go_at_call 68; refine (dbg_may (unhide HB5)).mono ?_; rintro e w26 ⟨rfl, HB6⟩) | (go_at_call 70; refine (dbg_mode (unhide HB6)).mono ?_; rintro e w27 ⟨rfl, HB7⟩) | (go_at_call 71; refine (dbg_at (unhide HB7)).mono ?_; rintro e w28 ⟨rfl, HB8⟩)))
  all_goals
    go_wp2
    go_ret
    exact ⟨rfl, (unhide HB8).t.kp⟩
end Go.Proofs.Ytainekjcdmabbaa
