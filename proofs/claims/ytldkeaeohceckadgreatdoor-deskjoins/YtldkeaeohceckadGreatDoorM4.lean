/- Bound together for a claim. -/
import Derived.Test.YtldkeaeohceckadGreatDoorM3
import Derived.Deep.MidRow
import Derived.Deep.AppendLies
import Derived.Lib.ItoaLen
import Derived.Deep.RegionHeld3
namespace Go.Proofs.YtldkeaeohceckadGreatDoor
set_option maxRecDepth 20000
set_option maxHeartbeats 64000000
/- A hall's Do: Clear; Do of whatever step. -/
section
open Go.RowKit
attribute [local go_sem ↓] Go.wp_at_zero Go.wp_at_succ

section
variable {w0 w : World} {hb vb tb gb : Nat} {h : HSt} {st : Nat → Sd} {r : List Thing}
set_option maxHeartbeats 1000000 in
theorem do_clear (x : HStep) (hs : Sts st h.seat) (hz : Hall w0 w hb vb tb gb h st r) (hx : x.d = 8) :
    Calls Tryz.prog 53 #[.pointer (some ⟨hb, 0, none⟩), .agg #[.int .i64 x.d, .int .i64 x.s, .int .i64 x.md, .int .i64 x.at_, .int .i64 x.key, .int .i64 x.to_, .int .i64 x.keep, .string x.b]] w fun e w' => GoEnd w0 hb vb gb r (hdo h x) (hev h x) e w' := by
  have heq := (HKind.clear (h := h) (x := x) hx).eq
  rw [heq.1, heq.2]
  clear heq
  have HS := hide hs
  have HX := hide (hz.two (xcs x) 79 #[.int .i64 0, .int .i64 0, .bool false, .string ⟨#[]⟩, .slice none 0 0] 102)
  have hl := hz.lt
  have vl := hz.vlt_
  clear hz hs
  have HLE := hide (fun W r (hz : Hall w0 W hb vb tb gb h st r) => h_least (unhide HS) hz)
  generalize least h.n h.seat 5 = y at *
  obtain ⟨xd, xs, xm, xa, xk, xt, xp, xb⟩ := x
  dsimp only [xcs] at *
  subst hx
  go_enter Tryz.func53, Tryz.ntmps53
  go_wp2_with fail
  generalize (w.alloc (.cells #[.int .i64 8, .int .i64 xs, .int .i64 xm, .int .i64 xa, .int .i64 xk, .int .i64 xt, .int .i64 xp, .string xb] 79)).alloc (.cells #[.int .i64 0, .int .i64 0, .bool false, .string ⟨#[]⟩, .slice none 0 0] 102) = W at HX ⊢
  generalize w.heap.size = q at HX ⊢
  generalize q + 1 = p at HX ⊢
  have HXD := hide ((unhide HX).kp0 (Kp.refl [] _).drew)
  clear HX
  have c0 := (unhide HXD).c0
  have v0 := (unhide HXD).v0
  refine wp_region_held_drew (S := fun w' => w'.cell? ⟨hb, 0, none⟩ = some (.pointer (some ⟨vb, 0, none⟩)) ∧ w'.cell? ⟨vb, 0, none⟩ = some (.pointer (some ⟨tb, 0, none⟩))) (by kernel_rfl) (⟨c0, v0⟩) (fun hHeld => ?_)
  refine wpAnyH_tk (i := 0) (v := ?_) rfl (by kernel_rfl) (by kernel_rfl) (by kernel_rfl) (fun _ _ _ h => h) (Or.inl ⟨by rfl, ?_⟩) hHeld ?_
  rotate_left
  · intro w hSw
    try dsimp only at hSw
    go_simp
    try with_reducible rfl
  try simp only [Act.put, List.setIfInBounds_toArray, List.set_cons_zero, List.set_cons_succ]
  refine wpAnyH_tk (i := 1) (v := ?_) rfl (by kernel_rfl) (by kernel_rfl) (by kernel_rfl) (fun _ _ _ h => h) (Or.inl ⟨by rfl, ?_⟩) hHeld ?_
  rotate_left
  · intro w hSw
    try dsimp only at hSw
    go_simp
    try with_reducible rfl
  try simp only [Act.put, List.setIfInBounds_toArray, List.set_cons_zero, List.set_cons_succ]
  refine wpAnyH_tk (i := 2) (v := ?_) rfl (by kernel_rfl) (by kernel_rfl) (by kernel_rfl) (fun _ _ _ h => h) (Or.inl ⟨by rfl, ?_⟩) hHeld ?_
  rotate_left
  · intro w hSw
    try dsimp only at hSw
    go_simp
    try with_reducible rfl
  try simp only [Act.put, List.setIfInBounds_toArray, List.set_cons_zero, List.set_cons_succ]
  refine wpAnyH_tk (i := 3) (v := ?_) rfl (by kernel_rfl) (by kernel_rfl) (by kernel_rfl) (fun _ _ _ h => h) (Or.inl ⟨by rfl, ?_⟩) hHeld ?_
  rotate_left
  · intro w hSw
    try dsimp only at hSw
    go_simp
    try with_reducible rfl
  try simp only [Act.put, List.setIfInBounds_toArray, List.set_cons_zero, List.set_cons_succ]
  refine wpAnyH_tk (i := 4) (v := ?_) rfl (by kernel_rfl) (by kernel_rfl) (by kernel_rfl) (fun _ _ _ h => h) (Or.inl ⟨by rfl, ?_⟩) hHeld ?_
  rotate_left
  · intro w hSw
    try dsimp only at hSw
    go_simp
    try with_reducible rfl
  try simp only [Act.put, List.setIfInBounds_toArray, List.set_cons_zero, List.set_cons_succ]
  refine wpAnyH_tk (i := 5) (v := ?_) rfl (by kernel_rfl) (by kernel_rfl) (by kernel_rfl) (fun _ _ _ h => h) (Or.inl ⟨by rfl, ?_⟩) hHeld ?_
  rotate_left
  · intro w hSw
    try dsimp only at hSw
    go_simp
    try with_reducible rfl
  try simp only [Act.put, List.setIfInBounds_toArray, List.set_cons_zero, List.set_cons_succ]
  refine wpAnyH_tk (i := 6) (v := ?_) rfl (by kernel_rfl) (by kernel_rfl) (by kernel_rfl) (fun _ _ _ h => h) (Or.inl ⟨by rfl, ?_⟩) hHeld ?_
  rotate_left
  · intro w hSw
    try dsimp only at hSw
    go_simp
    try with_reducible rfl
  try simp only [Act.put, List.setIfInBounds_toArray, List.set_cons_zero, List.set_cons_succ]
  refine wpAnyH_tk (i := 7) (v := ?_) rfl (by kernel_rfl) (by kernel_rfl) (by kernel_rfl) (fun _ _ _ h => h) (Or.inl ⟨by rfl, ?_⟩) hHeld ?_
  rotate_left
  · intro w hSw
    try dsimp only at hSw
    go_simp
    try with_reducible rfl
  try simp only [Act.put, List.setIfInBounds_toArray, List.set_cons_zero, List.set_cons_succ]
  refine wpAnyH_only (i := 8) rfl (by kernel_rfl) (fun K hK => ?_)
  go_simp
  refine (unhide HLE _ _ (unhide HXD)).mono ?_
  rintro e w' ⟨rfl, hw'⟩
  subst w'
  go_wp2_with fail
  refine hK.out _ _ (⟨c0, v0⟩) (fun hHeld2 => ?_)
  clear hK K hHeld
  have hHeld := hHeld2
  clear hHeld2
  try simp only [Act.put, List.setIfInBounds_toArray, List.set_cons_zero, List.set_cons_succ]
  refine wpAnyH_only (i := 9) rfl (by kernel_rfl) (fun K hK => ?_)
  go_simp
  refine (h_clear y (unhide HXD)).mono ?_
  rintro e w3 ⟨rfl, HY⟩
  go_wp2_with fail
  refine hK.out _ _ (⟨(unhide HY).c0, (unhide HY).v0⟩) (fun hHeld2 => ?_)
  clear hK K hHeld
  have hHeld := hHeld2
  clear hHeld2
  try simp only [Act.put, List.setIfInBounds_toArray, List.set_cons_zero, List.set_cons_succ]
  refine wpAnyH_tk (i := 10) (v := ?_) rfl (by kernel_rfl) (by kernel_rfl) (by kernel_rfl) (fun _ _ _ h => h) (Or.inl ⟨by rfl, ?_⟩) hHeld ?_
  rotate_left
  · intro w hSw
    try dsimp only at hSw
    go_simp
    try with_reducible rfl
  try simp only [Act.put, List.setIfInBounds_toArray, List.set_cons_zero, List.set_cons_succ]
  refine wpAnyH_only (i := 11) rfl (by kernel_rfl) (fun K hK => ?_)
  go_simp
  obtain ⟨e0, e1, e2, e3, e4, g0, g1, g2, g3, g4⟩ := evF ((unhide HY).var (List.Mem.head _))
  go_simp
  have HF := hide ((((((unhide HY).set0 0 (.int .i64 0)).set0 1 (.int .i64 (cln h.f y 8 : Nat))).set0 2 (.bool false)).set0 3 (.string ⟨#[]⟩)).set0 4 (.slice none 0 0))
  go_wp2_with fail
  refine hK.out _ _ (⟨(unhide HF).c0, (unhide HF).v0⟩) (fun hHeld2 => ?_)
  clear hK K hHeld
  have hHeld := hHeld2
  clear hHeld2
  try simp only [Act.put, List.setIfInBounds_toArray, List.set_cons_zero, List.set_cons_succ]
  refine wpAnyH_done (by kernel_rfl) ?_ _
  go_wp2_with fail
  refine bodyPost_ret (v := .agg #[.int .i64 0, .int .i64 (cln h.f y 8 : Nat), .bool false, .string ⟨#[]⟩, .slice none 0 0]) (by simp [results, Tryz.results53, go_sem, e0, e1, e2, e3, e4]) rfl ?_
  exact ⟨tb, st, none, 0, rfl, unhide HS, ((unhide HY).fin _ _ _ _ _).ps.as rfl rfl rfl⟩
theorem h_do (x : HStep) (hsz : x.b.size ≤ maxLen) (hs : Sts st h.seat) (hi : HInv h) (hz : Hall w0 w hb vb tb gb h st r) :
    Calls Tryz.prog 53 #[.pointer (some ⟨hb, 0, none⟩), .agg #[.int .i64 x.d, .int .i64 x.s, .int .i64 x.md, .int .i64 x.at_, .int .i64 x.key, .int .i64 x.to_, .int .i64 x.keep, .string x.b]] w fun e w' => GoEnd w0 hb vb gb r (hdo h x) (hev h x) e w' := by
  by_cases c0 : x.d < 1 ∨ 10 < x.d
  · exact do_kind x hs hz c0
  by_cases c1 : x.d = 1
  · exact do_begin x hs hz c1
  by_cases c8 : x.d = 8
  · exact do_clear x hs hz c8
  by_cases c9 : x.d = 9
  · exact do_crash x hs hz c9
  by_cases hf : fcode st x.s = 0
  · obtain ⟨j, D, d, hj, h5, hsd⟩ := f_yes hf
    by_cases c2 : x.d = 2
    · exact do_on2 x hz c2 (fun hz' => go_get x c2 hj h5 hsd hs hz')
    by_cases c3 : x.d = 3
    · exact do_on3 x hz c3 (fun hz' => go_put x c3 hj h5 hsd hs hz' hsz)
    by_cases c4 : x.d = 4
    · exact do_on4 x hz c4 (fun hz' => go_drop x c4 hj h5 hsd hs hz' hsz)
    by_cases c5 : x.d = 5
    · exact do_on5 x hz c5 (fun hz' => go_list x c5 hj h5 hsd hs hz')
    by_cases c6 : x.d = 6
    · exact do_end6 x hz c6 (fun hz' => end_commit x c6 hj h5 hsd hs hz' hi)
    by_cases c7 : x.d = 7
    · exact do_end7 x hz c7 (fun hz' => end_abort x c7 hj h5 hsd hs hz' hi)
    · exact do_end10 x hz (by omega) (fun hz' => end_tear x (by omega) hj h5 hsd hs hz' hi)
  · by_cases c2 : x.d = 2
    · exact do_on2 x hz c2 (fun hz' => go_none x (by omega) hf hs hz')
    by_cases c3 : x.d = 3
    · exact do_on3 x hz c3 (fun hz' => go_none x (by omega) hf hs hz')
    by_cases c4 : x.d = 4
    · exact do_on4 x hz c4 (fun hz' => go_none x (by omega) hf hs hz')
    by_cases c5 : x.d = 5
    · exact do_on5 x hz c5 (fun hz' => go_none x (by omega) hf hs hz')
    by_cases c6 : x.d = 6
    · exact do_end6 x hz c6 (fun hz' => end_none x (by omega) hf hs hz')
    by_cases c7 : x.d = 7
    · exact do_end7 x hz c7 (fun hz' => end_none x (by omega) hf hs hz')
    · exact do_end10 x hz (by omega) (fun hz' => end_none x (by omega) hf hs hz')
/-- Do of whatever step, of a hall at the head of a list of things. -/
theorem hal_do (x : HStep) (hsz : x.b.size ≤ maxLen) (hz : Zoo w0 w (HalT hb h :: r)) :
    Calls Tryz.prog 53 #[.pointer (some ⟨hb, 0, none⟩), .agg #[.int .i64 x.d, .int .i64 x.s, .int .i64 x.md, .int .i64 x.at_, .int .i64 x.key, .int .i64 x.to_, .int .i64 x.keep, .string x.b]] w fun e w' => ∃ a cap, e = .returned (.agg #[.int .i64 (hev h x).c, .int .i64 (hev h x).n, .bool (hev h x).t, .string (hev h x).s, .slice a (hev h x).l.length cap]) ∧ Hid (Zoo w0 w' (HalT hb (hdo h x) :: PsT a cap (hev h x).l :: r)) := by
  obtain ⟨vb, tb, gb, st, hs, hi, hz'⟩ := hal_open hz
  refine (h_do x hsz hs hi hz').mono ?_
  rintro e w' ⟨tb', st', a, cap, rfl, hs', HY⟩
  exact ⟨a, cap, rfl, hal_close hs' (hi.step x) (unhide HY)⟩
end
end
/- Plain words for halls: one alone writes what it means. -/
section
open Go.RowKit

section
variable {f : Nat → List Ver} {n : Nat} {cs : List (List Ver)} {md y : Int} {rs : List Int} {ws : List Ver}
end
end
/- hallBegun answers true. -/
section
open Go.RowKit
attribute [local go_sem ↓] Go.wp_at_zero Go.wp_at_succ

def hs0 : HSt := ⟨fun _ => [dv], 0, [], fun _ => none⟩
def hx1 : HStep := ⟨1, 0, 1, 0, 0, 0, 0, ⟨#[]⟩⟩
def hs1 : HSt := hdo hs0 hx1
def hx2 : HStep := ⟨1, 1, 2, 0, 0, 0, 0, ⟨#[]⟩⟩
def hs2 : HSt := hdo hs1 hx2
def hx3 : HStep := ⟨3, 0, 0, 0, 1, 0, 0, ⟨#[120]⟩⟩
def hs3 : HSt := hdo hs2 hx3
def hx4 : HStep := ⟨2, 1, 0, 0, 1, 0, 0, ⟨#[]⟩⟩
def hs4 : HSt := hdo hs3 hx4
end
/- Steps of a hall that are handed in; greatSteps, by its contract. -/
section
open Go.RowKit
attribute [local go_sem ↓] Go.wp_at_zero Go.wp_at_succ

structure StH1 (w : World) (b o : Nat) (st : HStep) : Prop where
  c0 : w.cell? ⟨b, o, none⟩ = some (.int .i64 st.d)
  c1 : w.cell? ⟨b, o + 1, none⟩ = some (.int .i64 st.s)
  c2 : w.cell? ⟨b, o + 2, none⟩ = some (.int .i64 st.md)
  c3 : w.cell? ⟨b, o + 3, none⟩ = some (.int .i64 st.at_)
  c4 : w.cell? ⟨b, o + 4, none⟩ = some (.int .i64 st.key)
  c5 : w.cell? ⟨b, o + 5, none⟩ = some (.int .i64 st.to_)
  c6 : w.cell? ⟨b, o + 6, none⟩ = some (.int .i64 st.keep)
  c7 : w.cell? ⟨b, o + 7, none⟩ = some (.string st.b)
  str : st.b.size ≤ maxLen
/-- The steps lie in block b from o on, n of them. -/
def StH (w : World) (b o n : Nat) (st : Nat → HStep) : Prop := ∀ i, i < n → StH1 w b (o + i * 8) (st i)
def HSts (w : World) (a : Option Addr) (n : Nat) (st : Nat → HStep) : Prop := n ≤ maxLen ∧ (0 < n → ∃ b o, a = some ⟨b, o, none⟩ ∧ StH w b o n st)
theorem StH1.kp0 {w w' : World} {b o : Nat} {st : HStep} (h : StH1 w b o st) (hk : Kp [] w w') : StH1 w' b o st :=
  ⟨hk.cell (by simp) h.c0, hk.cell (by simp) h.c1, hk.cell (by simp) h.c2, hk.cell (by simp) h.c3, hk.cell (by simp) h.c4, hk.cell (by simp) h.c5, hk.cell (by simp) h.c6, hk.cell (by simp) h.c7, h.str⟩
theorem HSts.kp0 {w w' : World} {a : Option Addr} {n : Nat} {st : Nat → HStep} (h : HSts w a n st) (hk : Kp [] w w') : HSts w' a n st := ⟨h.1, fun hp => by
  obtain ⟨b, o, e, hs⟩ := h.2 hp
  exact ⟨b, o, e, fun i hi => (hs i hi).kp0 hk⟩⟩

end
/- Plain words for halls: one seat alone, whose deeds are done one behind the other. -/
section
open Go.RowKit

def xb (md : Int) : HStep := ⟨1, 0, md, 0, 0, 0, 0, ⟨#[]⟩⟩
def xc : HStep := ⟨6, 0, 0, 0, 0, 0, 0, ⟨#[]⟩⟩
theorem dpc_key' {md k : Int} {t : Bool} {s : ByteArray} (h : dpc md k t s = 0) : ∃ j : Nat, j < 8 ∧ k = (j : Int) := by
  unfold dpc at h
  split at h
  · rename_i hk
    refine ⟨k.toNat, ?_⟩
    simp only [keyB, decide_eq_true_eq] at hk
    omega
  · simp at h
end
/- Plain words for halls: what a deed's worlds are; its lists. -/
section
open Go.RowKit

/-- The keys from a to b that have a value, of the first m. -/
def wl (v : Nat → Ver) (a b : Int) : Nat → List Ver
  | 0 => []
  | m + 1 => if a ≤ (m : Int) ∧ (m : Int) ≤ b ∧ (v m).t = true then wl v a b m ++ [⟨(m : Int), (v m).t, (v m).s⟩] else wl v a b m
theorem wl_lo {v : Nat → Ver} {a b : Int} : ∀ {m : Nat}, (m : Int) ≤ a → wl v a b m = [] := by
  intro m
  induction m with
  | zero => intro _; rfl
  | succ m ih => intro h; simp only [wl]; rw [if_neg (by omega), ih (by omega)]
theorem wl_hi {v : Nat → Ver} {a b : Int} {m : Nat} (hm : b < (m : Int)) : ∀ j, wl v a b (m + j) = wl v a b m := by
  intro j
  induction j with
  | zero => rfl
  | succ j ih => rw [show m + (j + 1) = (m + j) + 1 by omega]; simp only [wl]; rw [if_neg (by push_cast; omega), ih]
theorem dgo_wl {f : Nat → List Ver} {n : Nat} {y : Int} {ws : List Ver} {v : Nat → Ver} {p t : Nat} (ht : t < 8) (hv : ∀ k : Nat, k < 8 → dg f n y ws k = ⟨0, (v k).t, (v k).s⟩) : ∀ (m k : Nat) (acc : List Ver) (rs : List Int), p ≤ k → k + m ≤ t + 1 → acc = wl v p t k → (dgo f n y ws k m acc rs).1 = wl v p t (k + m) ∧ (dgo f n y ws k m acc rs).2.1 = 0 := by
  intro m
  induction m with
  | zero => intro k acc rs _ _ e; exact ⟨e, rfl⟩
  | succ m ih =>
    intro k acc rs h1 h2 e
    have hk := hv k (by omega)
    simp only [dgo]
    rw [hk]
    dsimp only
    rw [show k + (m + 1) = (k + 1) + m by omega]
    simp only [if_true]
    cases hb : (v k).t with
    | true =>
      simp only [if_true]
      exact ih (k + 1) _ _ (by omega) (by omega) (by rw [e]; simp only [wl]; rw [if_pos ⟨by omega, by omega, hb⟩, hb])
    | false =>
      simp only [Bool.false_eq_true, if_false]
      exact ih (k + 1) _ _ (by omega) (by omega) (by rw [e]; simp only [wl]; rw [if_neg (fun q => by rw [hb] at q; exact absurd q.2.2 (by simp))])
/-- A list that is told is all keys from one to the other that have a value for the deed. -/
theorem dls_wl {f : Nat → List Ver} {n : Nat} {y : Int} {ws : List Ver} {rs : List Int} {v : Nat → Ver} {a b : Int} (hv : ∀ k : Nat, k < 8 → dg f n y ws k = ⟨0, (v k).t, (v k).s⟩) (hc : (dls f n y ws rs a b).2.1 = 0) : (dls f n y ws rs a b).1 = wl v a b 8 := by
  unfold dls at hc ⊢
  split
  · rename_i hk
    simp only [keyB, decide_eq_true_eq] at hk
    obtain ⟨p, rfl⟩ : ∃ p : Nat, a = (p : Int) := ⟨a.toNat, by omega⟩
    obtain ⟨t, rfl⟩ : ∃ t : Nat, b = (t : Int) := ⟨b.toNat, by omega⟩
    rw [Int.toNat_natCast, show ((t : Int) + 1 - (p : Int)).toNat = t + 1 - p by omega]
    by_cases hpt : p ≤ t + 1
    · rw [(dgo_wl (f := f) (n := n) (y := y) (ws := ws) (v := v) (p := p) (t := t) (by omega) hv (t + 1 - p) p [] rs (Nat.le_refl _) (by omega) (wl_lo (Int.le_refl _)).symm).1]
      rw [show p + (t + 1 - p) = t + 1 by omega]
      have := wl_hi (v := v) (a := (p : Int)) (b := (t : Int)) (m := t + 1) (by push_cast; omega) (8 - (t + 1))
      rw [show t + 1 + (8 - (t + 1)) = 8 by omega] at this
      exact this.symm
    · rw [show t + 1 - p = 0 by omega]
      show [] = _
      have h1 := wl_hi (v := v) (a := (p : Int)) (b := (t : Int)) (m := t + 1) (by push_cast; omega) (8 - (t + 1))
      rw [show t + 1 + (8 - (t + 1)) = 8 by omega] at h1
      rw [h1, wl_lo (by push_cast; omega)]
  · rename_i hk
    rw [if_neg hk] at hc
    exact absurd hc (by simp)

/-- The worlds of the seats' deeds: what each of them sees. -/
def Shot (h : HSt) (u : Nat → Nat → Ver) : Prop := ∀ s d, h.seat s = some d → ∀ k, k < 8 → (u s k).t = (hsee h d k).t ∧ (u s k).s = (hsee h d k).s
/-- A deed began: its world is what all keys have behind its commit. -/
theorem Shot.began {h : HSt} {u : Nat → Nat → Ver} (hs : Shot h u) (hi : HInv h) (x : HStep) (hx : x.d = 1) (hc : (hev h x).c = 0) : ∃ (s : Nat) (d : Dp), s < 5 ∧ x.s = (s : Int) ∧ (hdo h x).seat s = some d ∧ fmx (hdo h x).f 8 ≤ d.y ∧ d.y ≤ (hdo h x).n ∧ Shot (hdo h x) (upd u s (shw (hdo h x).f (hdo h x).n d.y 8)) := by
  have hkd := hkind h x
  have hi2 := hi.step x
  have hsees := @hdo_sees h hi x
  generalize hdo h x = h2 at *
  generalize hev h x = e at *
  have bad : ∀ {c : Int}, (evc c).c = c := rfl
  cases hkd with
  | kind c => omega
  | clear c => omega
  | crash c => omega
  | range c1 c2 => exact absurd hc (by simp [evc])
  | began c1 c2 c3 c4 =>
    refine ⟨x.s.toNat, ⟨x.md, bat h.n x.md x.at_, [], []⟩, by omega, by omega, by simp [sit, upd], ?_⟩
    have hse : (sit h x.s (some ⟨x.md, bat h.n x.md x.at_, [], []⟩)).seat x.s.toNat = some ⟨x.md, bat h.n x.md x.at_, [], []⟩ := by simp [sit, upd]
    obtain ⟨k1, k2⟩ := hi2.known _ _ hse
    refine ⟨k1, k2, fun s d' hd' k hk => ?_⟩
    by_cases e : s = x.s.toNat
    · rw [e] at hd' ⊢
      rw [hse] at hd'
      cases hd'
      rw [upd_same]
      unfold hsee
      rw [lay_nil]
      exact ⟨rfl, rfl⟩
    · rw [upd_other _ _ _ e]
      have hd : h.seat s = some d' := by
        simp only [sit, upd_other _ _ _ e] at hd'
        exact hd'
      exact hs s d' hd k hk
  | beganNot c1 c2 c3 c4 => exact absurd hc c4
  | none_ c1 c2 c3 => omega
  | there d0 c1 c2 c3 => exact absurd hc (by simp [evc])
  | get d0 c1 c2 c3 => omega
  | put d0 c1 c2 c3 => omega
  | drop d0 c1 c2 c3 => omega
  | list d0 c1 c2 c3 => omega
  | commit d0 c1 c2 c3 => omega
  | tear d0 c1 c2 c3 => omega
  | abort d0 c1 c2 c3 => omega
/-- A deed wrote: its world has what it wrote. -/
theorem Shot.wrote {h : HSt} {u : Nat → Nat → Ver} (hs : Shot h u) (x : HStep) {s : Nat} {d : Dp} (h5 : s < 5) (hxs : x.s = (s : Int)) (hd : h.seat s = some d) {t : Bool} {b : ByteArray} (hx : (x.d = 3 ∧ t = true ∧ b = x.b) ∨ (x.d = 4 ∧ t = false ∧ b = ⟨#[]⟩)) (hc : (hev h x).c = 0) : ∃ j : Nat, j < 8 ∧ x.key = (j : Int) ∧ Shot (hdo h x) (upd u s (upd (u s) j ⟨0, t, b⟩)) := by
  have hst : h.seat x.s.toNat = some d := by rw [hxs, Int.toNat_natCast]; exact hd
  have key : hdo h x = sit h x.s (some { d with ws := dpw d.md d.ws x.key t b }) ∧ (hev h x).c = dpc d.md x.key t b := by
    rcases hx with ⟨q1, rfl, rfl⟩ | ⟨q1, rfl, rfl⟩
    · have := (HKind.put (h := h) (x := x) d q1 ⟨by omega, by omega⟩ hst).eq
      exact ⟨this.1, by rw [this.2]; rfl⟩
    · have := (HKind.drop (h := h) (x := x) d q1 ⟨by omega, by omega⟩ hst).eq
      exact ⟨this.1, by rw [this.2]; rfl⟩
  rw [key.2] at hc
  obtain ⟨j, hj, ek⟩ := dpc_key' hc
  refine ⟨j, hj, ek, fun s' d' hd' k hk => ?_⟩
  rw [key.1] at hd' ⊢
  by_cases e : s' = s
  · subst e
    have : d' = { d with ws := dpw d.md d.ws x.key t b } := by
      simp only [sit, hxs, Int.toNat_natCast, upd_same, Option.some.injEq] at hd'
      exact hd'.symm
    subst this
    have hw : dpw d.md d.ws x.key t b = d.ws ++ [⟨(j : Int), t, b⟩] := by unfold dpw; rw [if_pos hc, ek]
    have h0 := hs s' d hd k hk
    rw [upd_same]
    unfold hsee at h0 ⊢
    simp only [sit]
    rw [hw, lay_put]
    by_cases ek2 : k = j
    · subst ek2; rw [upd_same, upd_same]; exact ⟨rfl, rfl⟩
    · rw [upd_other _ _ _ ek2, upd_other _ _ _ ek2]; exact h0
  · rw [upd_other _ _ _ e]
    have hd2 : h.seat s' = some d' := by
      simp only [sit, hxs, Int.toNat_natCast, upd_other _ _ _ e] at hd'
      exact hd'
    exact hs s' d' hd2 k hk
theorem Shot.listed {h : HSt} {u : Nat → Nat → Ver} (hs : Shot h u) (hi : HInv h) (x : HStep) {s : Nat} {d : Dp} (h5 : s < 5) (hxs : x.s = (s : Int)) (hd : h.seat s = some d) (hx : x.d = 5) (hc : (hev h x).c = 0) : (hev h x).l = wl (u s) x.key x.to_ 8 := by
  have hst : h.seat x.s.toNat = some d := by rw [hxs, Int.toNat_natCast]; exact hd
  have key := (HKind.list (h := h) (x := x) d hx ⟨by omega, by omega⟩ hst).eq.2
  rw [key] at hc ⊢
  dsimp only at hc ⊢
  exact dls_wl (fun k hk => by rw [dg_see hi hd hk, (hs s d hd k hk).1, (hs s d hd k hk).2]) hc
end
/- Plain words for halls: first come. -/
section
open Go.RowKit

end
/- Rows of all keys' values: append onto them, and one of them read; beside a vault. -/
section
open Go.RowKit

section
variable {w0 w W w2 : World} {V : Thing} {r : List Thing} {a : Option Addr} {cap : Nat} {us : List (Nat → Ver)}
end
end
/- A hall's log; five answers in a variable. -/
section
open Go.RowKit
attribute [local go_sem ↓] Go.wp_at_zero Go.wp_at_succ

section
variable {w0 w : World} {hb vb tb gb : Nat} {h : HSt} {st : Nat → Sd} {r : List Thing}
end
theorem Sts.some {st : Nat → Sd} {seat : Nat → Option Dp} (h : Sts st seat) (s : Nat) : (st s).isSome = (seat s).isSome := by
  rw [← h s]
  cases st s <;> rfl
end
/- Plain words for HallClears: what is asked of what is forgotten. -/
section
open Go.RowKit
attribute [local go_sem ↓] Go.wp_at_zero Go.wp_at_succ

theorem tr_a_known {h : HSt} (hi : HInv h) {s : Nat} {d : Dp} (hs : h.seat s = some d) (k : Int) : (dg h.f h.n d.y d.ws k).a = 0 ∨ (dg h.f h.n d.y d.ws k).a = 1 := by
  cases q : keyB k with
  | false => right; unfold dg; rw [q]; simp
  | true =>
    left
    simp only [keyB, decide_eq_true_eq] at q
    obtain ⟨j, rfl⟩ : ∃ j : Nat, k = (j : Int) := ⟨k.toNat, by omega⟩
    rw [dg_see hi hs (by omega)]
theorem dls_code {h : HSt} (hi : HInv h) {s : Nat} {d : Dp} (hs : h.seat s = some d) (a b : Int) : (dls h.f h.n d.y d.ws d.rs a b).2.1 = 0 ∨ (dls h.f h.n d.y d.ws d.rs a b).2.1 = 1 := by
  unfold dls
  split
  · rename_i hk
    left
    simp only [keyB, decide_eq_true_eq] at hk
    obtain ⟨p, rfl⟩ : ∃ p : Nat, a = (p : Int) := ⟨a.toNat, by omega⟩
    obtain ⟨t, rfl⟩ : ∃ t : Nat, b = (t : Int) := ⟨b.toNat, by omega⟩
    rw [Int.toNat_natCast, show ((t : Int) + 1 - (p : Int)).toNat = t + 1 - p by omega]
    by_cases hpt : p ≤ t + 1
    · exact (dgo_wl (v := hsee h d) (p := p) (t := t) (by omega) (fun k hk => dg_see hi hs hk) (t + 1 - p) p [] d.rs (Nat.le_refl _) (by omega) (wl_lo (Int.le_refl _)).symm).2
    · rw [show t + 1 - p = 0 by omega]; rfl
  · right; rfl
/-- How long a list is that is told. -/
theorem dgo_len8 {f : Nat → List Ver} {n : Nat} {y : Int} {ws : List Ver} : ∀ (m k : Nat) (acc : List Ver) (rs : List Int), (dgo f n y ws k m acc rs).1.length ≤ acc.length + m := by
  intro m
  induction m with
  | zero => intro k acc rs; simp [dgo]
  | succ m ih =>
    intro k acc rs
    simp only [dgo]
    split
    · split
      · have := ih (k + 1) (acc ++ [⟨k, (dg f n y ws k).t, (dg f n y ws k).s⟩]) (dr f n y rs ws k)
        simp at this
        omega
      · have := ih (k + 1) acc (dr f n y rs ws k)
        omega
    · simp
theorem lt_of_cell {w : World} {b o : Nat} {v : Value} (h : w.cell? ⟨b, o, none⟩ = some v) : b < w.heap.size := by
  rcases Nat.lt_or_ge b w.heap.size with q | q
  · exact q
  · have : w.heap[b]? = none := Array.getElem?_eq_none q
    simp [World.cell?, this] at h
section
variable {w0 w : World} {hb : Nat} {h : HSt} {os : List Thing}
theorem ps_slo {a : Option Addr} {cap : Nat} {l : List Ver} (hz : Zoo w0 w os) (hm : PsT a cap l ∈ os) : SlO w a l := by
  obtain ⟨F, h1, _⟩ := zoo_mem hz hm
  exact slo_own h1 rfl
end
end
/- The desk's say, by its contract. -/
section
open Go.RowKit
attribute [local go_sem ↓] Go.wp_at_zero Go.wp_at_succ

theorem join_pos {x : List UInt8} {r : List (List UInt8)} (h : x ≠ []) : 0 < (Lib.join (x :: r) [32]).length := by
  cases r with
  | nil => rw [Lib.join_one]; exact List.length_pos_iff.2 h
  | cons y r =>
    have : Lib.join (x :: y :: r) [32] = x ++ ([32] ++ Lib.join (y :: r) [32]) := by simp [Lib.join, List.intercalate]
    rw [this, List.length_append]
    have := List.length_pos_iff.2 h
    omega
theorem sjoin (ws : List (List UInt8)) (g o c : Nat) (w : World) (hw : ∀ k l, ws[k]? = some l → w.cell? ⟨g, o + k, none⟩ = some (.string ⟨l.toArray⟩)) (h0 : 0 < ws.length) (hc : ws.length ≤ c) (hm : ws.length ≤ 1000) (hlen : (Lib.join ws [32]).length ≤ 100000) :
    Calls Tryz.prog 48 #[.slice (some ⟨g, o, none⟩) ws.length c, .string ⟨#[32]⟩] w fun e w' => e = .returned (.string ⟨(Lib.join ws [32]).toArray⟩) ∧ Kp [] w w' := by
  have e1 : (ws.map fun l => ByteArray.mk l.toArray).map (·.data.toList) = ws := by simp [Function.comp_def]
  have hlt : g < w.heap.size := by
    obtain ⟨l, hl⟩ : ∃ l, ws[0]? = some l := ⟨_, List.getElem?_eq_getElem h0⟩
    exact lt_of_cell (hw 0 l hl)
  have h := Tryz.strings_Join g o c (ws.map fun l => ByteArray.mk l.toArray) ⟨#[32]⟩ w (by
    intro j x hx
    rw [List.getElem?_map] at hx
    obtain ⟨l, hl, rfl⟩ := Option.map_eq_some_iff.1 hx
    exact hw j l hl) hlt (by simp; omega) (by simpa using hc) (by rw [e1]; exact Nat.le_trans hlen (by omega))
  rw [e1, List.length_map] at h
  refine h.mono ?_
  rintro e w' ⟨rfl, hb⟩
  exact ⟨rfl, kp_of_below hb⟩
section
variable {w0 w : World} {l1 r : List Thing} {d hb : Nat} {bs : List UInt8}
theorem dsk_cell (hz : Zoo w0 w (l1 ++ DskT d hb bs :: r)) : w.cell? ⟨d, 2, none⟩ = some (.pointer (some ⟨hb, 0, none⟩)) := by
  obtain ⟨F, ⟨p, a, cap, h1, h2, _⟩, _⟩ := hz.at_
  exact cell_of_block h2 rfl
/-- More is told: over a list of things. -/
theorem z_write (hz : Zoo w0 w (l1 ++ DskT d hb bs :: r)) (l : List UInt8) (hl0 : 0 < l.length) (hm : bs.length + l.length ≤ 100000) :
    Calls Tryz.prog 47 #[.pointer (some ⟨d, 0, none⟩), .string ⟨l.toArray⟩] w fun e w' => (∃ v, e = .returned v) ∧ Hid (Zoo w0 w' (l1 ++ DskT d hb (bs ++ l) :: r)) := by
  obtain ⟨F, h1, k⟩ := hz.at_
  refine (dwrite h1 hz.base ⟨l.toArray⟩ (by rw [mk8]; exact hl0) (by rw [mk8]; exact hm)).mono ?_
  rintro e w' ⟨hv, hch⟩
  rw [mk8] at hch
  exact ⟨hv, k _ _ (unhide hch)⟩
set_option maxHeartbeats 2000000 in
theorem dsay (ws : List (List UInt8)) (n : Nat) (hn : n = ws.length) (g o c : Nat) (hz : Zoo w0 w (l1 ++ DskT d hb bs :: r)) (hw : ∀ k l, ws[k]? = some l → w.cell? ⟨g, o + k, none⟩ = some (.string ⟨l.toArray⟩)) (hj0 : 0 < (Lib.join ws [32]).length) (hc : ws.length ≤ c) (hm : ws.length ≤ 1000) (hlen : bs.length + (say ws).length ≤ 100000) :
    Calls Tryz.prog 24 #[.pointer (some ⟨d, 0, none⟩), .slice (some ⟨g, o, none⟩) n c] w fun e w' => e = .returned (.tuple #[]) ∧ Hid (Zoo w0 w' (l1 ++ DskT d hb (bs ++ say ws) :: r)) := by
  subst hn
  have h0 : 0 < ws.length := by
    cases ws with
    | nil => simp [Lib.join, List.intercalate] at hj0
    | cons x y => simp
  unfold say at *
  rw [List.length_append] at hlen
  have hl1 : ([10] : List UInt8).length = 1 := rfl
  rw [hl1] at hlen
  have hj : ∀ W, Kp [] w W → Calls Tryz.prog 48 #[.slice (some ⟨g, o, none⟩) ws.length c, .string ⟨#[32]⟩] W fun e w' => e = .returned (.string ⟨(Lib.join ws [32]).toArray⟩) ∧ Kp [] W w' := fun W hk => sjoin ws g o c W (fun k l hl => hk.cell (by simp) (hw k l hl)) h0 hc hm (by omega)
  have HJ := hide hj
  clear hj
  have HZ := hide hz
  clear hw hz
  generalize Lib.join ws [32] = js at *
  generalize ws.length = m at *
  go_enter Tryz.func24, Tryz.ntmps24
  go_wp2_with fail
  go_region_with (first | (go_at_call 48; refine (unhide HJ _ (Kp.refl [] w).drew).mono ?_; rintro e w1 ⟨rfl, hk1⟩; have HZ1 := hide ((unhide HZ).kp0 ((Kp.refl [] w).drew.trans0 hk1)); clear hk1) | (go_at_call 47; refine (z_write (unhide HZ1) js hj0 (by omega)).mono ?_; rintro e w2 ⟨⟨v, rfl⟩, HZ2⟩))
  have HW2 := hide (z_write (unhide HZ2) [10] (by simp) (by rw [List.length_append]; exact hlen))
  go_wp2_with (go_at_call 47; refine (unhide HW2).mono ?_; rintro e w3 ⟨⟨v3, rfl⟩, HZ3⟩)
  go_end0
  refine ⟨rfl, ?_⟩
  rw [← List.append_assoc]
  exact HZ3
end
end
/- The desk's pairs: what a list tells, word by word, by its contract. -/
section
open Go.RowKit
attribute [local go_sem ↓] Go.wp_at_zero Go.wp_at_succ

theorem step_krowS {ops : Array Oper} {o : Oper} {ac : Act} {w : World} {K : Act → World → Prop} {Q : Exit → Act → World → Prop} {E : Prop} (hw : Region.wanted o (yielded ops ac.tmps) = true) (s x : Operand) (t : TypeId)
    (ho : o.op = .call { callee := .builtin .append, args := #[s, x], argTypes := #[t, t] }) {e : TypeId} {k by_ : Nat} {z : Value} (hu : Tryz.prog.underlying t = some (.slice e)) (hi : (Tryz.prog.info? e).map (fun i => (i.zero, i.size, i.bytes)) = some (some z, k, by_)) (hz : z.cells.size = k) (hby : by_ ≤ 1000)
    {B : Nat} {a : Option Addr} {n cap : Nat} {xs : List Value} (h : KRow e k B w a n cap xs) (hB : B ≤ w.heap.size) (xv : Value) (news : List Value) (m : Nat)
    (hs : ac.eval s = .slice a n cap) (hx : ac.eval x = xv) (hsrc : Src Tryz.prog k t xv m news w) (hm : n + m ≤ 100000) (N : Nat) (hN : n + m = N)
    (kk : ∀ a' cap' w', Hid (KRow e k B w' a' N cap' (xs ++ news)) → Hid (Kp (ob a) w w') → Hid (∀ x ∈ ob a', x ∈ ob a ∨ w.heap.size ≤ x) → K (ac.put o.dst (.slice a' N cap')) w') :
    if Region.wanted o (yielded ops ac.tmps) = true then Oper.wp Tryz.prog o ac w K Q else E := by
  subst hN
  obtain ⟨a', cap', w', hr, h1, h2, h3⟩ := krow_app hu hi hz hby h hB o.type xv news m hsrc hm
  rw [if_pos hw]
  unfold Oper.wp execOp
  simp only [ho, resolve, invoke, builtin, Sem.run_bind, Sem.run_pure, Result.andThen_ok, List.map_toArray, List.map_cons, List.map_nil, hs, hx, hr]
  exact kk a' cap' w' h1 h2 h3
theorem c3_of {w : World} {p : Nat} {x y z : Value} {T : TypeId} (h : w.heap[p]? = some (.cells #[x, y, z] T (0, 0))) : w.cell? ⟨p, 0, none⟩ = some x ∧ w.cell? ⟨p, 1, none⟩ = some y ∧ w.cell? ⟨p, 1 + 1, none⟩ = some z := ⟨cell_of_block h rfl, cell_of_block h rfl, cell_of_block h rfl⟩
theorem vtx_len (t : Bool) (s : ByteArray) (hs : s.size ≤ 30000) : (vtx t s).length ≤ 1 + 3 * s.size := by
  unfold vtx
  split
  · have := (sh_len s.data.toList).2
    rw [len8] at this
    simp; omega
  · simp
def PvOk (l : List Ver) : Prop := ∀ p ∈ l, p.s.size ≤ 30000 ∧ -9223372036854775808 ≤ p.a ∧ p.a ≤ 9223372036854775807
def PvEnd (l : List Ver) (w : World) (e : Ending) (w' : World) : Prop := ∃ a cap, e = .returned (.slice a l.length cap) ∧ KRow 9 1 w.heap.size w' a l.length cap (strs (l.map pvx)) ∧ Kp [] w w'
theorem kw_k {w0 w : World} {e : TypeId} {k : Nat} {a : Option Addr} {n cap : Nat} {xs : List Value} {r : List Thing} (hz : Zoo w0 w (KwT e k a n cap xs :: r)) : KRow e k w0.heap.size w a n cap xs := kw_row (l1 := []) hz
set_option maxHeartbeats 4000000 in
theorem dpairs (l : List Ver) (n : Nat) (hn : n = l.length) (hn8 : n ≤ 1000) (a : Option Addr) (cap : Nat) (w : World) (hg : Gnd w) (hs : SlO w a l) (hb : PvOk l) :
    Calls Tryz.prog 57 #[.slice a n cap] w fun e w' => PvEnd l w e w' := by
  have hu : Tryz.prog.underlying 22 = some (.slice 9) := Tryz.underlying22
  have HG := hide hg
  have HS := hide hs
  have HB := hide hb
  have HN := hide hn
  clear hg hs hb hn
  go_enter Tryz.func57, Tryz.ntmps57
  go_wp2_with fail
  go_loopw [3, 8] (fun x y wr => ∃ (i : Nat) (aO : Option Addr) (cO : Nat), i ≤ n ∧ x = .slice aO i cO ∧ y = .int .i64 i ∧ Hid (Zoo w wr [KwT 9 1 aO i cO (strs ((l.take i).map pvx))])) (fun _ y _ => n - (intOf y).toNat)
  case atStart => exact ⟨0, none, 0, Nat.zero_le _, rfl, rfl, kw_nil 9 1 (zoo_nil (Kp.refl [] w))⟩
  case round =>
    obtain ⟨i, aO, cO, hi, rfl, rfl, HZ⟩ := hrel
    by_cases hlt : i < n
    · have i1 : (i : Int) < (n : Int) := by omega
      have i0 : (0 : Int) ≤ (i : Int) := by omega
      have hln : i < l.length := by rw [← unhide HN]; exact hlt
      obtain ⟨g, o, rfl, hsl⟩ := ((unhide HS).kp0 (unhide HZ).kp) (by omega)
      have q0 := hsl.at0 i hln
      have q1 := hsl.at1 i hln
      have q2 : wr.cell? ⟨g, o + i * 3 + 1 + 1, none⟩ = _ := hsl.at2 i hln
      obtain ⟨p, hp⟩ : ∃ p, l[i]? = some p := ⟨_, List.getElem?_eq_getElem hln⟩
      have e0 : va l i = p.a := by unfold va; rw [List.getD_eq_getElem?_getD, hp]; rfl
      have e1 : vt l i = p.t := by unfold vt; rw [List.getD_eq_getElem?_getD, hp]; rfl
      have e2 : vb l i = p.s := by unfold vb; rw [List.getD_eq_getElem?_getD, hp]; rfl
      rw [e0] at q0
      rw [e1] at q1
      rw [e2] at q2
      have htk : l.take (i + 1) = l.take i ++ [p] := by rw [List.take_add_one, hp]; rfl
      have HT := hide htk
      obtain ⟨b1, b2, b3⟩ := unhide HB p (List.mem_of_getElem? hp)
      clear hsl hp e0 e1 e2 htk
      obtain ⟨ka, kt, ks⟩ := p
      dsimp only at q0 q1 q2 b1 b2 b3
      have hcat : ¬ 9223372036854775807 < (Lib.itoa ka).length + (vtx kt ks).length := by
        have h1 := Lib.itoa_length_le ka b2 b3
        have h2 := vtx_len kt ks b1
        omega
      have HX := hide ((unhide HZ).box #[.int .i64 ka, .bool kt, .string ks] 106)
      go_wp2_with fail
      generalize wr.alloc (.cells #[.int .i64 ka, .bool kt, .string ks] 106) = W5 at *
      generalize wr.heap.size = p5 at *
      clear q0 q1 q2
      refine wp_region_held_drew (S := fun w' => w'.cell? ⟨p5, 0, none⟩ = some (.int .i64 ka) ∧ w'.cell? ⟨p5, 1, none⟩ = some (.bool kt) ∧ w'.cell? ⟨p5, 1 + 1, none⟩ = some (.string ks)) (by kernel_rfl) (c3_of (zoo_varm ((unhide HX).kp0 (Kp.refl [] W5).drew) (List.Mem.head _))) (fun hHeld => ?_)
      have HA0 := hide ((unhide HX).kp0 (Kp.refl [] W5).drew)
      generalize World.drew _ = WD at HA0 hHeld ⊢
      refine wpAnyH_tk (i := 0) (v := ?_) rfl (by kernel_rfl) (by kernel_rfl) (by kernel_rfl) (fun _ _ _ h => h) (Or.inl ⟨by rfl, ?_⟩) hHeld ?_
      rotate_left
      · intro w hSw
        try dsimp only at hSw
        go_simp
        try with_reducible rfl
      try simp only [Act.put, List.setIfInBounds_toArray, List.set_cons_zero, List.set_cons_succ]
      refine wpAnyH_tk (i := 1) (v := ?_) rfl (by kernel_rfl) (by kernel_rfl) (by kernel_rfl) (fun _ _ _ h => h) (Or.inl ⟨by rfl, ?_⟩) hHeld ?_
      rotate_left
      · intro w hSw
        try dsimp only at hSw
        go_simp
        try with_reducible rfl
      try simp only [Act.put, List.setIfInBounds_toArray, List.set_cons_zero, List.set_cons_succ]
      refine wpAnyH_tk (i := 2) (v := ?_) rfl (by kernel_rfl) (by kernel_rfl) (by kernel_rfl) (fun _ _ _ h => h) (Or.inl ⟨by rfl, ?_⟩) hHeld ?_
      rotate_left
      · intro w hSw
        try dsimp only at hSw
        go_simp
        try with_reducible rfl
      try simp only [Act.put, List.setIfInBounds_toArray, List.set_cons_zero, List.set_cons_succ]
      refine wpAnyH_tk (i := 4) (v := ?_) rfl (by kernel_rfl) (by kernel_rfl) (by kernel_rfl) (fun _ _ _ h => h) (Or.inl ⟨by rfl, ?_⟩) hHeld ?_
      rotate_left
      · intro w hSw
        try dsimp only at hSw
        go_simp
        try with_reducible rfl
      try simp only [Act.put, List.setIfInBounds_toArray, List.set_cons_zero, List.set_cons_succ]
      refine wpAnyH_tk (i := 5) (v := ?_) rfl (by kernel_rfl) (by kernel_rfl) (by kernel_rfl) (fun _ _ _ h => h) (Or.inl ⟨by rfl, ?_⟩) hHeld ?_
      rotate_left
      · intro w hSw
        try dsimp only at hSw
        go_simp
        try with_reducible rfl
      try simp only [Act.put, List.setIfInBounds_toArray, List.set_cons_zero, List.set_cons_succ]
      refine wpAnyH_only (i := 3) rfl (by kernel_rfl) (fun K hK => ?_)
      go_simp
      refine (sitoa ka WD (gnd_kp (unhide HG) (unhide HA0).kp) b2 b3).mono ?_
      rintro e w3 ⟨rfl, hk3⟩
      have HA1 := hide ((unhide HA0).kp0 hk3)
      clear hk3
      go_wp2_with fail
      refine hK.out _ _ (c3_of (zoo_varm (unhide HA1) (List.Mem.head _))) (fun hHeld2 => ?_)
      clear hK K hHeld
      have hHeld := hHeld2
      clear hHeld2
      try simp only [Act.put, List.setIfInBounds_toArray, List.set_cons_zero, List.set_cons_succ]
      refine wpAnyH_only (i := 6) rfl (by kernel_rfl) (fun K hK => ?_)
      go_simp
      refine (tvalue kt ks w3 b1).mono ?_
      rintro e w4 ⟨rfl, hk4⟩
      have HA2 := hide ((unhide HA1).kp0 (kp_of_below hk4))
      clear hk4
      go_wp2_with fail
      refine hK.out _ _ (c3_of (zoo_varm (unhide HA2) (List.Mem.head _))) (fun hHeld2 => ?_)
      clear hK K hHeld
      have hHeld := hHeld2
      clear hHeld2
      try simp only [Act.put, List.setIfInBounds_toArray, List.set_cons_zero, List.set_cons_succ]
      refine wpAnyH_tk (i := 7) (v := ?_) rfl (by kernel_rfl) (by kernel_rfl) (by kernel_rfl) (fun _ _ _ h => h) (Or.inl ⟨by rfl, ?_⟩) hHeld ?_
      rotate_left
      · intro w hSw
        try dsimp only at hSw
        go_simp
        try with_reducible rfl
      try simp only [Act.put, List.setIfInBounds_toArray, List.set_cons_zero, List.set_cons_succ]
      refine wpAnyH_only (i := 8) rfl (by kernel_rfl) (fun K hK => ?_)
      go_simp
      have HA3 := hide ((unhide HA2).box #[.string (ByteArray.mk (Lib.itoa ka).toArray ++ ByteArray.mk (vtx kt ks).toArray)] 9)
      refine hK.out _ _ (c3_of (zoo_varm (unhide HA3) (List.Mem.tail _ (List.Mem.head _)))) (fun hHeld2 => ?_)
      clear hK K hHeld
      have hHeld := hHeld2
      clear hHeld2
      try simp only [Act.put, List.setIfInBounds_toArray, List.set_cons_zero, List.set_cons_succ]
      have HBX := hide (Zoo.var (unhide HA3))
      have hBw := Zoo.base (unhide HA3)
      generalize w4.alloc (.cells #[.string (ByteArray.mk (Lib.itoa ka).toArray ++ ByteArray.mk (vtx kt ks).toArray)] 9) = W6 at *
      generalize w4.heap.size = p6 at *
      refine wpAnyH_only (i := 9) rfl (by kernel_rfl) (fun K hK => ?_)
      refine step_krowS (by rfl) (.tmp 12) (.tmp 20) 22 (by rfl) hu Tryz.infoS rfl (by omega) (kw_row (l1 := [BoxT p6 #[.string (ByteArray.mk (Lib.itoa ka).toArray ++ ByteArray.mk (vtx kt ks).toArray)] 9, BoxT p5 #[.int .i64 ka, .bool kt, .string ks] 106]) (unhide HA3)) hBw (.slice (some ⟨p6, 0, none⟩) 1 1) [.string (ByteArray.mk (Lib.itoa ka).toArray ++ ByteArray.mk (vtx kt ks).toArray)] 1 (by rfl) (by rfl) (src_built (cs := #[.string (ByteArray.mk (Lib.itoa ka).toArray ++ ByteArray.mk (vtx kt ks).toArray)]) hu (unhide HBX) rfl (by simp [Value.oneCell'])) (by omega) (i + 1) rfl ?_
      intro a2 c2 w9 g1 g2 g3
      have HA4 := hide (kw_app (l1 := [BoxT p6 #[.string (ByteArray.mk (Lib.itoa ka).toArray ++ ByteArray.mk (vtx kt ks).toArray)] 9, BoxT p5 #[.int .i64 ka, .bool kt, .string ks] 106]) (unhide HA3) (unhide g1) (unhide g2) (unhide g3))
      refine hK.out _ _ (c3_of (zoo_varm (unhide HA4) (List.Mem.tail _ (List.Mem.head _)))) (fun hHeld2 => ?_)
      clear hK K hHeld
      have hHeld := hHeld2
      clear hHeld2
      try simp only [Act.put, List.setIfInBounds_toArray, List.set_cons_zero, List.set_cons_succ]
      refine wpAnyH_tk (i := 10) (v := ?_) rfl (by kernel_rfl) (by kernel_rfl) (by kernel_rfl) (fun _ _ _ h => h) (Or.inl ⟨by rfl, ?_⟩) hHeld ?_
      rotate_left
      · intro w hSw
        try dsimp only at hSw
        go_simp
        try with_reducible rfl
      try simp only [Act.put, List.setIfInBounds_toArray, List.set_cons_zero, List.set_cons_succ]
      refine wpAnyH_done (by kernel_rfl) ?_ _
      clear hHeld g1 g2 g3
      go_wp2_with fail
      refine ⟨⟨i + 1, a2, c2, by omega, rfl, by go_num, ?_⟩, by simp [intOf]; omega⟩
      rw [unhide HT, List.map_append, strs_app]
      have e9 : strs ([(⟨ka, kt, ks⟩ : Ver)].map pvx) = [.string (ByteArray.mk (Lib.itoa ka).toArray ++ ByteArray.mk (vtx kt ks).toArray)] := by simp [strs, pvx, mk_app]
      rw [e9]
      exact Zoo.tail (Zoo.tail (unhide HA4))
    · have i1 : ¬ (i : Int) < (n : Int) := by omega
      have e : i = n := by omega
      have fin : PvEnd l w (.returned (.slice aO n cO)) wr := by
        have hk := kw_k (unhide HZ)
        rw [List.take_of_length_le (by rw [← unhide HN]; omega), e] at hk
        refine ⟨aO, cO, by rw [← unhide HN], by rw [← unhide HN]; exact hk, (unhide HZ).kp⟩
      have HF := hide fin
      clear fin
      subst e
      go_wp2_with fail
      go_ret
      exact unhide HF
end
/- The desk's tellers: what is told of an event, by their contracts. -/
section
open Go.RowKit
attribute [local go_sem ↓] Go.wp_at_zero Go.wp_at_succ

theorem cells_strs {w : World} {g : Nat} {cs : Array Value} {T : TypeId} (ws : List (List UInt8)) (hb : w.heap[g]? = some (.cells cs T (0, 0))) (hc : cs.toList = strs ws) : ∀ k l, ws[k]? = some l → w.cell? ⟨g, 0 + k, none⟩ = some (.string ⟨l.toArray⟩) := by
  intro k l hl
  rw [Nat.zero_add]
  refine cell_of_block hb ?_
  have h2 : cs.toList[k]? = some (.string ⟨l.toArray⟩) := by rw [hc]; exact strs_at hl
  simpa using h2
theorem krow_src {B : Nat} {w : World} {a : Option Addr} {n cap : Nat} {ws : List (List UInt8)} (h : KRow 9 1 B w a n cap (strs ws)) : Src Tryz.prog 1 22 (.slice a n cap) n (strs ws) w := by
  have hw := krow_wrd h
  have hl := h.1
  rw [strs_len, Nat.mul_one] at hl
  subst hl
  cases ws with
  | nil =>
    cases a with
    | none => exact Src.ofNil w Tryz.underlying22 cap
    | some a => exact Src.ofSlice w Tryz.underlying22 a 0 cap [] (by simp) (by simp) (by simp)
  | cons x y =>
    obtain ⟨g, o, rfl, hc⟩ := hw (by simp)
    refine Src.ofSlice w Tryz.underlying22 ⟨g, o, none⟩ _ cap _ (by rw [strs_len]; omega) ?_ (strs_one _)
    intro j u hj
    rw [addr_add]
    unfold strs at hj
    rw [List.getElem?_map] at hj
    obtain ⟨l, hl, rfl⟩ := Option.map_eq_some_iff.1 hj
    exact hc j l hl
theorem kw_lit {w0 w : World} {r : List Thing} (hz : Zoo w0 w r) (ws : List (List UInt8)) (n : Nat) (hn : n = ws.length) (cs : Array Value) (hc : cs.toList = strs ws) (hm : n ≤ 1000) : Zoo w0 (w.alloc (.cells cs 9)) (KwT 9 1 (some ⟨w.heap.size, 0, none⟩) n n (strs ws) :: r) := by
  have hs : cs.size = n := by rw [← Array.length_toList, hc, strs_len, hn]
  refine hz.cons (F := [w.heap.size]) ⟨⟨by rw [strs_len]; omega, .inr ⟨w.heap.size, cs, rfl, Nat.le_refl _, heap_alloc_new w _, Nat.le_refl _, by unfold maxLen; omega, by omega, ?_⟩⟩, rfl⟩ ((Kp.refl [] w).alloc _)
  rw [hc, List.take_of_length_le (by rw [strs_len]; omega)]
structure EvOk (v : Ev) : Prop where
  s : v.s.size ≤ 30000
  l : PvOk v.l
  len : v.l.length ≤ 8
  n0 : -9223372036854775808 ≤ v.n
  n1 : v.n ≤ 9223372036854775807
  c0 : -9223372036854775808 ≤ v.c
  c1 : v.c ≤ 9223372036854775807
section
variable {w0 w : World} {r : List Thing} {d hb q : Nat} {bs : List UInt8}
set_option maxHeartbeats 2000000 in
theorem tel4 (v : Ev) (a : Option Addr) (cap : Nat) (hv : EvOk v) (hg : Gnd w0) (hz : Zoo w0 w (BoxT q #[.pointer (some ⟨d, 0, none⟩)] 25 :: DskT d hb bs :: r)) (hlen : bs.length + (say ([[111, 107]])).length ≤ 100000) :
    Calls Tryz.prog 59 #[.agg #[.int .i64 v.c, .int .i64 v.n, .bool v.t, .string v.s, .slice a v.l.length cap], .pointer (some ⟨q, 0, none⟩)] w fun e w' => e = .returned (.tuple #[]) ∧ Hid (Zoo w0 w' (BoxT q #[.pointer (some ⟨d, 0, none⟩)] 25 :: DskT d hb (bs ++ say ([[111, 107]])) :: r)) := by
  obtain ⟨v1, v2, v3, v4, v5, v6, v7⟩ := hv
  obtain ⟨vc, vn, vt, vs, vl⟩ := v
  dsimp only at *
  have HX := hide (zoo_box2 hz #[.int .i64 vc, .int .i64 vn, .bool vt, .string vs, .slice a vl.length cap] #[.string ⟨#[111, 107]⟩] 102 9)
  have c0 := fun o => cell_of_block (i := 0) (zoo_varm (hz.kp0 ((Kp.refl [] w).alloc o)) (List.Mem.head _)) rfl
  clear hz
  go_enter Tryz.func59, Tryz.ntmps59
  go_wp2_with (go_at_call 24; refine (dsay (l1 := [_, _, _]) [[111, 107]] 1 rfl _ 0 1 (unhide HX) (cells_strs [[111, 107]] (zoo_varm (unhide HX) (List.Mem.head _)) rfl) (join_pos (by decide)) (by decide) (by decide) hlen).mono ?_; rintro e w3 ⟨rfl, HZ3⟩)
  go_end0
  exact ⟨rfl, Zoo.tail (Zoo.tail (unhide HZ3))⟩
set_option maxHeartbeats 2000000 in
theorem tel1 (v : Ev) (a : Option Addr) (cap : Nat) (hv : EvOk v) (hg : Gnd w0) (hz : Zoo w0 w (BoxT q #[.pointer (some ⟨d, 0, none⟩)] 25 :: DskT d hb bs :: r)) (hlen : bs.length + (say ([[104, 97, 115], vtx v.t v.s])).length ≤ 100000) :
    Calls Tryz.prog 54 #[.agg #[.int .i64 v.c, .int .i64 v.n, .bool v.t, .string v.s, .slice a v.l.length cap], .pointer (some ⟨q, 0, none⟩)] w fun e w' => e = .returned (.tuple #[]) ∧ Hid (Zoo w0 w' (BoxT q #[.pointer (some ⟨d, 0, none⟩)] 25 :: DskT d hb (bs ++ say ([[104, 97, 115], vtx v.t v.s])) :: r)) := by
  obtain ⟨v1, v2, v3, v4, v5, v6, v7⟩ := hv
  obtain ⟨vc, vn, vt, vs, vl⟩ := v
  dsimp only at *
  have HG := hide hg
  have HX := hide (hz.box #[.int .i64 vc, .int .i64 vn, .bool vt, .string vs, .slice a vl.length cap] 102)
  clear hz hg
  go_enter Tryz.func54, Tryz.ntmps54
  go_wp2_with fail
  generalize w.alloc (.cells #[.int .i64 vc, .int .i64 vn, .bool vt, .string vs, .slice a vl.length cap] 102) = W5 at *
  generalize w.heap.size = p5 at *
  refine wp_region_held_drew (S := fun w' => w'.cell? ⟨q, 0, none⟩ = some (.pointer (some ⟨d, 0, none⟩)) ∧ w'.cell? ⟨p5, 2, none⟩ = some (.bool vt) ∧ w'.cell? ⟨p5, 2 + 1, none⟩ = some (.string vs)) (by kernel_rfl) ⟨cell_of_block (zoo_varm ((unhide HX).kp0 (Kp.refl [] W5).drew) (List.Mem.tail _ (List.Mem.head _))) rfl, cell_of_block (zoo_varm ((unhide HX).kp0 (Kp.refl [] W5).drew) (List.Mem.head _)) rfl, cell_of_block (zoo_varm ((unhide HX).kp0 (Kp.refl [] W5).drew) (List.Mem.head _)) rfl⟩ (fun hHeld => ?_)
  have HA0 := hide ((unhide HX).kp0 (Kp.refl [] W5).drew)
  generalize World.drew _ = WD at HA0 hHeld ⊢
  refine wpAnyH_tk (i := 0) (v := ?_) rfl (by kernel_rfl) (by kernel_rfl) (by kernel_rfl) (fun _ _ _ h => h) (Or.inl ⟨by rfl, ?_⟩) hHeld ?_
  rotate_left
  · intro w hSw
    try dsimp only at hSw
    go_simp
    try with_reducible rfl
  try simp only [Act.put, List.setIfInBounds_toArray, List.set_cons_zero, List.set_cons_succ]
  refine wpAnyH_tk (i := 1) (v := ?_) rfl (by kernel_rfl) (by kernel_rfl) (by kernel_rfl) (fun _ _ _ h => h) (Or.inl ⟨by rfl, ?_⟩) hHeld ?_
  rotate_left
  · intro w hSw
    try dsimp only at hSw
    go_simp
    try with_reducible rfl
  try simp only [Act.put, List.setIfInBounds_toArray, List.set_cons_zero, List.set_cons_succ]
  refine wpAnyH_tk (i := 2) (v := ?_) rfl (by kernel_rfl) (by kernel_rfl) (by kernel_rfl) (fun _ _ _ h => h) (Or.inl ⟨by rfl, ?_⟩) hHeld ?_
  rotate_left
  · intro w hSw
    try dsimp only at hSw
    go_simp
    try with_reducible rfl
  try simp only [Act.put, List.setIfInBounds_toArray, List.set_cons_zero, List.set_cons_succ]
  refine wpAnyH_only (i := 3) rfl (by kernel_rfl) (fun K hK => ?_)
  go_simp
  refine (tvalue vt vs WD v1).mono ?_
  rintro e w3 ⟨rfl, hk3⟩
  have HA1 := hide ((unhide HA0).kp0 (kp_of_below hk3))
  clear hk3
  go_wp2_with fail
  refine hK.out _ _ (⟨cell_of_block (zoo_varm (unhide HA1) (List.Mem.tail _ (List.Mem.head _))) rfl, cell_of_block (zoo_varm (unhide HA1) (List.Mem.head _)) rfl, cell_of_block (zoo_varm (unhide HA1) (List.Mem.head _)) rfl⟩) (fun hHeld2 => ?_)
  clear hK K hHeld
  have hHeld := hHeld2
  clear hHeld2
  try simp only [Act.put, List.setIfInBounds_toArray, List.set_cons_zero, List.set_cons_succ]
  refine wpAnyH_only (i := 4) rfl (by kernel_rfl) (fun K hK => ?_)
  go_simp
  have HA2 := hide ((unhide HA1).box #[.string ⟨#[104, 97, 115]⟩, .string ⟨(vtx vt vs).toArray⟩] 9)
  refine hK.out _ _ (⟨cell_of_block (zoo_varm (unhide HA2) (List.Mem.tail _ (List.Mem.tail _ (List.Mem.head _)))) rfl, cell_of_block (zoo_varm (unhide HA2) (List.Mem.tail _ (List.Mem.head _))) rfl, cell_of_block (zoo_varm (unhide HA2) (List.Mem.tail _ (List.Mem.head _))) rfl⟩) (fun hHeld2 => ?_)
  clear hK K hHeld
  have hHeld := hHeld2
  clear hHeld2
  try simp only [Act.put, List.setIfInBounds_toArray, List.set_cons_zero, List.set_cons_succ]
  generalize w3.alloc (.cells #[.string ⟨#[104, 97, 115]⟩, .string ⟨(vtx vt vs).toArray⟩] 9) = W6 at *
  generalize w3.heap.size = p6 at *
  refine wpAnyH_only (i := 5) rfl (by kernel_rfl) (fun K hK => ?_)
  go_simp
  refine (dsay (l1 := [_, _, _]) [[104, 97, 115], vtx vt vs] 2 rfl _ 0 2 (unhide HA2) (cells_strs [[104, 97, 115], vtx vt vs] (zoo_varm (unhide HA2) (List.Mem.head _)) rfl) (join_pos (by simp)) (by simp) (by simp) hlen).mono ?_
  rintro e w7 ⟨rfl, HZ7⟩
  go_wp2_with fail
  refine hK.out _ _ (⟨cell_of_block (zoo_varm (unhide HZ7) (List.Mem.tail _ (List.Mem.tail _ (List.Mem.head _)))) rfl, cell_of_block (zoo_varm (unhide HZ7) (List.Mem.tail _ (List.Mem.head _))) rfl, cell_of_block (zoo_varm (unhide HZ7) (List.Mem.tail _ (List.Mem.head _))) rfl⟩) (fun hHeld2 => ?_)
  clear hK K hHeld
  have hHeld := hHeld2
  clear hHeld2
  try simp only [Act.put, List.setIfInBounds_toArray, List.set_cons_zero, List.set_cons_succ]
  refine wpAnyH_done (by kernel_rfl) ?_ _
  clear hHeld
  go_wp2_with fail
  go_end0
  exact ⟨rfl, Zoo.tail (Zoo.tail (unhide HZ7))⟩
set_option maxHeartbeats 2000000 in
theorem tel3 (v : Ev) (a : Option Addr) (cap : Nat) (hv : EvOk v) (hg : Gnd w0) (hz : Zoo w0 w (BoxT q #[.pointer (some ⟨d, 0, none⟩)] 25 :: DskT d hb bs :: r)) (hlen : bs.length + (say ([[111, 107], Lib.itoa v.n])).length ≤ 100000) :
    Calls Tryz.prog 58 #[.agg #[.int .i64 v.c, .int .i64 v.n, .bool v.t, .string v.s, .slice a v.l.length cap], .pointer (some ⟨q, 0, none⟩)] w fun e w' => e = .returned (.tuple #[]) ∧ Hid (Zoo w0 w' (BoxT q #[.pointer (some ⟨d, 0, none⟩)] 25 :: DskT d hb (bs ++ say ([[111, 107], Lib.itoa v.n])) :: r)) := by
  obtain ⟨v1, v2, v3, v4, v5, v6, v7⟩ := hv
  obtain ⟨vc, vn, vt, vs, vl⟩ := v
  dsimp only at *
  have HG := hide hg
  have HX := hide (hz.box #[.int .i64 vc, .int .i64 vn, .bool vt, .string vs, .slice a vl.length cap] 102)
  clear hz hg
  go_enter Tryz.func58, Tryz.ntmps58
  go_wp2_with fail
  generalize w.alloc (.cells #[.int .i64 vc, .int .i64 vn, .bool vt, .string vs, .slice a vl.length cap] 102) = W5 at *
  generalize w.heap.size = p5 at *
  refine wp_region_held_drew (S := fun w' => w'.cell? ⟨q, 0, none⟩ = some (.pointer (some ⟨d, 0, none⟩)) ∧ w'.cell? ⟨p5, 1, none⟩ = some (.int .i64 vn)) (by kernel_rfl) ⟨cell_of_block (zoo_varm ((unhide HX).kp0 (Kp.refl [] W5).drew) (List.Mem.tail _ (List.Mem.head _))) rfl, cell_of_block (zoo_varm ((unhide HX).kp0 (Kp.refl [] W5).drew) (List.Mem.head _)) rfl⟩ (fun hHeld => ?_)
  have HA0 := hide ((unhide HX).kp0 (Kp.refl [] W5).drew)
  generalize World.drew _ = WD at HA0 hHeld ⊢
  refine wpAnyH_tk (i := 0) (v := ?_) rfl (by kernel_rfl) (by kernel_rfl) (by kernel_rfl) (fun _ _ _ h => h) (Or.inl ⟨by rfl, ?_⟩) hHeld ?_
  rotate_left
  · intro w hSw
    try dsimp only at hSw
    go_simp
    try with_reducible rfl
  try simp only [Act.put, List.setIfInBounds_toArray, List.set_cons_zero, List.set_cons_succ]
  refine wpAnyH_tk (i := 1) (v := ?_) rfl (by kernel_rfl) (by kernel_rfl) (by kernel_rfl) (fun _ _ _ h => h) (Or.inl ⟨by rfl, ?_⟩) hHeld ?_
  rotate_left
  · intro w hSw
    try dsimp only at hSw
    go_simp
    try with_reducible rfl
  try simp only [Act.put, List.setIfInBounds_toArray, List.set_cons_zero, List.set_cons_succ]
  refine wpAnyH_tk (i := 2) (v := ?_) rfl (by kernel_rfl) (by kernel_rfl) (by kernel_rfl) (fun _ _ _ h => h) (Or.inl ⟨by rfl, ?_⟩) hHeld ?_
  rotate_left
  · intro w hSw
    try dsimp only at hSw
    go_simp
    try with_reducible rfl
  try simp only [Act.put, List.setIfInBounds_toArray, List.set_cons_zero, List.set_cons_succ]
  refine wpAnyH_only (i := 3) rfl (by kernel_rfl) (fun K hK => ?_)
  go_simp
  refine (sitoa vn WD (gnd_kp (unhide HG) (unhide HA0).kp) v4 v5).mono ?_
  rintro e w3 ⟨rfl, hk3⟩
  have HA1 := hide ((unhide HA0).kp0 hk3)
  clear hk3
  go_wp2_with fail
  refine hK.out _ _ (⟨cell_of_block (zoo_varm (unhide HA1) (List.Mem.tail _ (List.Mem.head _))) rfl, cell_of_block (zoo_varm (unhide HA1) (List.Mem.head _)) rfl⟩) (fun hHeld2 => ?_)
  clear hK K hHeld
  have hHeld := hHeld2
  clear hHeld2
  try simp only [Act.put, List.setIfInBounds_toArray, List.set_cons_zero, List.set_cons_succ]
  refine wpAnyH_only (i := 4) rfl (by kernel_rfl) (fun K hK => ?_)
  go_simp
  have HA2 := hide ((unhide HA1).box #[.string ⟨#[111, 107]⟩, .string ⟨(Lib.itoa vn).toArray⟩] 9)
  refine hK.out _ _ (⟨cell_of_block (zoo_varm (unhide HA2) (List.Mem.tail _ (List.Mem.tail _ (List.Mem.head _)))) rfl, cell_of_block (zoo_varm (unhide HA2) (List.Mem.tail _ (List.Mem.head _))) rfl⟩) (fun hHeld2 => ?_)
  clear hK K hHeld
  have hHeld := hHeld2
  clear hHeld2
  try simp only [Act.put, List.setIfInBounds_toArray, List.set_cons_zero, List.set_cons_succ]
  generalize w3.alloc (.cells #[.string ⟨#[111, 107]⟩, .string ⟨(Lib.itoa vn).toArray⟩] 9) = W6 at *
  generalize w3.heap.size = p6 at *
  refine wpAnyH_only (i := 5) rfl (by kernel_rfl) (fun K hK => ?_)
  go_simp
  refine (dsay (l1 := [_, _, _]) [[111, 107], Lib.itoa vn] 2 rfl _ 0 2 (unhide HA2) (cells_strs [[111, 107], Lib.itoa vn] (zoo_varm (unhide HA2) (List.Mem.head _)) rfl) (join_pos (by simp)) (by simp) (by simp) hlen).mono ?_
  rintro e w7 ⟨rfl, HZ7⟩
  go_wp2_with fail
  refine hK.out _ _ (⟨cell_of_block (zoo_varm (unhide HZ7) (List.Mem.tail _ (List.Mem.tail _ (List.Mem.head _)))) rfl, cell_of_block (zoo_varm (unhide HZ7) (List.Mem.tail _ (List.Mem.head _))) rfl⟩) (fun hHeld2 => ?_)
  clear hK K hHeld
  have hHeld := hHeld2
  clear hHeld2
  try simp only [Act.put, List.setIfInBounds_toArray, List.set_cons_zero, List.set_cons_succ]
  refine wpAnyH_done (by kernel_rfl) ?_ _
  clear hHeld
  go_wp2_with fail
  go_end0
  exact ⟨rfl, Zoo.tail (Zoo.tail (unhide HZ7))⟩
set_option maxHeartbeats 2000000 in
theorem tel2 (v : Ev) (a : Option Addr) (cap : Nat) (hv : EvOk v) (hg : Gnd w0) (hz : Zoo w0 w (BoxT q #[.pointer (some ⟨d, 0, none⟩)] 25 :: DskT d hb bs :: r)) (hp : PsT a cap v.l ∈ r) (hlen : bs.length + (say ([97, 108, 108] :: v.l.map pvx)).length ≤ 100000) :
    Calls Tryz.prog 56 #[.agg #[.int .i64 v.c, .int .i64 v.n, .bool v.t, .string v.s, .slice a v.l.length cap], .pointer (some ⟨q, 0, none⟩)] w fun e w' => e = .returned (.tuple #[]) ∧ Hid (Zoo w0 w' (BoxT q #[.pointer (some ⟨d, 0, none⟩)] 25 :: DskT d hb (bs ++ say ([97, 108, 108] :: v.l.map pvx)) :: r)) := by
  obtain ⟨v1, v2, v3, v4, v5, v6, v7⟩ := hv
  obtain ⟨vc, vn, vt, vs, vl⟩ := v
  dsimp only at *
  have HG := hide hg
  have HP := hide hp
  have HLN := hide hlen
  have HX := hide (hz.box #[.int .i64 vc, .int .i64 vn, .bool vt, .string vs, .slice a vl.length cap] 102)
  have hu : Tryz.prog.underlying 22 = some (.slice 9) := Tryz.underlying22
  obtain ⟨m, hm⟩ : ∃ m, m = vl.length := ⟨_, rfl⟩
  have HM := hide hm
  rw [← hm] at HX v3 ⊢
  have HV := hide v2
  clear hz hg hp hm hlen v2
  go_enter Tryz.func56, Tryz.ntmps56
  go_wp2_with fail
  generalize w.alloc (.cells #[.int .i64 vc, .int .i64 vn, .bool vt, .string vs, .slice a m cap] 102) = W5 at *
  generalize w.heap.size = p5 at *
  refine wp_region_held_drew (S := fun w' => w'.cell? ⟨q, 0, none⟩ = some (.pointer (some ⟨d, 0, none⟩)) ∧ w'.cell? ⟨p5, 4, none⟩ = some (.slice a m cap)) (by kernel_rfl) ⟨cell_of_block (zoo_varm ((unhide HX).kp0 (Kp.refl [] W5).drew) (List.Mem.tail _ (List.Mem.head _))) rfl, cell_of_block (zoo_varm ((unhide HX).kp0 (Kp.refl [] W5).drew) (List.Mem.head _)) rfl⟩ (fun hHeld => ?_)
  have HA0 := hide ((unhide HX).kp0 (Kp.refl [] W5).drew)
  generalize World.drew _ = WD at HA0 hHeld ⊢
  refine wpAnyH_tk (i := 0) (v := ?_) rfl (by kernel_rfl) (by kernel_rfl) (by kernel_rfl) (fun _ _ _ h => h) (Or.inl ⟨by rfl, ?_⟩) hHeld ?_
  rotate_left
  · intro w hSw
    try dsimp only at hSw
    go_simp
    try with_reducible rfl
  try simp only [Act.put, List.setIfInBounds_toArray, List.set_cons_zero, List.set_cons_succ]
  refine wpAnyH_tk (i := 2) (v := ?_) rfl (by kernel_rfl) (by kernel_rfl) (by kernel_rfl) (fun _ _ _ h => h) (Or.inl ⟨by rfl, ?_⟩) hHeld ?_
  rotate_left
  · intro w hSw
    try dsimp only at hSw
    go_simp
    try with_reducible rfl
  try simp only [Act.put, List.setIfInBounds_toArray, List.set_cons_zero, List.set_cons_succ]
  refine wpAnyH_tk (i := 3) (v := ?_) rfl (by kernel_rfl) (by kernel_rfl) (by kernel_rfl) (fun _ _ _ h => h) (Or.inl ⟨by rfl, ?_⟩) hHeld ?_
  rotate_left
  · intro w hSw
    try dsimp only at hSw
    go_simp
    try with_reducible rfl
  try simp only [Act.put, List.setIfInBounds_toArray, List.set_cons_zero, List.set_cons_succ]
  refine wpAnyH_two (i := 1) (j := 4) rfl rfl (by kernel_rfl) (fun K hK => ?_) (fun K hK => ?_)
  · go_simp
    have HA1 := hide (kw_lit (unhide HA0) [[97, 108, 108]] 1 rfl #[.string ⟨#[97, 108, 108]⟩] rfl (by omega))
    refine hK.out _ _ (⟨cell_of_block (zoo_varm (unhide HA1) (List.Mem.tail _ (List.Mem.tail _ (List.Mem.head _)))) rfl, cell_of_block (zoo_varm (unhide HA1) (List.Mem.tail _ (List.Mem.head _))) rfl⟩) (fun hHeld2 => ?_)
    clear hK K hHeld
    have hHeld := hHeld2
    clear hHeld2
    try simp only [Act.put, List.setIfInBounds_toArray, List.set_cons_zero, List.set_cons_succ]
    generalize WD.alloc (.cells #[.string ⟨#[97, 108, 108]⟩] 9) = W6 at *
    generalize WD.heap.size = p6 at *
    refine wpAnyH_only (i := 4) rfl (by kernel_rfl) (fun K hK => ?_)
    go_simp
    refine (dpairs vl m (unhide HM) (by omega) a cap W6 (gnd_kp (unhide HG) (unhide HA1).kp) (ps_slo (unhide HA1) (List.Mem.tail _ (List.Mem.tail _ (List.Mem.tail _ (List.Mem.tail _ (unhide HP)))))) (unhide HV)).mono ?_
    rintro e w3 ⟨a3, c3, rfl, hr3, hk3⟩
    rw [← unhide HM] at hr3 ⊢
    have HR := hide hr3
    have HA2 := hide ((unhide HA1).kp0 hk3)
    clear hr3 hk3
    go_wp2_with fail
    refine hK.out _ _ (⟨cell_of_block (zoo_varm (unhide HA2) (List.Mem.tail _ (List.Mem.tail _ (List.Mem.head _)))) rfl, cell_of_block (zoo_varm (unhide HA2) (List.Mem.tail _ (List.Mem.head _))) rfl⟩) (fun hHeld2 => ?_)
    clear hK K hHeld
    have hHeld := hHeld2
    clear hHeld2
    try simp only [Act.put, List.setIfInBounds_toArray, List.set_cons_zero, List.set_cons_succ]
    have hBw := Zoo.base (unhide HA2)
    refine wpAnyH_only (i := 5) rfl (by kernel_rfl) (fun K hK => ?_)
    refine step_krowS (by rfl) (.tmp 4) (.tmp 7) 22 (by rfl) hu Tryz.infoS rfl (by omega) (kw_row (l1 := []) (unhide HA2)) hBw (.slice a3 m c3) (strs (vl.map pvx)) m (by rfl) (by rfl) (krow_src (unhide HR)) (by omega) (1 + m) rfl ?_
    intro a9 c9 w9 g1 g2 g3
    have HA9 := hide (kw_app (l1 := []) (unhide HA2) (unhide g1) (unhide g2) (unhide g3))
    have hr9 : KRow 9 1 w0.heap.size w9 a9 (1 + m) c9 (strs ([97, 108, 108] :: vl.map pvx)) := unhide g1
    obtain ⟨g9, o9, rfl, hc9⟩ := krow_wrd hr9 (by simp)
    have hle9 := hr9.le
    have HC9 := hide hc9
    clear hc9 hr9 g1 g2 g3
    refine hK.out _ _ (⟨cell_of_block (zoo_varm (unhide HA9) (List.Mem.tail _ (List.Mem.tail _ (List.Mem.head _)))) rfl, cell_of_block (zoo_varm (unhide HA9) (List.Mem.tail _ (List.Mem.head _))) rfl⟩) (fun hHeld2 => ?_)
    clear hK K hHeld
    have hHeld := hHeld2
    clear hHeld2
    try simp only [Act.put, List.setIfInBounds_toArray, List.set_cons_zero, List.set_cons_succ]
    refine wpAnyH_only (i := 6) rfl (by kernel_rfl) (fun K hK => ?_)
    go_simp
    refine (dsay (l1 := [_, _, _]) ([97, 108, 108] :: vl.map pvx) (1 + m) (by have := unhide HM; simp; omega) g9 o9 c9 (unhide HA9) (unhide HC9) (join_pos (by simp)) (by have := unhide HM; simp; omega) (by have := unhide HM; simp; omega) (unhide HLN)).mono ?_
    rintro e w7 ⟨rfl, HZ7⟩
    go_wp2_with fail
    refine hK.out _ _ (⟨cell_of_block (zoo_varm (unhide HZ7) (List.Mem.tail _ (List.Mem.tail _ (List.Mem.head _)))) rfl, cell_of_block (zoo_varm (unhide HZ7) (List.Mem.tail _ (List.Mem.head _))) rfl⟩) (fun hHeld2 => ?_)
    clear hK K hHeld
    have hHeld := hHeld2
    clear hHeld2
    try simp only [Act.put, List.setIfInBounds_toArray, List.set_cons_zero, List.set_cons_succ]
    refine wpAnyH_done (by kernel_rfl) ?_ _
    clear hHeld
    go_wp2_with fail
    go_end0
    exact ⟨rfl, Zoo.tail (Zoo.tail (unhide HZ7))⟩
  · go_simp
    refine (dpairs vl m (unhide HM) (by omega) a cap WD (gnd_kp (unhide HG) (unhide HA0).kp) (ps_slo (unhide HA0) (List.Mem.tail _ (List.Mem.tail _ (List.Mem.tail _ (unhide HP))))) (unhide HV)).mono ?_
    rintro e w3 ⟨a3, c3, rfl, hr3, hk3⟩
    rw [← unhide HM] at hr3 ⊢
    have HR := hide hr3
    have HA1 := hide ((unhide HA0).kp0 hk3)
    clear hr3 hk3
    go_wp2_with fail
    refine hK.out _ _ (⟨cell_of_block (zoo_varm (unhide HA1) (List.Mem.tail _ (List.Mem.head _))) rfl, cell_of_block (zoo_varm (unhide HA1) (List.Mem.head _)) rfl⟩) (fun hHeld2 => ?_)
    clear hK K hHeld
    have hHeld := hHeld2
    clear hHeld2
    try simp only [Act.put, List.setIfInBounds_toArray, List.set_cons_zero, List.set_cons_succ]
    refine wpAnyH_only (i := 1) rfl (by kernel_rfl) (fun K hK => ?_)
    go_simp
    have HA2 := hide (kw_lit (unhide HA1) [[97, 108, 108]] 1 rfl #[.string ⟨#[97, 108, 108]⟩] rfl (by omega))
    have HR2 := hide ((unhide HR).kp0 ((Kp.refl [] w3).alloc (.cells #[.string ⟨#[97, 108, 108]⟩] 9)))
    refine hK.out _ _ (⟨cell_of_block (zoo_varm (unhide HA2) (List.Mem.tail _ (List.Mem.tail _ (List.Mem.head _)))) rfl, cell_of_block (zoo_varm (unhide HA2) (List.Mem.tail _ (List.Mem.head _))) rfl⟩) (fun hHeld2 => ?_)
    clear hK K hHeld
    have hHeld := hHeld2
    clear hHeld2
    try simp only [Act.put, List.setIfInBounds_toArray, List.set_cons_zero, List.set_cons_succ]
    generalize w3.alloc (.cells #[.string ⟨#[97, 108, 108]⟩] 9) = W6 at *
    generalize w3.heap.size = p6 at *
    have hBw := Zoo.base (unhide HA2)
    refine wpAnyH_only (i := 5) rfl (by kernel_rfl) (fun K hK => ?_)
    refine step_krowS (by rfl) (.tmp 4) (.tmp 7) 22 (by rfl) hu Tryz.infoS rfl (by omega) (kw_row (l1 := []) (unhide HA2)) hBw (.slice a3 m c3) (strs (vl.map pvx)) m (by rfl) (by rfl) (krow_src (unhide HR2)) (by omega) (1 + m) rfl ?_
    intro a9 c9 w9 g1 g2 g3
    have HA9 := hide (kw_app (l1 := []) (unhide HA2) (unhide g1) (unhide g2) (unhide g3))
    have hr9 : KRow 9 1 w0.heap.size w9 a9 (1 + m) c9 (strs ([97, 108, 108] :: vl.map pvx)) := unhide g1
    obtain ⟨g9, o9, rfl, hc9⟩ := krow_wrd hr9 (by simp)
    have hle9 := hr9.le
    have HC9 := hide hc9
    clear hc9 hr9 g1 g2 g3
    refine hK.out _ _ (⟨cell_of_block (zoo_varm (unhide HA9) (List.Mem.tail _ (List.Mem.tail _ (List.Mem.head _)))) rfl, cell_of_block (zoo_varm (unhide HA9) (List.Mem.tail _ (List.Mem.head _))) rfl⟩) (fun hHeld2 => ?_)
    clear hK K hHeld
    have hHeld := hHeld2
    clear hHeld2
    try simp only [Act.put, List.setIfInBounds_toArray, List.set_cons_zero, List.set_cons_succ]
    refine wpAnyH_only (i := 6) rfl (by kernel_rfl) (fun K hK => ?_)
    go_simp
    refine (dsay (l1 := [_, _, _]) ([97, 108, 108] :: vl.map pvx) (1 + m) (by have := unhide HM; simp; omega) g9 o9 c9 (unhide HA9) (unhide HC9) (join_pos (by simp)) (by have := unhide HM; simp; omega) (by have := unhide HM; simp; omega) (unhide HLN)).mono ?_
    rintro e w7 ⟨rfl, HZ7⟩
    go_wp2_with fail
    refine hK.out _ _ (⟨cell_of_block (zoo_varm (unhide HZ7) (List.Mem.tail _ (List.Mem.tail _ (List.Mem.head _)))) rfl, cell_of_block (zoo_varm (unhide HZ7) (List.Mem.tail _ (List.Mem.head _))) rfl⟩) (fun hHeld2 => ?_)
    clear hK K hHeld
    have hHeld := hHeld2
    clear hHeld2
    try simp only [Act.put, List.setIfInBounds_toArray, List.set_cons_zero, List.set_cons_succ]
    refine wpAnyH_done (by kernel_rfl) ?_ _
    clear hHeld
    go_wp2_with fail
    go_end0
    exact ⟨rfl, Zoo.tail (Zoo.tail (unhide HZ7))⟩
end
end
/- The desk's step: what a step tells, by its contract. -/
section
open Go.RowKit
attribute [local go_sem ↓] Go.wp_at_zero Go.wp_at_succ

theorem zoo_22 {w0 w : World} {a b c e : Thing} {r : List Thing} (h : Zoo w0 w (a :: b :: c :: e :: r)) : Zoo w0 w (c :: e :: a :: b :: r) := h.perm ((List.perm_append_comm (l₁ := [a, b]) (l₂ := [c, e])).append_right r)
theorem zoo_32 {w0 w : World} {a b x c e : Thing} {r : List Thing} (h : Zoo w0 w (a :: b :: x :: c :: e :: r)) : Zoo w0 w (c :: e :: a :: b :: x :: r) := h.perm ((List.perm_append_comm (l₁ := [a, b, x]) (l₂ := [c, e])).append_right r)
theorem zoo_in {w0 w : World} {a b : Thing} {r : List Thing} (h : Zoo w0 w (a :: b :: r)) : Zoo w0 w (b :: a :: r) := zoo_swap h
theorem Tryz.sizeEv : (Tryz.prog.info? 102).map (·.size) = some 5 := by kernel_rfl
theorem x8_of {w : World} {p : Nat} {x : HStep} (h : w.heap[p]? = some (.cells (xcs x) 79 (0, 0))) : w.cell? ⟨p, 0, none⟩ = some (.int .i64 x.d) ∧ w.cell? ⟨p, 1, none⟩ = some (.int .i64 x.s) ∧ w.cell? ⟨p, 1 + 1, none⟩ = some (.int .i64 x.md) ∧ w.cell? ⟨p, 1 + 1 + 1, none⟩ = some (.int .i64 x.at_) ∧ w.cell? ⟨p, 1 + 1 + 1 + 1, none⟩ = some (.int .i64 x.key) ∧ w.cell? ⟨p, 1 + 1 + 1 + 1 + 1, none⟩ = some (.int .i64 x.to_) ∧ w.cell? ⟨p, 1 + 1 + 1 + 1 + 1 + 1, none⟩ = some (.int .i64 x.keep) ∧ w.cell? ⟨p, 1 + 1 + 1 + 1 + 1 + 1 + 1, none⟩ = some (.string x.b) :=
  ⟨cell_of_block h rfl, cell_of_block h rfl, cell_of_block h rfl, cell_of_block h rfl, cell_of_block h rfl, cell_of_block h rfl, cell_of_block h rfl, cell_of_block h rfl⟩
theorem dsk_m {w0 w : World} {os : List Thing} {d hb : Nat} {bs : List UInt8} (hz : Zoo w0 w os) (hm : DskT d hb bs ∈ os) : w.cell? ⟨d, 2, none⟩ = some (.pointer (some ⟨hb, 0, none⟩)) := by
  obtain ⟨l1, l2, rfl⟩ := List.append_of_mem hm
  exact dsk_cell hz
theorem zoo_42 {w0 w : World} {a b x y c e : Thing} {r : List Thing} (h : Zoo w0 w (a :: b :: x :: y :: c :: e :: r)) : Zoo w0 w (c :: e :: a :: b :: x :: y :: r) := h.perm ((List.perm_append_comm (l₁ := [a, b, x, y]) (l₂ := [c, e])).append_right r)
theorem zoo_24 {w0 w : World} {a b x y c e : Thing} {r : List Thing} (h : Zoo w0 w (c :: e :: a :: b :: x :: y :: r)) : Zoo w0 w (a :: c :: e :: [b, x, y] ++ r) := h.perm (by
  have h1 := (List.perm_append_comm (l₁ := [c, e]) (l₂ := [a])).append_right (b :: x :: y :: r)
  exact h1)
theorem zoo_b {w0 w : World} {a b x : Thing} {r : List Thing} (h : Zoo w0 w (x :: a :: b :: r)) : Zoo w0 w (a :: b :: x :: r) := h.perm ((List.perm_append_comm (l₁ := [x]) (l₂ := [a, b])).append_right r)
section
variable {w0 w : World} {r : List Thing} {d hb q : Nat} {bs : List UInt8} {h : HSt}
set_option maxHeartbeats 4000000 in
theorem dstep1 (x : HStep) (hsz : x.b.size ≤ maxLen) (hg : Gnd w0) (hv : EvOk (hev h x)) (hz : Zoo w0 w (HalT hb h :: BoxT q #[.pointer (some ⟨d, 0, none⟩)] 25 :: DskT d hb bs :: r)) (hlen : bs.length + (say (if (hev h x).c ≠ 0 then [[110, 111], Lib.itoa (hev h x).c] else [[104, 97, 115], vtx (hev h x).t (hev h x).s])).length ≤ 100000) :
    Calls Tryz.prog 30 #[.pointer (some ⟨d, 0, none⟩), .agg #[.int .i64 x.d, .int .i64 x.s, .int .i64 x.md, .int .i64 x.at_, .int .i64 x.key, .int .i64 x.to_, .int .i64 x.keep, .string x.b], .func (.func 54) #[] #[.pointer (some ⟨q, 0, none⟩)]] w fun e w' => e = .returned (.tuple #[]) ∧ Hid (∃ r', Zoo w0 w' (HalT hb (hdo h x) :: BoxT q #[.pointer (some ⟨d, 0, none⟩)] 25 :: DskT d hb (bs ++ say (if (hev h x).c ≠ 0 then [[110, 111], Lib.itoa (hev h x).c] else [[104, 97, 115], vtx (hev h x).t (hev h x).s])) :: r' ++ r)) := by
  have hd : ∀ (W : World) (r1 : List Thing), Zoo w0 W (HalT hb h :: r1) → Calls Tryz.prog 53 #[.pointer (some ⟨hb, 0, none⟩), .agg #[.int .i64 x.d, .int .i64 x.s, .int .i64 x.md, .int .i64 x.at_, .int .i64 x.key, .int .i64 x.to_, .int .i64 x.keep, .string x.b]] W fun e w' => ∃ a cap, e = .returned (.agg #[.int .i64 (hev h x).c, .int .i64 (hev h x).n, .bool (hev h x).t, .string (hev h x).s, .slice a (hev h x).l.length cap]) ∧ Hid (Zoo w0 w' (HalT hb (hdo h x) :: PsT a cap (hev h x).l :: r1)) := fun W r1 hz1 => hal_do x hsz hz1
  generalize hdo h x = h' at *
  generalize hev h x = v at *
  obtain ⟨xd, xs, xm, xa, xk, xt, xp, xb⟩ := x
  obtain ⟨vc, vn, vt, vs, vl⟩ := v
  dsimp only at *
  obtain ⟨m, hm⟩ : ∃ m, m = vl.length := ⟨_, rfl⟩
  rw [← hm] at hd
  have HM := hide hm
  have HD := hide hd
  have HV := hide hv
  have HG := hide hg
  have hcn := hv.c0
  have hcm := hv.c1
  dsimp only at hcn hcm
  have HX := hide (zoo_in (hz.box (xcs ⟨xd, xs, xm, xa, xk, xt, xp, xb⟩) 79))
  obtain ⟨ww, hww⟩ : ∃ ww, (if vc ≠ 0 then [[110, 111], Lib.itoa vc] else [[104, 97, 115], vtx vt vs]) = ww := ⟨_, rfl⟩
  rw [hww] at hlen ⊢
  have HWW := hide hww
  clear hz hg hv hd hm hsz hww
  go_enter Tryz.func30, Tryz.ntmps30
  go_wp2_with fail
  have HX2 : Hid (Zoo w0 (w.alloc (.cells #[.int .i64 xd, .int .i64 xs, .int .i64 xm, .int .i64 xa, .int .i64 xk, .int .i64 xt, .int .i64 xp, .string xb] 79)) (HalT hb h :: BoxT w.heap.size (xcs ⟨xd, xs, xm, xa, xk, xt, xp, xb⟩) 79 :: BoxT q #[.pointer (some ⟨d, 0, none⟩)] 25 :: DskT d hb bs :: r)) := HX
  clear HX
  generalize w.alloc (.cells #[.int .i64 xd, .int .i64 xs, .int .i64 xm, .int .i64 xa, .int .i64 xk, .int .i64 xt, .int .i64 xp, .string xb] 79) = W5 at *
  generalize w.heap.size = p5 at *
  refine wp_region_held_drew (S := fun w' => w'.cell? ⟨d, 2, none⟩ = some (.pointer (some ⟨hb, 0, none⟩)) ∧ w'.cell? ⟨p5, 0, none⟩ = some (.int .i64 xd) ∧ w'.cell? ⟨p5, 1, none⟩ = some (.int .i64 xs) ∧ w'.cell? ⟨p5, 1 + 1, none⟩ = some (.int .i64 xm) ∧ w'.cell? ⟨p5, 1 + 1 + 1, none⟩ = some (.int .i64 xa) ∧ w'.cell? ⟨p5, 1 + 1 + 1 + 1, none⟩ = some (.int .i64 xk) ∧ w'.cell? ⟨p5, 1 + 1 + 1 + 1 + 1, none⟩ = some (.int .i64 xt) ∧ w'.cell? ⟨p5, 1 + 1 + 1 + 1 + 1 + 1, none⟩ = some (.int .i64 xp) ∧ w'.cell? ⟨p5, 1 + 1 + 1 + 1 + 1 + 1 + 1, none⟩ = some (.string xb)) (by kernel_rfl) ⟨dsk_m ((unhide HX2).kp0 (Kp.refl [] W5).drew) (List.Mem.tail _ (List.Mem.tail _ (List.Mem.tail _ (List.Mem.head _)))), x8_of (zoo_varm ((unhide HX2).kp0 (Kp.refl [] W5).drew) (List.Mem.tail _ (List.Mem.head _)))⟩ (fun hHeld => ?_)
  have HA0 := hide ((unhide HX2).kp0 (Kp.refl [] W5).drew)
  generalize World.drew _ = WD at HA0 hHeld ⊢
  refine wpAnyH_tk (i := 0) (v := ?_) rfl (by kernel_rfl) (by kernel_rfl) (by kernel_rfl) (fun _ _ _ h => h) (Or.inl ⟨by rfl, ?_⟩) hHeld ?_
  rotate_left
  · intro w hSw
    try dsimp only at hSw
    go_simp
    try with_reducible rfl
  try simp only [Act.put, List.setIfInBounds_toArray, List.set_cons_zero, List.set_cons_succ]
  refine wpAnyH_tk (i := 1) (v := ?_) rfl (by kernel_rfl) (by kernel_rfl) (by kernel_rfl) (fun _ _ _ h => h) (Or.inl ⟨by rfl, ?_⟩) hHeld ?_
  rotate_left
  · intro w hSw
    try dsimp only at hSw
    go_simp
    try with_reducible rfl
  try simp only [Act.put, List.setIfInBounds_toArray, List.set_cons_zero, List.set_cons_succ]
  refine wpAnyH_tk (i := 2) (v := ?_) rfl (by kernel_rfl) (by kernel_rfl) (by kernel_rfl) (fun _ _ _ h => h) (Or.inl ⟨by rfl, ?_⟩) hHeld ?_
  rotate_left
  · intro w hSw
    try dsimp only at hSw
    go_simp
    try with_reducible rfl
  try simp only [Act.put, List.setIfInBounds_toArray, List.set_cons_zero, List.set_cons_succ]
  refine wpAnyH_tk (i := 3) (v := ?_) rfl (by kernel_rfl) (by kernel_rfl) (by kernel_rfl) (fun _ _ _ h => h) (Or.inl ⟨by rfl, ?_⟩) hHeld ?_
  rotate_left
  · intro w hSw
    try dsimp only at hSw
    go_simp
    try with_reducible rfl
  try simp only [Act.put, List.setIfInBounds_toArray, List.set_cons_zero, List.set_cons_succ]
  refine wpAnyH_tk (i := 4) (v := ?_) rfl (by kernel_rfl) (by kernel_rfl) (by kernel_rfl) (fun _ _ _ h => h) (Or.inl ⟨by rfl, ?_⟩) hHeld ?_
  rotate_left
  · intro w hSw
    try dsimp only at hSw
    go_simp
    try with_reducible rfl
  try simp only [Act.put, List.setIfInBounds_toArray, List.set_cons_zero, List.set_cons_succ]
  refine wpAnyH_two (i := 5) (j := 6) rfl rfl (by kernel_rfl) (fun K hK => ?_) (fun K hK => ?_)
  · go_simp
    refine (unhide HD WD _ (unhide HA0)).mono ?_
    rintro e w3 ⟨a9, c9, rfl, HA1⟩
    go_wp2_with fail
    refine hK.out _ _ (⟨dsk_m (unhide HA1) (List.Mem.tail _ (List.Mem.tail _ (List.Mem.tail _ (List.Mem.tail _ (List.Mem.head _))))), x8_of (zoo_varm (unhide HA1) (List.Mem.tail _ (List.Mem.tail _ (List.Mem.head _))))⟩) (fun hHeld2 => ?_)
    clear hK K hHeld
    have hHeld := hHeld2
    clear hHeld2
    try simp only [Act.put, List.setIfInBounds_toArray, List.set_cons_zero, List.set_cons_succ]
    refine wpAnyH_only (i := 6) rfl (by kernel_rfl) (fun K hK => ?_)
    go_simp
    have HA2 := hide ((unhide HA1).box #[.int .i64 0, .int .i64 0, .bool false, .string ⟨#[]⟩, .slice none 0 0] 102)
    refine hK.out _ _ (⟨dsk_m (unhide HA2) (List.Mem.tail _ (List.Mem.tail _ (List.Mem.tail _ (List.Mem.tail _ (List.Mem.tail _ (List.Mem.head _)))))), x8_of (zoo_varm (unhide HA2) (List.Mem.tail _ (List.Mem.tail _ (List.Mem.tail _ (List.Mem.head _)))))⟩) (fun hHeld2 => ?_)
    clear hK K hHeld
    have hHeld := hHeld2
    clear hHeld2
    try simp only [Act.put, List.setIfInBounds_toArray, List.set_cons_zero, List.set_cons_succ]
    generalize w3.alloc (.cells #[.int .i64 0, .int .i64 0, .bool false, .string ⟨#[]⟩, .slice none 0 0] 102) = W6 at *
    generalize w3.heap.size = p6 at *
    refine wpAnyH_only (i := 7) rfl (by kernel_rfl) (fun K hK => ?_)
    rw [if_pos (by rfl)]
    refine wp_store_row 102 _ _ rfl p6 #[.int .i64 vc, .int .i64 vn, .bool vt, .string vs, .slice a9 m c9] rfl rfl 102 _ (zoo_varm (unhide HA2) (List.Mem.head _)) Tryz.sizeEv rfl (by simp [Value.oneCell']) ?_
    have HB0 := hide (zoo_setrow (c' := #[.int .i64 vc, .int .i64 vn, .bool vt, .string vs, .slice a9 m c9]) (l1 := []) (unhide HA2))
    refine hK.out _ _ (⟨dsk_m (unhide HB0) (List.Mem.tail _ (List.Mem.tail _ (List.Mem.tail _ (List.Mem.tail _ (List.Mem.tail _ (List.Mem.head _)))))), x8_of (zoo_varm (unhide HB0) (List.Mem.tail _ (List.Mem.tail _ (List.Mem.tail _ (List.Mem.head _)))))⟩) (fun hHeld2 => ?_)
    clear hK K hHeld
    have hHeld := hHeld2
    clear hHeld2
    have HB := hide (zoo_b (unhide HB0))
    refine wpAnyH_done (by kernel_rfl) ?_ _
    clear hHeld
    generalize World.setRow _ _ _ = W9 at *
    have HC : Hid (Zoo w0 W9 (BoxT q #[.pointer (some ⟨d, 0, none⟩)] 25 :: DskT d hb bs :: HalT hb h' :: PsT a9 c9 vl :: BoxT p6 #[.int .i64 vc, .int .i64 vn, .bool vt, .string vs, .slice a9 m c9] 102 :: BoxT p5 (xcs ⟨xd, xs, xm, xa, xk, xt, xp, xb⟩) 79 :: r)) := hide (zoo_42 (unhide HB))
    have hE := zoo_varm (unhide HC) (List.Mem.tail _ (List.Mem.tail _ (List.Mem.tail _ (List.Mem.tail _ (List.Mem.head _)))))
    have e0 : W9.cell? ⟨p6, 0, none⟩ = some (.int .i64 vc) := cell_of_block hE rfl
    by_cases hc : vc = 0
    · subst hc
      have e1 : W9.cell? ⟨p6, 1, none⟩ = some (.int .i64 vn) := cell_of_block hE rfl
      have e2 : W9.cell? ⟨p6, 1 + 1, none⟩ = some (.bool vt) := cell_of_block hE rfl
      have e3 : W9.cell? ⟨p6, 1 + 1 + 1, none⟩ = some (.string vs) := cell_of_block hE rfl
      have e4 : W9.cell? ⟨p6, 1 + 1 + 1 + 1, none⟩ = some (.slice a9 m c9) := cell_of_block hE rfl
      have e9 : ww = [[104, 97, 115], vtx vt vs] := by rw [← unhide HWW, if_neg (by simp)]
      subst e9
      have HT := hide (tel1 ⟨0, vn, vt, vs, vl⟩ a9 c9 (unhide HV) (unhide HG) (unhide HC) hlen)
      dsimp only at HT
      rw [← unhide HM] at HT
      clear hE
      go_wp2_with (go_at_call 54; refine (unhide HT).mono ?_; rintro e w7 ⟨rfl, HZ7⟩)
      go_end0
      exact ⟨rfl, _, zoo_24 (r := r) (unhide HZ7)⟩
    · have hc2 : ¬ (vc = 0) := hc
      have e9 : ww = [[110, 111], Lib.itoa vc] := by rw [← unhide HWW, if_pos hc]
      subst e9
      clear hE
      have HI := hide (sitoa vc W9 (gnd_kp (unhide HG) (unhide HC).kp) hcn hcm)
      go_wp2_with (first | (go_at_call 25; refine (unhide HI).mono ?_; rintro e w7 ⟨rfl, hk7⟩; have HZ7 := hide (((unhide HC).kp0 hk7).box #[.string ⟨#[110, 111]⟩, .string ⟨(Lib.itoa vc).toArray⟩] 9); clear hk7) | (go_at_call 24; refine (dsay (l1 := [_, _]) [[110, 111], Lib.itoa vc] 2 rfl _ 0 2 (unhide HZ7) (cells_strs [[110, 111], Lib.itoa vc] (zoo_varm (unhide HZ7) (List.Mem.head _)) rfl) (join_pos (by simp)) (by simp) (by simp) hlen).mono ?_; rintro e w8 ⟨rfl, HZ8⟩))
      refine bodyPost_ret (v := .tuple #[]) (results_none Tryz.results30 _ _ _) rfl ?_
      exact ⟨rfl, _, zoo_24 (r := r) (Zoo.tail (unhide HZ8))⟩
  · go_simp
    have HA1 := hide ((unhide HA0).box #[.int .i64 0, .int .i64 0, .bool false, .string ⟨#[]⟩, .slice none 0 0] 102)
    refine hK.out _ _ (⟨dsk_m (unhide HA1) (List.Mem.tail _ (List.Mem.tail _ (List.Mem.tail _ (List.Mem.tail _ (List.Mem.head _))))), x8_of (zoo_varm (unhide HA1) (List.Mem.tail _ (List.Mem.tail _ (List.Mem.head _))))⟩) (fun hHeld2 => ?_)
    clear hK K hHeld
    have hHeld := hHeld2
    clear hHeld2
    try simp only [Act.put, List.setIfInBounds_toArray, List.set_cons_zero, List.set_cons_succ]
    generalize WD.alloc (.cells #[.int .i64 0, .int .i64 0, .bool false, .string ⟨#[]⟩, .slice none 0 0] 102) = W6 at *
    generalize WD.heap.size = p6 at *
    have HA1b := hide (zoo_in (unhide HA1))
    refine wpAnyH_only (i := 5) rfl (by kernel_rfl) (fun K hK => ?_)
    go_simp
    refine (unhide HD W6 _ (unhide HA1b)).mono ?_
    rintro e w3 ⟨a9, c9, rfl, HA2⟩
    go_wp2_with fail
    refine hK.out _ _ (⟨dsk_m (unhide HA2) (List.Mem.tail _ (List.Mem.tail _ (List.Mem.tail _ (List.Mem.tail _ (List.Mem.tail _ (List.Mem.head _)))))), x8_of (zoo_varm (unhide HA2) (List.Mem.tail _ (List.Mem.tail _ (List.Mem.tail _ (List.Mem.head _)))))⟩) (fun hHeld2 => ?_)
    clear hK K hHeld
    have hHeld := hHeld2
    clear hHeld2
    try simp only [Act.put, List.setIfInBounds_toArray, List.set_cons_zero, List.set_cons_succ]
    refine wpAnyH_only (i := 7) rfl (by kernel_rfl) (fun K hK => ?_)
    rw [if_pos (by rfl)]
    refine wp_store_row 102 _ _ rfl p6 #[.int .i64 vc, .int .i64 vn, .bool vt, .string vs, .slice a9 m c9] rfl rfl 102 _ (zoo_varm (unhide HA2) (List.Mem.tail _ (List.Mem.tail _ (List.Mem.head _)))) Tryz.sizeEv rfl (by simp [Value.oneCell']) ?_
    have HB := hide (zoo_setrow (c' := #[.int .i64 vc, .int .i64 vn, .bool vt, .string vs, .slice a9 m c9]) (l1 := [_, _]) (unhide HA2))
    refine hK.out _ _ (⟨dsk_m (unhide HB) (List.Mem.tail _ (List.Mem.tail _ (List.Mem.tail _ (List.Mem.tail _ (List.Mem.tail _ (List.Mem.head _)))))), x8_of (zoo_varm (unhide HB) (List.Mem.tail _ (List.Mem.tail _ (List.Mem.tail _ (List.Mem.head _)))))⟩) (fun hHeld2 => ?_)
    clear hK K hHeld
    have hHeld := hHeld2
    clear hHeld2
    refine wpAnyH_done (by kernel_rfl) ?_ _
    clear hHeld
    generalize World.setRow _ _ _ = W9 at *
    have HC : Hid (Zoo w0 W9 (BoxT q #[.pointer (some ⟨d, 0, none⟩)] 25 :: DskT d hb bs :: HalT hb h' :: PsT a9 c9 vl :: BoxT p6 #[.int .i64 vc, .int .i64 vn, .bool vt, .string vs, .slice a9 m c9] 102 :: BoxT p5 (xcs ⟨xd, xs, xm, xa, xk, xt, xp, xb⟩) 79 :: r)) := hide (zoo_42 (unhide HB))
    have hE := zoo_varm (unhide HC) (List.Mem.tail _ (List.Mem.tail _ (List.Mem.tail _ (List.Mem.tail _ (List.Mem.head _)))))
    have e0 : W9.cell? ⟨p6, 0, none⟩ = some (.int .i64 vc) := cell_of_block hE rfl
    by_cases hc : vc = 0
    · subst hc
      have e1 : W9.cell? ⟨p6, 1, none⟩ = some (.int .i64 vn) := cell_of_block hE rfl
      have e2 : W9.cell? ⟨p6, 1 + 1, none⟩ = some (.bool vt) := cell_of_block hE rfl
      have e3 : W9.cell? ⟨p6, 1 + 1 + 1, none⟩ = some (.string vs) := cell_of_block hE rfl
      have e4 : W9.cell? ⟨p6, 1 + 1 + 1 + 1, none⟩ = some (.slice a9 m c9) := cell_of_block hE rfl
      have e9 : ww = [[104, 97, 115], vtx vt vs] := by rw [← unhide HWW, if_neg (by simp)]
      subst e9
      have HT := hide (tel1 ⟨0, vn, vt, vs, vl⟩ a9 c9 (unhide HV) (unhide HG) (unhide HC) hlen)
      dsimp only at HT
      rw [← unhide HM] at HT
      clear hE
      go_wp2_with (go_at_call 54; refine (unhide HT).mono ?_; rintro e w7 ⟨rfl, HZ7⟩)
      go_end0
      exact ⟨rfl, _, zoo_24 (r := r) (unhide HZ7)⟩
    · have hc2 : ¬ (vc = 0) := hc
      have e9 : ww = [[110, 111], Lib.itoa vc] := by rw [← unhide HWW, if_pos hc]
      subst e9
      clear hE
      have HI := hide (sitoa vc W9 (gnd_kp (unhide HG) (unhide HC).kp) hcn hcm)
      go_wp2_with (first | (go_at_call 25; refine (unhide HI).mono ?_; rintro e w7 ⟨rfl, hk7⟩; have HZ7 := hide (((unhide HC).kp0 hk7).box #[.string ⟨#[110, 111]⟩, .string ⟨(Lib.itoa vc).toArray⟩] 9); clear hk7) | (go_at_call 24; refine (dsay (l1 := [_, _]) [[110, 111], Lib.itoa vc] 2 rfl _ 0 2 (unhide HZ7) (cells_strs [[110, 111], Lib.itoa vc] (zoo_varm (unhide HZ7) (List.Mem.head _)) rfl) (join_pos (by simp)) (by simp) (by simp) hlen).mono ?_; rintro e w8 ⟨rfl, HZ8⟩))
      refine bodyPost_ret (v := .tuple #[]) (results_none Tryz.results30 _ _ _) rfl ?_
      exact ⟨rfl, _, zoo_24 (r := r) (Zoo.tail (unhide HZ8))⟩
set_option maxHeartbeats 4000000 in
theorem dstep2 (x : HStep) (hsz : x.b.size ≤ maxLen) (hg : Gnd w0) (hv : EvOk (hev h x)) (hz : Zoo w0 w (HalT hb h :: BoxT q #[.pointer (some ⟨d, 0, none⟩)] 25 :: DskT d hb bs :: r)) (hlen : bs.length + (say (if (hev h x).c ≠ 0 then [[110, 111], Lib.itoa (hev h x).c] else [97, 108, 108] :: (hev h x).l.map pvx)).length ≤ 100000) :
    Calls Tryz.prog 30 #[.pointer (some ⟨d, 0, none⟩), .agg #[.int .i64 x.d, .int .i64 x.s, .int .i64 x.md, .int .i64 x.at_, .int .i64 x.key, .int .i64 x.to_, .int .i64 x.keep, .string x.b], .func (.func 56) #[] #[.pointer (some ⟨q, 0, none⟩)]] w fun e w' => e = .returned (.tuple #[]) ∧ Hid (∃ r', Zoo w0 w' (HalT hb (hdo h x) :: BoxT q #[.pointer (some ⟨d, 0, none⟩)] 25 :: DskT d hb (bs ++ say (if (hev h x).c ≠ 0 then [[110, 111], Lib.itoa (hev h x).c] else [97, 108, 108] :: (hev h x).l.map pvx)) :: r' ++ r)) := by
  have hd : ∀ (W : World) (r1 : List Thing), Zoo w0 W (HalT hb h :: r1) → Calls Tryz.prog 53 #[.pointer (some ⟨hb, 0, none⟩), .agg #[.int .i64 x.d, .int .i64 x.s, .int .i64 x.md, .int .i64 x.at_, .int .i64 x.key, .int .i64 x.to_, .int .i64 x.keep, .string x.b]] W fun e w' => ∃ a cap, e = .returned (.agg #[.int .i64 (hev h x).c, .int .i64 (hev h x).n, .bool (hev h x).t, .string (hev h x).s, .slice a (hev h x).l.length cap]) ∧ Hid (Zoo w0 w' (HalT hb (hdo h x) :: PsT a cap (hev h x).l :: r1)) := fun W r1 hz1 => hal_do x hsz hz1
  generalize hdo h x = h' at *
  generalize hev h x = v at *
  obtain ⟨xd, xs, xm, xa, xk, xt, xp, xb⟩ := x
  obtain ⟨vc, vn, vt, vs, vl⟩ := v
  dsimp only at *
  obtain ⟨m, hm⟩ : ∃ m, m = vl.length := ⟨_, rfl⟩
  rw [← hm] at hd
  have HM := hide hm
  have HD := hide hd
  have HV := hide hv
  have HG := hide hg
  have hcn := hv.c0
  have hcm := hv.c1
  dsimp only at hcn hcm
  have HX := hide (zoo_in (hz.box (xcs ⟨xd, xs, xm, xa, xk, xt, xp, xb⟩) 79))
  obtain ⟨ww, hww⟩ : ∃ ww, (if vc ≠ 0 then [[110, 111], Lib.itoa vc] else [97, 108, 108] :: vl.map pvx) = ww := ⟨_, rfl⟩
  rw [hww] at hlen ⊢
  have HWW := hide hww
  clear hz hg hv hd hm hsz hww
  go_enter Tryz.func30, Tryz.ntmps30
  go_wp2_with fail
  have HX2 : Hid (Zoo w0 (w.alloc (.cells #[.int .i64 xd, .int .i64 xs, .int .i64 xm, .int .i64 xa, .int .i64 xk, .int .i64 xt, .int .i64 xp, .string xb] 79)) (HalT hb h :: BoxT w.heap.size (xcs ⟨xd, xs, xm, xa, xk, xt, xp, xb⟩) 79 :: BoxT q #[.pointer (some ⟨d, 0, none⟩)] 25 :: DskT d hb bs :: r)) := HX
  clear HX
  generalize w.alloc (.cells #[.int .i64 xd, .int .i64 xs, .int .i64 xm, .int .i64 xa, .int .i64 xk, .int .i64 xt, .int .i64 xp, .string xb] 79) = W5 at *
  generalize w.heap.size = p5 at *
  refine wp_region_held_drew (S := fun w' => w'.cell? ⟨d, 2, none⟩ = some (.pointer (some ⟨hb, 0, none⟩)) ∧ w'.cell? ⟨p5, 0, none⟩ = some (.int .i64 xd) ∧ w'.cell? ⟨p5, 1, none⟩ = some (.int .i64 xs) ∧ w'.cell? ⟨p5, 1 + 1, none⟩ = some (.int .i64 xm) ∧ w'.cell? ⟨p5, 1 + 1 + 1, none⟩ = some (.int .i64 xa) ∧ w'.cell? ⟨p5, 1 + 1 + 1 + 1, none⟩ = some (.int .i64 xk) ∧ w'.cell? ⟨p5, 1 + 1 + 1 + 1 + 1, none⟩ = some (.int .i64 xt) ∧ w'.cell? ⟨p5, 1 + 1 + 1 + 1 + 1 + 1, none⟩ = some (.int .i64 xp) ∧ w'.cell? ⟨p5, 1 + 1 + 1 + 1 + 1 + 1 + 1, none⟩ = some (.string xb)) (by kernel_rfl) ⟨dsk_m ((unhide HX2).kp0 (Kp.refl [] W5).drew) (List.Mem.tail _ (List.Mem.tail _ (List.Mem.tail _ (List.Mem.head _)))), x8_of (zoo_varm ((unhide HX2).kp0 (Kp.refl [] W5).drew) (List.Mem.tail _ (List.Mem.head _)))⟩ (fun hHeld => ?_)
  have HA0 := hide ((unhide HX2).kp0 (Kp.refl [] W5).drew)
  generalize World.drew _ = WD at HA0 hHeld ⊢
  refine wpAnyH_tk (i := 0) (v := ?_) rfl (by kernel_rfl) (by kernel_rfl) (by kernel_rfl) (fun _ _ _ h => h) (Or.inl ⟨by rfl, ?_⟩) hHeld ?_
  rotate_left
  · intro w hSw
    try dsimp only at hSw
    go_simp
    try with_reducible rfl
  try simp only [Act.put, List.setIfInBounds_toArray, List.set_cons_zero, List.set_cons_succ]
  refine wpAnyH_tk (i := 1) (v := ?_) rfl (by kernel_rfl) (by kernel_rfl) (by kernel_rfl) (fun _ _ _ h => h) (Or.inl ⟨by rfl, ?_⟩) hHeld ?_
  rotate_left
  · intro w hSw
    try dsimp only at hSw
    go_simp
    try with_reducible rfl
  try simp only [Act.put, List.setIfInBounds_toArray, List.set_cons_zero, List.set_cons_succ]
  refine wpAnyH_tk (i := 2) (v := ?_) rfl (by kernel_rfl) (by kernel_rfl) (by kernel_rfl) (fun _ _ _ h => h) (Or.inl ⟨by rfl, ?_⟩) hHeld ?_
  rotate_left
  · intro w hSw
    try dsimp only at hSw
    go_simp
    try with_reducible rfl
  try simp only [Act.put, List.setIfInBounds_toArray, List.set_cons_zero, List.set_cons_succ]
  refine wpAnyH_tk (i := 3) (v := ?_) rfl (by kernel_rfl) (by kernel_rfl) (by kernel_rfl) (fun _ _ _ h => h) (Or.inl ⟨by rfl, ?_⟩) hHeld ?_
  rotate_left
  · intro w hSw
    try dsimp only at hSw
    go_simp
    try with_reducible rfl
  try simp only [Act.put, List.setIfInBounds_toArray, List.set_cons_zero, List.set_cons_succ]
  refine wpAnyH_tk (i := 4) (v := ?_) rfl (by kernel_rfl) (by kernel_rfl) (by kernel_rfl) (fun _ _ _ h => h) (Or.inl ⟨by rfl, ?_⟩) hHeld ?_
  rotate_left
  · intro w hSw
    try dsimp only at hSw
    go_simp
    try with_reducible rfl
  try simp only [Act.put, List.setIfInBounds_toArray, List.set_cons_zero, List.set_cons_succ]
  refine wpAnyH_two (i := 5) (j := 6) rfl rfl (by kernel_rfl) (fun K hK => ?_) (fun K hK => ?_)
  · go_simp
    refine (unhide HD WD _ (unhide HA0)).mono ?_
    rintro e w3 ⟨a9, c9, rfl, HA1⟩
    go_wp2_with fail
    refine hK.out _ _ (⟨dsk_m (unhide HA1) (List.Mem.tail _ (List.Mem.tail _ (List.Mem.tail _ (List.Mem.tail _ (List.Mem.head _))))), x8_of (zoo_varm (unhide HA1) (List.Mem.tail _ (List.Mem.tail _ (List.Mem.head _))))⟩) (fun hHeld2 => ?_)
    clear hK K hHeld
    have hHeld := hHeld2
    clear hHeld2
    try simp only [Act.put, List.setIfInBounds_toArray, List.set_cons_zero, List.set_cons_succ]
    refine wpAnyH_only (i := 6) rfl (by kernel_rfl) (fun K hK => ?_)
    go_simp
    have HA2 := hide ((unhide HA1).box #[.int .i64 0, .int .i64 0, .bool false, .string ⟨#[]⟩, .slice none 0 0] 102)
    refine hK.out _ _ (⟨dsk_m (unhide HA2) (List.Mem.tail _ (List.Mem.tail _ (List.Mem.tail _ (List.Mem.tail _ (List.Mem.tail _ (List.Mem.head _)))))), x8_of (zoo_varm (unhide HA2) (List.Mem.tail _ (List.Mem.tail _ (List.Mem.tail _ (List.Mem.head _)))))⟩) (fun hHeld2 => ?_)
    clear hK K hHeld
    have hHeld := hHeld2
    clear hHeld2
    try simp only [Act.put, List.setIfInBounds_toArray, List.set_cons_zero, List.set_cons_succ]
    generalize w3.alloc (.cells #[.int .i64 0, .int .i64 0, .bool false, .string ⟨#[]⟩, .slice none 0 0] 102) = W6 at *
    generalize w3.heap.size = p6 at *
    refine wpAnyH_only (i := 7) rfl (by kernel_rfl) (fun K hK => ?_)
    rw [if_pos (by rfl)]
    refine wp_store_row 102 _ _ rfl p6 #[.int .i64 vc, .int .i64 vn, .bool vt, .string vs, .slice a9 m c9] rfl rfl 102 _ (zoo_varm (unhide HA2) (List.Mem.head _)) Tryz.sizeEv rfl (by simp [Value.oneCell']) ?_
    have HB0 := hide (zoo_setrow (c' := #[.int .i64 vc, .int .i64 vn, .bool vt, .string vs, .slice a9 m c9]) (l1 := []) (unhide HA2))
    refine hK.out _ _ (⟨dsk_m (unhide HB0) (List.Mem.tail _ (List.Mem.tail _ (List.Mem.tail _ (List.Mem.tail _ (List.Mem.tail _ (List.Mem.head _)))))), x8_of (zoo_varm (unhide HB0) (List.Mem.tail _ (List.Mem.tail _ (List.Mem.tail _ (List.Mem.head _)))))⟩) (fun hHeld2 => ?_)
    clear hK K hHeld
    have hHeld := hHeld2
    clear hHeld2
    have HB := hide (zoo_b (unhide HB0))
    refine wpAnyH_done (by kernel_rfl) ?_ _
    clear hHeld
    generalize World.setRow _ _ _ = W9 at *
    have HC : Hid (Zoo w0 W9 (BoxT q #[.pointer (some ⟨d, 0, none⟩)] 25 :: DskT d hb bs :: HalT hb h' :: PsT a9 c9 vl :: BoxT p6 #[.int .i64 vc, .int .i64 vn, .bool vt, .string vs, .slice a9 m c9] 102 :: BoxT p5 (xcs ⟨xd, xs, xm, xa, xk, xt, xp, xb⟩) 79 :: r)) := hide (zoo_42 (unhide HB))
    have hE := zoo_varm (unhide HC) (List.Mem.tail _ (List.Mem.tail _ (List.Mem.tail _ (List.Mem.tail _ (List.Mem.head _)))))
    have e0 : W9.cell? ⟨p6, 0, none⟩ = some (.int .i64 vc) := cell_of_block hE rfl
    by_cases hc : vc = 0
    · subst hc
      have e1 : W9.cell? ⟨p6, 1, none⟩ = some (.int .i64 vn) := cell_of_block hE rfl
      have e2 : W9.cell? ⟨p6, 1 + 1, none⟩ = some (.bool vt) := cell_of_block hE rfl
      have e3 : W9.cell? ⟨p6, 1 + 1 + 1, none⟩ = some (.string vs) := cell_of_block hE rfl
      have e4 : W9.cell? ⟨p6, 1 + 1 + 1 + 1, none⟩ = some (.slice a9 m c9) := cell_of_block hE rfl
      have e9 : ww = [97, 108, 108] :: vl.map pvx := by rw [← unhide HWW, if_neg (by simp)]
      subst e9
      have HT := hide (tel2 ⟨0, vn, vt, vs, vl⟩ a9 c9 (unhide HV) (unhide HG) (unhide HC) (List.Mem.tail _ (List.Mem.head _)) hlen)
      dsimp only at HT
      rw [← unhide HM] at HT
      clear hE
      go_wp2_with (go_at_call 56; refine (unhide HT).mono ?_; rintro e w7 ⟨rfl, HZ7⟩)
      go_end0
      exact ⟨rfl, _, zoo_24 (r := r) (unhide HZ7)⟩
    · have hc2 : ¬ (vc = 0) := hc
      have e9 : ww = [[110, 111], Lib.itoa vc] := by rw [← unhide HWW, if_pos hc]
      subst e9
      clear hE
      have HI := hide (sitoa vc W9 (gnd_kp (unhide HG) (unhide HC).kp) hcn hcm)
      go_wp2_with (first | (go_at_call 25; refine (unhide HI).mono ?_; rintro e w7 ⟨rfl, hk7⟩; have HZ7 := hide (((unhide HC).kp0 hk7).box #[.string ⟨#[110, 111]⟩, .string ⟨(Lib.itoa vc).toArray⟩] 9); clear hk7) | (go_at_call 24; refine (dsay (l1 := [_, _]) [[110, 111], Lib.itoa vc] 2 rfl _ 0 2 (unhide HZ7) (cells_strs [[110, 111], Lib.itoa vc] (zoo_varm (unhide HZ7) (List.Mem.head _)) rfl) (join_pos (by simp)) (by simp) (by simp) hlen).mono ?_; rintro e w8 ⟨rfl, HZ8⟩))
      refine bodyPost_ret (v := .tuple #[]) (results_none Tryz.results30 _ _ _) rfl ?_
      exact ⟨rfl, _, zoo_24 (r := r) (Zoo.tail (unhide HZ8))⟩
  · go_simp
    have HA1 := hide ((unhide HA0).box #[.int .i64 0, .int .i64 0, .bool false, .string ⟨#[]⟩, .slice none 0 0] 102)
    refine hK.out _ _ (⟨dsk_m (unhide HA1) (List.Mem.tail _ (List.Mem.tail _ (List.Mem.tail _ (List.Mem.tail _ (List.Mem.head _))))), x8_of (zoo_varm (unhide HA1) (List.Mem.tail _ (List.Mem.tail _ (List.Mem.head _))))⟩) (fun hHeld2 => ?_)
    clear hK K hHeld
    have hHeld := hHeld2
    clear hHeld2
    try simp only [Act.put, List.setIfInBounds_toArray, List.set_cons_zero, List.set_cons_succ]
    generalize WD.alloc (.cells #[.int .i64 0, .int .i64 0, .bool false, .string ⟨#[]⟩, .slice none 0 0] 102) = W6 at *
    generalize WD.heap.size = p6 at *
    have HA1b := hide (zoo_in (unhide HA1))
    refine wpAnyH_only (i := 5) rfl (by kernel_rfl) (fun K hK => ?_)
    go_simp
    refine (unhide HD W6 _ (unhide HA1b)).mono ?_
    rintro e w3 ⟨a9, c9, rfl, HA2⟩
    go_wp2_with fail
    refine hK.out _ _ (⟨dsk_m (unhide HA2) (List.Mem.tail _ (List.Mem.tail _ (List.Mem.tail _ (List.Mem.tail _ (List.Mem.tail _ (List.Mem.head _)))))), x8_of (zoo_varm (unhide HA2) (List.Mem.tail _ (List.Mem.tail _ (List.Mem.tail _ (List.Mem.head _)))))⟩) (fun hHeld2 => ?_)
    clear hK K hHeld
    have hHeld := hHeld2
    clear hHeld2
    try simp only [Act.put, List.setIfInBounds_toArray, List.set_cons_zero, List.set_cons_succ]
    refine wpAnyH_only (i := 7) rfl (by kernel_rfl) (fun K hK => ?_)
    rw [if_pos (by rfl)]
    refine wp_store_row 102 _ _ rfl p6 #[.int .i64 vc, .int .i64 vn, .bool vt, .string vs, .slice a9 m c9] rfl rfl 102 _ (zoo_varm (unhide HA2) (List.Mem.tail _ (List.Mem.tail _ (List.Mem.head _)))) Tryz.sizeEv rfl (by simp [Value.oneCell']) ?_
    have HB := hide (zoo_setrow (c' := #[.int .i64 vc, .int .i64 vn, .bool vt, .string vs, .slice a9 m c9]) (l1 := [_, _]) (unhide HA2))
    refine hK.out _ _ (⟨dsk_m (unhide HB) (List.Mem.tail _ (List.Mem.tail _ (List.Mem.tail _ (List.Mem.tail _ (List.Mem.tail _ (List.Mem.head _)))))), x8_of (zoo_varm (unhide HB) (List.Mem.tail _ (List.Mem.tail _ (List.Mem.tail _ (List.Mem.head _)))))⟩) (fun hHeld2 => ?_)
    clear hK K hHeld
    have hHeld := hHeld2
    clear hHeld2
    refine wpAnyH_done (by kernel_rfl) ?_ _
    clear hHeld
    generalize World.setRow _ _ _ = W9 at *
    have HC : Hid (Zoo w0 W9 (BoxT q #[.pointer (some ⟨d, 0, none⟩)] 25 :: DskT d hb bs :: HalT hb h' :: PsT a9 c9 vl :: BoxT p6 #[.int .i64 vc, .int .i64 vn, .bool vt, .string vs, .slice a9 m c9] 102 :: BoxT p5 (xcs ⟨xd, xs, xm, xa, xk, xt, xp, xb⟩) 79 :: r)) := hide (zoo_42 (unhide HB))
    have hE := zoo_varm (unhide HC) (List.Mem.tail _ (List.Mem.tail _ (List.Mem.tail _ (List.Mem.tail _ (List.Mem.head _)))))
    have e0 : W9.cell? ⟨p6, 0, none⟩ = some (.int .i64 vc) := cell_of_block hE rfl
    by_cases hc : vc = 0
    · subst hc
      have e1 : W9.cell? ⟨p6, 1, none⟩ = some (.int .i64 vn) := cell_of_block hE rfl
      have e2 : W9.cell? ⟨p6, 1 + 1, none⟩ = some (.bool vt) := cell_of_block hE rfl
      have e3 : W9.cell? ⟨p6, 1 + 1 + 1, none⟩ = some (.string vs) := cell_of_block hE rfl
      have e4 : W9.cell? ⟨p6, 1 + 1 + 1 + 1, none⟩ = some (.slice a9 m c9) := cell_of_block hE rfl
      have e9 : ww = [97, 108, 108] :: vl.map pvx := by rw [← unhide HWW, if_neg (by simp)]
      subst e9
      have HT := hide (tel2 ⟨0, vn, vt, vs, vl⟩ a9 c9 (unhide HV) (unhide HG) (unhide HC) (List.Mem.tail _ (List.Mem.head _)) hlen)
      dsimp only at HT
      rw [← unhide HM] at HT
      clear hE
      go_wp2_with (go_at_call 56; refine (unhide HT).mono ?_; rintro e w7 ⟨rfl, HZ7⟩)
      go_end0
      exact ⟨rfl, _, zoo_24 (r := r) (unhide HZ7)⟩
    · have hc2 : ¬ (vc = 0) := hc
      have e9 : ww = [[110, 111], Lib.itoa vc] := by rw [← unhide HWW, if_pos hc]
      subst e9
      clear hE
      have HI := hide (sitoa vc W9 (gnd_kp (unhide HG) (unhide HC).kp) hcn hcm)
      go_wp2_with (first | (go_at_call 25; refine (unhide HI).mono ?_; rintro e w7 ⟨rfl, hk7⟩; have HZ7 := hide (((unhide HC).kp0 hk7).box #[.string ⟨#[110, 111]⟩, .string ⟨(Lib.itoa vc).toArray⟩] 9); clear hk7) | (go_at_call 24; refine (dsay (l1 := [_, _]) [[110, 111], Lib.itoa vc] 2 rfl _ 0 2 (unhide HZ7) (cells_strs [[110, 111], Lib.itoa vc] (zoo_varm (unhide HZ7) (List.Mem.head _)) rfl) (join_pos (by simp)) (by simp) (by simp) hlen).mono ?_; rintro e w8 ⟨rfl, HZ8⟩))
      refine bodyPost_ret (v := .tuple #[]) (results_none Tryz.results30 _ _ _) rfl ?_
      exact ⟨rfl, _, zoo_24 (r := r) (Zoo.tail (unhide HZ8))⟩
set_option maxHeartbeats 4000000 in
theorem dstep3 (x : HStep) (hsz : x.b.size ≤ maxLen) (hg : Gnd w0) (hv : EvOk (hev h x)) (hz : Zoo w0 w (HalT hb h :: BoxT q #[.pointer (some ⟨d, 0, none⟩)] 25 :: DskT d hb bs :: r)) (hlen : bs.length + (say (if (hev h x).c ≠ 0 then [[110, 111], Lib.itoa (hev h x).c] else [[111, 107], Lib.itoa (hev h x).n])).length ≤ 100000) :
    Calls Tryz.prog 30 #[.pointer (some ⟨d, 0, none⟩), .agg #[.int .i64 x.d, .int .i64 x.s, .int .i64 x.md, .int .i64 x.at_, .int .i64 x.key, .int .i64 x.to_, .int .i64 x.keep, .string x.b], .func (.func 58) #[] #[.pointer (some ⟨q, 0, none⟩)]] w fun e w' => e = .returned (.tuple #[]) ∧ Hid (∃ r', Zoo w0 w' (HalT hb (hdo h x) :: BoxT q #[.pointer (some ⟨d, 0, none⟩)] 25 :: DskT d hb (bs ++ say (if (hev h x).c ≠ 0 then [[110, 111], Lib.itoa (hev h x).c] else [[111, 107], Lib.itoa (hev h x).n])) :: r' ++ r)) := by
  have hd : ∀ (W : World) (r1 : List Thing), Zoo w0 W (HalT hb h :: r1) → Calls Tryz.prog 53 #[.pointer (some ⟨hb, 0, none⟩), .agg #[.int .i64 x.d, .int .i64 x.s, .int .i64 x.md, .int .i64 x.at_, .int .i64 x.key, .int .i64 x.to_, .int .i64 x.keep, .string x.b]] W fun e w' => ∃ a cap, e = .returned (.agg #[.int .i64 (hev h x).c, .int .i64 (hev h x).n, .bool (hev h x).t, .string (hev h x).s, .slice a (hev h x).l.length cap]) ∧ Hid (Zoo w0 w' (HalT hb (hdo h x) :: PsT a cap (hev h x).l :: r1)) := fun W r1 hz1 => hal_do x hsz hz1
  generalize hdo h x = h' at *
  generalize hev h x = v at *
  obtain ⟨xd, xs, xm, xa, xk, xt, xp, xb⟩ := x
  obtain ⟨vc, vn, vt, vs, vl⟩ := v
  dsimp only at *
  obtain ⟨m, hm⟩ : ∃ m, m = vl.length := ⟨_, rfl⟩
  rw [← hm] at hd
  have HM := hide hm
  have HD := hide hd
  have HV := hide hv
  have HG := hide hg
  have hcn := hv.c0
  have hcm := hv.c1
  dsimp only at hcn hcm
  have HX := hide (zoo_in (hz.box (xcs ⟨xd, xs, xm, xa, xk, xt, xp, xb⟩) 79))
  obtain ⟨ww, hww⟩ : ∃ ww, (if vc ≠ 0 then [[110, 111], Lib.itoa vc] else [[111, 107], Lib.itoa vn]) = ww := ⟨_, rfl⟩
  rw [hww] at hlen ⊢
  have HWW := hide hww
  clear hz hg hv hd hm hsz hww
  go_enter Tryz.func30, Tryz.ntmps30
  go_wp2_with fail
  have HX2 : Hid (Zoo w0 (w.alloc (.cells #[.int .i64 xd, .int .i64 xs, .int .i64 xm, .int .i64 xa, .int .i64 xk, .int .i64 xt, .int .i64 xp, .string xb] 79)) (HalT hb h :: BoxT w.heap.size (xcs ⟨xd, xs, xm, xa, xk, xt, xp, xb⟩) 79 :: BoxT q #[.pointer (some ⟨d, 0, none⟩)] 25 :: DskT d hb bs :: r)) := HX
  clear HX
  generalize w.alloc (.cells #[.int .i64 xd, .int .i64 xs, .int .i64 xm, .int .i64 xa, .int .i64 xk, .int .i64 xt, .int .i64 xp, .string xb] 79) = W5 at *
  generalize w.heap.size = p5 at *
  refine wp_region_held_drew (S := fun w' => w'.cell? ⟨d, 2, none⟩ = some (.pointer (some ⟨hb, 0, none⟩)) ∧ w'.cell? ⟨p5, 0, none⟩ = some (.int .i64 xd) ∧ w'.cell? ⟨p5, 1, none⟩ = some (.int .i64 xs) ∧ w'.cell? ⟨p5, 1 + 1, none⟩ = some (.int .i64 xm) ∧ w'.cell? ⟨p5, 1 + 1 + 1, none⟩ = some (.int .i64 xa) ∧ w'.cell? ⟨p5, 1 + 1 + 1 + 1, none⟩ = some (.int .i64 xk) ∧ w'.cell? ⟨p5, 1 + 1 + 1 + 1 + 1, none⟩ = some (.int .i64 xt) ∧ w'.cell? ⟨p5, 1 + 1 + 1 + 1 + 1 + 1, none⟩ = some (.int .i64 xp) ∧ w'.cell? ⟨p5, 1 + 1 + 1 + 1 + 1 + 1 + 1, none⟩ = some (.string xb)) (by kernel_rfl) ⟨dsk_m ((unhide HX2).kp0 (Kp.refl [] W5).drew) (List.Mem.tail _ (List.Mem.tail _ (List.Mem.tail _ (List.Mem.head _)))), x8_of (zoo_varm ((unhide HX2).kp0 (Kp.refl [] W5).drew) (List.Mem.tail _ (List.Mem.head _)))⟩ (fun hHeld => ?_)
  have HA0 := hide ((unhide HX2).kp0 (Kp.refl [] W5).drew)
  generalize World.drew _ = WD at HA0 hHeld ⊢
  refine wpAnyH_tk (i := 0) (v := ?_) rfl (by kernel_rfl) (by kernel_rfl) (by kernel_rfl) (fun _ _ _ h => h) (Or.inl ⟨by rfl, ?_⟩) hHeld ?_
  rotate_left
  · intro w hSw
    try dsimp only at hSw
    go_simp
    try with_reducible rfl
  try simp only [Act.put, List.setIfInBounds_toArray, List.set_cons_zero, List.set_cons_succ]
  refine wpAnyH_tk (i := 1) (v := ?_) rfl (by kernel_rfl) (by kernel_rfl) (by kernel_rfl) (fun _ _ _ h => h) (Or.inl ⟨by rfl, ?_⟩) hHeld ?_
  rotate_left
  · intro w hSw
    try dsimp only at hSw
    go_simp
    try with_reducible rfl
  try simp only [Act.put, List.setIfInBounds_toArray, List.set_cons_zero, List.set_cons_succ]
  refine wpAnyH_tk (i := 2) (v := ?_) rfl (by kernel_rfl) (by kernel_rfl) (by kernel_rfl) (fun _ _ _ h => h) (Or.inl ⟨by rfl, ?_⟩) hHeld ?_
  rotate_left
  · intro w hSw
    try dsimp only at hSw
    go_simp
    try with_reducible rfl
  try simp only [Act.put, List.setIfInBounds_toArray, List.set_cons_zero, List.set_cons_succ]
  refine wpAnyH_tk (i := 3) (v := ?_) rfl (by kernel_rfl) (by kernel_rfl) (by kernel_rfl) (fun _ _ _ h => h) (Or.inl ⟨by rfl, ?_⟩) hHeld ?_
  rotate_left
  · intro w hSw
    try dsimp only at hSw
    go_simp
    try with_reducible rfl
  try simp only [Act.put, List.setIfInBounds_toArray, List.set_cons_zero, List.set_cons_succ]
  refine wpAnyH_tk (i := 4) (v := ?_) rfl (by kernel_rfl) (by kernel_rfl) (by kernel_rfl) (fun _ _ _ h => h) (Or.inl ⟨by rfl, ?_⟩) hHeld ?_
  rotate_left
  · intro w hSw
    try dsimp only at hSw
    go_simp
    try with_reducible rfl
  try simp only [Act.put, List.setIfInBounds_toArray, List.set_cons_zero, List.set_cons_succ]
  refine wpAnyH_two (i := 5) (j := 6) rfl rfl (by kernel_rfl) (fun K hK => ?_) (fun K hK => ?_)
  · go_simp
    refine (unhide HD WD _ (unhide HA0)).mono ?_
    rintro e w3 ⟨a9, c9, rfl, HA1⟩
    go_wp2_with fail
    refine hK.out _ _ (⟨dsk_m (unhide HA1) (List.Mem.tail _ (List.Mem.tail _ (List.Mem.tail _ (List.Mem.tail _ (List.Mem.head _))))), x8_of (zoo_varm (unhide HA1) (List.Mem.tail _ (List.Mem.tail _ (List.Mem.head _))))⟩) (fun hHeld2 => ?_)
    clear hK K hHeld
    have hHeld := hHeld2
    clear hHeld2
    try simp only [Act.put, List.setIfInBounds_toArray, List.set_cons_zero, List.set_cons_succ]
    refine wpAnyH_only (i := 6) rfl (by kernel_rfl) (fun K hK => ?_)
    go_simp
    have HA2 := hide ((unhide HA1).box #[.int .i64 0, .int .i64 0, .bool false, .string ⟨#[]⟩, .slice none 0 0] 102)
    refine hK.out _ _ (⟨dsk_m (unhide HA2) (List.Mem.tail _ (List.Mem.tail _ (List.Mem.tail _ (List.Mem.tail _ (List.Mem.tail _ (List.Mem.head _)))))), x8_of (zoo_varm (unhide HA2) (List.Mem.tail _ (List.Mem.tail _ (List.Mem.tail _ (List.Mem.head _)))))⟩) (fun hHeld2 => ?_)
    clear hK K hHeld
    have hHeld := hHeld2
    clear hHeld2
    try simp only [Act.put, List.setIfInBounds_toArray, List.set_cons_zero, List.set_cons_succ]
    generalize w3.alloc (.cells #[.int .i64 0, .int .i64 0, .bool false, .string ⟨#[]⟩, .slice none 0 0] 102) = W6 at *
    generalize w3.heap.size = p6 at *
    refine wpAnyH_only (i := 7) rfl (by kernel_rfl) (fun K hK => ?_)
    rw [if_pos (by rfl)]
    refine wp_store_row 102 _ _ rfl p6 #[.int .i64 vc, .int .i64 vn, .bool vt, .string vs, .slice a9 m c9] rfl rfl 102 _ (zoo_varm (unhide HA2) (List.Mem.head _)) Tryz.sizeEv rfl (by simp [Value.oneCell']) ?_
    have HB0 := hide (zoo_setrow (c' := #[.int .i64 vc, .int .i64 vn, .bool vt, .string vs, .slice a9 m c9]) (l1 := []) (unhide HA2))
    refine hK.out _ _ (⟨dsk_m (unhide HB0) (List.Mem.tail _ (List.Mem.tail _ (List.Mem.tail _ (List.Mem.tail _ (List.Mem.tail _ (List.Mem.head _)))))), x8_of (zoo_varm (unhide HB0) (List.Mem.tail _ (List.Mem.tail _ (List.Mem.tail _ (List.Mem.head _)))))⟩) (fun hHeld2 => ?_)
    clear hK K hHeld
    have hHeld := hHeld2
    clear hHeld2
    have HB := hide (zoo_b (unhide HB0))
    refine wpAnyH_done (by kernel_rfl) ?_ _
    clear hHeld
    generalize World.setRow _ _ _ = W9 at *
    have HC : Hid (Zoo w0 W9 (BoxT q #[.pointer (some ⟨d, 0, none⟩)] 25 :: DskT d hb bs :: HalT hb h' :: PsT a9 c9 vl :: BoxT p6 #[.int .i64 vc, .int .i64 vn, .bool vt, .string vs, .slice a9 m c9] 102 :: BoxT p5 (xcs ⟨xd, xs, xm, xa, xk, xt, xp, xb⟩) 79 :: r)) := hide (zoo_42 (unhide HB))
    have hE := zoo_varm (unhide HC) (List.Mem.tail _ (List.Mem.tail _ (List.Mem.tail _ (List.Mem.tail _ (List.Mem.head _)))))
    have e0 : W9.cell? ⟨p6, 0, none⟩ = some (.int .i64 vc) := cell_of_block hE rfl
    by_cases hc : vc = 0
    · subst hc
      have e1 : W9.cell? ⟨p6, 1, none⟩ = some (.int .i64 vn) := cell_of_block hE rfl
      have e2 : W9.cell? ⟨p6, 1 + 1, none⟩ = some (.bool vt) := cell_of_block hE rfl
      have e3 : W9.cell? ⟨p6, 1 + 1 + 1, none⟩ = some (.string vs) := cell_of_block hE rfl
      have e4 : W9.cell? ⟨p6, 1 + 1 + 1 + 1, none⟩ = some (.slice a9 m c9) := cell_of_block hE rfl
      have e9 : ww = [[111, 107], Lib.itoa vn] := by rw [← unhide HWW, if_neg (by simp)]
      subst e9
      have HT := hide (tel3 ⟨0, vn, vt, vs, vl⟩ a9 c9 (unhide HV) (unhide HG) (unhide HC) hlen)
      dsimp only at HT
      rw [← unhide HM] at HT
      clear hE
      go_wp2_with (go_at_call 58; refine (unhide HT).mono ?_; rintro e w7 ⟨rfl, HZ7⟩)
      go_end0
      exact ⟨rfl, _, zoo_24 (r := r) (unhide HZ7)⟩
    · have hc2 : ¬ (vc = 0) := hc
      have e9 : ww = [[110, 111], Lib.itoa vc] := by rw [← unhide HWW, if_pos hc]
      subst e9
      clear hE
      have HI := hide (sitoa vc W9 (gnd_kp (unhide HG) (unhide HC).kp) hcn hcm)
      go_wp2_with (first | (go_at_call 25; refine (unhide HI).mono ?_; rintro e w7 ⟨rfl, hk7⟩; have HZ7 := hide (((unhide HC).kp0 hk7).box #[.string ⟨#[110, 111]⟩, .string ⟨(Lib.itoa vc).toArray⟩] 9); clear hk7) | (go_at_call 24; refine (dsay (l1 := [_, _]) [[110, 111], Lib.itoa vc] 2 rfl _ 0 2 (unhide HZ7) (cells_strs [[110, 111], Lib.itoa vc] (zoo_varm (unhide HZ7) (List.Mem.head _)) rfl) (join_pos (by simp)) (by simp) (by simp) hlen).mono ?_; rintro e w8 ⟨rfl, HZ8⟩))
      refine bodyPost_ret (v := .tuple #[]) (results_none Tryz.results30 _ _ _) rfl ?_
      exact ⟨rfl, _, zoo_24 (r := r) (Zoo.tail (unhide HZ8))⟩
  · go_simp
    have HA1 := hide ((unhide HA0).box #[.int .i64 0, .int .i64 0, .bool false, .string ⟨#[]⟩, .slice none 0 0] 102)
    refine hK.out _ _ (⟨dsk_m (unhide HA1) (List.Mem.tail _ (List.Mem.tail _ (List.Mem.tail _ (List.Mem.tail _ (List.Mem.head _))))), x8_of (zoo_varm (unhide HA1) (List.Mem.tail _ (List.Mem.tail _ (List.Mem.head _))))⟩) (fun hHeld2 => ?_)
    clear hK K hHeld
    have hHeld := hHeld2
    clear hHeld2
    try simp only [Act.put, List.setIfInBounds_toArray, List.set_cons_zero, List.set_cons_succ]
    generalize WD.alloc (.cells #[.int .i64 0, .int .i64 0, .bool false, .string ⟨#[]⟩, .slice none 0 0] 102) = W6 at *
    generalize WD.heap.size = p6 at *
    have HA1b := hide (zoo_in (unhide HA1))
    refine wpAnyH_only (i := 5) rfl (by kernel_rfl) (fun K hK => ?_)
    go_simp
    refine (unhide HD W6 _ (unhide HA1b)).mono ?_
    rintro e w3 ⟨a9, c9, rfl, HA2⟩
    go_wp2_with fail
    refine hK.out _ _ (⟨dsk_m (unhide HA2) (List.Mem.tail _ (List.Mem.tail _ (List.Mem.tail _ (List.Mem.tail _ (List.Mem.tail _ (List.Mem.head _)))))), x8_of (zoo_varm (unhide HA2) (List.Mem.tail _ (List.Mem.tail _ (List.Mem.tail _ (List.Mem.head _)))))⟩) (fun hHeld2 => ?_)
    clear hK K hHeld
    have hHeld := hHeld2
    clear hHeld2
    try simp only [Act.put, List.setIfInBounds_toArray, List.set_cons_zero, List.set_cons_succ]
    refine wpAnyH_only (i := 7) rfl (by kernel_rfl) (fun K hK => ?_)
    rw [if_pos (by rfl)]
    refine wp_store_row 102 _ _ rfl p6 #[.int .i64 vc, .int .i64 vn, .bool vt, .string vs, .slice a9 m c9] rfl rfl 102 _ (zoo_varm (unhide HA2) (List.Mem.tail _ (List.Mem.tail _ (List.Mem.head _)))) Tryz.sizeEv rfl (by simp [Value.oneCell']) ?_
    have HB := hide (zoo_setrow (c' := #[.int .i64 vc, .int .i64 vn, .bool vt, .string vs, .slice a9 m c9]) (l1 := [_, _]) (unhide HA2))
    refine hK.out _ _ (⟨dsk_m (unhide HB) (List.Mem.tail _ (List.Mem.tail _ (List.Mem.tail _ (List.Mem.tail _ (List.Mem.tail _ (List.Mem.head _)))))), x8_of (zoo_varm (unhide HB) (List.Mem.tail _ (List.Mem.tail _ (List.Mem.tail _ (List.Mem.head _)))))⟩) (fun hHeld2 => ?_)
    clear hK K hHeld
    have hHeld := hHeld2
    clear hHeld2
    refine wpAnyH_done (by kernel_rfl) ?_ _
    clear hHeld
    generalize World.setRow _ _ _ = W9 at *
    have HC : Hid (Zoo w0 W9 (BoxT q #[.pointer (some ⟨d, 0, none⟩)] 25 :: DskT d hb bs :: HalT hb h' :: PsT a9 c9 vl :: BoxT p6 #[.int .i64 vc, .int .i64 vn, .bool vt, .string vs, .slice a9 m c9] 102 :: BoxT p5 (xcs ⟨xd, xs, xm, xa, xk, xt, xp, xb⟩) 79 :: r)) := hide (zoo_42 (unhide HB))
    have hE := zoo_varm (unhide HC) (List.Mem.tail _ (List.Mem.tail _ (List.Mem.tail _ (List.Mem.tail _ (List.Mem.head _)))))
    have e0 : W9.cell? ⟨p6, 0, none⟩ = some (.int .i64 vc) := cell_of_block hE rfl
    by_cases hc : vc = 0
    · subst hc
      have e1 : W9.cell? ⟨p6, 1, none⟩ = some (.int .i64 vn) := cell_of_block hE rfl
      have e2 : W9.cell? ⟨p6, 1 + 1, none⟩ = some (.bool vt) := cell_of_block hE rfl
      have e3 : W9.cell? ⟨p6, 1 + 1 + 1, none⟩ = some (.string vs) := cell_of_block hE rfl
      have e4 : W9.cell? ⟨p6, 1 + 1 + 1 + 1, none⟩ = some (.slice a9 m c9) := cell_of_block hE rfl
      have e9 : ww = [[111, 107], Lib.itoa vn] := by rw [← unhide HWW, if_neg (by simp)]
      subst e9
      have HT := hide (tel3 ⟨0, vn, vt, vs, vl⟩ a9 c9 (unhide HV) (unhide HG) (unhide HC) hlen)
      dsimp only at HT
      rw [← unhide HM] at HT
      clear hE
      go_wp2_with (go_at_call 58; refine (unhide HT).mono ?_; rintro e w7 ⟨rfl, HZ7⟩)
      go_end0
      exact ⟨rfl, _, zoo_24 (r := r) (unhide HZ7)⟩
    · have hc2 : ¬ (vc = 0) := hc
      have e9 : ww = [[110, 111], Lib.itoa vc] := by rw [← unhide HWW, if_pos hc]
      subst e9
      clear hE
      have HI := hide (sitoa vc W9 (gnd_kp (unhide HG) (unhide HC).kp) hcn hcm)
      go_wp2_with (first | (go_at_call 25; refine (unhide HI).mono ?_; rintro e w7 ⟨rfl, hk7⟩; have HZ7 := hide (((unhide HC).kp0 hk7).box #[.string ⟨#[110, 111]⟩, .string ⟨(Lib.itoa vc).toArray⟩] 9); clear hk7) | (go_at_call 24; refine (dsay (l1 := [_, _]) [[110, 111], Lib.itoa vc] 2 rfl _ 0 2 (unhide HZ7) (cells_strs [[110, 111], Lib.itoa vc] (zoo_varm (unhide HZ7) (List.Mem.head _)) rfl) (join_pos (by simp)) (by simp) (by simp) hlen).mono ?_; rintro e w8 ⟨rfl, HZ8⟩))
      refine bodyPost_ret (v := .tuple #[]) (results_none Tryz.results30 _ _ _) rfl ?_
      exact ⟨rfl, _, zoo_24 (r := r) (Zoo.tail (unhide HZ8))⟩
set_option maxHeartbeats 4000000 in
theorem dstep4 (x : HStep) (hsz : x.b.size ≤ maxLen) (hg : Gnd w0) (hv : EvOk (hev h x)) (hz : Zoo w0 w (HalT hb h :: BoxT q #[.pointer (some ⟨d, 0, none⟩)] 25 :: DskT d hb bs :: r)) (hlen : bs.length + (say (if (hev h x).c ≠ 0 then [[110, 111], Lib.itoa (hev h x).c] else [[111, 107]])).length ≤ 100000) :
    Calls Tryz.prog 30 #[.pointer (some ⟨d, 0, none⟩), .agg #[.int .i64 x.d, .int .i64 x.s, .int .i64 x.md, .int .i64 x.at_, .int .i64 x.key, .int .i64 x.to_, .int .i64 x.keep, .string x.b], .func (.func 59) #[] #[.pointer (some ⟨q, 0, none⟩)]] w fun e w' => e = .returned (.tuple #[]) ∧ Hid (∃ r', Zoo w0 w' (HalT hb (hdo h x) :: BoxT q #[.pointer (some ⟨d, 0, none⟩)] 25 :: DskT d hb (bs ++ say (if (hev h x).c ≠ 0 then [[110, 111], Lib.itoa (hev h x).c] else [[111, 107]])) :: r' ++ r)) := by
  have hd : ∀ (W : World) (r1 : List Thing), Zoo w0 W (HalT hb h :: r1) → Calls Tryz.prog 53 #[.pointer (some ⟨hb, 0, none⟩), .agg #[.int .i64 x.d, .int .i64 x.s, .int .i64 x.md, .int .i64 x.at_, .int .i64 x.key, .int .i64 x.to_, .int .i64 x.keep, .string x.b]] W fun e w' => ∃ a cap, e = .returned (.agg #[.int .i64 (hev h x).c, .int .i64 (hev h x).n, .bool (hev h x).t, .string (hev h x).s, .slice a (hev h x).l.length cap]) ∧ Hid (Zoo w0 w' (HalT hb (hdo h x) :: PsT a cap (hev h x).l :: r1)) := fun W r1 hz1 => hal_do x hsz hz1
  generalize hdo h x = h' at *
  generalize hev h x = v at *
  obtain ⟨xd, xs, xm, xa, xk, xt, xp, xb⟩ := x
  obtain ⟨vc, vn, vt, vs, vl⟩ := v
  dsimp only at *
  obtain ⟨m, hm⟩ : ∃ m, m = vl.length := ⟨_, rfl⟩
  rw [← hm] at hd
  have HM := hide hm
  have HD := hide hd
  have HV := hide hv
  have HG := hide hg
  have hcn := hv.c0
  have hcm := hv.c1
  dsimp only at hcn hcm
  have HX := hide (zoo_in (hz.box (xcs ⟨xd, xs, xm, xa, xk, xt, xp, xb⟩) 79))
  obtain ⟨ww, hww⟩ : ∃ ww, (if vc ≠ 0 then [[110, 111], Lib.itoa vc] else [[111, 107]]) = ww := ⟨_, rfl⟩
  rw [hww] at hlen ⊢
  have HWW := hide hww
  clear hz hg hv hd hm hsz hww
  go_enter Tryz.func30, Tryz.ntmps30
  go_wp2_with fail
  have HX2 : Hid (Zoo w0 (w.alloc (.cells #[.int .i64 xd, .int .i64 xs, .int .i64 xm, .int .i64 xa, .int .i64 xk, .int .i64 xt, .int .i64 xp, .string xb] 79)) (HalT hb h :: BoxT w.heap.size (xcs ⟨xd, xs, xm, xa, xk, xt, xp, xb⟩) 79 :: BoxT q #[.pointer (some ⟨d, 0, none⟩)] 25 :: DskT d hb bs :: r)) := HX
  clear HX
  generalize w.alloc (.cells #[.int .i64 xd, .int .i64 xs, .int .i64 xm, .int .i64 xa, .int .i64 xk, .int .i64 xt, .int .i64 xp, .string xb] 79) = W5 at *
  generalize w.heap.size = p5 at *
  refine wp_region_held_drew (S := fun w' => w'.cell? ⟨d, 2, none⟩ = some (.pointer (some ⟨hb, 0, none⟩)) ∧ w'.cell? ⟨p5, 0, none⟩ = some (.int .i64 xd) ∧ w'.cell? ⟨p5, 1, none⟩ = some (.int .i64 xs) ∧ w'.cell? ⟨p5, 1 + 1, none⟩ = some (.int .i64 xm) ∧ w'.cell? ⟨p5, 1 + 1 + 1, none⟩ = some (.int .i64 xa) ∧ w'.cell? ⟨p5, 1 + 1 + 1 + 1, none⟩ = some (.int .i64 xk) ∧ w'.cell? ⟨p5, 1 + 1 + 1 + 1 + 1, none⟩ = some (.int .i64 xt) ∧ w'.cell? ⟨p5, 1 + 1 + 1 + 1 + 1 + 1, none⟩ = some (.int .i64 xp) ∧ w'.cell? ⟨p5, 1 + 1 + 1 + 1 + 1 + 1 + 1, none⟩ = some (.string xb)) (by kernel_rfl) ⟨dsk_m ((unhide HX2).kp0 (Kp.refl [] W5).drew) (List.Mem.tail _ (List.Mem.tail _ (List.Mem.tail _ (List.Mem.head _)))), x8_of (zoo_varm ((unhide HX2).kp0 (Kp.refl [] W5).drew) (List.Mem.tail _ (List.Mem.head _)))⟩ (fun hHeld => ?_)
  have HA0 := hide ((unhide HX2).kp0 (Kp.refl [] W5).drew)
  generalize World.drew _ = WD at HA0 hHeld ⊢
  refine wpAnyH_tk (i := 0) (v := ?_) rfl (by kernel_rfl) (by kernel_rfl) (by kernel_rfl) (fun _ _ _ h => h) (Or.inl ⟨by rfl, ?_⟩) hHeld ?_
  rotate_left
  · intro w hSw
    try dsimp only at hSw
    go_simp
    try with_reducible rfl
  try simp only [Act.put, List.setIfInBounds_toArray, List.set_cons_zero, List.set_cons_succ]
  refine wpAnyH_tk (i := 1) (v := ?_) rfl (by kernel_rfl) (by kernel_rfl) (by kernel_rfl) (fun _ _ _ h => h) (Or.inl ⟨by rfl, ?_⟩) hHeld ?_
  rotate_left
  · intro w hSw
    try dsimp only at hSw
    go_simp
    try with_reducible rfl
  try simp only [Act.put, List.setIfInBounds_toArray, List.set_cons_zero, List.set_cons_succ]
  refine wpAnyH_tk (i := 2) (v := ?_) rfl (by kernel_rfl) (by kernel_rfl) (by kernel_rfl) (fun _ _ _ h => h) (Or.inl ⟨by rfl, ?_⟩) hHeld ?_
  rotate_left
  · intro w hSw
    try dsimp only at hSw
    go_simp
    try with_reducible rfl
  try simp only [Act.put, List.setIfInBounds_toArray, List.set_cons_zero, List.set_cons_succ]
  refine wpAnyH_tk (i := 3) (v := ?_) rfl (by kernel_rfl) (by kernel_rfl) (by kernel_rfl) (fun _ _ _ h => h) (Or.inl ⟨by rfl, ?_⟩) hHeld ?_
  rotate_left
  · intro w hSw
    try dsimp only at hSw
    go_simp
    try with_reducible rfl
  try simp only [Act.put, List.setIfInBounds_toArray, List.set_cons_zero, List.set_cons_succ]
  refine wpAnyH_tk (i := 4) (v := ?_) rfl (by kernel_rfl) (by kernel_rfl) (by kernel_rfl) (fun _ _ _ h => h) (Or.inl ⟨by rfl, ?_⟩) hHeld ?_
  rotate_left
  · intro w hSw
    try dsimp only at hSw
    go_simp
    try with_reducible rfl
  try simp only [Act.put, List.setIfInBounds_toArray, List.set_cons_zero, List.set_cons_succ]
  refine wpAnyH_two (i := 5) (j := 6) rfl rfl (by kernel_rfl) (fun K hK => ?_) (fun K hK => ?_)
  · go_simp
    refine (unhide HD WD _ (unhide HA0)).mono ?_
    rintro e w3 ⟨a9, c9, rfl, HA1⟩
    go_wp2_with fail
    refine hK.out _ _ (⟨dsk_m (unhide HA1) (List.Mem.tail _ (List.Mem.tail _ (List.Mem.tail _ (List.Mem.tail _ (List.Mem.head _))))), x8_of (zoo_varm (unhide HA1) (List.Mem.tail _ (List.Mem.tail _ (List.Mem.head _))))⟩) (fun hHeld2 => ?_)
    clear hK K hHeld
    have hHeld := hHeld2
    clear hHeld2
    try simp only [Act.put, List.setIfInBounds_toArray, List.set_cons_zero, List.set_cons_succ]
    refine wpAnyH_only (i := 6) rfl (by kernel_rfl) (fun K hK => ?_)
    go_simp
    have HA2 := hide ((unhide HA1).box #[.int .i64 0, .int .i64 0, .bool false, .string ⟨#[]⟩, .slice none 0 0] 102)
    refine hK.out _ _ (⟨dsk_m (unhide HA2) (List.Mem.tail _ (List.Mem.tail _ (List.Mem.tail _ (List.Mem.tail _ (List.Mem.tail _ (List.Mem.head _)))))), x8_of (zoo_varm (unhide HA2) (List.Mem.tail _ (List.Mem.tail _ (List.Mem.tail _ (List.Mem.head _)))))⟩) (fun hHeld2 => ?_)
    clear hK K hHeld
    have hHeld := hHeld2
    clear hHeld2
    try simp only [Act.put, List.setIfInBounds_toArray, List.set_cons_zero, List.set_cons_succ]
    generalize w3.alloc (.cells #[.int .i64 0, .int .i64 0, .bool false, .string ⟨#[]⟩, .slice none 0 0] 102) = W6 at *
    generalize w3.heap.size = p6 at *
    refine wpAnyH_only (i := 7) rfl (by kernel_rfl) (fun K hK => ?_)
    rw [if_pos (by rfl)]
    refine wp_store_row 102 _ _ rfl p6 #[.int .i64 vc, .int .i64 vn, .bool vt, .string vs, .slice a9 m c9] rfl rfl 102 _ (zoo_varm (unhide HA2) (List.Mem.head _)) Tryz.sizeEv rfl (by simp [Value.oneCell']) ?_
    have HB0 := hide (zoo_setrow (c' := #[.int .i64 vc, .int .i64 vn, .bool vt, .string vs, .slice a9 m c9]) (l1 := []) (unhide HA2))
    refine hK.out _ _ (⟨dsk_m (unhide HB0) (List.Mem.tail _ (List.Mem.tail _ (List.Mem.tail _ (List.Mem.tail _ (List.Mem.tail _ (List.Mem.head _)))))), x8_of (zoo_varm (unhide HB0) (List.Mem.tail _ (List.Mem.tail _ (List.Mem.tail _ (List.Mem.head _)))))⟩) (fun hHeld2 => ?_)
    clear hK K hHeld
    have hHeld := hHeld2
    clear hHeld2
    have HB := hide (zoo_b (unhide HB0))
    refine wpAnyH_done (by kernel_rfl) ?_ _
    clear hHeld
    generalize World.setRow _ _ _ = W9 at *
    have HC : Hid (Zoo w0 W9 (BoxT q #[.pointer (some ⟨d, 0, none⟩)] 25 :: DskT d hb bs :: HalT hb h' :: PsT a9 c9 vl :: BoxT p6 #[.int .i64 vc, .int .i64 vn, .bool vt, .string vs, .slice a9 m c9] 102 :: BoxT p5 (xcs ⟨xd, xs, xm, xa, xk, xt, xp, xb⟩) 79 :: r)) := hide (zoo_42 (unhide HB))
    have hE := zoo_varm (unhide HC) (List.Mem.tail _ (List.Mem.tail _ (List.Mem.tail _ (List.Mem.tail _ (List.Mem.head _)))))
    have e0 : W9.cell? ⟨p6, 0, none⟩ = some (.int .i64 vc) := cell_of_block hE rfl
    by_cases hc : vc = 0
    · subst hc
      have e1 : W9.cell? ⟨p6, 1, none⟩ = some (.int .i64 vn) := cell_of_block hE rfl
      have e2 : W9.cell? ⟨p6, 1 + 1, none⟩ = some (.bool vt) := cell_of_block hE rfl
      have e3 : W9.cell? ⟨p6, 1 + 1 + 1, none⟩ = some (.string vs) := cell_of_block hE rfl
      have e4 : W9.cell? ⟨p6, 1 + 1 + 1 + 1, none⟩ = some (.slice a9 m c9) := cell_of_block hE rfl
      have e9 : ww = [[111, 107]] := by rw [← unhide HWW, if_neg (by simp)]
      subst e9
      have HT := hide (tel4 ⟨0, vn, vt, vs, vl⟩ a9 c9 (unhide HV) (unhide HG) (unhide HC) hlen)
      dsimp only at HT
      rw [← unhide HM] at HT
      clear hE
      go_wp2_with (go_at_call 59; refine (unhide HT).mono ?_; rintro e w7 ⟨rfl, HZ7⟩)
      go_end0
      exact ⟨rfl, _, zoo_24 (r := r) (unhide HZ7)⟩
    · have hc2 : ¬ (vc = 0) := hc
      have e9 : ww = [[110, 111], Lib.itoa vc] := by rw [← unhide HWW, if_pos hc]
      subst e9
      clear hE
      have HI := hide (sitoa vc W9 (gnd_kp (unhide HG) (unhide HC).kp) hcn hcm)
      go_wp2_with (first | (go_at_call 25; refine (unhide HI).mono ?_; rintro e w7 ⟨rfl, hk7⟩; have HZ7 := hide (((unhide HC).kp0 hk7).box #[.string ⟨#[110, 111]⟩, .string ⟨(Lib.itoa vc).toArray⟩] 9); clear hk7) | (go_at_call 24; refine (dsay (l1 := [_, _]) [[110, 111], Lib.itoa vc] 2 rfl _ 0 2 (unhide HZ7) (cells_strs [[110, 111], Lib.itoa vc] (zoo_varm (unhide HZ7) (List.Mem.head _)) rfl) (join_pos (by simp)) (by simp) (by simp) hlen).mono ?_; rintro e w8 ⟨rfl, HZ8⟩))
      refine bodyPost_ret (v := .tuple #[]) (results_none Tryz.results30 _ _ _) rfl ?_
      exact ⟨rfl, _, zoo_24 (r := r) (Zoo.tail (unhide HZ8))⟩
  · go_simp
    have HA1 := hide ((unhide HA0).box #[.int .i64 0, .int .i64 0, .bool false, .string ⟨#[]⟩, .slice none 0 0] 102)
    refine hK.out _ _ (⟨dsk_m (unhide HA1) (List.Mem.tail _ (List.Mem.tail _ (List.Mem.tail _ (List.Mem.tail _ (List.Mem.head _))))), x8_of (zoo_varm (unhide HA1) (List.Mem.tail _ (List.Mem.tail _ (List.Mem.head _))))⟩) (fun hHeld2 => ?_)
    clear hK K hHeld
    have hHeld := hHeld2
    clear hHeld2
    try simp only [Act.put, List.setIfInBounds_toArray, List.set_cons_zero, List.set_cons_succ]
    generalize WD.alloc (.cells #[.int .i64 0, .int .i64 0, .bool false, .string ⟨#[]⟩, .slice none 0 0] 102) = W6 at *
    generalize WD.heap.size = p6 at *
    have HA1b := hide (zoo_in (unhide HA1))
    refine wpAnyH_only (i := 5) rfl (by kernel_rfl) (fun K hK => ?_)
    go_simp
    refine (unhide HD W6 _ (unhide HA1b)).mono ?_
    rintro e w3 ⟨a9, c9, rfl, HA2⟩
    go_wp2_with fail
    refine hK.out _ _ (⟨dsk_m (unhide HA2) (List.Mem.tail _ (List.Mem.tail _ (List.Mem.tail _ (List.Mem.tail _ (List.Mem.tail _ (List.Mem.head _)))))), x8_of (zoo_varm (unhide HA2) (List.Mem.tail _ (List.Mem.tail _ (List.Mem.tail _ (List.Mem.head _)))))⟩) (fun hHeld2 => ?_)
    clear hK K hHeld
    have hHeld := hHeld2
    clear hHeld2
    try simp only [Act.put, List.setIfInBounds_toArray, List.set_cons_zero, List.set_cons_succ]
    refine wpAnyH_only (i := 7) rfl (by kernel_rfl) (fun K hK => ?_)
    rw [if_pos (by rfl)]
    refine wp_store_row 102 _ _ rfl p6 #[.int .i64 vc, .int .i64 vn, .bool vt, .string vs, .slice a9 m c9] rfl rfl 102 _ (zoo_varm (unhide HA2) (List.Mem.tail _ (List.Mem.tail _ (List.Mem.head _)))) Tryz.sizeEv rfl (by simp [Value.oneCell']) ?_
    have HB := hide (zoo_setrow (c' := #[.int .i64 vc, .int .i64 vn, .bool vt, .string vs, .slice a9 m c9]) (l1 := [_, _]) (unhide HA2))
    refine hK.out _ _ (⟨dsk_m (unhide HB) (List.Mem.tail _ (List.Mem.tail _ (List.Mem.tail _ (List.Mem.tail _ (List.Mem.tail _ (List.Mem.head _)))))), x8_of (zoo_varm (unhide HB) (List.Mem.tail _ (List.Mem.tail _ (List.Mem.tail _ (List.Mem.head _)))))⟩) (fun hHeld2 => ?_)
    clear hK K hHeld
    have hHeld := hHeld2
    clear hHeld2
    refine wpAnyH_done (by kernel_rfl) ?_ _
    clear hHeld
    generalize World.setRow _ _ _ = W9 at *
    have HC : Hid (Zoo w0 W9 (BoxT q #[.pointer (some ⟨d, 0, none⟩)] 25 :: DskT d hb bs :: HalT hb h' :: PsT a9 c9 vl :: BoxT p6 #[.int .i64 vc, .int .i64 vn, .bool vt, .string vs, .slice a9 m c9] 102 :: BoxT p5 (xcs ⟨xd, xs, xm, xa, xk, xt, xp, xb⟩) 79 :: r)) := hide (zoo_42 (unhide HB))
    have hE := zoo_varm (unhide HC) (List.Mem.tail _ (List.Mem.tail _ (List.Mem.tail _ (List.Mem.tail _ (List.Mem.head _)))))
    have e0 : W9.cell? ⟨p6, 0, none⟩ = some (.int .i64 vc) := cell_of_block hE rfl
    by_cases hc : vc = 0
    · subst hc
      have e1 : W9.cell? ⟨p6, 1, none⟩ = some (.int .i64 vn) := cell_of_block hE rfl
      have e2 : W9.cell? ⟨p6, 1 + 1, none⟩ = some (.bool vt) := cell_of_block hE rfl
      have e3 : W9.cell? ⟨p6, 1 + 1 + 1, none⟩ = some (.string vs) := cell_of_block hE rfl
      have e4 : W9.cell? ⟨p6, 1 + 1 + 1 + 1, none⟩ = some (.slice a9 m c9) := cell_of_block hE rfl
      have e9 : ww = [[111, 107]] := by rw [← unhide HWW, if_neg (by simp)]
      subst e9
      have HT := hide (tel4 ⟨0, vn, vt, vs, vl⟩ a9 c9 (unhide HV) (unhide HG) (unhide HC) hlen)
      dsimp only at HT
      rw [← unhide HM] at HT
      clear hE
      go_wp2_with (go_at_call 59; refine (unhide HT).mono ?_; rintro e w7 ⟨rfl, HZ7⟩)
      go_end0
      exact ⟨rfl, _, zoo_24 (r := r) (unhide HZ7)⟩
    · have hc2 : ¬ (vc = 0) := hc
      have e9 : ww = [[110, 111], Lib.itoa vc] := by rw [← unhide HWW, if_pos hc]
      subst e9
      clear hE
      have HI := hide (sitoa vc W9 (gnd_kp (unhide HG) (unhide HC).kp) hcn hcm)
      go_wp2_with (first | (go_at_call 25; refine (unhide HI).mono ?_; rintro e w7 ⟨rfl, hk7⟩; have HZ7 := hide (((unhide HC).kp0 hk7).box #[.string ⟨#[110, 111]⟩, .string ⟨(Lib.itoa vc).toArray⟩] 9); clear hk7) | (go_at_call 24; refine (dsay (l1 := [_, _]) [[110, 111], Lib.itoa vc] 2 rfl _ 0 2 (unhide HZ7) (cells_strs [[110, 111], Lib.itoa vc] (zoo_varm (unhide HZ7) (List.Mem.head _)) rfl) (join_pos (by simp)) (by simp) (by simp) hlen).mono ?_; rintro e w8 ⟨rfl, HZ8⟩))
      refine bodyPost_ret (v := .tuple #[]) (results_none Tryz.results30 _ _ _) rfl ?_
      exact ⟨rfl, _, zoo_24 (r := r) (Zoo.tail (unhide HZ8))⟩
end
end
/- The desk's teller, which chooses one; by its contract. -/
section
open Go.RowKit
attribute [local go_sem ↓] Go.wp_at_zero Go.wp_at_succ

/-- Which of the tellers a kind of steps has. -/
def tfn (k : Int) : Nat := if k = 2 then 54 else if k = 5 then 56 else if k = 6 ∨ k = 8 ∨ k = 10 then 58 else 59
set_option maxHeartbeats 1000000 in
theorem dteller (d : Nat) (k : Int) (w : World) :
    Calls Tryz.prog 31 #[.pointer (some ⟨d, 0, none⟩), .int .i64 k] w fun e w' => e = .returned (.func (.func (tfn k)) #[] #[.pointer (some ⟨w.heap.size, 0, none⟩)]) ∧ w' = w.alloc (.cells #[.pointer (some ⟨d, 0, none⟩)] 25) := by
  obtain ⟨f, hf⟩ : ∃ f, tfn k = f := ⟨_, rfl⟩
  have HF := hide hf
  rw [hf]
  clear hf
  go_enter Tryz.func31, Tryz.ntmps31
  by_cases h2 : k = 2
  · subst h2
    have e : f = _ := (unhide HF).symm
    subst e
    go_wp2_with fail
    go_ret
    exact ⟨rfl, rfl⟩
  by_cases h5 : k = 5
  · subst h5
    have e : f = _ := (unhide HF).symm
    subst e
    go_wp2_with fail
    go_ret
    exact ⟨rfl, rfl⟩
  by_cases h6 : k = 6
  · subst h6
    have e : f = _ := (unhide HF).symm
    subst e
    go_wp2_with fail
    go_ret
    exact ⟨rfl, rfl⟩
  by_cases h8 : k = 8
  · subst h8
    have e : f = _ := (unhide HF).symm
    subst e
    go_wp2_with fail
    go_ret
    exact ⟨rfl, rfl⟩
  by_cases h10 : k = 10
  · subst h10
    have e : f = _ := (unhide HF).symm
    subst e
    go_wp2_with fail
    go_ret
    exact ⟨rfl, rfl⟩
  have e : f = 59 := by rw [← unhide HF]; unfold tfn; rw [if_neg h2, if_neg h5, if_neg (by omega)]
  subst e
  go_wp2_with fail
  go_ret
  exact ⟨rfl, rfl⟩
end
/- What an event of a hall may be: small numbers, short values; how long what is told of it is. -/
section
open Go.RowKit

def Vsz (f : Nat → List Ver) : Prop := ∀ k, ∀ v ∈ f k, v.s.size ≤ 12
theorem vsz_pvers {vs : List Ver} (h : ∀ v ∈ vs, v.s.size ≤ 12) (x : Int) (t : Bool) (s : ByteArray) : ∀ v ∈ pvers vs x t s, v.s.size ≤ 12 := by
  unfold pvers
  split
  · rename_i hp
    intro v hv
    rcases List.mem_append.1 hv with e | e
    · exact h v e
    · rw [List.mem_singleton.1 e]
      have hc : chk t s = 0 := by
        unfold pcode at hp
        split at hp
        · assumption
        · exact hp
      exact (chk_zero hc).1
  · exact h
theorem vsz_wrs (x : Int) : ∀ (ps : List Ver) (f : Nat → List Ver), Vsz f → Vsz (YtldkeaeohceckadGreatDoor.wrs f x ps) := by
  intro ps
  induction ps with
  | nil => intro f h; exact h
  | cons p r ih =>
    intro f h
    refine ih _ (fun k v hv => ?_)
    unfold wr1 upd at hv
    split at hv
    · exact vsz_pvers (h _) x p.t p.s v hv
    · exact h k v hv
theorem vsz_wal : ∀ (xs : List (List Ver)) (f : Nat → List Ver) (n : Nat), Vsz f → Vsz (wal f n xs) := by
  intro xs
  induction xs with
  | nil => intro f n h; exact h
  | cons c r ih =>
    intro f n h
    refine ih _ _ ?_
    unfold wst
    split
    · exact vsz_wrs _ c f h
    · exact h
theorem vsz_wal0 (xs : List (List Ver)) : Vsz (wal0 xs) := vsz_wal xs _ 0 (fun k v hv => by rw [List.mem_singleton.1 hv]; decide)
theorem hinv_vsz {h : HSt} (hi : HInv h) {k : Nat} (hk : k < 8) : ∀ v ∈ h.f k, v.s.size ≤ 12 := by
  obtain ⟨d, _, e⟩ := hi.vi.sfx k hk
  rw [e]
  intro v hv
  exact vsz_wal0 h.cs k v (List.mem_of_mem_drop hv)
theorem vb_mem {vs : List Ver} {k : Nat} (h : ∀ v ∈ vs, v.s.size ≤ 12) : (vb vs k).size ≤ 12 := by
  unfold vb
  rw [List.getD_eq_getElem?_getD]
  cases hq : vs[k]? with
  | none => decide
  | some v => exact h v (List.mem_of_getElem? hq)
theorem tr_sz {h : HSt} (hi : HInv h) (k y : Int) : (tr h.f h.n k y).s.size ≤ 12 := by
  unfold tr
  split
  · rename_i hk
    have hk8 : k.toNat < 8 := by
      have := hk.1
      unfold keyB at this
      simp at this
      omega
    unfold rd3
    split
    · decide
    · split
      · decide
      · exact vb_mem (hinv_vsz hi hk8)
  · decide
theorem lw_sz {ws : List Ver} (h : WOk ws) {k : Int} {v : Ver} : ∀ i, lw ws k i = some v → v.s.size ≤ 12 := by
  intro i
  induction i with
  | zero => intro e; cases e
  | succ i ih =>
    intro e
    unfold lw at e
    split at e
    · cases e
      exact vb_mem (fun p hp => (chk_zero (h p hp).2.2).1)
    · exact ih e
theorem dg_sz {h : HSt} (hi : HInv h) {s : Nat} {d : Dp} (hs : h.seat s = some d) (k : Int) : (dg h.f h.n d.y d.ws k).s.size ≤ 12 := by
  unfold dg
  split
  · cases hl : lwr d.ws k with
    | none => exact tr_sz hi k d.y
    | some v =>
      have := lw_sz (v := v) (hi.ok s d hs) _ hl
      exact this
  · decide
theorem dgo_ok {h : HSt} (hi : HInv h) {s : Nat} {d : Dp} (hs : h.seat s = some d) : ∀ (m k : Nat) (acc : List Ver) (rs : List Int), k + m ≤ 9 → (∀ p ∈ acc, p.s.size ≤ 12 ∧ 0 ≤ p.a ∧ p.a ≤ 9) → ∀ p ∈ (dgo h.f h.n d.y d.ws k m acc rs).1, p.s.size ≤ 12 ∧ 0 ≤ p.a ∧ p.a ≤ 9 := by
  intro m
  induction m with
  | zero => intro k acc rs _ ha; exact ha
  | succ m ih =>
    intro k acc rs hk ha
    unfold dgo
    split
    · split
      · refine ih _ _ _ (by omega) (fun p hp => ?_)
        rcases List.mem_append.1 hp with e | e
        · exact ha p e
        · rw [List.mem_singleton.1 e]
          exact ⟨dg_sz hi hs k, by show (0 : Int) ≤ (k : Int); omega, by show (k : Int) ≤ 9; omega⟩
      · exact ih _ _ _ (by omega) ha
    · intro p hp; simp at hp
theorem len_41 {h : HSt} (hi : HInv h) {k : Nat} (hk : k < 8) : (h.f k).length ≤ 41 := by
  have h1 := hi.inv.pos k hk
  have h2 := hi.inv.hi k hk
  have h3 := rise_ge (hi.inv.rise k hk) (hi.inv.lo k hk) ((h.f k).length - 1) (by omega)
  have h4 := hi.inv.n40
  omega
theorem cln_small {h : HSt} (hi : HInv h) (y : Int) : ∀ m, m ≤ 8 → cln h.f y m ≤ m * 41 := by
  intro m
  induction m with
  | zero => intro _; exact Nat.le_refl _
  | succ m ih =>
    intro hm
    have h1 := ih (by omega)
    have h2 := cd_lt y (hi.inv.rise m (by omega)) (hi.inv.pos m (by omega))
    have h3 := len_41 hi (k := m) (by omega)
    simp only [cln]
    omega
theorem pf_small : ∀ (ps : List Ver) (a : Int), 0 ≤ pf a ps ∧ pf a ps ≤ 9 := by
  intro ps
  induction ps with
  | nil => intro a; exact ⟨Int.le_refl _, by show (0 : Int) ≤ 9; decide⟩
  | cons p r ih =>
    intro a
    unfold pf
    split
    · exact ⟨by decide, by decide⟩
    · split
      · exact ⟨by decide, by decide⟩
      · split
        · exact ih _
        · unfold chk; split
          · exact ⟨by decide, by decide⟩
          · split <;> exact ⟨by decide, by decide⟩
theorem lcode_small (cs : List (List Ver)) (ps : List Ver) : 0 ≤ lcode cs ps ∧ lcode cs ps ≤ 9 := by
  unfold lcode
  split
  · split <;> exact ⟨by decide, by decide⟩
  · exact pf_small ps _
theorem vcode_small (f : Nat → List Ver) (cs : List (List Ver)) (md y : Int) (rs : List Int) (ws : List Ver) : 0 ≤ vcode f cs md y rs ws ∧ vcode f cs md y rs ws ≤ 12 := by
  have h1 : 0 ≤ dm f md y rs ws ∧ dm f md y rs ws ≤ 12 := by unfold dm; split; exact ⟨by decide, by decide⟩; split <;> exact ⟨by decide, by decide⟩
  unfold vcode
  split
  · split
    · exact ⟨by decide, by decide⟩
    · have := lcode_small cs (wk ws 8); omega
  · exact h1
theorem dpc_small (md k : Int) (t : Bool) (s : ByteArray) : 0 ≤ dpc md k t s ∧ dpc md k t s ≤ 12 := by
  unfold dpc
  split
  · split
    · exact ⟨by decide, by decide⟩
    · unfold chk; split
      · exact ⟨by decide, by decide⟩
      · split <;> exact ⟨by decide, by decide⟩
  · exact ⟨by decide, by decide⟩
theorem bcode_small (f : Nat → List Ver) (n : Nat) (md y : Int) : 0 ≤ bcode f n md y ∧ bcode f n md y ≤ 12 := by
  unfold bcode
  split
  · split
    · split
      · exact ⟨by decide, by decide⟩
      · split <;> exact ⟨by decide, by decide⟩
    · exact ⟨by decide, by decide⟩
  · exact ⟨by decide, by decide⟩
/-- A small event. -/
structure EvS (v : Ev) : Prop where
  c0 : 0 ≤ v.c
  c1 : v.c ≤ 12
  n0 : 0 ≤ v.n
  n1 : v.n ≤ 1000
  s : v.s.size ≤ 12
  l : ∀ p ∈ v.l, p.s.size ≤ 12 ∧ 0 ≤ p.a ∧ p.a ≤ 9
  len : v.l.length ≤ 8
theorem evs_c {c : Int} (h : 0 ≤ c ∧ c ≤ 12) : EvS (evc c) := ⟨h.1, h.2, Int.le_refl _, by show (0 : Int) ≤ 1000; decide, Nat.zero_le _, (by intro p hp; cases hp), Nat.zero_le _⟩
theorem evs_n {c n : Int} (h : 0 ≤ c ∧ c ≤ 12) (hn : 0 ≤ n ∧ n ≤ 1000) : EvS (evn c n) := ⟨h.1, h.2, hn.1, hn.2, Nat.zero_le _, (by intro p hp; cases hp), Nat.zero_le _⟩
theorem hev_small {h : HSt} (hi : HInv h) (x : HStep) : EvS (hev h x) := by
  have hn40 := hi.inv.n40
  unfold hev
  by_cases h1 : x.d < 1 ∨ 10 < x.d
  · rw [if_pos h1]; exact evs_c ⟨by decide, by decide⟩
  rw [if_neg h1]
  by_cases h2 : x.d = 8
  · rw [if_pos h2]
    have := cln_small hi (least h.n h.seat 5) 8 (Nat.le_refl _)
    exact evs_n ⟨by decide, by decide⟩ ⟨by omega, by omega⟩
  rw [if_neg h2]
  by_cases h3 : x.d = 9
  · rw [if_pos h3]; exact evs_c ⟨by decide, by decide⟩
  rw [if_neg h3]
  by_cases h4 : ¬ (0 ≤ x.s ∧ x.s < 5)
  · rw [if_pos h4]; exact evs_c ⟨by decide, by decide⟩
  rw [if_neg h4]
  cases hs : h.seat x.s.toNat with
  | none =>
    dsimp only
    by_cases h5 : x.d = 1
    · rw [if_pos h5]; exact evs_c (bcode_small _ _ _ _)
    · rw [if_neg h5]; exact evs_c ⟨by decide, by decide⟩
  | some d =>
    dsimp only
    by_cases h5 : x.d = 1
    · rw [if_pos h5]; exact evs_c ⟨by decide, by decide⟩
    rw [if_neg h5]
    by_cases h6 : x.d = 2
    · rw [if_pos h6]
      have q1 := tr_a_known hi hs x.key
      refine ⟨?_, ?_, Int.le_refl _, by show (0 : Int) ≤ 1000; decide, dg_sz hi hs x.key, (by intro p hp; cases hp), Nat.zero_le _⟩
      · show 0 ≤ (dg h.f h.n d.y d.ws x.key).a; omega
      · show (dg h.f h.n d.y d.ws x.key).a ≤ 12; omega
    rw [if_neg h6]
    by_cases h7 : x.d = 3
    · rw [if_pos h7]; exact evs_c (dpc_small _ _ _ _)
    rw [if_neg h7]
    by_cases h8 : x.d = 4
    · rw [if_pos h8]; exact evs_c (dpc_small _ _ _ _)
    rw [if_neg h8]
    by_cases h9 : x.d = 5
    · rw [if_pos h9]
      have q1 := dls_code hi hs x.key x.to_
      refine ⟨?_, ?_, Int.le_refl _, by show (0 : Int) ≤ 1000; decide, Nat.zero_le _, ?_, ?_⟩
      · show 0 ≤ (dls h.f h.n d.y d.ws d.rs x.key x.to_).2.1; omega
      · show (dls h.f h.n d.y d.ws d.rs x.key x.to_).2.1 ≤ 12; omega
      · show ∀ p ∈ (dls h.f h.n d.y d.ws d.rs x.key x.to_).1, _
        unfold dls
        by_cases hk : keyB x.key = true ∧ keyB x.to_ = true
        · rw [if_pos hk]
          have k1 := hk.1
          have k2 := hk.2
          unfold keyB at k1 k2
          simp at k1 k2
          exact dgo_ok hi hs _ _ _ _ (by omega) (by intro p hp; cases hp)
        · rw [if_neg hk]; exact (by intro p hp; cases hp)
      · show (dls h.f h.n d.y d.ws d.rs x.key x.to_).1.length ≤ 8
        unfold dls
        by_cases hk : keyB x.key = true ∧ keyB x.to_ = true
        · rw [if_pos hk]
          have k1 := hk.1
          have k2 := hk.2
          unfold keyB at k1 k2
          simp at k1 k2
          have := dgo_len8 (f := h.f) (n := h.n) (y := d.y) (ws := d.ws) (x.to_ + 1 - x.key).toNat x.key.toNat [] d.rs
          simp at this
          omega
        · rw [if_neg hk]; exact Nat.zero_le _
    rw [if_neg h9]
    by_cases h10 : x.d = 6
    · rw [if_pos h10]
      refine evs_n (vcode_small _ _ _ _ _ _) ?_
      unfold vnum
      by_cases hv : vdone h.f h.cs d.md d.y d.rs d.ws = true
      · rw [if_pos hv]; omega
      · rw [if_neg hv]; omega
    rw [if_neg h10]
    by_cases h11 : x.d = 10
    · rw [if_pos h11]
      refine evs_n (vcode_small _ _ _ _ _ _) ?_
      unfold tnum
      have hl := hi.li.n40
      rcases tcs_cases (f := h.f) (cs := h.cs) (md := d.md) (y := d.y) (rs := d.rs) (ws := d.ws) (keep := x.keep) with e | ⟨e, _⟩
      · rw [e, if_neg (by omega)]; omega
      · rw [e, if_pos (by simp)]; simp; omega
    · rw [if_neg h11]; exact evs_c ⟨by decide, by decide⟩
theorem EvS.ok {v : Ev} (h : EvS v) : EvOk v := ⟨by have := h.s; omega, fun p hp => by have := h.l p hp; omega, h.len, by have := h.n0; omega, by have := h.n1; omega, by have := h.c0; omega, by have := h.c1; omega⟩
end
/- The desk's step, whichever its kind; what is seen of a hall behind a desk. -/
section
open Go.RowKit

theorem zoo_less {w0 w : World} {l1 r : List Thing} : ∀ {r' : List Thing}, Zoo w0 w (l1 ++ (r' ++ r)) → Zoo w0 w (l1 ++ r)
  | [], h => h
  | _ :: r', h => zoo_less (r' := r') (Zoo.drop_ h)
section
variable {w0 w : World} {r : List Thing} {d hb q : Nat} {bs : List UInt8} {h : HSt}
theorem hal_hinv {w0 w : World} {hb : Nat} {h : HSt} {r : List Thing} (hz : Zoo w0 w (HalT hb h :: r)) : HInv h := by
  obtain ⟨vb, tb, gb, st, _, hi, _⟩ := hal_open hz
  exact hi
theorem dstep (x : HStep) (hsz : x.b.size ≤ maxLen) (hg : Gnd w0) (hz : Zoo w0 w (HalT hb h :: BoxT q #[.pointer (some ⟨d, 0, none⟩)] 25 :: DskT d hb bs :: r)) (hlen : bs.length + (say (tell x.d (hev h x))).length ≤ 100000) :
    Calls Tryz.prog 30 #[.pointer (some ⟨d, 0, none⟩), .agg #[.int .i64 x.d, .int .i64 x.s, .int .i64 x.md, .int .i64 x.at_, .int .i64 x.key, .int .i64 x.to_, .int .i64 x.keep, .string x.b], .func (.func (tfn x.d)) #[] #[.pointer (some ⟨q, 0, none⟩)]] w fun e w' => e = .returned (.tuple #[]) ∧ Hid (Zoo w0 w' (HalT hb (hdo h x) :: DskT d hb (bs ++ say (tell x.d (hev h x))) :: r)) := by
  have hv := (hev_small (hal_hinv hz) x).ok
  have fin : ∀ {w' : World} {bs' : List UInt8}, Hid (∃ r', Zoo w0 w' (HalT hb (hdo h x) :: BoxT q #[.pointer (some ⟨d, 0, none⟩)] 25 :: DskT d hb bs' :: r' ++ r)) → Hid (Zoo w0 w' (HalT hb (hdo h x) :: DskT d hb bs' :: r)) := by
    rintro w' bs' ⟨r', h1⟩
    exact zoo_less (l1 := [_, _]) (r' := r') (Zoo.drop_ (l1 := [_]) h1)
  by_cases h2 : x.d = 2
  · have e1 : tfn x.d = 54 := by unfold tfn; rw [if_pos h2]
    have e2 : tell x.d (hev h x) = if (hev h x).c ≠ 0 then [[110, 111], Lib.itoa (hev h x).c] else [[104, 97, 115], vtx (hev h x).t (hev h x).s] := by unfold tell telk; rw [if_pos h2]
    rw [e2] at hlen ⊢
    rw [e1]
    exact (dstep1 x hsz hg hv hz hlen).mono (fun e w' hh => ⟨hh.1, fin hh.2⟩)
  by_cases h5 : x.d = 5
  · have e1 : tfn x.d = 56 := by unfold tfn; rw [if_neg h2, if_pos h5]
    have e2 : tell x.d (hev h x) = if (hev h x).c ≠ 0 then [[110, 111], Lib.itoa (hev h x).c] else [97, 108, 108] :: (hev h x).l.map pvx := by unfold tell telk; rw [if_neg h2, if_pos h5]
    rw [e2] at hlen ⊢
    rw [e1]
    exact (dstep2 x hsz hg hv hz hlen).mono (fun e w' hh => ⟨hh.1, fin hh.2⟩)
  by_cases h6 : x.d = 6 ∨ x.d = 8 ∨ x.d = 10
  · have e1 : tfn x.d = 58 := by unfold tfn; rw [if_neg h2, if_neg h5, if_pos h6]
    have e2 : tell x.d (hev h x) = if (hev h x).c ≠ 0 then [[110, 111], Lib.itoa (hev h x).c] else [[111, 107], Lib.itoa (hev h x).n] := by unfold tell telk; rw [if_neg h2, if_neg h5, if_pos h6]
    rw [e2] at hlen ⊢
    rw [e1]
    exact (dstep3 x hsz hg hv hz hlen).mono (fun e w' hh => ⟨hh.1, fin hh.2⟩)
  · have e1 : tfn x.d = 59 := by unfold tfn; rw [if_neg h2, if_neg h5, if_neg h6]
    have e2 : tell x.d (hev h x) = if (hev h x).c ≠ 0 then [[110, 111], Lib.itoa (hev h x).c] else [[111, 107]] := by unfold tell telk; rw [if_neg h2, if_neg h5, if_neg h6]
    rw [e2] at hlen ⊢
    rw [e1]
    exact (dstep4 x hsz hg hv hz hlen).mono (fun e w' hh => ⟨hh.1, fin hh.2⟩)
theorem hal_nums {h : HSt} (hi : HInv h) : (h.n : Int) ≤ 40 ∧ 0 ≤ fmx h.f 8 ∧ fmx h.f 8 ≤ 40 ∧ 0 ≤ least h.n h.seat 5 ∧ least h.n h.seat 5 ≤ 40 := by
  have h1 := hi.inv.n40
  have h2 := fmx_le hi.inv 8 (Nat.le_refl _)
  have h3 := (least_le h.n h.seat 5).1
  have h4 := least_ge (z := 0) (n := h.n) (seat := h.seat) (by omega) (fun s d hs => by have := (hi.known s d hs).1; omega) 5
  omega
end
end
/- The desk's doLine: what a line leaves and tells, by its contract. -/
section
open Go.RowKit
attribute [local go_sem ↓] Go.wp_at_zero Go.wp_at_succ

theorem put1_sz {x y : HStep} {c : UInt8} {v : List UInt8} (h : put1 x c v = some y) (hx : x.b.size ≤ 10000) (hv : v.length ≤ 10000) : y.b.size ≤ 10000 := by
  unfold put1 at h
  have hm : ∀ (g : Int → HStep) (o : Option Int), o.map g = some y → (∀ z, (g z).b = x.b) → y.b.size ≤ 10000 := by
    intro g o ho hg
    cases o with
    | none => cases ho
    | some z => cases ho; rw [hg z]; exact hx
  by_cases h1 : c = 83
  · rw [if_pos h1] at h; exact hm _ _ h (fun _ => rfl)
  rw [if_neg h1] at h
  by_cases h2 : c = 65
  · rw [if_pos h2] at h; exact hm _ _ h (fun _ => rfl)
  rw [if_neg h2] at h
  by_cases h3 : c = 75
  · rw [if_pos h3] at h; exact hm _ _ h (fun _ => rfl)
  rw [if_neg h3] at h
  by_cases h4 : c = 84
  · rw [if_pos h4] at h; exact hm _ _ h (fun _ => rfl)
  rw [if_neg h4] at h
  by_cases h5 : c = 78
  · rw [if_pos h5] at h; exact hm _ _ h (fun _ => rfl)
  rw [if_neg h5] at h
  by_cases h6 : c = 66
  · rw [if_pos h6] at h
    cases hb : bts v with
    | none => rw [hb] at h; cases h
    | some b =>
      rw [hb] at h
      cases h
      show (ByteArray.mk b.toArray).size ≤ 10000
      rw [size8]
      cases v with
      | nil => cases hb
      | cons c0 r =>
        unfold bts at hb
        dsimp only at hb
        by_cases hc : c0 = 61
        · rw [if_pos hc] at hb
          have := mn_len hb
          simp at hv
          omega
        · rw [if_neg hc] at hb; cases hb
  · rw [if_neg h6] at h; cases h
theorem fgo_sz : ∀ (ls : List UInt8) (ws : List (List UInt8)) (x y : HStep), fgo x ls ws = some y → x.b.size ≤ 10000 → (∀ v ∈ ws, v.length ≤ 10000) → y.b.size ≤ 10000
  | [], ws, x, y, h, hx, _ => by rw [fgo_nil] at h; cases h; exact hx
  | _ :: _, [], x, y, h, hx, _ => by
    unfold fgo at h
    cases h; exact hx
  | c :: cs, v :: ws, x, y, h, hx, hw => by
    unfold fgo at h
    cases hp : put1 x c v with
    | none => rw [hp] at h; cases h
    | some z =>
      rw [hp] at h
      exact fgo_sz cs ws z y h (put1_sz hp hx (hw v (by simp))) (fun v hv => hw v (by simp [hv]))
theorem rdg_sz : ∀ (os : List Od) (nm : List UInt8) (ws : List (List UInt8)) (y : HStep), rdg nm ws os = some y → (∀ v ∈ ws, v.length ≤ 10000) → y.b.size ≤ 10000
  | [], _, _, _, h, _ => by cases h
  | o :: r, nm, ws, y, h, hw => by
    unfold rdg at h
    split at h
    · exact fgo_sz _ _ _ _ h (Nat.zero_le _) hw
    · exact rdg_sz r nm ws y h hw
theorem rdl_sz {nm : List UInt8} {ws : List (List UInt8)} {y : HStep} (h : rdl nm ws = some y) (hw : ∀ v ∈ ws, v.length ≤ 10000) : y.b.size ≤ 10000 := rdg_sz ods nm ws y h hw
theorem wgo_len : ∀ (l cur : List UInt8) (v : List UInt8), v ∈ wgo cur l → v.length ≤ cur.length + l.length
  | [], cur, v, h => by
    unfold wgo at h
    split at h
    · cases h
    · rw [List.mem_singleton.1 h]; omega
  | c :: r, cur, v, h => by
    unfold wgo at h
    split at h
    · split at h
      · have := wgo_len r [] v h; simp at *; omega
      · rcases List.mem_cons.1 h with e | e
        · rw [e]; omega
        · have := wgo_len r [] v e; simp at *; omega
    · have := wgo_len r (cur ++ [c]) v h; simp at *; omega
theorem wrd_tail {w : World} {g o cap : Nat} {nm : List UInt8} {rt : List (List UInt8)} (hc : ∀ k l, (nm :: rt)[k]? = some l → w.cell? ⟨g, o + k, none⟩ = some (.string ⟨l.toArray⟩)) (hcap : rt.length + 1 ≤ cap) : Wrd w (if cap = 1 then some ⟨g, o, none⟩ else some ⟨g, o + 1, none⟩) rt := fun hp => by
  rw [if_neg (by omega)]
  refine ⟨g, o + 1, rfl, fun k l hl => ?_⟩
  have := hc (k + 1) l (by simpa using hl)
  rwa [show o + 1 + k = o + (k + 1) by omega]
theorem zoo_p4 {w0 w : World} {q p H D : Thing} {r : List Thing} (h : Zoo w0 w (q :: p :: H :: D :: r)) : Zoo w0 w (H :: q :: D :: p :: r) :=
  (h.perm (List.perm_middle (l₁ := [q, p]) (a := H) (l₂ := D :: r))).perm (((List.Perm.swap D p r).cons q).cons H)
theorem wds_len {l v : List UInt8} (h : v ∈ wds l) : v.length ≤ l.length := by have := wgo_len l [] v h; simpa using this
section
variable {w0 w : World} {r : List Thing} {d hb : Nat} {bs : List UInt8} {h : HSt}
set_option maxHeartbeats 16000000 in
theorem doline (l : List UInt8) (hl : l.length ≤ 10000) (hg : Gnd w0) (hz : Zoo w0 w (HalT hb h :: DskT d hb bs :: r)) (hlen : bs.length + (dln h l).2.length ≤ 100000) :
    Calls Tryz.prog 15 #[.pointer (some ⟨d, 0, none⟩), .string ⟨l.toArray⟩] w fun e w' => e = .returned (.tuple #[]) ∧ Hid (Zoo w0 w' (HalT hb (dln h l).1 :: DskT d hb (bs ++ (dln h l).2) :: r)) := by
  have HC := hide (dcut l w (gnd_kp hg hz.kp) hl)
  have HZ := hide hz
  have HG := hide hg
  have hwl : ∀ v ∈ wds l, v.length ≤ 10000 := fun v hv => Nat.le_trans (wds_len hv) hl
  obtain ⟨h2, t2, hd2⟩ : ∃ h2 t2, dln h l = (h2, t2) := ⟨_, _, rfl⟩
  rw [hd2] at hlen ⊢
  dsimp only at hlen ⊢
  clear hz hg hl
  cases hws : wds l with
  | nil =>
    have hdl : dln h l = (h, []) := by unfold dln; rw [hws]
    rw [hd2] at hdl
    cases hdl
    go_enter Tryz.func15, Tryz.ntmps15
    go_wp2_with (go_at_call 23; refine (unhide HC).mono ?_; rintro e w1 ⟨ws, a, cap, hw1, rfl, hr1, hk1⟩; rw [hws] at hw1; subst hw1; have HZ1 := hide ((unhide HZ).kp0 hk1); clear hr1 hk1)
    refine bodyPost_ret (v := .tuple #[]) (results_none Tryz.results15 _ _ _) rfl ?_
    exact ⟨rfl, by rw [List.append_nil]; exact HZ1⟩
  | cons nm rs =>
    by_cases hlast : nm = [108, 97, 115, 116] ∧ rs = []
    · obtain ⟨rfl, rfl⟩ := hlast
      have hdl : dln h l = (h, say [[108, 97, 115, 116], Lib.itoa h.n, Lib.itoa (fmx h.f 8), Lib.itoa (least h.n h.seat 5)]) := by unfold dln; rw [hws]; rfl
      rw [hd2] at hdl
      cases hdl
      obtain ⟨b1, b2, b3, b4, b5⟩ := hal_nums (hal_hinv (unhide HZ))
      have hnn : (0 : Int) ≤ (h.n : Int) := by omega
      obtain ⟨zn, hzn⟩ : ∃ z, (h.n : Int) = z := ⟨_, rfl⟩
      obtain ⟨zf, hzf⟩ : ∃ z, fmx h.f 8 = z := ⟨_, rfl⟩
      obtain ⟨zl, hzl⟩ : ∃ z, least h.n h.seat 5 = z := ⟨_, rfl⟩
      rw [hzn, hzf, hzl] at hlen ⊢
      rw [hzn] at b1 hnn
      rw [hzf] at b2 b3
      rw [hzl] at b4 b5
      have HZN := hide hzn
      have HZF := hide hzf
      have HZL := hide hzl
      clear hzn hzf hzl
      go_enter Tryz.func15, Tryz.ntmps15
      go_wp2_with (go_at_call 23; refine (unhide HC).mono ?_; rintro e w1 ⟨ws, a, cap, hw1, rfl, hr1, hk1⟩; rw [hws] at hw1; subst hw1; obtain ⟨g, o, rfl, hc1⟩ := krow_wrd hr1 (by simp); have c1 : w1.cell? ⟨g, o, none⟩ = some (.string ⟨#[108, 97, 115, 116]⟩) := hc1 0 _ rfl; have HZ1 := hide ((unhide HZ).kp0 hk1); obtain ⟨vb, tb, gb, st, hst, hi, hl⟩ := hal_open (unhide HZ1); have d1 := hl.c0; have d2 := hl.v0; have L1 := hide (fun W hk => h_last (hl.kp0 (w' := W) hk)); have L2 := hide (fun W hk => h_first (hl.kp0 (w' := W) hk)); have L3 := hide (fun W hk => h_least hst (hl.kp0 (w' := W) hk)); rw [unhide HZN] at L1; rw [unhide HZF] at L2; rw [unhide HZL] at L3; have HL := hide hl; have HST := hide hst; have HI := hide hi; have d0 := dsk_cell (l1 := [_]) (unhide HZ1); clear hr1 hk1 hc1 hl hst hi)
      clear c1 hws
      refine wp_region_held_drew (S := fun w' => w'.cell? ⟨d, 2, none⟩ = some (.pointer (some ⟨hb, 0, none⟩)) ∧ w'.cell? ⟨hb, 0, none⟩ = some (.pointer (some ⟨vb, 0, none⟩)) ∧ w'.cell? ⟨vb, 0, none⟩ = some (.pointer (some ⟨tb, 0, none⟩))) (by kernel_rfl) (And.intro (((Kp.refl [] w1).drew).cell (by simp) d0) (And.intro (((Kp.refl [] w1).drew).cell (by simp) d1) (((Kp.refl [] w1).drew).cell (by simp) d2))) (fun hHeld => ?_)
      have HK0 := hide ((Kp.refl [] w1).drew)
      generalize World.drew _ = WD at HK0 hHeld ⊢
      refine wpAnyH_tk (i := 0) (v := ?_) rfl (by kernel_rfl) (by kernel_rfl) (by kernel_rfl) (fun _ _ _ h => h) (Or.inl ⟨by rfl, ?_⟩) hHeld ?_
      rotate_left
      · intro w hSw
        try dsimp only at hSw
        go_simp
        try with_reducible rfl
      try simp only [Act.put, List.setIfInBounds_toArray, List.set_cons_zero, List.set_cons_succ]
      refine wpAnyH_tk (i := 1) (v := ?_) rfl (by kernel_rfl) (by kernel_rfl) (by kernel_rfl) (fun _ _ _ h => h) (Or.inl ⟨by rfl, ?_⟩) hHeld ?_
      rotate_left
      · intro w hSw
        try dsimp only at hSw
        go_simp
        try with_reducible rfl
      try simp only [Act.put, List.setIfInBounds_toArray, List.set_cons_zero, List.set_cons_succ]
      refine wpAnyH_tk (i := 2) (v := ?_) rfl (by kernel_rfl) (by kernel_rfl) (by kernel_rfl) (fun _ _ _ h => h) (Or.inl ⟨by rfl, ?_⟩) hHeld ?_
      rotate_left
      · intro w hSw
        try dsimp only at hSw
        go_simp
        try with_reducible rfl
      try simp only [Act.put, List.setIfInBounds_toArray, List.set_cons_zero, List.set_cons_succ]
      refine wpAnyH_tk (i := 3) (v := ?_) rfl (by kernel_rfl) (by kernel_rfl) (by kernel_rfl) (fun _ _ _ h => h) (Or.inl ⟨by rfl, ?_⟩) hHeld ?_
      rotate_left
      · intro w hSw
        try dsimp only at hSw
        go_simp
        try with_reducible rfl
      try simp only [Act.put, List.setIfInBounds_toArray, List.set_cons_zero, List.set_cons_succ]
      refine wpAnyH_tk (i := 4) (v := ?_) rfl (by kernel_rfl) (by kernel_rfl) (by kernel_rfl) (fun _ _ _ h => h) (Or.inl ⟨by rfl, ?_⟩) hHeld ?_
      rotate_left
      · intro w hSw
        try dsimp only at hSw
        go_simp
        try with_reducible rfl
      try simp only [Act.put, List.setIfInBounds_toArray, List.set_cons_zero, List.set_cons_succ]
      refine wpAnyH_tk (i := 5) (v := ?_) rfl (by kernel_rfl) (by kernel_rfl) (by kernel_rfl) (fun _ _ _ h => h) (Or.inl ⟨by rfl, ?_⟩) hHeld ?_
      rotate_left
      · intro w hSw
        try dsimp only at hSw
        go_simp
        try with_reducible rfl
      try simp only [Act.put, List.setIfInBounds_toArray, List.set_cons_zero, List.set_cons_succ]
      refine wpAnyH_tk (i := 6) (v := ?_) rfl (by kernel_rfl) (by kernel_rfl) (by kernel_rfl) (fun _ _ _ h => h) (Or.inl ⟨by rfl, ?_⟩) hHeld ?_
      rotate_left
      · intro w hSw
        try dsimp only at hSw
        go_simp
        try with_reducible rfl
      try simp only [Act.put, List.setIfInBounds_toArray, List.set_cons_zero, List.set_cons_succ]
      refine wpAnyH_tk (i := 7) (v := ?_) rfl (by kernel_rfl) (by kernel_rfl) (by kernel_rfl) (fun _ _ _ h => h) (Or.inl ⟨by rfl, ?_⟩) hHeld ?_
      rotate_left
      · intro w hSw
        try dsimp only at hSw
        go_simp
        try with_reducible rfl
      try simp only [Act.put, List.setIfInBounds_toArray, List.set_cons_zero, List.set_cons_succ]
      refine wpAnyH_tk (i := 8) (v := ?_) rfl (by kernel_rfl) (by kernel_rfl) (by kernel_rfl) (fun _ _ _ h => h) (Or.inl ⟨by rfl, ?_⟩) hHeld ?_
      rotate_left
      · intro w hSw
        try dsimp only at hSw
        go_simp
        try with_reducible rfl
      try simp only [Act.put, List.setIfInBounds_toArray, List.set_cons_zero, List.set_cons_succ]
      refine wpAnyH_tk (i := 9) (v := ?_) rfl (by kernel_rfl) (by kernel_rfl) (by kernel_rfl) (fun _ _ _ h => h) (Or.inl ⟨by rfl, ?_⟩) hHeld ?_
      rotate_left
      · intro w hSw
        try dsimp only at hSw
        go_simp
        try with_reducible rfl
      try simp only [Act.put, List.setIfInBounds_toArray, List.set_cons_zero, List.set_cons_succ]
      refine wpAnyH_tk (i := 10) (v := ?_) rfl (by kernel_rfl) (by kernel_rfl) (by kernel_rfl) (fun _ _ _ h => h) (Or.inl ⟨by rfl, ?_⟩) hHeld ?_
      rotate_left
      · intro w hSw
        try dsimp only at hSw
        go_simp
        try with_reducible rfl
      try simp only [Act.put, List.setIfInBounds_toArray, List.set_cons_zero, List.set_cons_succ]
      refine wpAnyH_tk (i := 13) (v := ?_) rfl (by kernel_rfl) (by kernel_rfl) (by kernel_rfl) (fun _ _ _ h => h) (Or.inl ⟨by rfl, ?_⟩) hHeld ?_
      rotate_left
      · intro w hSw
        try dsimp only at hSw
        go_simp
        try with_reducible rfl
      try simp only [Act.put, List.setIfInBounds_toArray, List.set_cons_zero, List.set_cons_succ]
      refine wpAnyH_tk (i := 14) (v := ?_) rfl (by kernel_rfl) (by kernel_rfl) (by kernel_rfl) (fun _ _ _ h => h) (Or.inl ⟨by rfl, ?_⟩) hHeld ?_
      rotate_left
      · intro w hSw
        try dsimp only at hSw
        go_simp
        try with_reducible rfl
      try simp only [Act.put, List.setIfInBounds_toArray, List.set_cons_zero, List.set_cons_succ]
      refine wpAnyH_tk (i := 15) (v := ?_) rfl (by kernel_rfl) (by kernel_rfl) (by kernel_rfl) (fun _ _ _ h => h) (Or.inl ⟨by rfl, ?_⟩) hHeld ?_
      rotate_left
      · intro w hSw
        try dsimp only at hSw
        go_simp
        try with_reducible rfl
      try simp only [Act.put, List.setIfInBounds_toArray, List.set_cons_zero, List.set_cons_succ]
      refine wpAnyH_tk (i := 16) (v := ?_) rfl (by kernel_rfl) (by kernel_rfl) (by kernel_rfl) (fun _ _ _ h => h) (Or.inl ⟨by rfl, ?_⟩) hHeld ?_
      rotate_left
      · intro w hSw
        try dsimp only at hSw
        go_simp
        try with_reducible rfl
      try simp only [Act.put, List.setIfInBounds_toArray, List.set_cons_zero, List.set_cons_succ]
      refine wpAnyH_tk (i := 17) (v := ?_) rfl (by kernel_rfl) (by kernel_rfl) (by kernel_rfl) (fun _ _ _ h => h) (Or.inl ⟨by rfl, ?_⟩) hHeld ?_
      rotate_left
      · intro w hSw
        try dsimp only at hSw
        go_simp
        try with_reducible rfl
      try simp only [Act.put, List.setIfInBounds_toArray, List.set_cons_zero, List.set_cons_succ]
      refine wpAnyH_tk (i := 18) (v := ?_) rfl (by kernel_rfl) (by kernel_rfl) (by kernel_rfl) (fun _ _ _ h => h) (Or.inl ⟨by rfl, ?_⟩) hHeld ?_
      rotate_left
      · intro w hSw
        try dsimp only at hSw
        go_simp
        try with_reducible rfl
      try simp only [Act.put, List.setIfInBounds_toArray, List.set_cons_zero, List.set_cons_succ]
      refine wpAnyH_tk (i := 19) (v := ?_) rfl (by kernel_rfl) (by kernel_rfl) (by kernel_rfl) (fun _ _ _ h => h) (Or.inl ⟨by rfl, ?_⟩) hHeld ?_
      rotate_left
      · intro w hSw
        try dsimp only at hSw
        go_simp
        try with_reducible rfl
      try simp only [Act.put, List.setIfInBounds_toArray, List.set_cons_zero, List.set_cons_succ]
      refine wpAnyH_tk (i := 20) (v := ?_) rfl (by kernel_rfl) (by kernel_rfl) (by kernel_rfl) (fun _ _ _ h => h) (Or.inl ⟨by rfl, ?_⟩) hHeld ?_
      rotate_left
      · intro w hSw
        try dsimp only at hSw
        go_simp
        try with_reducible rfl
      try simp only [Act.put, List.setIfInBounds_toArray, List.set_cons_zero, List.set_cons_succ]
      refine wpAnyH_tk (i := 21) (v := ?_) rfl (by kernel_rfl) (by kernel_rfl) (by kernel_rfl) (fun _ _ _ h => h) (Or.inl ⟨by rfl, ?_⟩) hHeld ?_
      rotate_left
      · intro w hSw
        try dsimp only at hSw
        go_simp
        try with_reducible rfl
      try simp only [Act.put, List.setIfInBounds_toArray, List.set_cons_zero, List.set_cons_succ]
      refine wpAnyH_tk (i := 22) (v := ?_) rfl (by kernel_rfl) (by kernel_rfl) (by kernel_rfl) (fun _ _ _ h => h) (Or.inl ⟨by rfl, ?_⟩) hHeld ?_
      rotate_left
      · intro w hSw
        try dsimp only at hSw
        go_simp
        try with_reducible rfl
      try simp only [Act.put, List.setIfInBounds_toArray, List.set_cons_zero, List.set_cons_succ]
      refine wpAnyH_tk (i := 25) (v := ?_) rfl (by kernel_rfl) (by kernel_rfl) (by kernel_rfl) (fun _ _ _ h => h) (Or.inl ⟨by rfl, ?_⟩) hHeld ?_
      rotate_left
      · intro w hSw
        try dsimp only at hSw
        go_simp
        try with_reducible rfl
      try simp only [Act.put, List.setIfInBounds_toArray, List.set_cons_zero, List.set_cons_succ]
      refine wpAnyH_tk (i := 26) (v := ?_) rfl (by kernel_rfl) (by kernel_rfl) (by kernel_rfl) (fun _ _ _ h => h) (Or.inl ⟨by rfl, ?_⟩) hHeld ?_
      rotate_left
      · intro w hSw
        try dsimp only at hSw
        go_simp
        try with_reducible rfl
      try simp only [Act.put, List.setIfInBounds_toArray, List.set_cons_zero, List.set_cons_succ]
      refine wpAnyH_tk (i := 27) (v := ?_) rfl (by kernel_rfl) (by kernel_rfl) (by kernel_rfl) (fun _ _ _ h => h) (Or.inl ⟨by rfl, ?_⟩) hHeld ?_
      rotate_left
      · intro w hSw
        try dsimp only at hSw
        go_simp
        try with_reducible rfl
      try simp only [Act.put, List.setIfInBounds_toArray, List.set_cons_zero, List.set_cons_succ]
      refine wpAnyH_tk (i := 28) (v := ?_) rfl (by kernel_rfl) (by kernel_rfl) (by kernel_rfl) (fun _ _ _ h => h) (Or.inl ⟨by rfl, ?_⟩) hHeld ?_
      rotate_left
      · intro w hSw
        try dsimp only at hSw
        go_simp
        try with_reducible rfl
      try simp only [Act.put, List.setIfInBounds_toArray, List.set_cons_zero, List.set_cons_succ]
      refine wpAnyH_only (i := 11) rfl (by kernel_rfl) (fun K hK => ?_)
      go_simp
      refine (unhide L1 _ (unhide HK0)).mono ?_
      rintro e wx ⟨rfl, hwx⟩
      subst hwx
      go_wp2_with fail
      refine hK.out _ _ ((And.intro ((unhide HK0).cell (by simp) d0) (And.intro ((unhide HK0).cell (by simp) d1) ((unhide HK0).cell (by simp) d2)))) (fun hHeld2 => ?_)
      clear hK K hHeld
      have hHeld := hHeld2
      clear hHeld2
      try simp only [Act.put, List.setIfInBounds_toArray, List.set_cons_zero, List.set_cons_succ]
      refine wpAnyH_only (i := 12) rfl (by kernel_rfl) (fun K hK => ?_)
      go_simp
      refine (sitoa zn _ (gnd_kp (unhide HG) ((unhide HZ1).kp.trans0 (unhide HK0))) (by omega) (by omega)).mono ?_
      rintro e wHK1 ⟨rfl, hkx⟩
      have HK1 := hide ((unhide HK0).trans0 hkx)
      clear hkx
      go_wp2_with fail
      refine hK.out _ _ ((And.intro ((unhide HK1).cell (by simp) d0) (And.intro ((unhide HK1).cell (by simp) d1) ((unhide HK1).cell (by simp) d2)))) (fun hHeld2 => ?_)
      clear hK K hHeld
      have hHeld := hHeld2
      clear hHeld2
      try simp only [Act.put, List.setIfInBounds_toArray, List.set_cons_zero, List.set_cons_succ]
      refine wpAnyH_only (i := 23) rfl (by kernel_rfl) (fun K hK => ?_)
      go_simp
      refine (unhide L2 _ (unhide HK1)).mono ?_
      rintro e wx ⟨rfl, hwx⟩
      subst hwx
      go_wp2_with fail
      refine hK.out _ _ ((And.intro ((unhide HK1).cell (by simp) d0) (And.intro ((unhide HK1).cell (by simp) d1) ((unhide HK1).cell (by simp) d2)))) (fun hHeld2 => ?_)
      clear hK K hHeld
      have hHeld := hHeld2
      clear hHeld2
      try simp only [Act.put, List.setIfInBounds_toArray, List.set_cons_zero, List.set_cons_succ]
      refine wpAnyH_only (i := 24) rfl (by kernel_rfl) (fun K hK => ?_)
      go_simp
      refine (sitoa zf _ (gnd_kp (unhide HG) ((unhide HZ1).kp.trans0 (unhide HK1))) (by omega) (by omega)).mono ?_
      rintro e wHK2 ⟨rfl, hkx⟩
      have HK2 := hide ((unhide HK1).trans0 hkx)
      clear hkx
      go_wp2_with fail
      refine hK.out _ _ ((And.intro ((unhide HK2).cell (by simp) d0) (And.intro ((unhide HK2).cell (by simp) d1) ((unhide HK2).cell (by simp) d2)))) (fun hHeld2 => ?_)
      clear hK K hHeld
      have hHeld := hHeld2
      clear hHeld2
      try simp only [Act.put, List.setIfInBounds_toArray, List.set_cons_zero, List.set_cons_succ]
      refine wpAnyH_only (i := 29) rfl (by kernel_rfl) (fun K hK => ?_)
      go_simp
      refine (unhide L3 _ (unhide HK2)).mono ?_
      rintro e wx ⟨rfl, hwx⟩
      subst hwx
      go_wp2_with fail
      refine hK.out _ _ ((And.intro ((unhide HK2).cell (by simp) d0) (And.intro ((unhide HK2).cell (by simp) d1) ((unhide HK2).cell (by simp) d2)))) (fun hHeld2 => ?_)
      clear hK K hHeld
      have hHeld := hHeld2
      clear hHeld2
      try simp only [Act.put, List.setIfInBounds_toArray, List.set_cons_zero, List.set_cons_succ]
      refine wpAnyH_only (i := 30) rfl (by kernel_rfl) (fun K hK => ?_)
      go_simp
      refine (sitoa zl _ (gnd_kp (unhide HG) ((unhide HZ1).kp.trans0 (unhide HK2))) (by omega) (by omega)).mono ?_
      rintro e wHK3 ⟨rfl, hkx⟩
      have HK3 := hide ((unhide HK2).trans0 hkx)
      clear hkx
      go_wp2_with fail
      refine hK.out _ _ ((And.intro ((unhide HK3).cell (by simp) d0) (And.intro ((unhide HK3).cell (by simp) d1) ((unhide HK3).cell (by simp) d2)))) (fun hHeld2 => ?_)
      clear hK K hHeld
      have hHeld := hHeld2
      clear hHeld2
      try simp only [Act.put, List.setIfInBounds_toArray, List.set_cons_zero, List.set_cons_succ]
      refine wpAnyH_only (i := 31) rfl (by kernel_rfl) (fun K hK => ?_)
      go_simp
      have HA4 := hide (Zoo.box (show Zoo w0 wHK3 (BoxT hb (hcells vb st) 59 :: VltT vb tb gb h.f h.n h.cs [] :: (seats st ++ (DskT d hb bs :: r))) from (unhide HL).kp0 (unhide HK3)) #[.string ⟨#[108, 97, 115, 116]⟩, .string ⟨(Lib.itoa zn).toArray⟩, .string ⟨(Lib.itoa zf).toArray⟩, .string ⟨(Lib.itoa zl).toArray⟩] 9)
      have HK4 := hide ((unhide HK3).alloc (.cells #[.string ⟨#[108, 97, 115, 116]⟩, .string ⟨(Lib.itoa zn).toArray⟩, .string ⟨(Lib.itoa zf).toArray⟩, .string ⟨(Lib.itoa zl).toArray⟩] 9))
      refine hK.out _ _ ((And.intro ((unhide HK4).cell (by simp) d0) (And.intro ((unhide HK4).cell (by simp) d1) ((unhide HK4).cell (by simp) d2)))) (fun hHeld2 => ?_)
      clear hK K hHeld
      have hHeld := hHeld2
      clear hHeld2
      try simp only [Act.put, List.setIfInBounds_toArray, List.set_cons_zero, List.set_cons_succ]
      generalize wHK3.alloc (.cells #[.string ⟨#[108, 97, 115, 116]⟩, .string ⟨(Lib.itoa zn).toArray⟩, .string ⟨(Lib.itoa zf).toArray⟩, .string ⟨(Lib.itoa zl).toArray⟩] 9) = W6 at *
      generalize wHK3.heap.size = p6 at *
      refine wpAnyH_only (i := 32) rfl (by kernel_rfl) (fun K hK => ?_)
      go_simp
      refine (dsay (l1 := BoxT p6 #[.string ⟨#[108, 97, 115, 116]⟩, .string ⟨(Lib.itoa zn).toArray⟩, .string ⟨(Lib.itoa zf).toArray⟩, .string ⟨(Lib.itoa zl).toArray⟩] 9 :: BoxT hb (hcells vb st) 59 :: VltT vb tb gb h.f h.n h.cs [] :: seats st) (r := r) [[108, 97, 115, 116], Lib.itoa zn, Lib.itoa zf, Lib.itoa zl] 4 rfl _ 0 4 (unhide HA4) (cells_strs [[108, 97, 115, 116], Lib.itoa zn, Lib.itoa zf, Lib.itoa zl] (zoo_varm (unhide HA4) (List.Mem.head _)) rfl) (join_pos (by simp)) (by simp) (by simp) hlen).mono ?_
      rintro e w7 ⟨rfl, HZ7⟩
      have HH : Hall w0 w7 hb vb tb gb h st (DskT d hb (bs ++ say [[108, 97, 115, 116], Lib.itoa zn, Lib.itoa zf, Lib.itoa zl]) :: r) := Zoo.tail (unhide HZ7)
      go_wp2_with fail
      refine hK.out _ _ (And.intro (dsk_cell (unhide HZ7)) (And.intro HH.c0 HH.v0)) (fun hHeld2 => ?_)
      clear hK K hHeld
      have hHeld := hHeld2
      clear hHeld2
      try simp only [Act.put, List.setIfInBounds_toArray, List.set_cons_zero, List.set_cons_succ]
      refine wpAnyH_done (by kernel_rfl) ?_ _
      clear hHeld
      have HE := hide (hal_close (unhide HST) (unhide HI) HH)
      clear HH
      go_wp2_with fail
      refine bodyPost_ret (v := .tuple #[]) (results_none Tryz.results15 _ _ _) rfl ?_
      exact ⟨rfl, HE⟩
    · have hdl : dln h l = (match rdl nm rs with | none => (h, say [[119, 104, 97, 116]]) | some x => (hdo h x, say (tell x.d (hev h x)))) := by unfold dln; rw [hws]; dsimp only; rw [if_neg hlast]; rfl
      obtain ⟨rt, hrt⟩ : ∃ rt, rs.take 4 = rt := ⟨_, rfl⟩
      have hrd : rdl nm rt = rdl nm rs := by rw [← hrt]; exact rdl_take nm rs
      have hm4 : rt.length ≤ 4 := by rw [← hrt]; simp; omega
      have hrl : ∀ v ∈ rt, v.length ≤ 10000 := fun v hv => hwl v (by rw [hws]; rw [← hrt] at hv; simp [List.mem_of_mem_take hv])
      have hnl : nm.length ≤ 10000 := hwl nm (by rw [hws]; simp)
      have hrs : rs = [] → rt = [] := fun e => by rw [← hrt, e]; rfl
      have hrs2 : rt = [] → rs = [] := fun e => by
        cases rs with
        | nil => rfl
        | cons x y => rw [← hrt] at e; simp at e
      have htk : (wds l).take 5 = nm :: rt := by rw [hws, ← hrt]; rfl
      have HRD := hide hrd
      have HRL := hide hrl
      have HDL := hide hdl
      have HTK := hide htk
      have HLA := hide hlast
      have HR2 := hide hrs2
      have HD2 := hide hd2
      obtain ⟨m, hm⟩ : ∃ m, m = rt.length := ⟨_, rfl⟩
      have HM := hide hm
      rw [← hm] at hm4
      clear hrt hrd hrl hdl hrs htk hwl hlast hws hrs2 hd2 hm
      go_enter Tryz.func15, Tryz.ntmps15
      by_cases hm0 : m = 0
      · have hne : ¬ nm = [108, 97, 115, 116] := fun e => unhide HLA ⟨e, unhide HR2 (List.eq_nil_of_length_eq_zero (by rw [← unhide HM]; exact hm0))⟩
        have hneb : (nm == [108, 97, 115, 116]) = false := by simpa using hne
        clear hne
        subst hm0
        go_wp2_with (go_at_call 23; refine (unhide HC).mono ?_; rintro e w1 ⟨ws, a, cap, hw1, rfl, hr1, hk1⟩; rw [unhide HTK] at hw1; subst hw1; obtain ⟨g, o, rfl, hc1⟩ := krow_wrd hr1 (by simp); have c1 : w1.cell? ⟨g, o, none⟩ = some (.string ⟨nm.toArray⟩) := hc1 0 _ rfl; have hcap := hr1.le; have HZ1 := hide ((unhide HZ).kp0 hk1); have HC1 := hide hc1; rw [List.length_cons, ← unhide HM] at hcap ⊢; clear hr1 hk1 hc1)
        refine wp_region_held_drew (S := fun w' => w'.cell? ⟨g, o, none⟩ = some (.string ⟨nm.toArray⟩)) (by kernel_rfl) ((Kp.refl [] w1).drew.cell (by simp) c1) (fun hHeld => ?_)
        have HK0 := hide ((Kp.refl [] w1).drew)
        generalize World.drew _ = WD at HK0 hHeld ⊢
        refine wpAnyH_tk (i := 0) (v := ?_) rfl (by kernel_rfl) (by kernel_rfl) (by kernel_rfl) (fun _ _ _ h => h) (Or.inl ⟨by rfl, ?_⟩) hHeld ?_
        rotate_left
        · intro w hSw
          try dsimp only at hSw
          go_simp
          try with_reducible rfl
        try simp only [Act.put, List.setIfInBounds_toArray, List.set_cons_zero, List.set_cons_succ]
        refine wpAnyH_tk (i := 1) (v := ?_) rfl (by kernel_rfl) (by kernel_rfl) (by kernel_rfl) (fun _ _ _ h => h) (Or.inl ⟨by rfl, ?_⟩) hHeld ?_
        rotate_left
        · intro w hSw
          try dsimp only at hSw
          go_simp
          try with_reducible rfl
        try simp only [Act.put, List.setIfInBounds_toArray, List.set_cons_zero, List.set_cons_succ]
        refine wpAnyH_tk (i := 2) (v := ?_) rfl (by kernel_rfl) (by kernel_rfl) (by kernel_rfl) (fun _ _ _ h => h) (Or.inl ⟨by rfl, ?_⟩) hHeld ?_
        rotate_left
        · intro w hSw
          try dsimp only at hSw
          go_simp
          try with_reducible rfl
        try simp only [Act.put, List.setIfInBounds_toArray, List.set_cons_zero, List.set_cons_succ]
        refine wpAnyH_tk (i := 3) (v := ?_) rfl (by kernel_rfl) (by kernel_rfl) (by kernel_rfl) (fun _ _ _ h => h) (Or.inl ⟨by rfl, ?_⟩) hHeld ?_
        rotate_left
        · intro w hSw
          try dsimp only at hSw
          go_simp
          try with_reducible rfl
        try simp only [Act.put, List.setIfInBounds_toArray, List.set_cons_zero, List.set_cons_succ]
        refine wpAnyH_tk (i := 4) (v := ?_) rfl (by kernel_rfl) (by kernel_rfl) (by kernel_rfl) (fun _ _ _ h => h) (Or.inl ⟨by rfl, ?_⟩) hHeld ?_
        rotate_left
        · intro w hSw
          try dsimp only at hSw
          go_simp
          try with_reducible rfl
        try simp only [Act.put, List.setIfInBounds_toArray, List.set_cons_zero, List.set_cons_succ]
        have HWT := hide (wrd_tail (w := w1) (unhide HC1) (by rw [← unhide HM]; exact hcap))
        generalize (if cap = 1 then some (⟨g, o, none⟩ : Addr) else some ⟨g, o + 1, none⟩) = ar at *
        refine wpAnyH_two (i := 5) (j := 9) rfl rfl (by kernel_rfl) (fun K hK => ?_) (fun K hK => ?_)
        · go_simp
          refine (dread nm rt 0 (unhide HM) (by omega) _ _ _ (gnd_kp (unhide HG) ((unhide HZ1).kp.trans0 (unhide HK0))) ((unhide HWT).kp0 (unhide HK0)) (unhide HRL)).mono ?_
          rintro e w3 ⟨x, b, rfl, hx, hk3⟩
          have HX := hide hx
          have HK3 := hide ((unhide HK0).trans0 hk3)
          clear hx
          have HZ3 := hide ((unhide HZ1).kp0 (unhide HK3))
          clear hk3
          go_wp2_with fail
          refine hK.out _ _ ((unhide HK3).cell (by simp) c1) (fun hHeld2 => ?_)
          clear hK K hHeld
          have hHeld := hHeld2
          clear hHeld2
          try simp only [Act.put, List.setIfInBounds_toArray, List.set_cons_zero, List.set_cons_succ]
          refine wpAnyH_tk (i := 6) (v := ?_) rfl (by kernel_rfl) (by kernel_rfl) (by kernel_rfl) (fun _ _ _ h => h) (Or.inl ⟨by rfl, ?_⟩) hHeld ?_
          rotate_left
          · intro w hSw
            try dsimp only at hSw
            go_simp
            try with_reducible rfl
          try simp only [Act.put, List.setIfInBounds_toArray, List.set_cons_zero, List.set_cons_succ]
          refine wpAnyH_tk (i := 7) (v := ?_) rfl (by kernel_rfl) (by kernel_rfl) (by kernel_rfl) (fun _ _ _ h => h) (Or.inl ⟨by rfl, ?_⟩) hHeld ?_
          rotate_left
          · intro w hSw
            try dsimp only at hSw
            go_simp
            try with_reducible rfl
          try simp only [Act.put, List.setIfInBounds_toArray, List.set_cons_zero, List.set_cons_succ]
          refine wpAnyH_tk (i := 8) (v := ?_) rfl (by kernel_rfl) (by kernel_rfl) (by kernel_rfl) (fun _ _ _ h => h) (Or.inl ⟨by rfl, ?_⟩) hHeld ?_
          rotate_left
          · intro w hSw
            try dsimp only at hSw
            go_simp
            try with_reducible rfl
          try simp only [Act.put, List.setIfInBounds_toArray, List.set_cons_zero, List.set_cons_succ]
          refine wpAnyH_only (i := 9) rfl (by kernel_rfl) (fun K hK => ?_)
          go_simp
          have HA := hide (((unhide HZ3)).box #[.int .i64 0, .int .i64 0, .int .i64 0, .int .i64 0, .int .i64 0, .int .i64 0, .int .i64 0, .string ⟨#[]⟩] 79)
          have HKA := hide ((unhide HK3).alloc (.cells #[.int .i64 0, .int .i64 0, .int .i64 0, .int .i64 0, .int .i64 0, .int .i64 0, .int .i64 0, .string ⟨#[]⟩] 79))
          refine hK.out _ _ ((unhide HKA).cell (by simp) c1) (fun hHeld2 => ?_)
          clear hK K hHeld
          have hHeld := hHeld2
          clear hHeld2
          try simp only [Act.put, List.setIfInBounds_toArray, List.set_cons_zero, List.set_cons_succ]
          have hp6 := (unhide HK3).size
          generalize w3.alloc (.cells #[.int .i64 0, .int .i64 0, .int .i64 0, .int .i64 0, .int .i64 0, .int .i64 0, .int .i64 0, .string ⟨#[]⟩] 79) = W6 at *
          generalize w3.heap.size = p6 at *
          refine wpAnyH_only (i := 10) rfl (by kernel_rfl) (fun K hK => ?_)
          rw [if_pos (by rfl)]
          refine wp_store_row 79 _ _ rfl p6 (xcs x) rfl rfl 79 _ (zoo_varm (unhide HA) (List.Mem.head _)) Tryz.sizeSt rfl (xcs_one _) ?_
          have HB := hide (zoo_setrow (c' := xcs x) (l1 := []) (unhide HA))
          have HKB := hide ((unhide HKA).trans (setRow_kp (cs := xcs x) (zoo_varm (unhide HA) (List.Mem.head _))).2 (fun y hy => .inr (by rw [List.mem_singleton.1 hy]; exact hp6)))
          refine hK.out _ _ ((unhide HKB).cell (by simp) c1) (fun hHeld2 => ?_)
          clear hK K hHeld
          have hHeld := hHeld2
          clear hHeld2
          try simp only [Act.put, List.setIfInBounds_toArray, List.set_cons_zero, List.set_cons_succ]
          refine wpAnyH_tk (i := 11) (v := ?_) rfl (by kernel_rfl) (by kernel_rfl) (by kernel_rfl) (fun _ _ _ h => h) (Or.inl ⟨by rfl, ?_⟩) hHeld ?_
          rotate_left
          · intro w hSw
            try dsimp only at hSw
            go_simp
            try with_reducible rfl
          try simp only [Act.put, List.setIfInBounds_toArray, List.set_cons_zero, List.set_cons_succ]
          refine wpAnyH_done (by kernel_rfl) ?_ _
          clear hHeld HKB
          generalize World.setRow _ _ _ = W9 at HB ⊢
          have HB2 : Hid (Zoo w0 W9 (BoxT p6 (xcs x) 79 :: HalT hb h :: DskT d hb bs :: r)) := HB
          clear HB
          cases b with
          | false =>
            have hnone : rdl nm rs = none := (unhide HRD).symm.trans (by simpa using unhide HX)
            have hdl := unhide HDL
            rw [hnone, unhide HD2] at hdl
            cases hdl
            have HZ8 := hide ((unhide HB2).box #[.string ⟨#[119, 104, 97, 116]⟩] 9)
            clear hnone
            go_wp2_with (go_at_call 24; refine (dsay (l1 := [_, _, _]) [[119, 104, 97, 116]] 1 rfl _ 0 1 (unhide HZ8) (cells_strs [[119, 104, 97, 116]] (zoo_varm (unhide HZ8) (List.Mem.head _)) rfl) (join_pos (by simp)) (by simp) (by simp) hlen).mono ?_; rintro e w7 ⟨rfl, HZ7⟩)
            refine bodyPost_ret (v := .tuple #[]) (results_none Tryz.results15 _ _ _) rfl ?_
            exact ⟨rfl, Zoo.tail (Zoo.tail (unhide HZ7))⟩
          | true =>
            have hsome : rdl nm rs = some x := (unhide HRD).symm.trans (by simpa using unhide HX)
            have hxb : x.b.size ≤ maxLen := by
              have := rdl_sz ((unhide HRD).trans hsome) (unhide HRL)
              unfold maxLen; omega
            have hdl := unhide HDL
            rw [hsome, unhide HD2] at hdl
            cases hdl
            have x0 := (x8_of (zoo_varm (unhide HB2) (List.Mem.head _))).1
            clear hsome
            obtain ⟨xd, xs, xm, xa, xk, xt, xp, xb⟩ := x
            dsimp only at hlen hxb x0 HX ⊢
            go_wp2_with fail
            refine wp_region_held_drew (S := fun w' => w'.cell? ⟨p6, 0, none⟩ = some (.int .i64 xd) ∧ w'.cell? ⟨p6, 1, none⟩ = some (.int .i64 xs) ∧ w'.cell? ⟨p6, 1 + 1, none⟩ = some (.int .i64 xm) ∧ w'.cell? ⟨p6, 1 + 1 + 1, none⟩ = some (.int .i64 xa) ∧ w'.cell? ⟨p6, 1 + 1 + 1 + 1, none⟩ = some (.int .i64 xk) ∧ w'.cell? ⟨p6, 1 + 1 + 1 + 1 + 1, none⟩ = some (.int .i64 xt) ∧ w'.cell? ⟨p6, 1 + 1 + 1 + 1 + 1 + 1, none⟩ = some (.int .i64 xp) ∧ w'.cell? ⟨p6, 1 + 1 + 1 + 1 + 1 + 1 + 1, none⟩ = some (.string xb)) (by kernel_rfl) (x8_of (zoo_varm ((unhide HB2).kp0 (Kp.refl [] W9).drew) (List.Mem.head _))) (fun hHeld => ?_)
            have HE0 := hide ((unhide HB2).kp0 (Kp.refl [] W9).drew)
            generalize World.drew _ = WE at HE0 hHeld ⊢
            refine wpAnyH_tk (i := 0) (v := ?_) rfl (by kernel_rfl) (by kernel_rfl) (by kernel_rfl) (fun _ _ _ h => h) (Or.inl ⟨by rfl, ?_⟩) hHeld ?_
            rotate_left
            · intro w hSw
              try dsimp only at hSw
              go_simp
              try with_reducible rfl
            try simp only [Act.put, List.setIfInBounds_toArray, List.set_cons_zero, List.set_cons_succ]
            refine wpAnyH_tk (i := 1) (v := ?_) rfl (by kernel_rfl) (by kernel_rfl) (by kernel_rfl) (fun _ _ _ h => h) (Or.inl ⟨by rfl, ?_⟩) hHeld ?_
            rotate_left
            · intro w hSw
              try dsimp only at hSw
              go_simp
              try with_reducible rfl
            try simp only [Act.put, List.setIfInBounds_toArray, List.set_cons_zero, List.set_cons_succ]
            refine wpAnyH_tk (i := 2) (v := ?_) rfl (by kernel_rfl) (by kernel_rfl) (by kernel_rfl) (fun _ _ _ h => h) (Or.inl ⟨by rfl, ?_⟩) hHeld ?_
            rotate_left
            · intro w hSw
              try dsimp only at hSw
              go_simp
              try with_reducible rfl
            try simp only [Act.put, List.setIfInBounds_toArray, List.set_cons_zero, List.set_cons_succ]
            refine wpAnyH_tk (i := 3) (v := ?_) rfl (by kernel_rfl) (by kernel_rfl) (by kernel_rfl) (fun _ _ _ h => h) (Or.inl ⟨by rfl, ?_⟩) hHeld ?_
            rotate_left
            · intro w hSw
              try dsimp only at hSw
              go_simp
              try with_reducible rfl
            try simp only [Act.put, List.setIfInBounds_toArray, List.set_cons_zero, List.set_cons_succ]
            refine wpAnyH_tk (i := 4) (v := ?_) rfl (by kernel_rfl) (by kernel_rfl) (by kernel_rfl) (fun _ _ _ h => h) (Or.inl ⟨by rfl, ?_⟩) hHeld ?_
            rotate_left
            · intro w hSw
              try dsimp only at hSw
              go_simp
              try with_reducible rfl
            try simp only [Act.put, List.setIfInBounds_toArray, List.set_cons_zero, List.set_cons_succ]
            refine wpAnyH_only (i := 5) rfl (by kernel_rfl) (fun K hK => ?_)
            go_simp
            refine (dteller d xd WE).mono ?_
            rintro e w5 ⟨rfl, hw5⟩
            have HE1 := hide (zoo_p4 ((unhide HE0).box #[.pointer (some ⟨d, 0, none⟩)] 25))
            rw [← hw5] at HE1
            clear hw5
            go_wp2_with fail
            refine hK.out _ _ (x8_of (zoo_varm (unhide HE1) (List.Mem.tail _ (List.Mem.tail _ (List.Mem.tail _ (List.Mem.head _)))))) (fun hHeld2 => ?_)
            clear hK K hHeld
            have hHeld := hHeld2
            clear hHeld2
            try simp only [Act.put, List.setIfInBounds_toArray, List.set_cons_zero, List.set_cons_succ]
            generalize WE.heap.size = q at *
            refine wpAnyH_only (i := 6) rfl (by kernel_rfl) (fun K hK => ?_)
            go_simp
            refine (dstep ⟨xd, xs, xm, xa, xk, xt, xp, xb⟩ hxb (unhide HG) (unhide HE1) hlen).mono ?_
            rintro e w7 ⟨rfl, HZ7⟩
            go_wp2_with fail
            refine hK.out _ _ (x8_of (zoo_varm (unhide HZ7) (List.Mem.tail _ (List.Mem.tail _ (List.Mem.head _))))) (fun hHeld2 => ?_)
            clear hK K hHeld
            have hHeld := hHeld2
            clear hHeld2
            try simp only [Act.put, List.setIfInBounds_toArray, List.set_cons_zero, List.set_cons_succ]
            refine wpAnyH_done (by kernel_rfl) ?_ _
            clear hHeld
            go_wp2_with fail
            go_end0
            exact ⟨rfl, Zoo.drop_ (l1 := [_, _]) (unhide HZ7)⟩
        · go_simp
          have HA := hide ((((unhide HZ1).kp0 (unhide HK0))).box #[.int .i64 0, .int .i64 0, .int .i64 0, .int .i64 0, .int .i64 0, .int .i64 0, .int .i64 0, .string ⟨#[]⟩] 79)
          have HKA := hide ((unhide HK0).alloc (.cells #[.int .i64 0, .int .i64 0, .int .i64 0, .int .i64 0, .int .i64 0, .int .i64 0, .int .i64 0, .string ⟨#[]⟩] 79))
          refine hK.out _ _ ((unhide HKA).cell (by simp) c1) (fun hHeld2 => ?_)
          clear hK K hHeld
          have hHeld := hHeld2
          clear hHeld2
          try simp only [Act.put, List.setIfInBounds_toArray, List.set_cons_zero, List.set_cons_succ]
          have hp6 := (unhide HK0).size
          generalize WD.alloc (.cells #[.int .i64 0, .int .i64 0, .int .i64 0, .int .i64 0, .int .i64 0, .int .i64 0, .int .i64 0, .string ⟨#[]⟩] 79) = W6 at *
          generalize WD.heap.size = p6 at *
          refine wpAnyH_only (i := 5) rfl (by kernel_rfl) (fun K hK => ?_)
          go_simp
          refine (dread nm rt 0 (unhide HM) (by omega) _ _ _ (gnd_kp (unhide HG) ((unhide HZ1).kp.trans0 (unhide HKA))) ((unhide HWT).kp0 (unhide HKA)) (unhide HRL)).mono ?_
          rintro e w3 ⟨x, b, rfl, hx, hk3⟩
          have HX := hide hx
          have HK3 := hide ((unhide HKA).trans0 hk3)
          clear hx
          have HA3 := hide ((unhide HA).kp0 hk3)
          clear hk3
          go_wp2_with fail
          refine hK.out _ _ ((unhide HK3).cell (by simp) c1) (fun hHeld2 => ?_)
          clear hK K hHeld
          have hHeld := hHeld2
          clear hHeld2
          try simp only [Act.put, List.setIfInBounds_toArray, List.set_cons_zero, List.set_cons_succ]
          refine wpAnyH_tk (i := 6) (v := ?_) rfl (by kernel_rfl) (by kernel_rfl) (by kernel_rfl) (fun _ _ _ h => h) (Or.inl ⟨by rfl, ?_⟩) hHeld ?_
          rotate_left
          · intro w hSw
            try dsimp only at hSw
            go_simp
            try with_reducible rfl
          try simp only [Act.put, List.setIfInBounds_toArray, List.set_cons_zero, List.set_cons_succ]
          refine wpAnyH_tk (i := 7) (v := ?_) rfl (by kernel_rfl) (by kernel_rfl) (by kernel_rfl) (fun _ _ _ h => h) (Or.inl ⟨by rfl, ?_⟩) hHeld ?_
          rotate_left
          · intro w hSw
            try dsimp only at hSw
            go_simp
            try with_reducible rfl
          try simp only [Act.put, List.setIfInBounds_toArray, List.set_cons_zero, List.set_cons_succ]
          refine wpAnyH_tk (i := 8) (v := ?_) rfl (by kernel_rfl) (by kernel_rfl) (by kernel_rfl) (fun _ _ _ h => h) (Or.inl ⟨by rfl, ?_⟩) hHeld ?_
          rotate_left
          · intro w hSw
            try dsimp only at hSw
            go_simp
            try with_reducible rfl
          try simp only [Act.put, List.setIfInBounds_toArray, List.set_cons_zero, List.set_cons_succ]
          refine wpAnyH_only (i := 10) rfl (by kernel_rfl) (fun K hK => ?_)
          rw [if_pos (by rfl)]
          refine wp_store_row 79 _ _ rfl p6 (xcs x) rfl rfl 79 _ (zoo_varm (unhide HA3) (List.Mem.head _)) Tryz.sizeSt rfl (xcs_one _) ?_
          have HB := hide (zoo_setrow (c' := xcs x) (l1 := []) (unhide HA3))
          have HKB := hide ((unhide HK3).trans (setRow_kp (cs := xcs x) (zoo_varm (unhide HA3) (List.Mem.head _))).2 (fun y hy => .inr (by rw [List.mem_singleton.1 hy]; exact hp6)))
          refine hK.out _ _ ((unhide HKB).cell (by simp) c1) (fun hHeld2 => ?_)
          clear hK K hHeld
          have hHeld := hHeld2
          clear hHeld2
          try simp only [Act.put, List.setIfInBounds_toArray, List.set_cons_zero, List.set_cons_succ]
          refine wpAnyH_tk (i := 11) (v := ?_) rfl (by kernel_rfl) (by kernel_rfl) (by kernel_rfl) (fun _ _ _ h => h) (Or.inl ⟨by rfl, ?_⟩) hHeld ?_
          rotate_left
          · intro w hSw
            try dsimp only at hSw
            go_simp
            try with_reducible rfl
          try simp only [Act.put, List.setIfInBounds_toArray, List.set_cons_zero, List.set_cons_succ]
          refine wpAnyH_done (by kernel_rfl) ?_ _
          clear hHeld HKB
          generalize World.setRow _ _ _ = W9 at HB ⊢
          have HB2 : Hid (Zoo w0 W9 (BoxT p6 (xcs x) 79 :: HalT hb h :: DskT d hb bs :: r)) := HB
          clear HB
          cases b with
          | false =>
            have hnone : rdl nm rs = none := (unhide HRD).symm.trans (by simpa using unhide HX)
            have hdl := unhide HDL
            rw [hnone, unhide HD2] at hdl
            cases hdl
            have HZ8 := hide ((unhide HB2).box #[.string ⟨#[119, 104, 97, 116]⟩] 9)
            clear hnone
            go_wp2_with (go_at_call 24; refine (dsay (l1 := [_, _, _]) [[119, 104, 97, 116]] 1 rfl _ 0 1 (unhide HZ8) (cells_strs [[119, 104, 97, 116]] (zoo_varm (unhide HZ8) (List.Mem.head _)) rfl) (join_pos (by simp)) (by simp) (by simp) hlen).mono ?_; rintro e w7 ⟨rfl, HZ7⟩)
            refine bodyPost_ret (v := .tuple #[]) (results_none Tryz.results15 _ _ _) rfl ?_
            exact ⟨rfl, Zoo.tail (Zoo.tail (unhide HZ7))⟩
          | true =>
            have hsome : rdl nm rs = some x := (unhide HRD).symm.trans (by simpa using unhide HX)
            have hxb : x.b.size ≤ maxLen := by
              have := rdl_sz ((unhide HRD).trans hsome) (unhide HRL)
              unfold maxLen; omega
            have hdl := unhide HDL
            rw [hsome, unhide HD2] at hdl
            cases hdl
            have x0 := (x8_of (zoo_varm (unhide HB2) (List.Mem.head _))).1
            clear hsome
            obtain ⟨xd, xs, xm, xa, xk, xt, xp, xb⟩ := x
            dsimp only at hlen hxb x0 HX ⊢
            go_wp2_with fail
            refine wp_region_held_drew (S := fun w' => w'.cell? ⟨p6, 0, none⟩ = some (.int .i64 xd) ∧ w'.cell? ⟨p6, 1, none⟩ = some (.int .i64 xs) ∧ w'.cell? ⟨p6, 1 + 1, none⟩ = some (.int .i64 xm) ∧ w'.cell? ⟨p6, 1 + 1 + 1, none⟩ = some (.int .i64 xa) ∧ w'.cell? ⟨p6, 1 + 1 + 1 + 1, none⟩ = some (.int .i64 xk) ∧ w'.cell? ⟨p6, 1 + 1 + 1 + 1 + 1, none⟩ = some (.int .i64 xt) ∧ w'.cell? ⟨p6, 1 + 1 + 1 + 1 + 1 + 1, none⟩ = some (.int .i64 xp) ∧ w'.cell? ⟨p6, 1 + 1 + 1 + 1 + 1 + 1 + 1, none⟩ = some (.string xb)) (by kernel_rfl) (x8_of (zoo_varm ((unhide HB2).kp0 (Kp.refl [] W9).drew) (List.Mem.head _))) (fun hHeld => ?_)
            have HE0 := hide ((unhide HB2).kp0 (Kp.refl [] W9).drew)
            generalize World.drew _ = WE at HE0 hHeld ⊢
            refine wpAnyH_tk (i := 0) (v := ?_) rfl (by kernel_rfl) (by kernel_rfl) (by kernel_rfl) (fun _ _ _ h => h) (Or.inl ⟨by rfl, ?_⟩) hHeld ?_
            rotate_left
            · intro w hSw
              try dsimp only at hSw
              go_simp
              try with_reducible rfl
            try simp only [Act.put, List.setIfInBounds_toArray, List.set_cons_zero, List.set_cons_succ]
            refine wpAnyH_tk (i := 1) (v := ?_) rfl (by kernel_rfl) (by kernel_rfl) (by kernel_rfl) (fun _ _ _ h => h) (Or.inl ⟨by rfl, ?_⟩) hHeld ?_
            rotate_left
            · intro w hSw
              try dsimp only at hSw
              go_simp
              try with_reducible rfl
            try simp only [Act.put, List.setIfInBounds_toArray, List.set_cons_zero, List.set_cons_succ]
            refine wpAnyH_tk (i := 2) (v := ?_) rfl (by kernel_rfl) (by kernel_rfl) (by kernel_rfl) (fun _ _ _ h => h) (Or.inl ⟨by rfl, ?_⟩) hHeld ?_
            rotate_left
            · intro w hSw
              try dsimp only at hSw
              go_simp
              try with_reducible rfl
            try simp only [Act.put, List.setIfInBounds_toArray, List.set_cons_zero, List.set_cons_succ]
            refine wpAnyH_tk (i := 3) (v := ?_) rfl (by kernel_rfl) (by kernel_rfl) (by kernel_rfl) (fun _ _ _ h => h) (Or.inl ⟨by rfl, ?_⟩) hHeld ?_
            rotate_left
            · intro w hSw
              try dsimp only at hSw
              go_simp
              try with_reducible rfl
            try simp only [Act.put, List.setIfInBounds_toArray, List.set_cons_zero, List.set_cons_succ]
            refine wpAnyH_tk (i := 4) (v := ?_) rfl (by kernel_rfl) (by kernel_rfl) (by kernel_rfl) (fun _ _ _ h => h) (Or.inl ⟨by rfl, ?_⟩) hHeld ?_
            rotate_left
            · intro w hSw
              try dsimp only at hSw
              go_simp
              try with_reducible rfl
            try simp only [Act.put, List.setIfInBounds_toArray, List.set_cons_zero, List.set_cons_succ]
            refine wpAnyH_only (i := 5) rfl (by kernel_rfl) (fun K hK => ?_)
            go_simp
            refine (dteller d xd WE).mono ?_
            rintro e w5 ⟨rfl, hw5⟩
            have HE1 := hide (zoo_p4 ((unhide HE0).box #[.pointer (some ⟨d, 0, none⟩)] 25))
            rw [← hw5] at HE1
            clear hw5
            go_wp2_with fail
            refine hK.out _ _ (x8_of (zoo_varm (unhide HE1) (List.Mem.tail _ (List.Mem.tail _ (List.Mem.tail _ (List.Mem.head _)))))) (fun hHeld2 => ?_)
            clear hK K hHeld
            have hHeld := hHeld2
            clear hHeld2
            try simp only [Act.put, List.setIfInBounds_toArray, List.set_cons_zero, List.set_cons_succ]
            generalize WE.heap.size = q at *
            refine wpAnyH_only (i := 6) rfl (by kernel_rfl) (fun K hK => ?_)
            go_simp
            refine (dstep ⟨xd, xs, xm, xa, xk, xt, xp, xb⟩ hxb (unhide HG) (unhide HE1) hlen).mono ?_
            rintro e w7 ⟨rfl, HZ7⟩
            go_wp2_with fail
            refine hK.out _ _ (x8_of (zoo_varm (unhide HZ7) (List.Mem.tail _ (List.Mem.tail _ (List.Mem.head _))))) (fun hHeld2 => ?_)
            clear hK K hHeld
            have hHeld := hHeld2
            clear hHeld2
            try simp only [Act.put, List.setIfInBounds_toArray, List.set_cons_zero, List.set_cons_succ]
            refine wpAnyH_done (by kernel_rfl) ?_ _
            clear hHeld
            go_wp2_with fail
            go_end0
            exact ⟨rfl, Zoo.drop_ (l1 := [_, _]) (unhide HZ7)⟩
      · have hmi : ¬ ((m : Int) + 1 = 1) := by omega
        have hmj : ¬ ((m : Int) + 1 = 0) := by omega
        have hmk : (0 : Int) < (m : Int) + 1 := by omega
        have hml : (1 : Int) ≤ (m : Int) + 1 := by omega
        go_wp2_with (go_at_call 23; refine (unhide HC).mono ?_; rintro e w1 ⟨ws, a, cap, hw1, rfl, hr1, hk1⟩; rw [unhide HTK] at hw1; subst hw1; obtain ⟨g, o, rfl, hc1⟩ := krow_wrd hr1 (by simp); have c1 : w1.cell? ⟨g, o, none⟩ = some (.string ⟨nm.toArray⟩) := hc1 0 _ rfl; have hcap := hr1.le; have HZ1 := hide ((unhide HZ).kp0 hk1); have HC1 := hide hc1; rw [List.length_cons, ← unhide HM] at hcap ⊢; clear hr1 hk1 hc1)
        refine wp_region_held_drew (S := fun w' => w'.cell? ⟨g, o, none⟩ = some (.string ⟨nm.toArray⟩)) (by kernel_rfl) ((Kp.refl [] w1).drew.cell (by simp) c1) (fun hHeld => ?_)
        have HK0 := hide ((Kp.refl [] w1).drew)
        generalize World.drew _ = WD at HK0 hHeld ⊢
        refine wpAnyH_tk (i := 0) (v := ?_) rfl (by kernel_rfl) (by kernel_rfl) (by kernel_rfl) (fun _ _ _ h => h) (Or.inl ⟨by rfl, ?_⟩) hHeld ?_
        rotate_left
        · intro w hSw
          try dsimp only at hSw
          go_simp
          try with_reducible rfl
        try simp only [Act.put, List.setIfInBounds_toArray, List.set_cons_zero, List.set_cons_succ]
        refine wpAnyH_tk (i := 1) (v := ?_) rfl (by kernel_rfl) (by kernel_rfl) (by kernel_rfl) (fun _ _ _ h => h) (Or.inl ⟨by rfl, ?_⟩) hHeld ?_
        rotate_left
        · intro w hSw
          try dsimp only at hSw
          go_simp
          try with_reducible rfl
        try simp only [Act.put, List.setIfInBounds_toArray, List.set_cons_zero, List.set_cons_succ]
        refine wpAnyH_tk (i := 2) (v := ?_) rfl (by kernel_rfl) (by kernel_rfl) (by kernel_rfl) (fun _ _ _ h => h) (Or.inl ⟨by rfl, ?_⟩) hHeld ?_
        rotate_left
        · intro w hSw
          try dsimp only at hSw
          go_simp
          try with_reducible rfl
        try simp only [Act.put, List.setIfInBounds_toArray, List.set_cons_zero, List.set_cons_succ]
        refine wpAnyH_tk (i := 3) (v := ?_) rfl (by kernel_rfl) (by kernel_rfl) (by kernel_rfl) (fun _ _ _ h => h) (Or.inl ⟨by rfl, ?_⟩) hHeld ?_
        rotate_left
        · intro w hSw
          try dsimp only at hSw
          go_simp
          try with_reducible rfl
        try simp only [Act.put, List.setIfInBounds_toArray, List.set_cons_zero, List.set_cons_succ]
        refine wpAnyH_tk (i := 4) (v := ?_) rfl (by kernel_rfl) (by kernel_rfl) (by kernel_rfl) (fun _ _ _ h => h) (Or.inl ⟨by rfl, ?_⟩) hHeld ?_
        rotate_left
        · intro w hSw
          try dsimp only at hSw
          go_simp
          try with_reducible rfl
        try simp only [Act.put, List.setIfInBounds_toArray, List.set_cons_zero, List.set_cons_succ]
        have HWT := hide (wrd_tail (w := w1) (unhide HC1) (by rw [← unhide HM]; exact hcap))
        generalize (if cap = 1 then some (⟨g, o, none⟩ : Addr) else some ⟨g, o + 1, none⟩) = ar at *
        refine wpAnyH_two (i := 5) (j := 9) rfl rfl (by kernel_rfl) (fun K hK => ?_) (fun K hK => ?_)
        · go_simp
          refine (dread nm rt m (unhide HM) (by omega) _ _ _ (gnd_kp (unhide HG) ((unhide HZ1).kp.trans0 (unhide HK0))) ((unhide HWT).kp0 (unhide HK0)) (unhide HRL)).mono ?_
          rintro e w3 ⟨x, b, rfl, hx, hk3⟩
          have HX := hide hx
          have HK3 := hide ((unhide HK0).trans0 hk3)
          clear hx
          have HZ3 := hide ((unhide HZ1).kp0 (unhide HK3))
          clear hk3
          go_wp2_with fail
          refine hK.out _ _ ((unhide HK3).cell (by simp) c1) (fun hHeld2 => ?_)
          clear hK K hHeld
          have hHeld := hHeld2
          clear hHeld2
          try simp only [Act.put, List.setIfInBounds_toArray, List.set_cons_zero, List.set_cons_succ]
          refine wpAnyH_tk (i := 6) (v := ?_) rfl (by kernel_rfl) (by kernel_rfl) (by kernel_rfl) (fun _ _ _ h => h) (Or.inl ⟨by rfl, ?_⟩) hHeld ?_
          rotate_left
          · intro w hSw
            try dsimp only at hSw
            go_simp
            try with_reducible rfl
          try simp only [Act.put, List.setIfInBounds_toArray, List.set_cons_zero, List.set_cons_succ]
          refine wpAnyH_tk (i := 7) (v := ?_) rfl (by kernel_rfl) (by kernel_rfl) (by kernel_rfl) (fun _ _ _ h => h) (Or.inl ⟨by rfl, ?_⟩) hHeld ?_
          rotate_left
          · intro w hSw
            try dsimp only at hSw
            go_simp
            try with_reducible rfl
          try simp only [Act.put, List.setIfInBounds_toArray, List.set_cons_zero, List.set_cons_succ]
          refine wpAnyH_tk (i := 8) (v := ?_) rfl (by kernel_rfl) (by kernel_rfl) (by kernel_rfl) (fun _ _ _ h => h) (Or.inl ⟨by rfl, ?_⟩) hHeld ?_
          rotate_left
          · intro w hSw
            try dsimp only at hSw
            go_simp
            try with_reducible rfl
          try simp only [Act.put, List.setIfInBounds_toArray, List.set_cons_zero, List.set_cons_succ]
          refine wpAnyH_only (i := 9) rfl (by kernel_rfl) (fun K hK => ?_)
          go_simp
          have HA := hide (((unhide HZ3)).box #[.int .i64 0, .int .i64 0, .int .i64 0, .int .i64 0, .int .i64 0, .int .i64 0, .int .i64 0, .string ⟨#[]⟩] 79)
          have HKA := hide ((unhide HK3).alloc (.cells #[.int .i64 0, .int .i64 0, .int .i64 0, .int .i64 0, .int .i64 0, .int .i64 0, .int .i64 0, .string ⟨#[]⟩] 79))
          refine hK.out _ _ ((unhide HKA).cell (by simp) c1) (fun hHeld2 => ?_)
          clear hK K hHeld
          have hHeld := hHeld2
          clear hHeld2
          try simp only [Act.put, List.setIfInBounds_toArray, List.set_cons_zero, List.set_cons_succ]
          have hp6 := (unhide HK3).size
          generalize w3.alloc (.cells #[.int .i64 0, .int .i64 0, .int .i64 0, .int .i64 0, .int .i64 0, .int .i64 0, .int .i64 0, .string ⟨#[]⟩] 79) = W6 at *
          generalize w3.heap.size = p6 at *
          refine wpAnyH_only (i := 10) rfl (by kernel_rfl) (fun K hK => ?_)
          rw [if_pos (by rfl)]
          refine wp_store_row 79 _ _ rfl p6 (xcs x) rfl rfl 79 _ (zoo_varm (unhide HA) (List.Mem.head _)) Tryz.sizeSt rfl (xcs_one _) ?_
          have HB := hide (zoo_setrow (c' := xcs x) (l1 := []) (unhide HA))
          have HKB := hide ((unhide HKA).trans (setRow_kp (cs := xcs x) (zoo_varm (unhide HA) (List.Mem.head _))).2 (fun y hy => .inr (by rw [List.mem_singleton.1 hy]; exact hp6)))
          refine hK.out _ _ ((unhide HKB).cell (by simp) c1) (fun hHeld2 => ?_)
          clear hK K hHeld
          have hHeld := hHeld2
          clear hHeld2
          try simp only [Act.put, List.setIfInBounds_toArray, List.set_cons_zero, List.set_cons_succ]
          refine wpAnyH_tk (i := 11) (v := ?_) rfl (by kernel_rfl) (by kernel_rfl) (by kernel_rfl) (fun _ _ _ h => h) (Or.inl ⟨by rfl, ?_⟩) hHeld ?_
          rotate_left
          · intro w hSw
            try dsimp only at hSw
            go_simp
            try with_reducible rfl
          try simp only [Act.put, List.setIfInBounds_toArray, List.set_cons_zero, List.set_cons_succ]
          refine wpAnyH_done (by kernel_rfl) ?_ _
          clear hHeld HKB
          generalize World.setRow _ _ _ = W9 at HB ⊢
          have HB2 : Hid (Zoo w0 W9 (BoxT p6 (xcs x) 79 :: HalT hb h :: DskT d hb bs :: r)) := HB
          clear HB
          cases b with
          | false =>
            have hnone : rdl nm rs = none := (unhide HRD).symm.trans (by simpa using unhide HX)
            have hdl := unhide HDL
            rw [hnone, unhide HD2] at hdl
            cases hdl
            have HZ8 := hide ((unhide HB2).box #[.string ⟨#[119, 104, 97, 116]⟩] 9)
            clear hnone
            go_wp2_with (go_at_call 24; refine (dsay (l1 := [_, _, _]) [[119, 104, 97, 116]] 1 rfl _ 0 1 (unhide HZ8) (cells_strs [[119, 104, 97, 116]] (zoo_varm (unhide HZ8) (List.Mem.head _)) rfl) (join_pos (by simp)) (by simp) (by simp) hlen).mono ?_; rintro e w7 ⟨rfl, HZ7⟩)
            refine bodyPost_ret (v := .tuple #[]) (results_none Tryz.results15 _ _ _) rfl ?_
            exact ⟨rfl, Zoo.tail (Zoo.tail (unhide HZ7))⟩
          | true =>
            have hsome : rdl nm rs = some x := (unhide HRD).symm.trans (by simpa using unhide HX)
            have hxb : x.b.size ≤ maxLen := by
              have := rdl_sz ((unhide HRD).trans hsome) (unhide HRL)
              unfold maxLen; omega
            have hdl := unhide HDL
            rw [hsome, unhide HD2] at hdl
            cases hdl
            have x0 := (x8_of (zoo_varm (unhide HB2) (List.Mem.head _))).1
            clear hsome
            obtain ⟨xd, xs, xm, xa, xk, xt, xp, xb⟩ := x
            dsimp only at hlen hxb x0 HX ⊢
            go_wp2_with fail
            refine wp_region_held_drew (S := fun w' => w'.cell? ⟨p6, 0, none⟩ = some (.int .i64 xd) ∧ w'.cell? ⟨p6, 1, none⟩ = some (.int .i64 xs) ∧ w'.cell? ⟨p6, 1 + 1, none⟩ = some (.int .i64 xm) ∧ w'.cell? ⟨p6, 1 + 1 + 1, none⟩ = some (.int .i64 xa) ∧ w'.cell? ⟨p6, 1 + 1 + 1 + 1, none⟩ = some (.int .i64 xk) ∧ w'.cell? ⟨p6, 1 + 1 + 1 + 1 + 1, none⟩ = some (.int .i64 xt) ∧ w'.cell? ⟨p6, 1 + 1 + 1 + 1 + 1 + 1, none⟩ = some (.int .i64 xp) ∧ w'.cell? ⟨p6, 1 + 1 + 1 + 1 + 1 + 1 + 1, none⟩ = some (.string xb)) (by kernel_rfl) (x8_of (zoo_varm ((unhide HB2).kp0 (Kp.refl [] W9).drew) (List.Mem.head _))) (fun hHeld => ?_)
            have HE0 := hide ((unhide HB2).kp0 (Kp.refl [] W9).drew)
            generalize World.drew _ = WE at HE0 hHeld ⊢
            refine wpAnyH_tk (i := 0) (v := ?_) rfl (by kernel_rfl) (by kernel_rfl) (by kernel_rfl) (fun _ _ _ h => h) (Or.inl ⟨by rfl, ?_⟩) hHeld ?_
            rotate_left
            · intro w hSw
              try dsimp only at hSw
              go_simp
              try with_reducible rfl
            try simp only [Act.put, List.setIfInBounds_toArray, List.set_cons_zero, List.set_cons_succ]
            refine wpAnyH_tk (i := 1) (v := ?_) rfl (by kernel_rfl) (by kernel_rfl) (by kernel_rfl) (fun _ _ _ h => h) (Or.inl ⟨by rfl, ?_⟩) hHeld ?_
            rotate_left
            · intro w hSw
              try dsimp only at hSw
              go_simp
              try with_reducible rfl
            try simp only [Act.put, List.setIfInBounds_toArray, List.set_cons_zero, List.set_cons_succ]
            refine wpAnyH_tk (i := 2) (v := ?_) rfl (by kernel_rfl) (by kernel_rfl) (by kernel_rfl) (fun _ _ _ h => h) (Or.inl ⟨by rfl, ?_⟩) hHeld ?_
            rotate_left
            · intro w hSw
              try dsimp only at hSw
              go_simp
              try with_reducible rfl
            try simp only [Act.put, List.setIfInBounds_toArray, List.set_cons_zero, List.set_cons_succ]
            refine wpAnyH_tk (i := 3) (v := ?_) rfl (by kernel_rfl) (by kernel_rfl) (by kernel_rfl) (fun _ _ _ h => h) (Or.inl ⟨by rfl, ?_⟩) hHeld ?_
            rotate_left
            · intro w hSw
              try dsimp only at hSw
              go_simp
              try with_reducible rfl
            try simp only [Act.put, List.setIfInBounds_toArray, List.set_cons_zero, List.set_cons_succ]
            refine wpAnyH_tk (i := 4) (v := ?_) rfl (by kernel_rfl) (by kernel_rfl) (by kernel_rfl) (fun _ _ _ h => h) (Or.inl ⟨by rfl, ?_⟩) hHeld ?_
            rotate_left
            · intro w hSw
              try dsimp only at hSw
              go_simp
              try with_reducible rfl
            try simp only [Act.put, List.setIfInBounds_toArray, List.set_cons_zero, List.set_cons_succ]
            refine wpAnyH_only (i := 5) rfl (by kernel_rfl) (fun K hK => ?_)
            go_simp
            refine (dteller d xd WE).mono ?_
            rintro e w5 ⟨rfl, hw5⟩
            have HE1 := hide (zoo_p4 ((unhide HE0).box #[.pointer (some ⟨d, 0, none⟩)] 25))
            rw [← hw5] at HE1
            clear hw5
            go_wp2_with fail
            refine hK.out _ _ (x8_of (zoo_varm (unhide HE1) (List.Mem.tail _ (List.Mem.tail _ (List.Mem.tail _ (List.Mem.head _)))))) (fun hHeld2 => ?_)
            clear hK K hHeld
            have hHeld := hHeld2
            clear hHeld2
            try simp only [Act.put, List.setIfInBounds_toArray, List.set_cons_zero, List.set_cons_succ]
            generalize WE.heap.size = q at *
            refine wpAnyH_only (i := 6) rfl (by kernel_rfl) (fun K hK => ?_)
            go_simp
            refine (dstep ⟨xd, xs, xm, xa, xk, xt, xp, xb⟩ hxb (unhide HG) (unhide HE1) hlen).mono ?_
            rintro e w7 ⟨rfl, HZ7⟩
            go_wp2_with fail
            refine hK.out _ _ (x8_of (zoo_varm (unhide HZ7) (List.Mem.tail _ (List.Mem.tail _ (List.Mem.head _))))) (fun hHeld2 => ?_)
            clear hK K hHeld
            have hHeld := hHeld2
            clear hHeld2
            try simp only [Act.put, List.setIfInBounds_toArray, List.set_cons_zero, List.set_cons_succ]
            refine wpAnyH_done (by kernel_rfl) ?_ _
            clear hHeld
            go_wp2_with fail
            go_end0
            exact ⟨rfl, Zoo.drop_ (l1 := [_, _]) (unhide HZ7)⟩
        · go_simp
          have HA := hide ((((unhide HZ1).kp0 (unhide HK0))).box #[.int .i64 0, .int .i64 0, .int .i64 0, .int .i64 0, .int .i64 0, .int .i64 0, .int .i64 0, .string ⟨#[]⟩] 79)
          have HKA := hide ((unhide HK0).alloc (.cells #[.int .i64 0, .int .i64 0, .int .i64 0, .int .i64 0, .int .i64 0, .int .i64 0, .int .i64 0, .string ⟨#[]⟩] 79))
          refine hK.out _ _ ((unhide HKA).cell (by simp) c1) (fun hHeld2 => ?_)
          clear hK K hHeld
          have hHeld := hHeld2
          clear hHeld2
          try simp only [Act.put, List.setIfInBounds_toArray, List.set_cons_zero, List.set_cons_succ]
          have hp6 := (unhide HK0).size
          generalize WD.alloc (.cells #[.int .i64 0, .int .i64 0, .int .i64 0, .int .i64 0, .int .i64 0, .int .i64 0, .int .i64 0, .string ⟨#[]⟩] 79) = W6 at *
          generalize WD.heap.size = p6 at *
          refine wpAnyH_only (i := 5) rfl (by kernel_rfl) (fun K hK => ?_)
          go_simp
          refine (dread nm rt m (unhide HM) (by omega) _ _ _ (gnd_kp (unhide HG) ((unhide HZ1).kp.trans0 (unhide HKA))) ((unhide HWT).kp0 (unhide HKA)) (unhide HRL)).mono ?_
          rintro e w3 ⟨x, b, rfl, hx, hk3⟩
          have HX := hide hx
          have HK3 := hide ((unhide HKA).trans0 hk3)
          clear hx
          have HA3 := hide ((unhide HA).kp0 hk3)
          clear hk3
          go_wp2_with fail
          refine hK.out _ _ ((unhide HK3).cell (by simp) c1) (fun hHeld2 => ?_)
          clear hK K hHeld
          have hHeld := hHeld2
          clear hHeld2
          try simp only [Act.put, List.setIfInBounds_toArray, List.set_cons_zero, List.set_cons_succ]
          refine wpAnyH_tk (i := 6) (v := ?_) rfl (by kernel_rfl) (by kernel_rfl) (by kernel_rfl) (fun _ _ _ h => h) (Or.inl ⟨by rfl, ?_⟩) hHeld ?_
          rotate_left
          · intro w hSw
            try dsimp only at hSw
            go_simp
            try with_reducible rfl
          try simp only [Act.put, List.setIfInBounds_toArray, List.set_cons_zero, List.set_cons_succ]
          refine wpAnyH_tk (i := 7) (v := ?_) rfl (by kernel_rfl) (by kernel_rfl) (by kernel_rfl) (fun _ _ _ h => h) (Or.inl ⟨by rfl, ?_⟩) hHeld ?_
          rotate_left
          · intro w hSw
            try dsimp only at hSw
            go_simp
            try with_reducible rfl
          try simp only [Act.put, List.setIfInBounds_toArray, List.set_cons_zero, List.set_cons_succ]
          refine wpAnyH_tk (i := 8) (v := ?_) rfl (by kernel_rfl) (by kernel_rfl) (by kernel_rfl) (fun _ _ _ h => h) (Or.inl ⟨by rfl, ?_⟩) hHeld ?_
          rotate_left
          · intro w hSw
            try dsimp only at hSw
            go_simp
            try with_reducible rfl
          try simp only [Act.put, List.setIfInBounds_toArray, List.set_cons_zero, List.set_cons_succ]
          refine wpAnyH_only (i := 10) rfl (by kernel_rfl) (fun K hK => ?_)
          rw [if_pos (by rfl)]
          refine wp_store_row 79 _ _ rfl p6 (xcs x) rfl rfl 79 _ (zoo_varm (unhide HA3) (List.Mem.head _)) Tryz.sizeSt rfl (xcs_one _) ?_
          have HB := hide (zoo_setrow (c' := xcs x) (l1 := []) (unhide HA3))
          have HKB := hide ((unhide HK3).trans (setRow_kp (cs := xcs x) (zoo_varm (unhide HA3) (List.Mem.head _))).2 (fun y hy => .inr (by rw [List.mem_singleton.1 hy]; exact hp6)))
          refine hK.out _ _ ((unhide HKB).cell (by simp) c1) (fun hHeld2 => ?_)
          clear hK K hHeld
          have hHeld := hHeld2
          clear hHeld2
          try simp only [Act.put, List.setIfInBounds_toArray, List.set_cons_zero, List.set_cons_succ]
          refine wpAnyH_tk (i := 11) (v := ?_) rfl (by kernel_rfl) (by kernel_rfl) (by kernel_rfl) (fun _ _ _ h => h) (Or.inl ⟨by rfl, ?_⟩) hHeld ?_
          rotate_left
          · intro w hSw
            try dsimp only at hSw
            go_simp
            try with_reducible rfl
          try simp only [Act.put, List.setIfInBounds_toArray, List.set_cons_zero, List.set_cons_succ]
          refine wpAnyH_done (by kernel_rfl) ?_ _
          clear hHeld HKB
          generalize World.setRow _ _ _ = W9 at HB ⊢
          have HB2 : Hid (Zoo w0 W9 (BoxT p6 (xcs x) 79 :: HalT hb h :: DskT d hb bs :: r)) := HB
          clear HB
          cases b with
          | false =>
            have hnone : rdl nm rs = none := (unhide HRD).symm.trans (by simpa using unhide HX)
            have hdl := unhide HDL
            rw [hnone, unhide HD2] at hdl
            cases hdl
            have HZ8 := hide ((unhide HB2).box #[.string ⟨#[119, 104, 97, 116]⟩] 9)
            clear hnone
            go_wp2_with (go_at_call 24; refine (dsay (l1 := [_, _, _]) [[119, 104, 97, 116]] 1 rfl _ 0 1 (unhide HZ8) (cells_strs [[119, 104, 97, 116]] (zoo_varm (unhide HZ8) (List.Mem.head _)) rfl) (join_pos (by simp)) (by simp) (by simp) hlen).mono ?_; rintro e w7 ⟨rfl, HZ7⟩)
            refine bodyPost_ret (v := .tuple #[]) (results_none Tryz.results15 _ _ _) rfl ?_
            exact ⟨rfl, Zoo.tail (Zoo.tail (unhide HZ7))⟩
          | true =>
            have hsome : rdl nm rs = some x := (unhide HRD).symm.trans (by simpa using unhide HX)
            have hxb : x.b.size ≤ maxLen := by
              have := rdl_sz ((unhide HRD).trans hsome) (unhide HRL)
              unfold maxLen; omega
            have hdl := unhide HDL
            rw [hsome, unhide HD2] at hdl
            cases hdl
            have x0 := (x8_of (zoo_varm (unhide HB2) (List.Mem.head _))).1
            clear hsome
            obtain ⟨xd, xs, xm, xa, xk, xt, xp, xb⟩ := x
            dsimp only at hlen hxb x0 HX ⊢
            go_wp2_with fail
            refine wp_region_held_drew (S := fun w' => w'.cell? ⟨p6, 0, none⟩ = some (.int .i64 xd) ∧ w'.cell? ⟨p6, 1, none⟩ = some (.int .i64 xs) ∧ w'.cell? ⟨p6, 1 + 1, none⟩ = some (.int .i64 xm) ∧ w'.cell? ⟨p6, 1 + 1 + 1, none⟩ = some (.int .i64 xa) ∧ w'.cell? ⟨p6, 1 + 1 + 1 + 1, none⟩ = some (.int .i64 xk) ∧ w'.cell? ⟨p6, 1 + 1 + 1 + 1 + 1, none⟩ = some (.int .i64 xt) ∧ w'.cell? ⟨p6, 1 + 1 + 1 + 1 + 1 + 1, none⟩ = some (.int .i64 xp) ∧ w'.cell? ⟨p6, 1 + 1 + 1 + 1 + 1 + 1 + 1, none⟩ = some (.string xb)) (by kernel_rfl) (x8_of (zoo_varm ((unhide HB2).kp0 (Kp.refl [] W9).drew) (List.Mem.head _))) (fun hHeld => ?_)
            have HE0 := hide ((unhide HB2).kp0 (Kp.refl [] W9).drew)
            generalize World.drew _ = WE at HE0 hHeld ⊢
            refine wpAnyH_tk (i := 0) (v := ?_) rfl (by kernel_rfl) (by kernel_rfl) (by kernel_rfl) (fun _ _ _ h => h) (Or.inl ⟨by rfl, ?_⟩) hHeld ?_
            rotate_left
            · intro w hSw
              try dsimp only at hSw
              go_simp
              try with_reducible rfl
            try simp only [Act.put, List.setIfInBounds_toArray, List.set_cons_zero, List.set_cons_succ]
            refine wpAnyH_tk (i := 1) (v := ?_) rfl (by kernel_rfl) (by kernel_rfl) (by kernel_rfl) (fun _ _ _ h => h) (Or.inl ⟨by rfl, ?_⟩) hHeld ?_
            rotate_left
            · intro w hSw
              try dsimp only at hSw
              go_simp
              try with_reducible rfl
            try simp only [Act.put, List.setIfInBounds_toArray, List.set_cons_zero, List.set_cons_succ]
            refine wpAnyH_tk (i := 2) (v := ?_) rfl (by kernel_rfl) (by kernel_rfl) (by kernel_rfl) (fun _ _ _ h => h) (Or.inl ⟨by rfl, ?_⟩) hHeld ?_
            rotate_left
            · intro w hSw
              try dsimp only at hSw
              go_simp
              try with_reducible rfl
            try simp only [Act.put, List.setIfInBounds_toArray, List.set_cons_zero, List.set_cons_succ]
            refine wpAnyH_tk (i := 3) (v := ?_) rfl (by kernel_rfl) (by kernel_rfl) (by kernel_rfl) (fun _ _ _ h => h) (Or.inl ⟨by rfl, ?_⟩) hHeld ?_
            rotate_left
            · intro w hSw
              try dsimp only at hSw
              go_simp
              try with_reducible rfl
            try simp only [Act.put, List.setIfInBounds_toArray, List.set_cons_zero, List.set_cons_succ]
            refine wpAnyH_tk (i := 4) (v := ?_) rfl (by kernel_rfl) (by kernel_rfl) (by kernel_rfl) (fun _ _ _ h => h) (Or.inl ⟨by rfl, ?_⟩) hHeld ?_
            rotate_left
            · intro w hSw
              try dsimp only at hSw
              go_simp
              try with_reducible rfl
            try simp only [Act.put, List.setIfInBounds_toArray, List.set_cons_zero, List.set_cons_succ]
            refine wpAnyH_only (i := 5) rfl (by kernel_rfl) (fun K hK => ?_)
            go_simp
            refine (dteller d xd WE).mono ?_
            rintro e w5 ⟨rfl, hw5⟩
            have HE1 := hide (zoo_p4 ((unhide HE0).box #[.pointer (some ⟨d, 0, none⟩)] 25))
            rw [← hw5] at HE1
            clear hw5
            go_wp2_with fail
            refine hK.out _ _ (x8_of (zoo_varm (unhide HE1) (List.Mem.tail _ (List.Mem.tail _ (List.Mem.tail _ (List.Mem.head _)))))) (fun hHeld2 => ?_)
            clear hK K hHeld
            have hHeld := hHeld2
            clear hHeld2
            try simp only [Act.put, List.setIfInBounds_toArray, List.set_cons_zero, List.set_cons_succ]
            generalize WE.heap.size = q at *
            refine wpAnyH_only (i := 6) rfl (by kernel_rfl) (fun K hK => ?_)
            go_simp
            refine (dstep ⟨xd, xs, xm, xa, xk, xt, xp, xb⟩ hxb (unhide HG) (unhide HE1) hlen).mono ?_
            rintro e w7 ⟨rfl, HZ7⟩
            go_wp2_with fail
            refine hK.out _ _ (x8_of (zoo_varm (unhide HZ7) (List.Mem.tail _ (List.Mem.tail _ (List.Mem.head _))))) (fun hHeld2 => ?_)
            clear hK K hHeld
            have hHeld := hHeld2
            clear hHeld2
            try simp only [Act.put, List.setIfInBounds_toArray, List.set_cons_zero, List.set_cons_succ]
            refine wpAnyH_done (by kernel_rfl) ?_ _
            clear hHeld
            go_wp2_with fail
            go_end0
            exact ⟨rfl, Zoo.drop_ (l1 := [_, _]) (unhide HZ7)⟩
end
end
/- The desk's builder told and emptied: String, Reset, by their contracts. -/
section
open Go.RowKit
attribute [local go_sem ↓] Go.wp_at_zero Go.wp_at_succ

/-- A desk whose builder has told: its box alone. -/
def RawT (d hb : Nat) : Thing where
  holds B w F := ∃ p v : Value, w.heap[d]? = some (.cells #[p, v, .pointer (some ⟨hb, 0, none⟩)] 46 (0, 0)) ∧ F = [d] ∧ B ≤ d
  kp := fun ⟨p, v, h1, h2, h3⟩ hk hS => ⟨p, v, by rw [hk.block d (lt_of_block h1) (hS d (by rw [h2]; simp))]; exact h1, h2, h3⟩
  lo := fun ⟨p, v, h1, h2, h3⟩ x hx => by rw [h2] at hx; rw [List.mem_singleton.1 hx]; exact ⟨h3, lt_of_block h1⟩
  base := fun ⟨p, v, h1, h2, h3⟩ hC => ⟨p, v, h1, h2, Nat.le_trans hC h3⟩
theorem kp_freeze {w : World} (g n : Nat) : Kp [g] w (w.freeze ⟨g, 0, none⟩ n) := by
  unfold World.freeze
  split
  · exact Kp.refl _ _
  · refine ⟨rfl, rfl, rfl, by simp, fun k hk hn => ?_⟩
    have hne : g ≠ k := fun e => hn (by simp [e])
    simp only [Array.getElem?_modify, if_neg hne]
set_option maxHeartbeats 2000000 in
theorem dstring {B d hb : Nat} {bs : List UInt8} {w : World} {F : List Nat} (h : (DskT d hb bs).holds B w F) :
    Calls Tryz.prog 16 #[.pointer (some ⟨d, 0, none⟩)] w fun e w' => e = .returned (.string ⟨bs.toArray⟩) ∧ Hid (Ch (RawT d hb) B w F w') := by
  obtain ⟨p, a, cap, _, hbk, hown, rfl, hBd, hda, hnil⟩ := h
  cases bs with
  | nil =>
    have ha := hnil rfl
    subst ha
    obtain ⟨_, hcp, _⟩ | ⟨g, e, _⟩ := hown.cases
    · subst hcp
      have c1 : w.drew.cell? ⟨d, 1, none⟩ = some (.slice none 0 0) := cell_of_block (w := w.drew) hbk rfl
      have hSD : (Builtin.unsafeSliceData_ #[42] 85 #[.slice none 0 0]).run Tryz.prog w.drew = .ok (.pointer none) w.drew := rfl
      have hUS := fun (W : World) (q : Option Addr) => Lib.run_unsafeString_none (P := Tryz.prog) W 85 3 9 q
      have hfin : Ch (RawT d hb) B w [d] w.drew := ⟨[d], ⟨p, _, hbk, rfl, hBd⟩, (Kp.refl [d] w).drew, fun x hx => .inl hx⟩
      have HF := hide hfin
      clear hbk hown hfin
      go_enter Tryz.func16, Tryz.ntmps16
      go_wp2_with fail
      go_region
      all_goals (go_wp2_with fail; go_ret; exact ⟨rfl, HF⟩)
    · cases e
  | cons c0 cr =>
    obtain ⟨_, _, e⟩ | ⟨g, rfl, hBg, hgl, hle⟩ := hown.cases
    · cases e
    obtain ⟨l, hl⟩ : ∃ l, c0 :: cr = l := ⟨_, rfl⟩
    have h0 : l ≠ [] := by rw [← hl]; simp
    rw [hl] at hbk hown hle ⊢
    obtain ⟨g2, cap2, cur, hv, _, hg, hnc, hcm, hcs, htake⟩ : ∃ g2 cap2 cur, Value.slice (some ⟨g, 0, none⟩) l.length cap = .slice (some ⟨g2, 0, none⟩) l.length cap2 ∧ B ≤ g2 ∧ w.heap[g2]? = some (.cells cur 5 (0, 0)) ∧ l.length ≤ cap2 ∧ cap2 ≤ maxLen ∧ cur.size = cap2 * 1 ∧ cur.toList.take (l.length * 1) = bcells l := by
      rcases hown.2 with ⟨_, hz⟩ | ⟨g2, cap2, cur, hv, r⟩
      · exact absurd (List.eq_nil_of_length_eq_zero hz) h0
      · exact ⟨g2, cap2, cur, hv, r⟩
    cases hv
    have c1 : w.drew.cell? ⟨d, 1, none⟩ = some (.slice (some ⟨g, 0, none⟩) l.length cap) := cell_of_block (w := w.drew) hbk rfl
    have hcap0 : cap ≠ 0 := by have := List.length_pos_iff.2 h0; omega
    have hSD : (Builtin.unsafeSliceData_ #[42] 85 #[.slice (some ⟨g, 0, none⟩) l.length cap]).run Tryz.prog w.drew = .ok (.pointer (some ⟨g, 0, none⟩)) w.drew := Lib.run_unsafeSliceData_row _ _ _ _ _ _ (by omega)
    have hUS : (Builtin.unsafeString_ #[85, 3] 9 #[.pointer (some ⟨g, 0, none⟩), .int .i64 l.length]).run Tryz.prog w.drew = .ok (.string ⟨l.toArray⟩) (w.drew.freeze ⟨g, 0, none⟩ l.length) := by
      refine Lib.run_unsafeString_row w.drew 85 3 9 5 Tryz.underlying85 btX.cellsByte g cur.size (by have hg' : w.drew.heap[g]? = some (.cells cur 5 (0, 0)) := hg; simp [World.shape?, hg']) l h0 (by omega) (by unfold maxLen at hcm; omega) ?_
      intro j x hx
      exact hown.cells (g := g) rfl j (.int .u8 x.toNat) (by simp [bcells, hx])
    have hne : d ∉ [g] := by simpa [ob_some] using hda
    have hkf : Kp [g] w (w.drew.freeze ⟨g, 0, none⟩ l.length) := (Kp.refl [g] w).drew.trans (kp_freeze g l.length) (fun x hx => .inl hx)
    have hfin : Ch (RawT d hb) B w (d :: ob (some ⟨g, 0, none⟩)) (w.drew.freeze ⟨g, 0, none⟩ l.length) := by
      refine ⟨[d], ⟨p, .slice (some ⟨g, 0, none⟩) l.length cap, ?_, rfl, hBd⟩, hkf.mono (fun x hx => by simp [ob_some] at hx ⊢; simp [hx]), fun x hx => .inl (by simp at hx; simp [hx])⟩
      rw [hkf.block d (lt_of_block hbk) hne]
      exact hbk
    have HF := hide hfin
    generalize l.length = n at *
    clear hbk hown hfin hkf hg htake hle hnc hda hnil hl h0
    go_enter Tryz.func16, Tryz.ntmps16
    go_wp2_with fail
    go_region
    all_goals (go_wp2_with fail; go_ret; exact ⟨rfl, HF⟩)
set_option maxHeartbeats 1000000 in
theorem dreset {B d hb : Nat} {w : World} {F : List Nat} (h : (RawT d hb).holds B w F) :
    Calls Tryz.prog 17 #[.pointer (some ⟨d, 0, none⟩)] w fun e w' => e = .returned (.tuple #[]) ∧ Hid (Ch (DskT d hb []) B w F w') := by
  obtain ⟨p, v, hbk, rfl, hBd⟩ := h
  have c0 : w.cell? ⟨d, 0, none⟩ = some p := cell_of_block hbk rfl
  have c1 : w.cell? ⟨d, 1, none⟩ = some v := cell_of_block hbk rfl
  have f0 : w.frozen? ⟨d, 0, none⟩ = false := frozen_of_block _ hbk
  have hb1 := heap_setCell_at 0 (.pointer none) hbk
  have f1 : (w.setCell ⟨d, 0, none⟩ (.pointer none)).frozen? ⟨d, 1, none⟩ = false := frozen_of_block _ hb1
  have hfin : Ch (DskT d hb []) B w [d] ((w.setCell ⟨d, 0, none⟩ (.pointer none)).setCell ⟨d, 1, none⟩ (.slice none 0 0)) := by
    refine ⟨[d], ⟨.pointer none, none, 0, .inl rfl, ?_, ownU_nil _ _, rfl, hBd, by simp [ob_none], fun _ => rfl⟩, ((Kp.refl [d] w).setCell (.inl (by simp)) _).setCell (.inl (by simp)) _, fun x hx => .inl hx⟩
    rw [heap_setCell_at 1 _ hb1]
    rfl
  have HF := hide hfin
  clear hfin hb1 hbk
  go_enter Tryz.func17, Tryz.ntmps17
  go_wp2_with fail
  go_end0
  exact ⟨rfl, HF⟩
section
variable {w0 w : World} {l1 r : List Thing} {d hb : Nat} {bs : List UInt8}
theorem z_string (hz : Zoo w0 w (l1 ++ DskT d hb bs :: r)) : Calls Tryz.prog 16 #[.pointer (some ⟨d, 0, none⟩)] w fun e w' => e = .returned (.string ⟨bs.toArray⟩) ∧ Hid (Zoo w0 w' (l1 ++ RawT d hb :: r)) := by
  obtain ⟨F, h1, k⟩ := hz.at_
  refine (dstring h1).mono ?_
  rintro e w' ⟨rfl, hch⟩
  exact ⟨rfl, k _ _ (unhide hch)⟩
theorem z_reset (hz : Zoo w0 w (l1 ++ RawT d hb :: r)) : Calls Tryz.prog 17 #[.pointer (some ⟨d, 0, none⟩)] w fun e w' => e = .returned (.tuple #[]) ∧ Hid (Zoo w0 w' (l1 ++ DskT d hb [] :: r)) := by
  obtain ⟨F, h1, k⟩ := hz.at_
  refine (dreset h1).mono ?_
  rintro e w' ⟨rfl, hch⟩
  exact ⟨rfl, k _ _ (unhide hch)⟩
end
end
/- The desk's check; how long what is told can be. -/
section
open Go.RowKit
attribute [local go_sem ↓] Go.wp_at_zero Go.wp_at_succ

def lsum : List (List UInt8) → Nat
  | [] => 0
  | x :: r => x.length + lsum r
theorem join_len : ∀ ws : List (List UInt8), (Lib.join ws [32]).length ≤ lsum ws + ws.length
  | [] => Nat.zero_le _
  | [x] => by rw [Lib.join_one]; simp [lsum]
  | x :: y :: r => by
    have h : Lib.join (x :: y :: r) [32] = x ++ ([32] ++ Lib.join (y :: r) [32]) := by simp [Lib.join, List.intercalate]
    have := join_len (y :: r)
    rw [h]
    simp [lsum] at this ⊢
    omega
theorem say_len (ws : List (List UInt8)) : (say ws).length ≤ lsum ws + ws.length + 1 := by
  unfold say
  rw [List.length_append]
  have := join_len ws
  simp
  omega
theorem pvx_sum : ∀ l : List Ver, (∀ p ∈ l, p.s.size ≤ 12 ∧ 0 ≤ p.a ∧ p.a ≤ 9) → lsum (l.map pvx) ≤ l.length * 58
  | [], _ => Nat.zero_le _
  | p :: r, h => by
    have h1 := h p (by simp)
    have h2 := pvx_sum r (fun q hq => h q (by simp [hq]))
    have h3 := Lib.itoa_length_le p.a (by omega) (by omega)
    have h4 := vtx_len p.t p.s (by omega)
    have h5 : (pvx p).length = (Lib.itoa p.a).length + (vtx p.t p.s).length := by unfold pvx; rw [List.length_append]
    simp only [List.map_cons, lsum, List.length_cons, h5]
    omega
theorem tell_len {v : Ev} (h : EvS v) (d : Int) : (say (tell d v)).length ≤ 600 := by
  have h0 := say_len (tell d v)
  have c := Lib.itoa_length_le v.c (by have := h.c0; omega) (by have := h.c1; omega)
  have n := Lib.itoa_length_le v.n (by have := h.n0; omega) (by have := h.n1; omega)
  have s := vtx_len v.t v.s (by have := h.s; omega)
  have ss := h.s
  have pl := pvx_sum v.l h.l
  have ll := h.len
  have hb : lsum (tell d v) + (tell d v).length ≤ 599 := by
    unfold tell
    by_cases hc : v.c ≠ 0
    · rw [if_pos hc]; simp [lsum]; omega
    · rw [if_neg hc]
      unfold telk
      by_cases h2 : d = 2
      · rw [if_pos h2]; simp [lsum]; omega
      · rw [if_neg h2]
        by_cases h5 : d = 5
        · rw [if_pos h5]; simp [lsum]; omega
        · rw [if_neg h5]
          by_cases h6 : d = 6 ∨ d = 8 ∨ d = 10
          · rw [if_pos h6]; simp [lsum]; omega
          · rw [if_neg h6]; simp [lsum]
  omega
theorem dln_len {h : HSt} (hi : HInv h) (l : List UInt8) : (dln h l).2.length ≤ 600 := by
  unfold dln
  cases hw : wds l with
  | nil => exact Nat.zero_le _
  | cons w ws =>
    dsimp only
    by_cases hl : w = [108, 97, 115, 116] ∧ ws = []
    · rw [if_pos hl]
      obtain ⟨b1, b2, b3, b4, b5⟩ := hal_nums hi
      have h0 := say_len [[108, 97, 115, 116], Lib.itoa h.n, Lib.itoa (fmx h.f 8), Lib.itoa (least h.n h.seat 5)]
      have e1 := Lib.itoa_length_le h.n (by omega) (by omega)
      have e2 := Lib.itoa_length_le (fmx h.f 8) (by omega) (by omega)
      have e3 := Lib.itoa_length_le (least h.n h.seat 5) (by omega) (by omega)
      simp [lsum] at h0
      dsimp only
      omega
    · rw [if_neg hl]
      cases hr : rdl w ws with
      | none =>
        have h0 := say_len [[119, 104, 97, 116]]
        simp [lsum] at h0
        dsimp only
        omega
      | some x => exact tell_len (hev_small hi x) x.d
def CkEnd (ls : List (List UInt8)) (w : World) (e : Ending) (w' : World) : Prop := ∃ c p : Int, e = .returned (.agg #[.int .i64 c, .int .i64 p]) ∧ lft ls = (c, p) ∧ Kp [] w w'
theorem ckEnd_mk {ls : List (List UInt8)} {w w' : World} (c p : Int) (h : lft ls = (c, p)) (hk : Kp [] w w') : CkEnd ls w (.returned (.agg #[.int .i64 c, .int .i64 p])) w' := ⟨c, p, rfl, h, hk⟩
theorem Tryz.sizeFa : (Tryz.prog.info? 31).map (·.size) = some 2 := by kernel_rfl
theorem lfg_step {ls : List (List UInt8)} {k : Nat} {l : List UInt8} (h : ls[k]? = some l) : lfg k (ls.drop k) = if (10 : UInt8) ∈ l then (15, (k : Int)) else lfg (k + 1) (ls.drop (k + 1)) := by
  obtain ⟨hk, e⟩ := List.getElem?_eq_some_iff.1 h
  rw [List.drop_eq_getElem_cons hk, e, lfg]
set_option maxHeartbeats 2000000 in
theorem dchk (ls : List (List UInt8)) (n : Nat) (hn : n = ls.length) (a : Option Addr) (cap : Nat) (w : World) (hw : Wrd w a ls) :
    Calls Tryz.prog 14 #[.slice a n cap] w fun e w' => CkEnd ls w e w' := by
  have HZ0 := hide ((zoo_nil (Kp.refl [] w)).box #[.int .i64 0, .int .i64 0] 31)
  have HW := hide hw
  have HN := hide hn
  clear hw hn
  go_enter Tryz.func14, Tryz.ntmps14
  by_cases hbig : 150 < n
  · have i1 : (150 : Int) < (n : Int) := by omega
    have hfin : lft ls = (14, -1) := by unfold lft; rw [if_pos (by rw [← unhide HN]; exact hbig)]
    have HF := hide hfin
    clear hfin
    go_wp2_with fail
    have hz3 := (zoo_nil (Kp.refl [] w)).box #[.int .i64 14, .int .i64 (-1)] 31
    refine bodyPost_ret (v := .agg #[.int .i64 14, .int .i64 (-1)]) (results_cell_row Tryz.results14 _ _ w.heap.size 31 _ (0, 0) _ rfl (zoo_varm hz3 (List.Mem.head _)) Tryz.underlying31 rfl Tryz.sizeFa) rfl ?_
    exact ckEnd_mk _ _ (unhide HF) hz3.kp
  · have i1 : ¬ (150 : Int) < (n : Int) := by omega
    go_wp2_with fail
    generalize w.alloc (.cells #[.int .i64 0, .int .i64 0] 31) = W at *
    generalize w.heap.size = pR at *
    go_loopw [11] (fun t wr => ∃ k : Nat, k ≤ n ∧ t = .int .i64 k ∧ Hid (lft ls = lfg k (ls.drop k)) ∧ Hid (Zoo w wr [BoxT pR #[.int .i64 0, .int .i64 0] 31])) (fun t _ => n - (intOf t).toNat)
    case atStart => exact ⟨0, Nat.zero_le _, rfl, by show lft ls = lfg 0 ls; unfold lft; rw [if_neg (by rw [← unhide HN]; exact hbig)], HZ0⟩
    case round =>
      obtain ⟨k, hk, rfl, HI, HZ⟩ := hrel
      have hR := zoo_varm (unhide HZ) (List.Mem.head _)
      by_cases hlt : k < n
      · have i0 : (0 : Int) ≤ (k : Int) := by omega
        have i2 : (k : Int) < (n : Int) := by omega
        obtain ⟨l, hl⟩ : ∃ l, ls[k]? = some l := ⟨_, List.getElem?_eq_getElem (by rw [← unhide HN]; exact hlt)⟩
        obtain ⟨g, o, rfl, hc⟩ := ((unhide HW).kp0 (unhide HZ).kp) (by rw [← unhide HN]; omega)
        have c1 := hc k l hl
        have HST := hide (lfg_step hl)
        have HCO := hide (scontains l wr)
        clear hc hl
        by_cases hm : (10 : UInt8) ∈ l
        · have e1 : decide ((10 : UInt8) ∈ l) = true := by simp [hm]
          rw [e1] at HCO
          have hfin : lft ls = (15, (k : Int)) := by rw [unhide HI, unhide HST, if_pos hm]
          have HF := hide hfin
          clear hfin e1
          go_wp2_with (first | (go_at_call 22; refine (unhide HCO).mono ?_; rintro e w' ⟨rfl, hw'⟩; subst w') | (refine wpList_store_row rfl 31 _ _ rfl pR #[.int .i64 15, .int .i64 (k : Int)] rfl rfl 31 _ hR Tryz.sizeFa rfl (by simp [Value.oneCell']) ?_))
          have hz3 := zoo_setrow (c' := #[.int .i64 15, .int .i64 (k : Int)]) (l1 := []) (unhide HZ)
          refine bodyPost_ret (v := .agg #[.int .i64 15, .int .i64 (k : Int)]) (results_cell_row Tryz.results14 _ _ pR 31 _ (0, 0) _ rfl (zoo_varm hz3 (List.Mem.head _)) Tryz.underlying31 rfl Tryz.sizeFa) rfl ?_
          exact ckEnd_mk _ _ (unhide HF) hz3.kp
        · have e1 : decide ((10 : UInt8) ∈ l) = false := by simp [hm]
          rw [e1] at HCO
          clear e1
          go_wp2_with (go_at_call 22; refine (unhide HCO).mono ?_; rintro e w' ⟨rfl, hw'⟩; subst w')
          refine ⟨⟨k + 1, by omega, by go_num, ?_, HZ⟩, by simp [intOf]; omega⟩
          exact (unhide HI).trans ((unhide HST).trans (if_neg hm))
      · have i2 : ¬ (k : Int) < (n : Int) := by omega
        have hfin : lft ls = (0, 0) := by
          rw [unhide HI, List.drop_of_length_le (by rw [← unhide HN]; omega)]; rfl
        have HF := hide hfin
        clear hfin
        go_wp2_with (refine wpList_store_row rfl 31 _ _ rfl pR #[.int .i64 0, .int .i64 0] rfl rfl 31 _ hR Tryz.sizeFa rfl (by simp [Value.oneCell']) ?_)
        have hz3 := zoo_setrow (c' := #[.int .i64 0, .int .i64 0]) (l1 := []) (unhide HZ)
        refine bodyPost_ret (v := .agg #[.int .i64 0, .int .i64 0]) (results_cell_row Tryz.results14 _ _ pR 31 _ (0, 0) _ rfl (zoo_varm hz3 (List.Mem.head _)) Tryz.underlying31 rfl Tryz.sizeFa) rfl ?_
        exact ckEnd_mk _ _ (unhide HF) hz3.kp
end
/- The desk's New and Do, by their contracts. -/
section
open Go.RowKit
attribute [local go_sem ↓] Go.wp_at_zero Go.wp_at_succ

theorem results_tmp_cell {fn : Func} {p u : Tmp} {ty : TypeId} (h : fn.results = #[.tmp u, .cell p ty]) (tmps : Array Value) (P : Program) (w : World) :
    (results fn tmps).run P w = ((asAddr (tmps.getD p undef)).run P w).andThen fun a w1 => ((loadVar ty a).run P w1).andThen fun v w2 => .ok (.tuple #[tmps.getD u undef, v]) w2 := by
  simp only [results, h]
  simp [Sem.run_bind, Result.andThen]
theorem faload {w : World} {p : Nat} {c : Array Value} (hs : c.size = 2) (h : w.heap[p]? = some (.cells c 31 (0, 0))) : (loadVar 31 ⟨p, 0, none⟩).run Tryz.prog w = .ok (.agg c) w :=
  run_loadVar_row w p 31 31 c (0, 0) _ h Tryz.underlying31 rfl (by rw [hs]; exact Tryz.sizeFa)
def h00 : HSt := ⟨fun _ => [dv], 0, [], fun _ => none⟩
section
variable {w0 w : World} {r : List Thing} {d hb : Nat} {h : HSt}
set_option maxHeartbeats 1000000 in
theorem dnew (hz : Zoo w0 w r) : Calls Tryz.prog 7 #[] w fun e w' => ∃ d hb, e = .returned (.pointer (some ⟨d, 0, none⟩)) ∧ Hid (Zoo w0 w' (HalT hb h00 :: DskT d hb [] :: r)) := by
  have HZ := hide hz
  clear hz
  go_enter Tryz.func7, Tryz.ntmps7
  go_wp2_with (go_at_call 12; refine (h_new w).mono ?_; rintro e w1 ⟨hb, rfl, F, hh, hk⟩; have HZ1 : Hid (Zoo w0 w1 (HalT hb h00 :: r)) := (unhide HZ).cons hh hk; clear hh hk)
  go_ret
  refine ⟨w1.heap.size, hb, rfl, zoo_in ((unhide HZ1).cons (F := [w1.heap.size]) ⟨.pointer none, none, 0, .inl rfl, heap_alloc_new w1 _, ownU_nil _ _, rfl, Nat.le_refl _, by simp [ob_none], fun _ => rfl⟩ ((Kp.refl [] w1).alloc _))⟩
/-- What a Do leaves, and tells. -/
def dox (h : HSt) (ls : List (List UInt8)) : HSt × List UInt8 := if (lft ls).1 ≠ 0 then (h, []) else drun h ls
def DoEnd (ls : List (List UInt8)) (h : HSt) (d hb : Nat) (w0 : World) (r : List Thing) (e : Ending) (w' : World) : Prop := e = .returned (.tuple #[.string ⟨(dox h ls).2.toArray⟩, .agg #[.int .i64 (lft ls).1, .int .i64 (lft ls).2]]) ∧ (dox h ls).2.length ≤ 90000 ∧ Zoo w0 w' (HalT hb (dox h ls).1 :: DskT d hb [] :: r)
theorem take_snoc {α : Type} {l : List α} {k : Nat} {x : α} (h : l[k]? = some x) : l.take (k + 1) = l.take k ++ [x] := by rw [List.take_add_one, h]; rfl
set_option maxHeartbeats 4000000 in
theorem ddo (ls : List (List UInt8)) (n : Nat) (hn : n = ls.length) (a : Option Addr) (cap : Nat) (hw : ∀ (W : World) (l1 : List Thing), Zoo w0 W (l1 ++ r) → Wrd W a ls) (hl : ∀ l ∈ ls, l.length ≤ 10000) (hg : Gnd w0) (hz : Zoo w0 w (HalT hb h :: DskT d hb [] :: r)) :
    Calls Tryz.prog 9 #[.pointer (some ⟨d, 0, none⟩), .slice a n cap] w fun e w' => DoEnd ls h d hb w0 r e w' := by
  have HZ0 := hide (hz.box #[.int .i64 0, .int .i64 0] 31)
  have HW := hide hw
  have HG := hide hg
  have HN := hide hn
  have HL := hide hl
  clear hg hw hn hl hz
  go_enter Tryz.func9, Tryz.ntmps9
  go_wp2_with (go_at_call 14; refine (dchk ls n (unhide HN) a cap _ (unhide HW _ [_, _, _] (unhide HZ0))).mono ?_; rintro e w1 ⟨c, p, rfl, hcp, hk1⟩; have HZ1 := hide (((unhide HZ0).kp0 hk1).box #[.int .i64 c, .int .i64 p] 31); have HCP := hide hcp; clear hcp hk1; obtain rfl | hc0 := Classical.em (c = 0))
  · have hp0 : p = 0 := by
      have h1 := unhide HCP
      unfold lft at h1
      by_cases hb : 150 < ls.length
      · rw [if_pos hb] at h1; cases h1
      · rw [if_neg hb] at h1
        have := lfg_val (i := 0) (ls := ls) (by rw [h1])
        rw [this] at h1; cases h1; rfl
    subst hp0
    have hn150 : n ≤ 150 := by
      have h1 := unhide HCP
      rw [unhide HN]
      unfold lft at h1
      by_cases hb : 150 < ls.length
      · rw [if_pos hb] at h1; cases h1
      · omega
    have hdx : dox h ls = drun h ls := by unfold dox; rw [unhide HCP]; simp
    have HDX := hide hdx
    clear hdx HZ0
    generalize w1.alloc (.cells #[.int .i64 0, .int .i64 0] 31) = W2 at *
    generalize w1.heap.size = pF at *
    generalize w.heap.size = pA at *
    have HS : Hid (Zoo w0 W2 (HalT hb h :: DskT d hb [] :: BoxT pF #[.int .i64 0, .int .i64 0] 31 :: BoxT pA #[.int .i64 0, .int .i64 0] 31 :: r)) := zoo_22 (unhide HZ1)
    clear HZ1
    go_loopw [18] (fun t wr => ∃ (k : Nat) (h1 : HSt) (acc : List UInt8), k ≤ n ∧ t = .int .i64 k ∧ acc.length ≤ 600 * k ∧ Hid (drun h (ls.take k) = (h1, acc)) ∧ Hid (Zoo w0 wr (HalT hb h1 :: DskT d hb acc :: BoxT pF #[.int .i64 0, .int .i64 0] 31 :: BoxT pA #[.int .i64 0, .int .i64 0] 31 :: r))) (fun t _ => n - (intOf t).toNat)
    case atStart => exact ⟨0, h, [], Nat.zero_le _, rfl, Nat.zero_le _, rfl, HS⟩
    case round =>
      obtain ⟨k, h1, acc, hk, rfl, hal, HI, HZR⟩ := hrel
      by_cases hlt : k < n
      · have i0 : (0 : Int) ≤ (k : Int) := by omega
        have i1 : (k : Int) < (n : Int) := by omega
        obtain ⟨l, hl⟩ : ∃ l, ls[k]? = some l := ⟨_, List.getElem?_eq_getElem (by rw [← unhide HN]; exact hlt)⟩
        obtain ⟨g, o, rfl, hc⟩ := (unhide HW wr [_, _, _, _] (unhide HZR)) (by rw [← unhide HN]; omega)
        have c1 := hc k l hl
        have hdl := dln_len (hal_hinv (unhide HZR)) l
        have hrun : drun h (ls.take (k + 1)) = ((dln h1 l).1, acc ++ (dln h1 l).2) := by rw [take_snoc hl, drun_snoc, unhide HI]
        have HD := hide (doline l (unhide HL l (List.mem_of_getElem? hl)) (unhide HG) (unhide HZR) (by omega))
        have HR := hide hrun
        clear hrun hc hl
        go_wp2_with (go_at_call 15; refine (unhide HD).mono ?_; rintro e w5 ⟨rfl, HZ5⟩)
        refine ⟨⟨k + 1, (dln h1 l).1, acc ++ (dln h1 l).2, by omega, by go_num, by rw [List.length_append]; omega, HR, HZ5⟩, by simp [intOf]; omega⟩
      · have i1 : ¬ (k : Int) < (n : Int) := by omega
        have hI := unhide HI
        rw [List.take_of_length_le (by rw [← unhide HN]; omega)] at hI
        have hfin : dox h ls = (h1, acc) := (unhide HDX).trans hI
        have HF := hide hfin
        clear hI hfin HI HDX
        have HS1 := hide (z_string (l1 := [_]) (unhide HZR))
        go_wp2_with (first | (go_at_call 16; refine (unhide HS1).mono ?_; rintro e w5 ⟨rfl, HZ5⟩; have HR1 := hide (z_reset (l1 := [_]) (unhide HZ5))) | (go_at_call 17; refine (unhide HR1).mono ?_; rintro e w6 ⟨rfl, HZ6⟩) | (refine wpList_store_row rfl 31 _ _ rfl pA #[.int .i64 0, .int .i64 0] rfl rfl 31 _ (zoo_varm (unhide HZ6) (List.Mem.tail _ (List.Mem.tail _ (List.Mem.tail _ (List.Mem.head _))))) Tryz.sizeFa rfl (by simp [Value.oneCell']) ?_))
        have hz3 := zoo_setrow (c' := #[.int .i64 0, .int .i64 0]) (l1 := [_, _, _]) (unhide HZ6)
        have hld := faload rfl (zoo_varm hz3 (List.Mem.tail _ (List.Mem.tail _ (List.Mem.tail _ (List.Mem.head _)))))
        refine bodyPost_ret (v := .tuple #[.string ⟨acc.toArray⟩, .agg #[.int .i64 0, .int .i64 0]]) ?_ rfl ?_
        · rw [results_tmp_cell Tryz.results9]; simp [asAddr, Result.andThen, Act.put, hld]
        · unfold DoEnd
          rw [unhide HF, unhide HCP]
          exact ⟨rfl, by show acc.length ≤ 90000; omega, Zoo.drop_ (l1 := [_, _]) (Zoo.drop_ (l1 := [_, _]) hz3)⟩
  · have hdx : dox h ls = (h, []) := by unfold dox; rw [unhide HCP]; simp [hc0]
    have HDX := hide hdx
    clear hdx HZ0
    have hcb : (c != 0) = true := by simpa using hc0
    go_wp2_with fail
    generalize w1.alloc (.cells #[.int .i64 c, .int .i64 p] 31) = W2 at *
    generalize w1.heap.size = pF at *
    generalize w.heap.size = pA at *
    refine wp_region_held_drew (S := fun w' => w'.cell? ⟨pF, 0, none⟩ = some (.int .i64 c) ∧ w'.cell? ⟨pF, 1, none⟩ = some (.int .i64 p)) (by kernel_rfl) (And.intro (cell_of_block (zoo_varm ((unhide HZ1).kp0 (Kp.refl [] W2).drew) (List.Mem.head _)) rfl) (cell_of_block (zoo_varm ((unhide HZ1).kp0 (Kp.refl [] W2).drew) (List.Mem.head _)) rfl)) (fun hHeld => ?_)
    have HA0 := hide ((unhide HZ1).kp0 (Kp.refl [] W2).drew)
    generalize World.drew _ = WD at HA0 hHeld ⊢
    refine wpAnyH_tk (i := 0) (v := ?_) rfl (by kernel_rfl) (by kernel_rfl) (by kernel_rfl) (fun _ _ _ h => h) (Or.inl ⟨by rfl, ?_⟩) hHeld ?_
    rotate_left
    · intro w hSw
      try dsimp only at hSw
      go_simp
      try with_reducible rfl
    try simp only [Act.put, List.setIfInBounds_toArray, List.set_cons_zero, List.set_cons_succ]
    refine wpAnyH_tk (i := 1) (v := ?_) rfl (by kernel_rfl) (by kernel_rfl) (by kernel_rfl) (fun _ _ _ h => h) (Or.inl ⟨by rfl, ?_⟩) hHeld ?_
    rotate_left
    · intro w hSw
      try dsimp only at hSw
      go_simp
      try with_reducible rfl
    try simp only [Act.put, List.setIfInBounds_toArray, List.set_cons_zero, List.set_cons_succ]
    refine wpAnyH_only (i := 2) rfl (by kernel_rfl) (fun K hK => ?_)
    rw [if_pos (by rfl)]
    refine wp_store_row 31 _ _ rfl pA #[.int .i64 c, .int .i64 p] rfl rfl 31 _ (zoo_varm (unhide HA0) (List.Mem.tail _ (List.Mem.head _))) Tryz.sizeFa rfl (by simp [Value.oneCell']) ?_
    have HB := hide (zoo_setrow (c' := #[.int .i64 c, .int .i64 p]) (l1 := [_]) (unhide HA0))
    refine hK.out _ _ ((And.intro (cell_of_block (zoo_varm (unhide HB) (List.Mem.head _)) rfl) (cell_of_block (zoo_varm (unhide HB) (List.Mem.head _)) rfl))) (fun hHeld2 => ?_)
    clear hK K hHeld
    have hHeld := hHeld2
    clear hHeld2
    try simp only [Act.put, List.setIfInBounds_toArray, List.set_cons_zero, List.set_cons_succ]
    refine wpAnyH_done (by kernel_rfl) ?_ _
    clear hHeld
    go_wp2_with fail
    have hld := faload rfl (zoo_varm (unhide HB) (List.Mem.tail _ (List.Mem.head _)))
    refine bodyPost_ret (v := .tuple #[.string ⟨#[]⟩, .agg #[.int .i64 c, .int .i64 p]]) ?_ rfl ?_
    · rw [results_tmp_cell Tryz.results9]; simp [asAddr, Result.andThen, Act.put, hld]
    · unfold DoEnd
      rw [unhide HDX, unhide HCP]
      exact ⟨rfl, Nat.zero_le _, Zoo.tail (Zoo.tail (unhide HB))⟩
end
end
/- The laws' slow and deskBegun, by their contracts. -/
section
open Go.RowKit
attribute [local go_sem ↓] Go.wp_at_zero Go.wp_at_succ

theorem lsum_snoc (l : List (List UInt8)) (x : List UInt8) : lsum (l ++ [x]) = lsum l + x.length := by
  induction l with
  | nil => simp [lsum]
  | cons a r ih => simp only [List.cons_append, lsum, ih]; omega
theorem lsum_mem {l : List (List UInt8)} {x : List UInt8} (h : x ∈ l) : x.length ≤ lsum l := by
  induction l with
  | nil => cases h
  | cons a r ih =>
    simp only [lsum]
    rcases List.mem_cons.1 h with e | e
    · rw [e]; omega
    · have := ih e; omega
def SlEnd (ls : List (List UInt8)) (w : World) (e : Ending) (w' : World) : Prop := ∃ b : Bool, e = .returned (.bool b) ∧ (b = false → lsum ls ≤ 9000) ∧ w' = w
theorem slEnd_mk {ls : List (List UInt8)} {w : World} (b : Bool) (h : b = false → lsum ls ≤ 9000) : SlEnd ls w (.returned (.bool b)) w := ⟨b, rfl, h, rfl⟩
set_option maxHeartbeats 1000000 in
theorem dslow (ls : List (List UInt8)) (n : Nat) (hn : n = ls.length) (a : Option Addr) (cap : Nat) (w : World) (hw : Wrd w a ls) (hnm : n ≤ 9223372036854775807) (hl : ∀ l ∈ ls, l.length ≤ 140737488355327) :
    Calls Tryz.prog 6 #[.slice a n cap] w fun e w' => SlEnd ls w e w' := by
  have HW := hide hw
  have HN := hide hn
  have HL := hide hl
  clear hw hn hl
  go_enter Tryz.func6, Tryz.ntmps6
  go_wp2_with fail
  go_loop [3, 4] (fun s t => ∃ (k m : Nat), k ≤ n ∧ m ≤ 9000 ∧ s = .int .i64 m ∧ t = .int .i64 k ∧ Hid (m = lsum (ls.take k))) (fun _ t => n - (intOf t).toNat)
  case atStart => exact ⟨0, 0, Nat.zero_le _, by omega, rfl, rfl, rfl⟩
  case round =>
    obtain ⟨k, m, hk, hm, rfl, rfl, HI⟩ := hrel
    by_cases hlt : k < n
    · have i0 : (0 : Int) ≤ (k : Int) := by omega
      have i1 : (k : Int) < (n : Int) := by omega
      obtain ⟨l, hl⟩ : ∃ l, ls[k]? = some l := ⟨_, List.getElem?_eq_getElem (by rw [← unhide HN]; exact hlt)⟩
      obtain ⟨g, o, rfl, hc⟩ := (unhide HW) (by rw [← unhide HN]; omega)
      have c1 := hc k l hl
      have hll := unhide HL l (List.mem_of_getElem? hl)
      have hsz : (ByteArray.mk l.toArray).size = l.length := size8 l
      have hsum : m + l.length = lsum (ls.take (k + 1)) := by rw [take_snoc hl, lsum_snoc, ← unhide HI]
      have HS := hide hsum
      clear hsum hc hl
      by_cases hbig : 9000 < m + l.length
      · have i2 : (9000 : Int) < (m : Int) + (l.length : Int) := by omega
        go_wp2_with fail
        go_ret
        exact slEnd_mk true (fun h => by cases h)
      · have i2 : ¬ (9000 : Int) < (m : Int) + (l.length : Int) := by omega
        go_wp2_with fail
        exact ⟨⟨k + 1, m + l.length, by omega, by omega, by go_num, by go_num, HS⟩, by simp [intOf]; omega⟩
    · have i1 : ¬ (k : Int) < (n : Int) := by omega
      have hI := unhide HI
      rw [List.take_of_length_le (by rw [← unhide HN]; omega)] at hI
      go_wp2_with fail
      go_ret
      exact slEnd_mk false (fun _ => by omega)
def bgl : List (List UInt8) := [[115, 104, 111, 116, 32, 48], [112, 117, 116, 32, 48, 32, 49, 32, 61, 97, 92, 50, 48, 98], [103, 101, 116, 32, 48, 32, 49], [99, 111, 109, 109, 105, 116, 32, 48], [108, 111, 111, 107, 32, 49, 32, 48], [103, 101, 116, 32, 49, 32, 49], [108, 105, 115, 116, 32, 49, 32, 48, 32, 55], [115, 117, 114, 101, 32, 50], [108, 105, 115, 116, 32, 50, 32, 48, 32, 55], [108, 97, 115, 116], [120]]
def bgt : List UInt8 := [111, 107, 10, 111, 107, 10, 104, 97, 115, 32, 61, 97, 92, 50, 48, 98, 10, 111, 107, 32, 49, 10, 111, 107, 10, 104, 97, 115, 32, 45, 10, 97, 108, 108, 10, 111, 107, 10, 97, 108, 108, 32, 49, 61, 97, 92, 50, 48, 98, 10, 108, 97, 115, 116, 32, 49, 32, 48, 32, 48, 10, 119, 104, 97, 116, 10]
theorem bg_ok : lft bgl = (0, 0) := by kernel_rfl
theorem bg_told : (dox h00 bgl).2 = bgt := by kernel_rfl
theorem bg_len : ∀ l ∈ bgl, l.length ≤ 10000 := by decide
theorem kw_wrd {w0 : World} {l2 r : List Thing} {a : Option Addr} {n cap : Nat} {ws : List (List UInt8)} : ∀ (W : World) (l1 : List Thing), Zoo w0 W (l1 ++ (l2 ++ KwT 9 1 a n cap (strs ws) :: r)) → Wrd W a ws := fun W l1 hz => krow_wrd (kw_row (l1 := l1 ++ l2) (by rw [List.append_assoc]; exact hz))
set_option maxHeartbeats 2000000 in
theorem dbegun (w : World) (hg : Gnd w) : Calls Tryz.prog 5 #[] w fun e w' => e = .returned (.bool true) ∧ Kp [] w w' := by
  have HN := hide (dnew (zoo_nil (Kp.refl [] w)))
  have HG := hide hg
  clear hg
  go_enter Tryz.func5, Tryz.ntmps5
  go_wp2_with (first | (go_at_call 7; refine (unhide HN).mono ?_; rintro e w1 ⟨d, hb, rfl, HZ1⟩; have HZ2 := hide (zoo_b (kw_lit (unhide HZ1) bgl 11 rfl #[.string ⟨#[115, 104, 111, 116, 32, 48]⟩, .string ⟨#[112, 117, 116, 32, 48, 32, 49, 32, 61, 97, 92, 50, 48, 98]⟩, .string ⟨#[103, 101, 116, 32, 48, 32, 49]⟩, .string ⟨#[99, 111, 109, 109, 105, 116, 32, 48]⟩, .string ⟨#[108, 111, 111, 107, 32, 49, 32, 48]⟩, .string ⟨#[103, 101, 116, 32, 49, 32, 49]⟩, .string ⟨#[108, 105, 115, 116, 32, 49, 32, 48, 32, 55]⟩, .string ⟨#[115, 117, 114, 101, 32, 50]⟩, .string ⟨#[108, 105, 115, 116, 32, 50, 32, 48, 32, 55]⟩, .string ⟨#[108, 97, 115, 116]⟩, .string ⟨#[120]⟩] rfl (by omega)))) | (go_at_call 9; refine (ddo bgl 11 rfl _ _ (kw_wrd (l2 := [])) bg_len (unhide HG) (unhide HZ2)).mono ?_; rintro e w3 ⟨rfl, _, hz3⟩; rw [bg_ok, bg_told]; have HZ3 := hide hz3.kp; clear hz3))
  go_ret
  refine ⟨rfl, (unhide HZ3).alloc _⟩
end
end Go.Proofs.YtldkeaeohceckadGreatDoor
