/- H0, H1, Ha, Hb, Hc, H2, H3, Hd, Hi, Hi2, Hi3, Hi4, Hj, Hj2: bound together for a claim. -/
import Derived.Test.YtehhpmfeaeabgacM5
/- Plain words for halls: what a step tells, and what it leaves; no statement of the program yet. -/
namespace Go.Proofs.Ytehhpmfeaeabgac
open Go.RowKit
set_option maxRecDepth 20000

/-- A seat's deed. -/
structure Dp where
  md : Int
  y : Int
  rs : List Int
  ws : List Ver
/-- A hall: the versions of all keys, how many commits, the commits, the seats' deeds. -/
structure HSt where
  f : Nat → List Ver
  n : Nat
  cs : List (List Ver)
  seat : Nat → Option Dp
structure HStep where
  d : Int
  s : Int
  md : Int
  at_ : Int
  key : Int
  to_ : Int
  keep : Int
  b : ByteArray
structure Ev where
  c : Int
  n : Int
  t : Bool
  s : ByteArray
  l : List Ver
def ev0 : Ev := ⟨0, 0, false, ⟨#[]⟩, []⟩
def evc (c : Int) : Ev := ⟨c, 0, false, ⟨#[]⟩, []⟩
def evn (c n : Int) : Ev := ⟨c, n, false, ⟨#[]⟩, []⟩

/-- The lowest commit behind which one of the first m seats' deeds began. -/
def least (n : Nat) (seat : Nat → Option Dp) : Nat → Int
  | 0 => n
  | m + 1 => match seat m with
    | some d => if d.y < least n seat m then d.y else least n seat m
    | none => least n seat m
theorem least_le (n : Nat) (seat : Nat → Option Dp) : ∀ m, least n seat m ≤ n ∧ ∀ s d, s < m → seat s = some d → least n seat m ≤ d.y := by
  intro m
  induction m with
  | zero => exact ⟨Int.le_refl _, fun s d h => by omega⟩
  | succ m ih =>
    obtain ⟨h1, h2⟩ := ih
    simp only [least]
    cases hs : seat m with
    | none =>
      refine ⟨h1, fun s d h e => ?_⟩
      by_cases q : s = m
      · subst q; rw [hs] at e; cases e
      · exact h2 s d (by omega) e
    | some x =>
      dsimp only
      refine ⟨by split <;> omega, fun s d h e => ?_⟩
      by_cases q : s = m
      · subst q
        rw [hs] at e
        cases e
        split <;> omega
      · have := h2 s d (by omega) e
        split <;> omega
theorem least_ge {n : Nat} {seat : Nat → Option Dp} {z : Int} (hz : z ≤ n) (h : ∀ s d, seat s = some d → z ≤ d.y) : ∀ m, z ≤ least n seat m := by
  intro m
  induction m with
  | zero => exact hz
  | succ m ih =>
    simp only [least]
    cases hs : seat m with
    | none => exact ih
    | some x =>
      dsimp only
      have := h m x hs
      split <;> omega

/-- What is so of a hall. -/
structure HInv (h : HSt) : Prop where
  inv : Inv h.f h.n
  li : LInv h.cs
  vi : VI h.f h.n h.cs
  ok : ∀ s d, h.seat s = some d → WOk d.ws
  known : ∀ s d, h.seat s = some d → fmx h.f 8 ≤ d.y ∧ d.y ≤ h.n
  five : ∀ s, 5 ≤ s → h.seat s = none

/-- The seat's deed, where there is such a seat. -/
def at5 (h : HSt) (s : Int) : Option Dp := if 0 ≤ s ∧ s < 5 then h.seat s.toNat else none
def sit (h : HSt) (s : Int) (d : Option Dp) : HSt := { h with seat := upd h.seat s.toNat d }

/-- What a step leaves. -/
def hdo (h : HSt) (x : HStep) : HSt :=
  if x.d < 1 ∨ 10 < x.d then h
  else if x.d = 8 then { h with f := clm h.f (least h.n h.seat 5) 8 }
  else if x.d = 9 then ⟨wal0 h.cs, h.cs.length, h.cs, fun _ => none⟩
  else if ¬ (0 ≤ x.s ∧ x.s < 5) then h
  else match h.seat x.s.toNat with
    | none => if x.d = 1 ∧ bcode h.f h.n x.md x.at_ = 0 then sit h x.s (some ⟨x.md, bat h.n x.md x.at_, [], []⟩) else h
    | some d =>
      if x.d = 1 then h
      else if x.d = 2 then sit h x.s (some { d with rs := dr h.f h.n d.y d.rs d.ws x.key })
      else if x.d = 3 then sit h x.s (some { d with ws := dpw d.md d.ws x.key true x.b })
      else if x.d = 4 then sit h x.s (some { d with ws := dpw d.md d.ws x.key false ⟨#[]⟩ })
      else if x.d = 5 then sit h x.s (some { d with rs := (dls h.f h.n d.y d.ws d.rs x.key x.to_).2.2 })
      else if x.d = 6 then ⟨vf h.f h.n h.cs d.md d.y d.rs d.ws, vn h.f h.n h.cs d.md d.y d.rs d.ws, vcs h.f h.cs d.md d.y d.rs d.ws, upd h.seat x.s.toNat none⟩
      else if x.d = 10 then ⟨wal0 (tcs h.f h.cs d.md d.y d.rs d.ws x.keep), (tcs h.f h.cs d.md d.y d.rs d.ws x.keep).length, tcs h.f h.cs d.md d.y d.rs d.ws x.keep, fun _ => none⟩
      else sit h x.s none
/-- What a step tells. -/
def hev (h : HSt) (x : HStep) : Ev :=
  if x.d < 1 ∨ 10 < x.d then evc 3
  else if x.d = 8 then evn 0 (cln h.f (least h.n h.seat 5) 8 : Nat)
  else if x.d = 9 then ev0
  else if ¬ (0 ≤ x.s ∧ x.s < 5) then evc 1
  else match h.seat x.s.toNat with
    | none => if x.d = 1 then evc (bcode h.f h.n x.md x.at_) else evc 7
    | some d =>
      if x.d = 1 then evc 8
      else if x.d = 2 then ⟨(dg h.f h.n d.y d.ws x.key).a, 0, (dg h.f h.n d.y d.ws x.key).t, (dg h.f h.n d.y d.ws x.key).s, []⟩
      else if x.d = 3 then evc (dpc d.md x.key true x.b)
      else if x.d = 4 then evc (dpc d.md x.key false ⟨#[]⟩)
      else if x.d = 5 then ⟨(dls h.f h.n d.y d.ws d.rs x.key x.to_).2.1, 0, false, ⟨#[]⟩, (dls h.f h.n d.y d.ws d.rs x.key x.to_).1⟩
      else if x.d = 6 then evn (vcode h.f h.cs d.md d.y d.rs d.ws) (vnum h.f h.n h.cs d.md d.y d.rs d.ws)
      else if x.d = 10 then evn (vcode h.f h.cs d.md d.y d.rs d.ws) (tnum h.f h.cs d.md d.y d.rs d.ws x.keep)
      else ev0

theorem fmx_bound {g : Nat → List Ver} {y : Int} (h0 : 0 ≤ y) : ∀ m, (∀ k, k < m → va (g k) 0 ≤ y) → fmx g m ≤ y := by
  intro m
  induction m with
  | zero => intro _; exact h0
  | succ m ih =>
    intro h
    have h1 := ih (fun k hk => h k (by omega))
    have h2 := h m (by omega)
    simp only [fmx]
    split <;> omega
theorem fmx_clm {f : Nat → List Ver} {n : Nat} {l y : Int} (hi : Inv f n) (hl : l ≤ y) (hy : fmx f 8 ≤ y) : fmx (clm f l 8) 8 ≤ y := by
  have h0 := (fmx_le hi 8 (Nat.le_refl _)).1
  refine fmx_bound (by omega) 8 (fun k hk => ?_)
  have hc := cntf_is l (hi.rise k hk)
  have hg := fmx_ge f 8 k hk
  unfold clm
  rw [if_pos hk]
  have e : va ((f k).drop (cd (f k) l)) 0 = va (f k) (cd (f k) l) := by simp [va]
  rw [e]
  unfold cd
  rcases Nat.eq_zero_or_pos (cntf (f k) l) with q | q
  · rw [q]; show va (f k) 0 ≤ y; omega
  · have := hc.lo (cntf (f k) l - 1) (by omega); omega
theorem wrs_lo1 {k : Nat} : ∀ (ps : List Ver) (f : Nat → List Ver) (x : Int), 0 < (f k).length → 0 < (wrs f x ps k).length ∧ va (wrs f x ps k) 0 = va (f k) 0 := by
  intro ps
  induction ps with
  | nil => intro f x h; exact ⟨h, rfl⟩
  | cons p r ih =>
    intro f x h
    have hl : 0 < (wr1 f x p k).length ∧ va (wr1 f x p k) 0 = va (f k) 0 := by
      unfold wr1
      by_cases e : k = p.a.toNat
      · subst e
        rw [upd_same]
        exact ⟨by have := (pvers_length (f p.a.toNat) x p.t p.s).1; omega, pvers_lo h⟩
      · rw [upd_other _ _ _ e]
        exact ⟨h, rfl⟩
    simp only [wrs]
    obtain ⟨h1, h2⟩ := ih (wr1 f x p) x hl.1
    exact ⟨h1, h2.trans hl.2⟩
theorem fmx_wst {f : Nat → List Ver} {n : Nat} {y : Int} (hi : Inv f n) (ps : List Ver) (hy : fmx f 8 ≤ y) : fmx (wst f n ps) 8 ≤ y := by
  have h0 := (fmx_le hi 8 (Nat.le_refl _)).1
  refine fmx_bound (by omega) 8 (fun k hk => ?_)
  have hg := fmx_ge f 8 k hk
  unfold wst
  split
  · rw [(wrs_lo1 ps f _ (hi.pos k hk)).2]; omega
  · omega
theorem fmx_vf {f : Nat → List Ver} {n : Nat} {cs : List (List Ver)} {md y' y : Int} {rs : List Int} {ws : List Ver} (hi : Inv f n) (hy : fmx f 8 ≤ y) : fmx (vf f n cs md y' rs ws) 8 ≤ y := by
  unfold vf
  split
  · exact fmx_wst hi _ hy
  · exact hy
theorem vn_ge (f : Nat → List Ver) (n : Nat) (cs : List (List Ver)) (md y : Int) (rs : List Int) (ws : List Ver) : n ≤ vn f n cs md y rs ws := by
  unfold vn
  split <;> omega
theorem inv_vf {f : Nat → List Ver} {n : Nat} {cs : List (List Ver)} {md y : Int} {rs : List Int} {ws : List Ver} (hi : Inv f n) (hv : VI f n cs) : Inv (vf f n cs md y rs ws) (vn f n cs md y rs ws) := by
  unfold vf vn
  split
  · rename_i h
    have hl : lcode cs (wk ws 8) = 0 := by unfold vdone at h; simp at h; exact h.2.2
    have h1 := hi.write (wk ws 8)
    rw [(hv.room hl).2.1] at h1
    exact h1
  · exact hi
theorem linv_vcs {f : Nat → List Ver} {cs : List (List Ver)} {md y : Int} {rs : List Int} {ws : List Ver} (h : LInv cs) : LInv (vcs f cs md y rs ws) := by
  unfold vcs
  split
  · rename_i q
    have hl : lcode cs (wk ws 8) = 0 := by unfold vdone at q; simp at q; exact q.2.2
    exact h.snoc hl
  · exact h
theorem upd_at {α : Type} (g : Nat → α) (k : Nat) (v : α) (s : Nat) : upd g k v s = if s = k then v else g s := by
  unfold upd
  rfl
/-- A seat's deed is another one, or none. -/
theorem HInv.sit {h : HSt} (hi : HInv h) {s : Int} (hs : 0 ≤ s ∧ s < 5) {d : Option Dp} (hd : ∀ e, d = some e → WOk e.ws ∧ fmx h.f 8 ≤ e.y ∧ e.y ≤ h.n) : HInv (Ytehhpmfeaeabgac.sit h s d) := by
  refine ⟨hi.inv, hi.li, hi.vi, fun k e he => ?_, fun k e he => ?_, fun k hk => ?_⟩
  · simp only [Ytehhpmfeaeabgac.sit, upd_at] at he
    split at he
    · exact (hd e he).1
    · exact hi.ok k e he
  · simp only [Ytehhpmfeaeabgac.sit, upd_at] at he
    split at he
    · exact (hd e he).2
    · exact hi.known k e he
  · simp only [Ytehhpmfeaeabgac.sit, upd_at]
    rw [if_neg (by omega)]
    exact hi.five k hk
theorem bat_known {f : Nat → List Ver} {n : Nat} {md at_ : Int} (hi : Inv f n) (hb : bcode f n md at_ = 0) : fmx f 8 ≤ bat n md at_ ∧ bat n md at_ ≤ n := by
  have hf := fmx_le hi 8 (Nat.le_refl _)
  unfold bcode at hb
  unfold bat
  split at hb
  · split at hb
    · rename_i q
      rw [if_pos q]
      split at hb
      · simp at hb
      · split at hb
        · simp at hb
        · omega
    · rename_i q
      rw [if_neg q]
      exact ⟨hf.2, Int.le_refl _⟩
  · simp at hb
/-- What is so of a hall stays so. -/
theorem HInv.clear {h : HSt} (hi : HInv h) : HInv { h with f := clm h.f (least h.n h.seat 5) 8 } := by
  obtain ⟨l1, l2⟩ := least_le h.n h.seat 5
  refine ⟨hi.inv.clm _ 8 (Nat.le_refl _), hi.li, hi.vi.clear hi.inv _, hi.ok, fun s d hs => ?_, hi.five⟩
  obtain ⟨k1, k2⟩ := hi.known s d hs
  refine ⟨fmx_clm hi.inv (l2 s d ?_ hs) k1, k2⟩
  rcases Nat.lt_or_ge s 5 with q | q
  · exact q
  · rw [hi.five s q] at hs; cases hs
theorem HInv.crash {cs : List (List Ver)} (hl : LInv cs) : HInv ⟨wal0 cs, cs.length, cs, fun _ => none⟩ := ⟨inv_wal0 hl, hl, VI.crash hl, fun _ _ h => (by cases h), fun _ _ h => (by cases h), fun _ _ => rfl⟩
theorem HInv.commit {h : HSt} (hi : HInv h) (d : Dp) {k : Nat} (hk : k < 5) : HInv ⟨vf h.f h.n h.cs d.md d.y d.rs d.ws, vn h.f h.n h.cs d.md d.y d.rs d.ws, vcs h.f h.cs d.md d.y d.rs d.ws, upd h.seat k none⟩ := by
  refine ⟨inv_vf hi.inv hi.vi, linv_vcs hi.li, hi.vi.done, fun s e he => ?_, fun s e he => ?_, fun s hs => ?_⟩
  · simp only [upd_at] at he
    split at he
    · cases he
    · exact hi.ok s e he
  · simp only [upd_at] at he
    split at he
    · cases he
    · obtain ⟨k1, k2⟩ := hi.known s e he
      have := vn_ge h.f h.n h.cs d.md d.y d.rs d.ws
      exact ⟨fmx_vf hi.inv k1, by show e.y ≤ ((vn h.f h.n h.cs d.md d.y d.rs d.ws : Nat) : Int); omega⟩
  · simp only [upd_at]
    rw [if_neg (by omega)]
    exact hi.five s hs
theorem HInv.step {h : HSt} (hi : HInv h) (x : HStep) : HInv (hdo h x) := by
  unfold hdo
  by_cases c0 : x.d < 1 ∨ 10 < x.d
  · rw [if_pos c0]; exact hi
  rw [if_neg c0]
  by_cases c8 : x.d = 8
  · rw [if_pos c8]; exact hi.clear
  rw [if_neg c8]
  by_cases c9 : x.d = 9
  · rw [if_pos c9]; exact HInv.crash hi.li
  rw [if_neg c9]
  by_cases hs : 0 ≤ x.s ∧ x.s < 5
  · rw [if_neg (fun q => q hs)]
    cases hd : h.seat x.s.toNat with
    | none =>
      dsimp only
      by_cases hb : x.d = 1 ∧ bcode h.f h.n x.md x.at_ = 0
      · rw [if_pos hb]
        exact hi.sit hs (fun e he => by cases he; exact ⟨wok_nil, bat_known hi.inv hb.2⟩)
      · rw [if_neg hb]; exact hi
    | some d =>
      dsimp only
      have h1 := hi.ok _ d hd
      have h2 := hi.known _ d hd
      by_cases c1 : x.d = 1
      · rw [if_pos c1]; exact hi
      rw [if_neg c1]
      by_cases c2 : x.d = 2
      · rw [if_pos c2]; exact hi.sit hs (fun e he => by cases he; exact ⟨h1, h2⟩)
      rw [if_neg c2]
      by_cases c3 : x.d = 3
      · rw [if_pos c3]; exact hi.sit hs (fun e he => by cases he; exact ⟨h1.put _ _ _ _, h2⟩)
      rw [if_neg c3]
      by_cases c4 : x.d = 4
      · rw [if_pos c4]; exact hi.sit hs (fun e he => by cases he; exact ⟨h1.put _ _ _ _, h2⟩)
      rw [if_neg c4]
      by_cases c5 : x.d = 5
      · rw [if_pos c5]; exact hi.sit hs (fun e he => by cases he; exact ⟨h1, h2⟩)
      rw [if_neg c5]
      by_cases c6 : x.d = 6
      · rw [if_pos c6]; exact hi.commit d (by omega)
      rw [if_neg c6]
      by_cases c10 : x.d = 10
      · rw [if_pos c10]; exact HInv.crash (LInv.tcs hi.li)
      rw [if_neg c10]
      exact hi.sit hs (fun e he => by cases he)
  · rw [if_pos hs]; exact hi
theorem hinv_new : HInv ⟨fun _ => [dv], 0, [], fun _ => none⟩ := ⟨inv_dv, linv_nil, vi_new, fun _ _ h => (by cases h), fun _ _ h => (by cases h), fun _ _ => rfl⟩
end Go.Proofs.Ytehhpmfeaeabgac

/- Plain words for halls: what a deed sees is of one time; what is refused changes nothing. -/
namespace Go.Proofs.Ytehhpmfeaeabgac
open Go.RowKit
set_option maxRecDepth 20000

theorem shw_clm {f : Nat → List Ver} {n : Nat} {l y : Int} (hi : Inv f n) (hl : l ≤ y) : shw (clm f l 8) n y 8 = shw f n y 8 := shw_congr (Nat.le_refl _) (fun _ hj => tr_clm hi hl hj)
theorem shw_vf {f : Nat → List Ver} {n : Nat} {cs : List (List Ver)} {md y' y : Int} {rs : List Int} {ws : List Ver} (hi : Inv f n) (hv : VI f n cs) (hy : y ≤ n) : shw (vf f n cs md y' rs ws) (vn f n cs md y' rs ws) y 8 = shw f n y 8 := by
  unfold vf vn
  split
  · rename_i h
    have hl : lcode cs (wk ws 8) = 0 := by unfold vdone at h; simp at h; exact h.2.2
    have e := (hv.room hl).2.1
    exact shw_congr (Nat.le_refl _) (fun j hj => by have := tr_later hi (wk ws 8) hy hj; rw [e] at this; exact this)
  · rfl
theorem vdone_code {f : Nat → List Ver} {cs : List (List Ver)} {md y : Int} {rs : List Int} {ws : List Ver} (h : ¬ vcode f cs md y rs ws = 0) : vdone f cs md y rs ws = false := by
  by_cases h1 : dm f md y rs ws = 0
  · by_cases h2 : (wk ws 8).length = 0
    · exact absurd (v_none (cs := cs) h1 h2).1 h
    · by_cases h3 : lcode cs (wk ws 8) = 0
      · exact absurd (v_yes h1 h2 h3).1 h
      · exact (v_full h1 h2 h3).2
  · exact (v_may h1).2

/-- The kinds of a step, one by one. -/
inductive HKind (h : HSt) (x : HStep) : HSt → Ev → Prop
  | kind : (x.d < 1 ∨ 10 < x.d) → HKind h x h (evc 3)
  | clear : x.d = 8 → HKind h x { h with f := clm h.f (least h.n h.seat 5) 8 } (evn 0 (cln h.f (least h.n h.seat 5) 8 : Nat))
  | crash : x.d = 9 → HKind h x ⟨wal0 h.cs, h.cs.length, h.cs, fun _ => none⟩ ev0
  | range : (1 ≤ x.d ∧ x.d ≤ 10 ∧ x.d ≠ 8 ∧ x.d ≠ 9) → ¬ (0 ≤ x.s ∧ x.s < 5) → HKind h x h (evc 1)
  | began : x.d = 1 → (0 ≤ x.s ∧ x.s < 5) → h.seat x.s.toNat = none → bcode h.f h.n x.md x.at_ = 0 → HKind h x (sit h x.s (some ⟨x.md, bat h.n x.md x.at_, [], []⟩)) (evc 0)
  | beganNot : x.d = 1 → (0 ≤ x.s ∧ x.s < 5) → h.seat x.s.toNat = none → ¬ bcode h.f h.n x.md x.at_ = 0 → HKind h x h (evc (bcode h.f h.n x.md x.at_))
  | none_ : (2 ≤ x.d ∧ x.d ≤ 10 ∧ x.d ≠ 8 ∧ x.d ≠ 9) → (0 ≤ x.s ∧ x.s < 5) → h.seat x.s.toNat = none → HKind h x h (evc 7)
  | there (d : Dp) : x.d = 1 → (0 ≤ x.s ∧ x.s < 5) → h.seat x.s.toNat = some d → HKind h x h (evc 8)
  | get (d : Dp) : x.d = 2 → (0 ≤ x.s ∧ x.s < 5) → h.seat x.s.toNat = some d → HKind h x (sit h x.s (some { d with rs := dr h.f h.n d.y d.rs d.ws x.key })) ⟨(dg h.f h.n d.y d.ws x.key).a, 0, (dg h.f h.n d.y d.ws x.key).t, (dg h.f h.n d.y d.ws x.key).s, []⟩
  | put (d : Dp) : x.d = 3 → (0 ≤ x.s ∧ x.s < 5) → h.seat x.s.toNat = some d → HKind h x (sit h x.s (some { d with ws := dpw d.md d.ws x.key true x.b })) (evc (dpc d.md x.key true x.b))
  | drop (d : Dp) : x.d = 4 → (0 ≤ x.s ∧ x.s < 5) → h.seat x.s.toNat = some d → HKind h x (sit h x.s (some { d with ws := dpw d.md d.ws x.key false ⟨#[]⟩ })) (evc (dpc d.md x.key false ⟨#[]⟩))
  | list (d : Dp) : x.d = 5 → (0 ≤ x.s ∧ x.s < 5) → h.seat x.s.toNat = some d → HKind h x (sit h x.s (some { d with rs := (dls h.f h.n d.y d.ws d.rs x.key x.to_).2.2 })) ⟨(dls h.f h.n d.y d.ws d.rs x.key x.to_).2.1, 0, false, ⟨#[]⟩, (dls h.f h.n d.y d.ws d.rs x.key x.to_).1⟩
  | commit (d : Dp) : x.d = 6 → (0 ≤ x.s ∧ x.s < 5) → h.seat x.s.toNat = some d → HKind h x ⟨vf h.f h.n h.cs d.md d.y d.rs d.ws, vn h.f h.n h.cs d.md d.y d.rs d.ws, vcs h.f h.cs d.md d.y d.rs d.ws, upd h.seat x.s.toNat none⟩ (evn (vcode h.f h.cs d.md d.y d.rs d.ws) (vnum h.f h.n h.cs d.md d.y d.rs d.ws))
  | tear (d : Dp) : x.d = 10 → (0 ≤ x.s ∧ x.s < 5) → h.seat x.s.toNat = some d → HKind h x ⟨wal0 (tcs h.f h.cs d.md d.y d.rs d.ws x.keep), (tcs h.f h.cs d.md d.y d.rs d.ws x.keep).length, tcs h.f h.cs d.md d.y d.rs d.ws x.keep, fun _ => none⟩ (evn (vcode h.f h.cs d.md d.y d.rs d.ws) (tnum h.f h.cs d.md d.y d.rs d.ws x.keep))
  | abort (d : Dp) : x.d = 7 → (0 ≤ x.s ∧ x.s < 5) → h.seat x.s.toNat = some d → HKind h x (sit h x.s none) ev0
theorem hkind (h : HSt) (x : HStep) : HKind h x (hdo h x) (hev h x) := by
  unfold hdo hev
  by_cases c0 : x.d < 1 ∨ 10 < x.d
  · rw [if_pos c0, if_pos c0]; exact .kind c0
  rw [if_neg c0, if_neg c0]
  by_cases c8 : x.d = 8
  · rw [if_pos c8, if_pos c8]; exact .clear c8
  rw [if_neg c8, if_neg c8]
  by_cases c9 : x.d = 9
  · rw [if_pos c9, if_pos c9]; exact .crash c9
  rw [if_neg c9, if_neg c9]
  by_cases hs : 0 ≤ x.s ∧ x.s < 5
  · have hns : ¬ ¬ (0 ≤ x.s ∧ x.s < 5) := fun q => q hs
    rw [if_neg hns, if_neg hns]
    cases hd : h.seat x.s.toNat with
    | none =>
      dsimp only
      by_cases c1 : x.d = 1
      · rw [if_pos c1]
        by_cases hb : bcode h.f h.n x.md x.at_ = 0
        · rw [if_pos ⟨c1, hb⟩, hb]; exact .began c1 hs hd hb
        · rw [if_neg (fun q => hb q.2)]; exact .beganNot c1 hs hd hb
      · rw [if_neg (fun q => c1 q.1), if_neg c1]; exact .none_ (by omega) hs hd
    | some d =>
      dsimp only
      by_cases c1 : x.d = 1
      · rw [if_pos c1, if_pos c1]; exact .there d c1 hs hd
      rw [if_neg c1, if_neg c1]
      by_cases c2 : x.d = 2
      · rw [if_pos c2, if_pos c2]; exact .get d c2 hs hd
      rw [if_neg c2, if_neg c2]
      by_cases c3 : x.d = 3
      · rw [if_pos c3, if_pos c3]; exact .put d c3 hs hd
      rw [if_neg c3, if_neg c3]
      by_cases c4 : x.d = 4
      · rw [if_pos c4, if_pos c4]; exact .drop d c4 hs hd
      rw [if_neg c4, if_neg c4]
      by_cases c5 : x.d = 5
      · rw [if_pos c5, if_pos c5]; exact .list d c5 hs hd
      rw [if_neg c5, if_neg c5]
      by_cases c6 : x.d = 6
      · rw [if_pos c6, if_pos c6]; exact .commit d c6 hs hd
      rw [if_neg c6, if_neg c6]
      by_cases c10 : x.d = 10
      · rw [if_pos c10, if_pos c10]; exact .tear d c10 hs hd
      rw [if_neg c10, if_neg c10]
      exact .abort d (by omega) hs hd
  · rw [if_pos hs, if_pos hs]; exact .range (by omega) hs

/-- What the seat's deed sees of all keys. -/
def hsee (h : HSt) (d : Dp) : Nat → Ver := lay (shw h.f h.n d.y 8) d.ws
theorem dg_see {h : HSt} (hi : HInv h) {s : Nat} {d : Dp} (hs : h.seat s = some d) {k : Nat} (hk : k < 8) : dg h.f h.n d.y d.ws k = ⟨0, (hsee h d k).t, (hsee h d k).s⟩ := by
  obtain ⟨k1, k2⟩ := hi.known s d hs
  have ha := tr_known hi.inv k1 k2 hk
  have hkb : keyB (k : Int) = true := by simp [keyB]; omega
  unfold dg hsee lay
  rw [if_pos hkb]
  cases lwr d.ws k with
  | some v => rfl
  | none =>
    dsimp only
    unfold shw
    rw [if_pos hk]
    rw [← ha]
theorem sit_at {h : HSt} {x : Int} {e : Option Dp} {s : Nat} {d' : Dp} (h' : (sit h x e).seat s = some d') : (s = x.toNat ∧ e = some d') ∨ (s ≠ x.toNat ∧ h.seat s = some d') := by
  simp only [sit, upd_at] at h'
  split at h'
  · exact .inl ⟨by assumption, h'⟩
  · exact .inr ⟨by assumption, h'⟩
/-- What a deed sees is of one time: whatever is done, what it sees is what it saw, and what it wrote itself. -/
theorem hdo_sees {h : HSt} (hi : HInv h) (x : HStep) {s : Nat} {d d' : Dp} (hs : h.seat s = some d) (hs' : (hdo h x).seat s = some d') :
    d'.y = d.y ∧ d'.md = d.md ∧ shw (hdo h x).f (hdo h x).n d.y 8 = shw h.f h.n d.y 8 ∧
      (d'.ws = d.ws ∨ (x.s = s ∧ x.d = 3 ∧ d'.ws = dpw d.md d.ws x.key true x.b) ∨ (x.s = s ∧ x.d = 4 ∧ d'.ws = dpw d.md d.ws x.key false ⟨#[]⟩)) := by
  obtain ⟨k1, k2⟩ := hi.known s d hs
  have hk := hkind h x
  generalize hdo h x = h2 at *
  generalize hev h x = e at *
  have same : ∀ {d' : Dp}, h.seat s = some d' → d' = d := fun q => by rw [hs] at q; cases q; rfl
  cases hk with
  | kind c => have q := same hs'; subst q; exact ⟨rfl, rfl, rfl, .inl rfl⟩
  | clear c =>
    have q := same hs'
    subst q
    have h5 : s < 5 := by
      rcases Nat.lt_or_ge s 5 with q | q
      · exact q
      · rw [hi.five s q] at hs; cases hs
    exact ⟨rfl, rfl, shw_clm hi.inv ((least_le h.n h.seat 5).2 s _ h5 hs), .inl rfl⟩
  | crash c => cases hs'
  | range c1 c2 => have q := same hs'; subst q; exact ⟨rfl, rfl, rfl, .inl rfl⟩
  | began c1 c2 c3 c4 =>
    rcases sit_at hs' with ⟨q1, q2⟩ | ⟨q1, q2⟩
    · rw [← q1, hs] at c3; cases c3
    · have q := same q2; subst q; exact ⟨rfl, rfl, rfl, .inl rfl⟩
  | beganNot c1 c2 c3 c4 => have q := same hs'; subst q; exact ⟨rfl, rfl, rfl, .inl rfl⟩
  | none_ c1 c2 c3 => have q := same hs'; subst q; exact ⟨rfl, rfl, rfl, .inl rfl⟩
  | there d0 c1 c2 c3 => have q := same hs'; subst q; exact ⟨rfl, rfl, rfl, .inl rfl⟩
  | get d0 c1 c2 c3 =>
    rcases sit_at hs' with ⟨q1, q2⟩ | ⟨q1, q2⟩
    · rw [← q1] at c3; have q := same c3; subst q; cases q2; exact ⟨rfl, rfl, rfl, .inl rfl⟩
    · have q := same q2; subst q; exact ⟨rfl, rfl, rfl, .inl rfl⟩
  | put d0 c1 c2 c3 =>
    rcases sit_at hs' with ⟨q1, q2⟩ | ⟨q1, q2⟩
    · rw [← q1] at c3; have q := same c3; subst q; cases q2; exact ⟨rfl, rfl, rfl, .inr (.inl ⟨by omega, c1, rfl⟩)⟩
    · have q := same q2; subst q; exact ⟨rfl, rfl, rfl, .inl rfl⟩
  | drop d0 c1 c2 c3 =>
    rcases sit_at hs' with ⟨q1, q2⟩ | ⟨q1, q2⟩
    · rw [← q1] at c3; have q := same c3; subst q; cases q2; exact ⟨rfl, rfl, rfl, .inr (.inr ⟨by omega, c1, rfl⟩)⟩
    · have q := same q2; subst q; exact ⟨rfl, rfl, rfl, .inl rfl⟩
  | list d0 c1 c2 c3 =>
    rcases sit_at hs' with ⟨q1, q2⟩ | ⟨q1, q2⟩
    · rw [← q1] at c3; have q := same c3; subst q; cases q2; exact ⟨rfl, rfl, rfl, .inl rfl⟩
    · have q := same q2; subst q; exact ⟨rfl, rfl, rfl, .inl rfl⟩
  | commit d0 c1 c2 c3 =>
    simp only [upd_at] at hs'
    split at hs'
    · cases hs'
    · have q := same hs'; subst q; exact ⟨rfl, rfl, shw_vf hi.inv hi.vi k2, .inl rfl⟩
  | tear d0 c1 c2 c3 => cases hs'
  | abort d0 c1 c2 c3 =>
    rcases sit_at hs' with ⟨q1, q2⟩ | ⟨q1, q2⟩
    · cases q2
    · have q := same q2; subst q; exact ⟨rfl, rfl, rfl, .inl rfl⟩
/-- What is refused changes nothing: behind a code the log is as it was, and what all keys have; but a deed that could not be done is over. -/
theorem hdo_refused {h : HSt} (hi : HInv h) (x : HStep) (hc : (hev h x).c ≠ 0) : (hdo h x).cs = h.cs ∧ (hdo h x).n = h.n ∧ shw (hdo h x).f h.n h.n 8 = shw h.f h.n h.n 8 ∧
    ∀ s, ((hdo h x).seat s).isSome = ((h.seat s).isSome && !(decide (x.d = 6 ∧ x.s = s) || decide (x.d = 10 ∧ (0 ≤ x.s ∧ x.s < 5) ∧ (h.seat x.s.toNat).isSome = true))) := by
  have hk := hkind h x
  generalize hdo h x = h2 at *
  generalize hev h x = e at *
  have five : ∀ s, (h.seat s).isSome = true → s < 5 := fun s q => by
    rcases Nat.lt_or_ge s 5 with r | r
    · exact r
    · rw [hi.five s r] at q; cases q
  cases hk with
  | kind c => exact ⟨rfl, rfl, rfl, fun s => by rw [decide_eq_false (by omega), decide_eq_false (by omega)]; simp⟩
  | clear c => exact absurd rfl hc
  | crash c => exact absurd rfl hc
  | range c1 c2 =>
    refine ⟨rfl, rfl, rfl, fun s => ?_⟩
    rw [decide_eq_false (p := x.d = 10 ∧ _ ∧ _) (fun q => c2 q.2.1)]
    cases hq : (h.seat s).isSome with
    | false => simp
    | true =>
      have := five s hq
      rw [decide_eq_false (by omega)]
      simp
  | began c1 c2 c3 c4 => exact absurd rfl hc
  | beganNot c1 c2 c3 c4 => exact ⟨rfl, rfl, rfl, fun s => by rw [decide_eq_false (by omega), decide_eq_false (by omega)]; simp⟩
  | none_ c1 c2 c3 =>
    refine ⟨rfl, rfl, rfl, fun s => ?_⟩
    rw [decide_eq_false (p := x.d = 10 ∧ _ ∧ _) (fun q => by have := q.2.2; rw [c3] at this; cases this)]
    by_cases q : x.d = 6 ∧ x.s = s
    · have e : x.s.toNat = s := by omega
      rw [← e, c3]; rfl
    · rw [decide_eq_false q]; simp
  | there d0 c1 c2 c3 => exact ⟨rfl, rfl, rfl, fun s => by rw [decide_eq_false (by omega), decide_eq_false (by omega)]; simp⟩
  | get d0 c1 c2 c3 =>
    refine ⟨rfl, rfl, rfl, fun s => ?_⟩
    rw [decide_eq_false (by omega), decide_eq_false (by omega)]
    simp only [sit, upd_at]
    split
    · rename_i q; rw [q, c3]; rfl
    · simp
  | put d0 c1 c2 c3 =>
    refine ⟨rfl, rfl, rfl, fun s => ?_⟩
    rw [decide_eq_false (by omega), decide_eq_false (by omega)]
    simp only [sit, upd_at]
    split
    · rename_i q; rw [q, c3]; rfl
    · simp
  | drop d0 c1 c2 c3 =>
    refine ⟨rfl, rfl, rfl, fun s => ?_⟩
    rw [decide_eq_false (by omega), decide_eq_false (by omega)]
    simp only [sit, upd_at]
    split
    · rename_i q; rw [q, c3]; rfl
    · simp
  | list d0 c1 c2 c3 =>
    refine ⟨rfl, rfl, rfl, fun s => ?_⟩
    rw [decide_eq_false (by omega), decide_eq_false (by omega)]
    simp only [sit, upd_at]
    split
    · rename_i q; rw [q, c3]; rfl
    · simp
  | commit d0 c1 c2 c3 =>
    have hv := vdone_code (cs := h.cs) (show ¬ vcode h.f h.cs d0.md d0.y d0.rs d0.ws = 0 from hc)
    obtain ⟨e1, e2, e3, _⟩ := v_not (n := h.n) hv
    refine ⟨e3, e2, by show shw (vf h.f h.n h.cs d0.md d0.y d0.rs d0.ws) h.n h.n 8 = _; rw [e1], fun s => ?_⟩
    rw [decide_eq_false (p := x.d = 10 ∧ _ ∧ _) (fun q => by omega)]
    simp only [upd_at]
    split
    · rename_i q
      rw [decide_eq_true (by omega)]
      simp
    · rename_i q
      rw [decide_eq_false (by omega)]
      simp
  | tear d0 c1 c2 c3 =>
    have ht := tcs_code (keep := x.keep) (show ¬ vcode h.f h.cs d0.md d0.y d0.rs d0.ws = 0 from hc)
    refine ⟨ht, by show (tcs h.f h.cs d0.md d0.y d0.rs d0.ws x.keep).length = h.n; rw [ht]; exact hi.vi.len.symm, ?_, fun s => ?_⟩
    · show shw (wal0 (tcs h.f h.cs d0.md d0.y d0.rs d0.ws x.keep)) h.n h.n 8 = _
      rw [ht]
      exact crash_shw hi.vi hi.li (fmx_le hi.inv 8 (Nat.le_refl _)).2
    · rw [decide_eq_true (p := x.d = 10 ∧ _ ∧ _) ⟨c1, c2, by rw [c3]; rfl⟩]
      simp
  | abort d0 c1 c2 c3 => exact absurd rfl hc
end Go.Proofs.Ytehhpmfeaeabgac

/- A hall's memory as one thing: its box, its vault, its seats' deeds. -/
namespace Go.Proofs.Ytehhpmfeaeabgac
open Go.RowKit
set_option maxRecDepth 20000

/-- Things as one thing. -/
def ManyT (os : List Thing) : Thing where
  holds B w F := ZooF B w os F
  kp := fun h hk hS => ZooF.kp hk h hS
  lo := fun h => h.lo
  base := fun h hC => ZooF.base hC h
theorem zoof_app {B : Nat} {w : World} : ∀ {us vs : List Thing} {X : List Nat}, ZooF B w (us ++ vs) X → ∃ F Y, ZooF B w us F ∧ ZooF B w vs Y ∧ (∀ x, x ∈ F → x ∉ Y) ∧ X = F ++ Y
  | [], vs, X, h => ⟨[], X, rfl, h, fun _ hx => by simp at hx, rfl⟩
  | o :: us, vs, X, ⟨F, Y, h1, h2, h3, e⟩ => by
    obtain ⟨F1, Y1, k1, k2, k3, rfl⟩ := zoof_app h2
    refine ⟨F ++ F1, Y1, ⟨F, F1, h1, k1, fun x hx hy => h3 x hx (by simp [hy]), rfl⟩, k2, fun x hx hy => ?_, by rw [e, List.append_assoc]⟩
    rcases List.mem_append.1 hx with q | q
    · exact h3 x q (by simp [hy])
    · exact k3 x q hy
theorem zoof_join {B : Nat} {w : World} : ∀ {us vs : List Thing} {F Y : List Nat}, ZooF B w us F → ZooF B w vs Y → (∀ x, x ∈ F → x ∉ Y) → ZooF B w (us ++ vs) (F ++ Y)
  | [], vs, F, Y, h1, h2, _ => by rw [show F = [] from h1]; exact h2
  | o :: us, vs, F, Y, ⟨F1, F2, h1, h2, h3, e⟩, k, hd => by
    subst e
    refine ⟨F1, F2 ++ Y, h1, zoof_join h2 k (fun x hx => hd x (by simp [hx])), fun x hx hy => ?_, by rw [List.append_assoc]⟩
    rcases List.mem_append.1 hy with q | q
    · exact h3 x hx q
    · exact hd x (by simp [hx]) q
section
variable {w0 w w' : World} {os us r : List Thing}
theorem many_open (h : Zoo w0 w (ManyT os :: r)) : Zoo w0 w (os ++ r) := by
  obtain ⟨X, ⟨F, Y, h1, h2, h3, rfl⟩, hk⟩ := h
  exact ⟨F ++ Y, zoof_join h1 h2 h3, hk⟩
theorem many_close (h : Zoo w0 w (os ++ r)) : Zoo w0 w (ManyT os :: r) := by
  obtain ⟨X, h1, hk⟩ := h
  obtain ⟨F, Y, k1, k2, k3, rfl⟩ := zoof_app h1
  exact ⟨F ++ Y, ⟨F, Y, k1, k2, k3, rfl⟩, hk⟩
end

/-- A seat's deed in memory: its block, and what it is; none. -/
abbrev Sd := Option (Nat × Dp)
def OptT : Sd → Thing
  | none => ManyT []
  | some x => BoxT x.1 (dcells x.2.md x.2.y (ncell x.2.rs x.2.ws)) 106
def sp (o : Sd) : Value := .pointer (o.map fun x => ⟨x.1, 0, none⟩)
def hcells (vb : Nat) (st : Nat → Sd) : Array Value := #[.pointer (some ⟨vb, 0, none⟩), sp (st 0), sp (st 1), sp (st 2), sp (st 3), sp (st 4)]
def seats (st : Nat → Sd) : List Thing := [OptT (st 0), OptT (st 1), OptT (st 2), OptT (st 3), OptT (st 4)]
def Sts (st : Nat → Sd) (seat : Nat → Option Dp) : Prop := ∀ s, (st s).map Prod.snd = seat s
/-- The things of a hall. -/
def hth (hb vb tb gb : Nat) (h : HSt) (st : Nat → Sd) : List Thing := BoxT hb (hcells vb st) 43 :: VltT vb tb gb h.f h.n h.cs [] :: seats st
def HalT (hb : Nat) (h : HSt) : Thing where
  holds B w F := ∃ vb tb gb st, Sts st h.seat ∧ HInv h ∧ ZooF B w (hth hb vb tb gb h st) F
  kp := fun ⟨vb, tb, gb, st, h1, h2, h3⟩ hk hS => ⟨vb, tb, gb, st, h1, h2, ZooF.kp hk h3 hS⟩
  lo := fun ⟨_, _, _, _, _, _, h⟩ => h.lo
  base := fun ⟨vb, tb, gb, st, h1, h2, h3⟩ hC => ⟨vb, tb, gb, st, h1, h2, ZooF.base hC h3⟩
/-- A hall among things, its parts known. -/
def Hall (w0 w : World) (hb vb tb gb : Nat) (h : HSt) (st : Nat → Sd) (r : List Thing) : Prop := Zoo w0 w (BoxT hb (hcells vb st) 43 :: VltT vb tb gb h.f h.n h.cs [] :: (seats st ++ r))

section
variable {w0 w w' : World} {hb vb tb gb : Nat} {h h' : HSt} {st : Nat → Sd} {r : List Thing}
theorem hal_open (hz : Zoo w0 w (HalT hb h :: r)) : ∃ vb tb gb st, Sts st h.seat ∧ HInv h ∧ Hall w0 w hb vb tb gb h st r := by
  obtain ⟨X, ⟨F, Y, ⟨vb, tb, gb, st, h1, h2, k⟩, h4, h5, rfl⟩, hk⟩ := hz
  exact ⟨vb, tb, gb, st, h1, h2, F ++ Y, zoof_join k h4 h5, hk⟩
theorem hal_close (hs : Sts st h.seat) (hi : HInv h) (hz : Hall w0 w hb vb tb gb h st r) : Zoo w0 w (HalT hb h :: r) := by
  obtain ⟨X, h1, hk⟩ := hz
  obtain ⟨F, Y, k1, k2, k3, rfl⟩ := zoof_app (us := hth hb vb tb gb h st) (vs := r) h1
  exact ⟨F ++ Y, ⟨F, Y, ⟨vb, tb, gb, st, hs, hi, k1⟩, k2, k3, rfl⟩, hk⟩
theorem Hall.kp0 (hz : Hall w0 w hb vb tb gb h st r) (hk : Kp [] w w') : Hall w0 w' hb vb tb gb h st r := Zoo.kp0 hz hk
theorem Hall.vlt (hz : Hall w0 w hb vb tb gb h st r) : Zoo w0 w (VltT vb tb gb h.f h.n h.cs [] :: BoxT hb (hcells vb st) 43 :: (seats st ++ r)) := zoo_swap hz
theorem Hall.of_vlt {vb : Nat} {f : Nat → List Ver} {n : Nat} {cs : List (List Ver)} {seat : Nat → Option Dp} (hz : Zoo w0 w (VltT vb tb gb f n cs [] :: BoxT hb (hcells vb st) 43 :: (seats st ++ r))) : Hall w0 w hb vb tb gb ⟨f, n, cs, seat⟩ st r := zoo_swap hz
theorem Hall.box (hz : Hall w0 w hb vb tb gb h st r) : w.heap[hb]? = some (.cells (hcells vb st) 43 (0, 0)) := Zoo.var hz
theorem Hall.c0 (hz : Hall w0 w hb vb tb gb h st r) : w.cell? ⟨hb, 0, none⟩ = some (.pointer (some ⟨vb, 0, none⟩)) := cell_of_block hz.box rfl
theorem hcells_at (vb : Nat) (st : Nat → Sd) {s : Nat} (hs : s < 5) : (hcells vb st)[1 + s]? = some (sp (st s)) := by
  rcases (show s = 0 ∨ s = 1 ∨ s = 2 ∨ s = 3 ∨ s = 4 by omega) with e | e | e | e | e <;> subst e <;> rfl
theorem Hall.cs_ (hz : Hall w0 w hb vb tb gb h st r) {s : Nat} (hs : s < 5) : w.cell? ⟨hb, 1 + s, none⟩ = some (sp (st s)) := cell_of_block hz.box (hcells_at vb st hs)
theorem Hall.fz (hz : Hall w0 w hb vb tb gb h st r) (i : Nat) : w.frozen? ⟨hb, i, none⟩ = false := frozen_of_block i hz.box
theorem Hall.lt (hz : Hall w0 w hb vb tb gb h st r) : hb < w.heap.size := lt_of_block hz.box
theorem Hall.v0 (hz : Hall w0 w hb vb tb gb h st r) : w.cell? ⟨vb, 0, none⟩ = some (.pointer (some ⟨tb, 0, none⟩)) := by
  obtain ⟨F, ⟨Ft, Fg, k⟩, _⟩ := zoo_at1 hz
  exact k.c0
theorem Hall.vlt_ (hz : Hall w0 w hb vb tb gb h st r) : vb < w.heap.size := by
  obtain ⟨F, ⟨Ft, Fg, k⟩, _⟩ := zoo_at1 hz
  exact (k.lo vb k.vF).2
theorem Hall.base (hz : Hall w0 w hb vb tb gb h st r) : w0.heap.size ≤ w.heap.size := Zoo.base hz
/-- The seats' things, one of them at its place. -/
theorem seats_at (st : Nat → Sd) {s : Nat} (hs : s < 5) : ∃ l1 l2, seats st = l1 ++ OptT (st s) :: l2 ∧ ∀ d, seats (upd st s d) = l1 ++ OptT d :: l2 := by
  rcases (show s = 0 ∨ s = 1 ∨ s = 2 ∨ s = 3 ∨ s = 4 by omega) with e | e | e | e | e <;> subst e
  · exact ⟨[], [OptT (st 1), OptT (st 2), OptT (st 3), OptT (st 4)], rfl, fun d => by simp [seats, upd]⟩
  · exact ⟨[OptT (st 0)], [OptT (st 2), OptT (st 3), OptT (st 4)], rfl, fun d => by simp [seats, upd]⟩
  · exact ⟨[OptT (st 0), OptT (st 1)], [OptT (st 3), OptT (st 4)], rfl, fun d => by simp [seats, upd]⟩
  · exact ⟨[OptT (st 0), OptT (st 1), OptT (st 2)], [OptT (st 4)], rfl, fun d => by simp [seats, upd]⟩
  · exact ⟨[OptT (st 0), OptT (st 1), OptT (st 2), OptT (st 3)], [], rfl, fun d => by simp [seats, upd]⟩
/-- A seat's deed, moved to the head: behind the vault; and back, another one in its place, the box as it was. -/
theorem Hall.out (hz : Hall w0 w hb vb tb gb h st r) {s : Nat} (hs : s < 5) : ∃ rest, Zoo w0 w (VltT vb tb gb h.f h.n h.cs [] :: OptT (st s) :: rest) ∧
    ∀ (w' : World) (tb' : Nat) (f : Nat → List Ver) (n : Nat) (cs : List (List Ver)) (d : Sd) (seat : Nat → Option Dp), sp d = sp (st s) → Zoo w0 w' (VltT vb tb' gb f n cs [] :: OptT d :: rest) → Hall w0 w' hb vb tb' gb ⟨f, n, cs, seat⟩ (upd st s d) r := by
  obtain ⟨l1, l2, e1, e2⟩ := seats_at st hs
  have hc : ∀ d, sp d = sp (st s) → hcells vb (upd st s d) = hcells vb st := fun d hd => by
    rcases (show s = 0 ∨ s = 1 ∨ s = 2 ∨ s = 3 ∨ s = 4 by omega) with e | e | e | e | e <;> subst e <;> simp [hcells, upd, hd]
  refine ⟨BoxT hb (hcells vb st) 43 :: (l1 ++ (l2 ++ r)), ?_, fun w' tb' f n cs d seat hd hz' => ?_⟩
  · have h1 := Hall.vlt hz
    rw [e1, List.append_assoc] at h1
    refine h1.perm (List.Perm.cons _ ?_)
    exact (List.perm_middle (l₁ := BoxT hb (hcells vb st) 43 :: l1))
  · refine Hall.of_vlt ?_
    rw [e2, hc d hd, List.append_assoc]
    refine hz'.perm (List.Perm.cons _ ?_)
    exact (List.perm_middle (l₁ := BoxT hb (hcells vb st) 43 :: l1)).symm
theorem Hall.out2 (hz : Hall w0 w hb vb tb gb h st r) {s : Nat} (hs : s < 5) : ∃ rest, Zoo w0 w (VltT vb tb gb h.f h.n h.cs [] :: OptT (st s) :: rest) ∧
    ∀ (w' : World) (tb' : Nat) (f : Nat → List Ver) (n : Nat) (cs : List (List Ver)) (d : Sd) (P : Thing) (seat : Nat → Option Dp), sp d = sp (st s) → Zoo w0 w' (VltT vb tb' gb f n cs [] :: OptT d :: P :: rest) → Hall w0 w' hb vb tb' gb ⟨f, n, cs, seat⟩ (upd st s d) (P :: r) := by
  obtain ⟨l1, l2, e1, e2⟩ := seats_at st hs
  have hc : ∀ d, sp d = sp (st s) → hcells vb (upd st s d) = hcells vb st := fun d hd => by
    rcases (show s = 0 ∨ s = 1 ∨ s = 2 ∨ s = 3 ∨ s = 4 by omega) with e | e | e | e | e <;> subst e <;> simp [hcells, upd, hd]
  refine ⟨BoxT hb (hcells vb st) 43 :: (l1 ++ (l2 ++ r)), ?_, fun w' tb' f n cs d P seat hd hz' => ?_⟩
  · have h1 := Hall.vlt hz
    rw [e1, List.append_assoc] at h1
    refine h1.perm (List.Perm.cons _ ?_)
    exact (List.perm_middle (l₁ := BoxT hb (hcells vb st) 43 :: l1))
  · refine Hall.of_vlt ?_
    rw [e2, hc d hd, List.append_assoc]
    refine hz'.perm (List.Perm.cons _ ?_)
    have p1 := (List.perm_middle (l₁ := BoxT hb (hcells vb st) 43 :: l1) (a := OptT d) (l₂ := l2 ++ (P :: r))).symm
    refine List.Perm.trans (List.Perm.cons _ ?_) p1
    have p2 := (List.perm_middle (l₁ := BoxT hb (hcells vb st) 43 :: (l1 ++ l2)) (a := P) (l₂ := r)).symm
    have e3 : ∀ q : List Thing, BoxT hb (hcells vb st) 43 :: (l1 ++ (l2 ++ q)) = (BoxT hb (hcells vb st) 43 :: (l1 ++ l2)) ++ q := fun q => by simp
    show (P :: BoxT hb (hcells vb st) 43 :: (l1 ++ (l2 ++ r))).Perm (BoxT hb (hcells vb st) 43 :: (l1 ++ (l2 ++ (P :: r))))
    rw [e3, e3]
    exact p2
/-- A seat's cell is set, the deed that it had is let go. -/
theorem hcells_set (vb : Nat) (st : Nat → Sd) {s : Nat} (hs : s < 5) (d : Sd) : (hcells vb st).setIfInBounds (1 + s) (sp d) = hcells vb (upd st s d) := by
  rcases (show s = 0 ∨ s = 1 ∨ s = 2 ∨ s = 3 ∨ s = 4 by omega) with e | e | e | e | e <;> subst e <;> simp [hcells, upd]
theorem Hall.sit {s : Nat} (hs : s < 5) (d : Sd) (k : Zoo w0 w (BoxT hb (hcells vb st) 43 :: VltT vb tb gb h.f h.n h.cs [] :: (seats (upd st s d) ++ r))) :
    Hall w0 (w.setCell ⟨hb, 1 + s, none⟩ (sp d)) hb vb tb gb h (upd st s d) r := by
  obtain ⟨F, ⟨hbx, h2, h3⟩, k2⟩ := zoo_at0 k
  refine k2 _ _ ⟨F, ⟨?_, h2, h3⟩, ?_, fun x hx => .inl hx⟩
  · rw [heap_setCell_at _ _ hbx, hcells_set vb st hs d]
  · rw [h2]
    exact (Kp.refl [hb] w).setCell (.inl (by simp)) _
theorem opt_none (hz : Zoo w0 w r) : Zoo w0 w (OptT none :: r) := many_close (os := []) hz
theorem Hall.leave (hz : Hall w0 w hb vb tb gb h st r) {s : Nat} (hs : s < 5) : Hall w0 (w.setCell ⟨hb, 1 + s, none⟩ (.pointer none)) hb vb tb gb h (upd st s none) (OptT (st s) :: r) := by
  obtain ⟨l1, l2, e1, e2⟩ := seats_at st hs
  generalize hA : BoxT hb (hcells vb st) 43 :: VltT vb tb gb h.f h.n h.cs [] :: l1 = A
  have h1 : Zoo w0 w (A ++ OptT (st s) :: (l2 ++ r)) := by
    have := hz
    unfold Hall at this
    rw [e1, List.append_assoc] at this
    rw [← hA]
    exact this
  have h2 := (opt_none h1).perm ((List.Perm.cons _ List.perm_middle).trans (List.Perm.swap _ _ _))
  have h3 := h2.perm (List.Perm.cons _ (List.perm_middle (l₁ := A)).symm)
  have h4 : Zoo w0 w (OptT (st s) :: ((A ++ OptT none :: l2) ++ r)) := by rw [List.append_assoc]; exact h3
  have h5 := h4.perm (List.perm_middle (l₁ := A ++ OptT none :: l2)).symm
  have h6 : Zoo w0 w (BoxT hb (hcells vb st) 43 :: VltT vb tb gb h.f h.n h.cs [] :: (seats (upd st s none) ++ (OptT (st s) :: r))) := by
    rw [e2]
    rw [← hA] at h5
    exact h5
  exact Hall.sit hs none h6
/-- A new deed at an empty seat: it lies at the head of the others. -/
theorem Hall.join {d : Sd} (hz : Zoo w0 w (VltT vb tb gb h.f h.n h.cs [] :: OptT d :: BoxT hb (hcells vb st) 43 :: (seats st ++ r))) {s : Nat} (hs : s < 5) (hn : st s = none) : Hall w0 (w.setCell ⟨hb, 1 + s, none⟩ (sp d)) hb vb tb gb h (upd st s d) r := by
  obtain ⟨l1, l2, e1, e2⟩ := seats_at st hs
  refine Hall.sit (h := h) (st := st) hs d ?_
  rw [e1, hn, List.append_assoc] at hz
  have h1 : Zoo w0 w ((VltT vb tb gb h.f h.n h.cs [] :: OptT d :: BoxT hb (hcells vb st) 43 :: l1) ++ OptT none :: (l2 ++ r)) := hz
  have h2 := h1.drop_
  rw [e2, List.append_assoc]
  refine h2.perm ?_
  have p1 : (VltT vb tb gb h.f h.n h.cs [] :: OptT d :: BoxT hb (hcells vb st) 43 :: (l1 ++ (l2 ++ r))).Perm (BoxT hb (hcells vb st) 43 :: VltT vb tb gb h.f h.n h.cs [] :: OptT d :: (l1 ++ (l2 ++ r))) := List.perm_middle (l₁ := [VltT vb tb gb h.f h.n h.cs [], OptT d])
  exact p1.trans (List.Perm.cons _ (List.Perm.cons _ List.perm_middle.symm))
/-- All deeds are let go. -/
theorem Hall.leaveAll (hz : Hall w0 w hb vb tb gb h st r) (hb' : w'.heap[hb]? = some (.cells (hcells vb (fun _ => none)) 43 (0, 0))) (hk : Kp [hb] w w') : Hall w0 w' hb vb tb gb ⟨h.f, h.n, h.cs, fun _ => none⟩ (fun _ => none) r := by
  have h1 : Zoo w0 w ((BoxT hb (hcells vb st) 43 :: VltT vb tb gb h.f h.n h.cs [] :: seats st) ++ r) := hz
  have h2 : Zoo w0 w (BoxT hb (hcells vb st) 43 :: VltT vb tb gb h.f h.n h.cs [] :: r) := by
    have h5 : Zoo w0 w (seats st ++ (BoxT hb (hcells vb st) 43 :: VltT vb tb gb h.f h.n h.cs [] :: r)) := by
      refine h1.perm ?_
      have p : ((BoxT hb (hcells vb st) 43 :: VltT vb tb gb h.f h.n h.cs [] :: seats st) ++ r).Perm ((seats st ++ [BoxT hb (hcells vb st) 43, VltT vb tb gb h.f h.n h.cs []]) ++ r) := (List.perm_append_comm (l₁ := [BoxT hb (hcells vb st) 43, VltT vb tb gb h.f h.n h.cs []]) (l₂ := seats st)).append_right r
      rw [List.append_assoc] at p
      exact p
    exact (many_close h5).tail
  obtain ⟨F, ⟨hbx, e2, e3⟩, k2⟩ := zoo_at0 h2
  have h4 : Zoo w0 w' (BoxT hb (hcells vb (fun _ => none)) 43 :: VltT vb tb gb h.f h.n h.cs [] :: r) := k2 _ _ ⟨F, ⟨hb', e2, e3⟩, by rw [e2]; exact hk, fun x hx => .inl hx⟩
  have h6 := opt_none (opt_none (opt_none (opt_none (opt_none h4))))
  exact h6.perm ((List.perm_append_comm (l₁ := seats (fun _ => none)) (l₂ := [BoxT hb (hcells vb (fun _ => none)) 43, VltT vb tb gb h.f h.n h.cs []])).append_right r)
/-- A seat's deed. -/
theorem Hall.ded (hz : Hall w0 w hb vb tb gb h st r) {s D : Nat} {d : Dp} (hs : s < 5) (hd : st s = some (D, d)) : Ded w D d.md d.y d.rs d.ws := by
  obtain ⟨rest, h1, _⟩ := hz.out hs
  rw [hd] at h1
  obtain ⟨F, h2, _⟩ := zoo_at1 h1
  exact h2.1
/-- Variables beside a hall. -/
theorem Hall.new (hz : Hall w0 w hb vb tb gb h st r) (c : Array Value) (T : TypeId) : Hall w0 (w.alloc (.cells c T)) hb vb tb gb h st (BoxT w.heap.size c T :: r) := by
  have h1 := Zoo.box hz c T
  exact h1.perm (List.perm_middle (l₁ := BoxT hb (hcells vb st) 43 :: VltT vb tb gb h.f h.n h.cs [] :: seats st)).symm
theorem Hall.two (hz : Hall w0 w hb vb tb gb h st r) (c : Array Value) (T : TypeId) (c2 : Array Value) (T2 : TypeId) : Hall w0 ((w.alloc (.cells c T)).alloc (.cells c2 T2)) hb vb tb gb h st (BoxT (w.heap.size + 1) c2 T2 :: BoxT w.heap.size c T :: r) := by
  have h1 := (hz.new c T).new c2 T2
  rw [show (w.alloc (.cells c T)).heap.size = w.heap.size + 1 by simp] at h1
  exact h1
theorem Hall.perm {r' : List Thing} (hz : Hall w0 w hb vb tb gb h st r) (hp : r.Perm r') : Hall w0 w hb vb tb gb h st r' := Zoo.perm hz (List.Perm.cons _ (List.Perm.cons _ (List.Perm.append_left _ hp)))
theorem Hall.var {p : Nat} {c : Array Value} {T : TypeId} (hz : Hall w0 w hb vb tb gb h st r) (hm : BoxT p c T ∈ r) : w.heap[p]? = some (.cells c T (0, 0)) := zoo_varm hz (by simp [hm])
/-- A thing beside a hall, and what a call on it may do. -/
theorem Hall.at_ {l1 l2 : List Thing} {o : Thing} (hz : Hall w0 w hb vb tb gb h st (l1 ++ o :: l2)) : ∃ F, o.holds w0.heap.size w F ∧ ∀ (o' : Thing) (w' : World), Ch o' w0.heap.size w F w' → Hall w0 w' hb vb tb gb h st (l1 ++ o' :: l2) := by
  have hz' : Zoo w0 w ((BoxT hb (hcells vb st) 43 :: VltT vb tb gb h.f h.n h.cs [] :: (seats st ++ l1)) ++ o :: l2) := by
    have := hz
    unfold Hall at this
    rw [← List.append_assoc] at this
    exact this
  obtain ⟨F, h1, h2⟩ := hz'.at_
  refine ⟨F, h1, fun o' w' hc => ?_⟩
  have := h2 o' w' hc
  unfold Hall
  rw [← List.append_assoc]
  exact this
theorem Hall.drop {l1 l2 : List Thing} {o : Thing} (hz : Hall w0 w hb vb tb gb h st (l1 ++ o :: l2)) : Hall w0 w hb vb tb gb h st (l1 ++ l2) := by
  have h1 : Hall w0 w hb vb tb gb h st (o :: (l1 ++ l2)) := hz.perm List.perm_middle
  exact Zoo.drop_ (l1 := BoxT hb (hcells vb st) 43 :: VltT vb tb gb h.f h.n h.cs [] :: seats st) h1
theorem Hall.tail {o : Thing} (hz : Hall w0 w hb vb tb gb h st (o :: r)) : Hall w0 w hb vb tb gb h st r := Hall.drop (l1 := []) hz
theorem Hall.setAt {l1 l2 : List Thing} {p : Nat} {c : Array Value} {T : TypeId} (hz : Hall w0 w hb vb tb gb h st (l1 ++ BoxT p c T :: l2)) (i : Nat) (v : Value) : Hall w0 (w.setCell ⟨p, i, none⟩ v) hb vb tb gb h st (l1 ++ BoxT p (c.setIfInBounds i v) T :: l2) := by
  obtain ⟨F, ⟨hbx, h2, h3⟩, k2⟩ := hz.at_
  exact k2 _ _ ⟨F, ⟨heap_setCell_at _ _ hbx, h2, h3⟩, by rw [h2]; exact (Kp.refl [p] w).setCell (.inl (by simp)) _, fun x hx => .inl hx⟩
theorem Hall.set0 {p : Nat} {c : Array Value} {T : TypeId} (hz : Hall w0 w hb vb tb gb h st (BoxT p c T :: r)) (i : Nat) (v : Value) : Hall w0 (w.setCell ⟨p, i, none⟩ v) hb vb tb gb h st (BoxT p (c.setIfInBounds i v) T :: r) := Hall.setAt (l1 := []) hz i v
theorem Hall.set1 {o : Thing} {p : Nat} {c : Array Value} {T : TypeId} (hz : Hall w0 w hb vb tb gb h st (o :: BoxT p c T :: r)) (i : Nat) (v : Value) : Hall w0 (w.setCell ⟨p, i, none⟩ v) hb vb tb gb h st (o :: BoxT p (c.setIfInBounds i v) T :: r) := Hall.setAt (l1 := [o]) hz i v
/-- Two variables beside a hall are two. -/
theorem Hall.ne2 {p p2 : Nat} {c c2 : Array Value} {T T2 : TypeId} (hz : Hall w0 w hb vb tb gb h st (BoxT p c T :: BoxT p2 c2 T2 :: r)) : p ≠ p2 := by
  obtain ⟨X, ⟨F0, Y0, _, ⟨F1, Y1, _, k, _, _⟩, _, _⟩, _⟩ := hz
  obtain ⟨F, Y, k1, ⟨F2, Y2, h2, ⟨F3, Y3, h3, k3, _, e3⟩, hd, e2⟩, _, _⟩ := zoof_app k
  intro e
  subst e
  exact hd p (by rw [h2.2.1]; simp) (by rw [e3, h3.2.1]; simp)
end
end Go.Proofs.Ytehhpmfeaeabgac

/- A hall's small functions, by their contracts: Seat, Deed, Busy, find, leaveAll, Least, New. -/
namespace Go.Proofs.Ytehhpmfeaeabgac
open Go.RowKit
set_option maxRecDepth 20000
attribute [local go_sem ↓] Go.wp_at_zero Go.wp_at_succ

set_option maxHeartbeats 400000 in
theorem hseat (k : Int) (w : World) : Calls Try.prog 22 #[.int .i64 k] w fun e w' => e = .returned (.bool (seatB k)) ∧ w' = w := by
  go_enter Try.func22, Try.ntmps22
  go_wp2
  all_goals
    go_ret
    exact ⟨ret_bool (by simp [seatB]; omega), rfl⟩

/-- A seat's deed; none where there is no such seat. -/
def dat (st : Nat → Sd) (s : Int) : Sd := if 0 ≤ s ∧ s < 5 then st s.toNat else none
theorem dat_in {st : Nat → Sd} {j : Nat} (hj : j < 5) : dat st (j : Int) = st j := by unfold dat; rw [if_pos (by omega), Int.toNat_natCast]
theorem dat_out {st : Nat → Sd} {s : Int} (hs : ¬ (0 ≤ s ∧ s < 5)) : dat st s = none := if_neg hs
theorem seat_in {s : Int} (hs : 0 ≤ s ∧ s < 5) : ∃ j : Nat, s = (j : Int) ∧ j < 5 := ⟨s.toNat, by omega, by omega⟩

section
variable {w0 w : World} {hb vb tb gb : Nat} {h : HSt} {st : Nat → Sd} {r : List Thing}
set_option maxHeartbeats 400000 in
theorem h_deed (s : Int) (hz : Hall w0 w hb vb tb gb h st r) : Calls Try.prog 24 #[.pointer (some ⟨hb, 0, none⟩), .int .i64 s] w fun e w' => e = .returned (sp (dat st s)) ∧ w' = w := by
  by_cases hs : 0 ≤ s ∧ s < 5
  · obtain ⟨j, rfl, hj⟩ := seat_in hs
    have hsb : seatB (j : Int) = true := decide_eq_true hs
    have i0 : (0 : Int) ≤ (j : Int) := by omega
    have i5 : (j : Int) < 5 := by omega
    have c1 := hz.cs_ hj
    rw [dat_in hj]
    clear hz
    generalize sp (st j) = o at *
    go_enter Try.func24, Try.ntmps24
    go_wp2_with fail
    refine (hseat (j : Int) _).mono ?_
    rintro e w' ⟨rfl, hw'⟩
    subst w'
    rw [hsb]
    go_wp2_with fail
    go_ret
    exact ⟨rfl, rfl⟩
  · have hsb : seatB s = false := decide_eq_false hs
    rw [dat_out hs]
    clear hz
    go_enter Try.func24, Try.ntmps24
    go_wp2_with fail
    refine (hseat s _).mono ?_
    rintro e w' ⟨rfl, hw'⟩
    subst w'
    rw [hsb]
    go_wp2_with fail
    go_ret
    exact ⟨rfl, rfl⟩
set_option maxHeartbeats 400000 in
theorem h_busy (s : Int) (hz : Hall w0 w hb vb tb gb h st r) : Calls Try.prog 25 #[.pointer (some ⟨hb, 0, none⟩), .int .i64 s] w fun e w' => e = .returned (.bool (dat st s).isSome) ∧ w' = w := by
  have HD := hide (h_deed s hz)
  clear hz
  cases ho : dat st s with
  | none =>
    rw [ho] at HD
    go_enter Try.func25, Try.ntmps25
    go_wp2_with fail
    refine (unhide HD).mono ?_
    rintro e w' ⟨rfl, hw'⟩
    subst w'
    rw [show sp none = .pointer none from rfl]
    go_wp2_with fail
    go_ret
    exact ⟨rfl, rfl⟩
  | some x =>
    rw [ho] at HD
    go_enter Try.func25, Try.ntmps25
    go_wp2_with fail
    refine (unhide HD).mono ?_
    rintro e w' ⟨rfl, hw'⟩
    subst w'
    rw [show sp (some x) = .pointer (some ⟨x.1, 0, none⟩) from rfl]
    go_wp2_with fail
    go_ret
    exact ⟨rfl, rfl⟩
/-- find: the seat's deed, or why there is none. -/
def fcode (st : Nat → Sd) (s : Int) : Int := if 0 ≤ s ∧ s < 5 then (if (st s.toNat).isSome = true then 0 else 7) else 1
set_option maxHeartbeats 400000 in
theorem h_find (s : Int) (hz : Hall w0 w hb vb tb gb h st r) : Calls Try.prog 74 #[.pointer (some ⟨hb, 0, none⟩), .int .i64 s] w fun e w' => e = .returned (.tuple #[sp (dat st s), .int .i64 (fcode st s)]) ∧ w' = w := by
  have HB := hide (h_busy s hz)
  by_cases hs : 0 ≤ s ∧ s < 5
  · obtain ⟨j, rfl, hj⟩ := seat_in hs
    have hsb : seatB (j : Int) = true := decide_eq_true hs
    have i0 : (0 : Int) ≤ (j : Int) := by omega
    have i5 : (j : Int) < 5 := by omega
    have c1 := hz.cs_ hj
    rw [dat_in hj] at HB ⊢
    have hf : fcode st (j : Int) = if (st j).isSome = true then 0 else 7 := by unfold fcode; rw [if_pos hs, Int.toNat_natCast]
    rw [hf]
    clear hz hf
    generalize st j = o at *
    cases o with
    | none =>
      go_enter Try.func74, Try.ntmps74
      go_wp2_with fail
      refine (hseat (j : Int) _).mono ?_
      rintro e w' ⟨rfl, hw'⟩
      subst w'
      rw [hsb]
      go_wp2_with fail
      refine (unhide HB).mono ?_
      rintro e w' ⟨rfl, hw'⟩
      subst w'
      rw [show Option.isSome (none : Sd) = false from rfl]
      go_wp2_with fail
      go_ret2
      exact ⟨rfl, rfl⟩
    | some x =>
      go_enter Try.func74, Try.ntmps74
      go_wp2_with fail
      refine (hseat (j : Int) _).mono ?_
      rintro e w' ⟨rfl, hw'⟩
      subst w'
      rw [hsb]
      go_wp2_with fail
      refine (unhide HB).mono ?_
      rintro e w' ⟨rfl, hw'⟩
      subst w'
      rw [show Option.isSome (some x) = true from rfl]
      go_wp2_with fail
      go_ret2
      exact ⟨rfl, rfl⟩
  · have hsb : seatB s = false := decide_eq_false hs
    have hf : fcode st s = 1 := by unfold fcode; rw [if_neg hs]
    rw [dat_out hs, hf]
    clear hz HB hf
    go_enter Try.func74, Try.ntmps74
    go_wp2_with fail
    refine (hseat s _).mono ?_
    rintro e w' ⟨rfl, hw'⟩
    subst w'
    rw [hsb]
    go_wp2_with fail
    go_ret2
    exact ⟨rfl, rfl⟩
set_option maxHeartbeats 400000 in
theorem h_leaveAll (hz : Hall w0 w hb vb tb gb h st r) : Calls Try.prog 44 #[.pointer (some ⟨hb, 0, none⟩)] w fun e w' => e = .returned (.tuple #[]) ∧ Hid (Hall w0 w' hb vb tb gb ⟨h.f, h.n, h.cs, fun _ => none⟩ (fun _ => none) r) := by
  have hbx := hz.box
  have c1 := hz.cs_ (s := 0) (by omega)
  have c2 := hz.cs_ (s := 1) (by omega)
  have c3 := hz.cs_ (s := 2) (by omega)
  have c4 := hz.cs_ (s := 3) (by omega)
  have c5 := hz.cs_ (s := 4) (by omega)
  have f1 := hz.fz 1
  have f2 := hz.fz 2
  have f3 := hz.fz 3
  have f4 := hz.fz 4
  have f5 := hz.fz 5
  have HZ := hide hz
  clear hz
  go_enter Try.func44, Try.ntmps44
  go_wp2_with fail
  go_end0
  refine ⟨rfl, (unhide HZ).leaveAll ?_ ?_⟩
  · rw [heap_setCell_at _ _ (heap_setCell_at _ _ (heap_setCell_at _ _ (heap_setCell_at _ _ (heap_setCell_at _ _ hbx))))]
    rfl
  · exact (((((Kp.refl [hb] w).setCell (.inl (by simp)) _).setCell (.inl (by simp)) _).setCell (.inl (by simp)) _).setCell (.inl (by simp)) _).setCell (.inl (by simp)) _
theorem run_index5 (w : World) (cs : Array Value) (k : Nat) (v : Value) (hk : k < 5) (hv : cs[k]? = some v) :
    (Instr.index 41 (.agg cs) (.int .i64 (k : Int))).run Try.prog w = .ok v w := by
  have hn : (k : Int) < 5 := by omega
  simp [Instr.index, run_underlying Try.underlying41, asIntOf, hk, hv, go_sem]
theorem parr5 (st : Nat → Sd) : ∃ A : Array Value, #[sp (st 0), sp (st 1), sp (st 2), sp (st 3), sp (st 4)] = A ∧ ∀ k, k < 5 → A[k]? = some (sp (st k)) := by
  refine ⟨_, rfl, fun k hk => ?_⟩
  rcases (show k = 0 ∨ k = 1 ∨ k = 2 ∨ k = 3 ∨ k = 4 by omega) with e | e | e | e | e <;> subst e <;> rfl
set_option maxHeartbeats 1000000 in
theorem h_least (hs : Sts st h.seat) (hz : Hall w0 w hb vb tb gb h st r) : Calls Try.prog 20 #[.pointer (some ⟨hb, 0, none⟩)] w fun e w' => e = .returned (.int .i64 (least h.n h.seat 5)) ∧ w' = w := by
  have c0 := hz.c0
  have v0 := hz.v0
  have c1 := hz.cs_ (s := 0) (by omega)
  have c2 := hz.cs_ (s := 1) (by omega)
  have c3 := hz.cs_ (s := 2) (by omega)
  have c4 := hz.cs_ (s := 3) (by omega)
  have c5 := hz.cs_ (s := 4) (by omega)
  have HZ := hide hz
  clear hz
  go_enter Try.func20, Try.ntmps20
  go_wp2_with fail
  refine (l_last (unhide HZ).vlt).mono ?_
  rintro e w' ⟨rfl, hw'⟩
  subst w'
  go_wp2_with fail
  obtain ⟨A, hA, hAk⟩ := parr5 st
  rw [hA]
  clear hA c0 v0 c1 c2 c3 c4 c5
  go_loop [3, 18] (fun x i => ∃ k : Nat, k ≤ 5 ∧ x = .int .i64 (least h.n h.seat k) ∧ i = .int .i64 k) (fun _ i => 5 - (intOf i).toNat)
  case atStart => exact ⟨0, by omega, rfl, rfl⟩
  case round =>
    obtain ⟨k, hk, rfl, rfl⟩ := hrel
    by_cases hlt : k < 5
    · have i0 : (0 : Int) ≤ (k : Int) := by omega
      have i1 : (k : Int) < 5 := by omega
      have hk1 := hs k
      have HD := hide (fun D d (hd : st k = some (D, d)) => (unhide HZ).ded hlt hd)
      have hx0 := hAk k hlt
      have hls : least h.n h.seat (k + 1) = match h.seat k with | some d => if d.y < least h.n h.seat k then d.y else least h.n h.seat k | none => least h.n h.seat k := rfl
      have HLS := hide hls
      clear hls
      cases ho : st k with
      | none =>
        rw [ho] at hx0 hk1
        have hx := fun w => run_index5 w A k _ hlt hx0
        rw [show sp none = .pointer none from rfl] at hx
        have e1 : least h.n h.seat (k + 1) = least h.n h.seat k := by rw [unhide HLS, ← hk1]; rfl
        have E1 := hide e1
        clear e1 HLS hk1
        go_wp2_with fail
        exact ⟨⟨k + 1, by omega, by rw [unhide E1], by go_num⟩, by simp [intOf]; omega⟩
      | some xx =>
        obtain ⟨D, d⟩ := xx
        rw [ho] at hx0 hk1
        have hx := fun w => run_index5 w A k _ hlt hx0
        rw [show sp (some (D, d)) = .pointer (some ⟨D, 0, none⟩) from rfl] at hx
        have e1 : least h.n h.seat (k + 1) = if d.y < least h.n h.seat k then d.y else least h.n h.seat k := by rw [unhide HLS, ← hk1]; rfl
        have E1 := hide e1
        have HD1 := hide (unhide HD D d ho)
        clear e1 HLS hk1 HD
        generalize least h.n h.seat k = z at *
        go_wp2_with fail
        refine (dat71 _ (unhide HD1)).mono ?_
        rintro e w' ⟨rfl, hw'⟩
        subst w'
        by_cases hlt2 : d.y < z
        · rw [if_pos hlt2] at E1
          go_wp2_with fail
          exact ⟨⟨k + 1, by omega, by rw [unhide E1], by go_num⟩, by simp [intOf]; omega⟩
        · rw [if_neg hlt2] at E1
          go_wp2_with fail
          exact ⟨⟨k + 1, by omega, by rw [unhide E1], by go_num⟩, by simp [intOf]; omega⟩
    · have e : k = 5 := by omega
      subst e
      go_wp2
      go_ret
      exact ⟨rfl, rfl⟩
end
set_option maxHeartbeats 1000000 in
theorem h_new (w : World) : Calls Try.prog 12 #[] w fun e w' => ∃ hb, e = .returned (.pointer (some ⟨hb, 0, none⟩)) ∧ ∃ F, (HalT hb ⟨fun _ => [dv], 0, [], fun _ => none⟩).holds w.heap.size w' F ∧ Kp [] w w' := by
  go_enter Try.func12, Try.ntmps12
  go_wp2_with fail
  refine (vnew w).mono ?_
  rintro e w1 ⟨vb, tb, gb, F, rfl, h1, k1⟩
  go_wp2_with fail
  go_ret
  have hz0 : Zoo w w1 [VltT vb tb gb (fun _ => [dv]) 0 [] []] := (zoo_nil (Kp.refl [] w)).cons h1 k1
  have hz1 := opt_none (opt_none (opt_none (opt_none (opt_none (hz0.box (hcells vb (fun _ => none)) 43)))))
  have hz2 : Hall w _ w1.heap.size vb tb gb ⟨fun _ => [dv], 0, [], fun _ => none⟩ (fun _ => none) [] := hz1.perm ((List.perm_append_comm (l₁ := seats (fun _ => none)) (l₂ := [BoxT w1.heap.size (hcells vb (fun _ => none)) 43, VltT vb tb gb (fun _ => [dv]) 0 [] []])).append_right [])
  have hz3 := hal_close (fun _ => rfl) hinv_new hz2
  obtain ⟨F', h5, _⟩ := zoo_at0 hz3
  exact ⟨_, rfl, F', h5, hz3.kp⟩
end Go.Proofs.Ytehhpmfeaeabgac

/- A row of pairs as a thing; the calls of a seat's deed, in a hall. -/
namespace Go.Proofs.Ytehhpmfeaeabgac
open Go.RowKit
set_option maxRecDepth 20000

/-- A row of pairs of one's own. -/
def PsT (a : Option Addr) (cap : Nat) (L : List Ver) : Thing where
  holds B w F := w.ownsRow B 79 3 (.slice a L.length cap) L.length (vcells L) ∧ F = ob a
  kp := fun ⟨h1, h2⟩ hk hS => ⟨own_kp h1 hk (fun g hg => hS g (by
    rw [h2]
    cases a with
    | none => simp [Value.ownBlock] at hg
    | some ad => simp [Value.ownBlock] at hg; simp [ob, hg])), h2⟩
  lo := fun ⟨h1, h2⟩ x hx => by
    rw [h2] at hx
    rcases h1.2 with ⟨hn, _⟩ | ⟨g, cap', cur, hv, h3, h4, h5⟩
    · simp only [Value.slice.injEq] at hn
      rw [hn.1] at hx
      simp [ob] at hx
    · simp only [Value.slice.injEq] at hv
      rw [hv.1] at hx
      simp [ob] at hx
      subst hx
      exact ⟨h3, lt_of_block h4⟩
  base := fun ⟨h1, h2⟩ hC => ⟨own_base h1 hC, h2⟩
theorem ps_nil {w0 w : World} {r : List Thing} (hz : Zoo w0 w r) : Zoo w0 w (PsT none 0 [] :: r) := by
  obtain ⟨X, h1, hk⟩ := hz
  exact ⟨X, ⟨[], X, ⟨World.ownsRow_nil _ _ _ _, rfl⟩, h1, fun _ hx => by simp at hx, rfl⟩, hk⟩

section
variable {w0 w : World} {vb tb gb : Nat} {f : Nat → List Ver} {n : Nat} {cs : List (List Ver)} {r : List Thing} {D : Nat} {md y : Int} {rs : List Int} {ws : List Ver}
theorem l_list (fr to_ : Int) (hz : Zoo w0 w (VltT vb tb gb f n cs [] :: BoxT D (dcells md y (ncell rs ws)) 106 :: r)) :
    Calls Try.prog 77 #[.pointer (some ⟨D, 0, none⟩), .pointer (some ⟨tb, 0, none⟩), .int .i64 fr, .int .i64 to_] w fun e w' => ∃ a cap, e = .returned (.tuple #[.slice a (dls f n y ws rs fr to_).1.length cap, .int .i64 (dls f n y ws rs fr to_).2.1]) ∧ Hid (Zoo w0 w' (VltT vb tb gb f n cs [] :: BoxT D (dcells md y (ncell (dls f n y ws rs fr to_).2.2 ws)) 106 :: PsT a cap (dls f n y ws rs fr to_).1 :: r)) := by
  have hz' := hz
  obtain ⟨X, ⟨Fv, Y, ⟨Ft, Fg, k1⟩, ⟨F, Z, ⟨h1, h2, h3⟩, _, _, e2⟩, hd, _⟩, _⟩ := hz'
  have hF : D ∉ Ft := fun hm => hd D (k1.tF D hm) (by rw [e2, h2]; simp)
  obtain ⟨F, ⟨h1, h2, h3⟩, k2⟩ := zoo_at1 hz
  refine (dlist59 fr to_ w k1.t h1 hF).mono ?_
  rintro e w' ⟨a, cap, rfl, ho, hd2, hk⟩
  refine ⟨a, cap, rfl, ?_⟩
  have hB : w0.heap.size ≤ w.heap.size := hz.kp.size
  have hlo : ∀ x ∈ ob a, w.heap.size ≤ x := fun x hx => by
    cases a with
    | none => simp [ob] at hx
    | some ad =>
      simp only [ob, List.mem_singleton] at hx
      subst hx
      exact own_ge ho rfl
  have h5 := k2 (ManyT [BoxT D (dcells md y (ncell (dls f n y ws rs fr to_).2.2 ws)) 106, PsT a cap (dls f n y ws rs fr to_).1]) w' ⟨F ++ (ob a ++ []), ⟨F, ob a ++ [], ⟨hd2, h2, h3⟩, ⟨ob a, [], ⟨own_base ho hB, rfl⟩, rfl, fun _ _ hy => by simp at hy, rfl⟩, fun x hx hy => ?_, rfl⟩, by rw [h2]; exact hk, fun x hx => ?_⟩
  · have h6 := h5.perm (List.Perm.swap _ _ _)
    have h7 := many_open h6
    exact h7.perm (List.perm_middle (l₁ := [BoxT D (dcells md y (ncell (dls f n y ws rs fr to_).2.2 ws)) 106, PsT a cap (dls f n y ws rs fr to_).1]))
  · rw [List.append_nil] at hy
    have := hlo x hy
    rw [h2] at hx
    rw [List.mem_singleton.1 hx] at this
    have := lt_of_block h1
    omega
  · rcases List.mem_append.1 hx with q | q
    · exact .inl q
    · rw [List.append_nil] at q
      exact .inr (hlo x q)
end

section
variable {w0 w : World} {hb vb tb gb : Nat} {h : HSt} {st : Nat → Sd} {r : List Thing} {s D : Nat} {d : Dp}
theorem h_get (k : Int) (hs : s < 5) (hd : st s = some (D, d)) (hz : Hall w0 w hb vb tb gb h st r) :
    Calls Try.prog 75 #[.pointer (some ⟨D, 0, none⟩), .pointer (some ⟨tb, 0, none⟩), .int .i64 k] w fun e w' => e = .returned (.tuple #[.agg #[.bool (dg h.f h.n d.y d.ws k).t, .string (dg h.f h.n d.y d.ws k).s], .int .i64 (dg h.f h.n d.y d.ws k).a]) ∧ Hid (Hall w0 w' hb vb tb gb h (upd st s (some (D, { d with rs := dr h.f h.n d.y d.rs d.ws k }))) r) := by
  obtain ⟨rest, h1, h2⟩ := hz.out hs
  rw [hd] at h1 h2
  refine (l_get k h1).mono ?_
  rintro e w' ⟨rfl, HZ⟩
  exact ⟨rfl, h2 w' tb h.f h.n h.cs (some (D, { d with rs := dr h.f h.n d.y d.rs d.ws k })) h.seat rfl (unhide HZ)⟩
theorem h_put (k : Int) (t : Bool) (b : ByteArray) (hsz : b.size ≤ maxLen) (hs : s < 5) (hd : st s = some (D, d)) (hz : Hall w0 w hb vb tb gb h st r) :
    Calls Try.prog 76 #[.pointer (some ⟨D, 0, none⟩), .int .i64 k, .agg #[.bool t, .string b]] w fun e w' => e = .returned (.int .i64 (dpc d.md k t b)) ∧ Hid (Hall w0 w' hb vb tb gb h (upd st s (some (D, { d with ws := dpw d.md d.ws k t b }))) r) := by
  obtain ⟨rest, h1, h2⟩ := hz.out hs
  rw [hd] at h1 h2
  refine (b_put1 k t b hsz h1).mono ?_
  rintro e w' ⟨rfl, HZ⟩
  exact ⟨rfl, h2 w' tb h.f h.n h.cs (some (D, { d with ws := dpw d.md d.ws k t b })) h.seat rfl (unhide HZ)⟩
theorem h_list (fr to_ : Int) (hs : s < 5) (hd : st s = some (D, d)) (hz : Hall w0 w hb vb tb gb h st r) :
    Calls Try.prog 77 #[.pointer (some ⟨D, 0, none⟩), .pointer (some ⟨tb, 0, none⟩), .int .i64 fr, .int .i64 to_] w fun e w' => ∃ a cap, e = .returned (.tuple #[.slice a (dls h.f h.n d.y d.ws d.rs fr to_).1.length cap, .int .i64 (dls h.f h.n d.y d.ws d.rs fr to_).2.1]) ∧ Hid (Hall w0 w' hb vb tb gb h (upd st s (some (D, { d with rs := (dls h.f h.n d.y d.ws d.rs fr to_).2.2 }))) (PsT a cap (dls h.f h.n d.y d.ws d.rs fr to_).1 :: r)) := by
  obtain ⟨rest, h1, h2⟩ := hz.out2 hs
  rw [hd] at h1 h2
  refine (l_list fr to_ h1).mono ?_
  rintro e w' ⟨a, cap, rfl, HZ⟩
  exact ⟨a, cap, rfl, h2 w' tb h.f h.n h.cs (some (D, { d with rs := (dls h.f h.n d.y d.ws d.rs fr to_).2.2 })) (PsT a cap (dls h.f h.n d.y d.ws d.rs fr to_).1) h.seat rfl (unhide HZ)⟩
theorem Hall.dedr (hz : Hall w0 w hb vb tb gb h st r) (hm : OptT (some (D, d)) ∈ r) : Ded w D d.md d.y d.rs d.ws := zoo_varm (p := D) hz (List.Mem.tail _ (List.Mem.tail _ (List.mem_append_right _ hm)))
theorem h_commit (hi : HInv h) (hw : WOk d.ws) (hm : OptT (some (D, d)) ∈ r) (hz : Hall w0 w hb vb tb gb h st r) :
    Calls Try.prog 78 #[.pointer (some ⟨vb, 0, none⟩), .pointer (some ⟨D, 0, none⟩)] w fun e w' => e = .returned (.tuple #[.int .i64 (vnum h.f h.n h.cs d.md d.y d.rs d.ws), .int .i64 (vcode h.f h.cs d.md d.y d.rs d.ws)]) ∧ Hid (Hall w0 w' hb vb tb gb ⟨vf h.f h.n h.cs d.md d.y d.rs d.ws, vn h.f h.n h.cs d.md d.y d.rs d.ws, vcs h.f h.cs d.md d.y d.rs d.ws, h.seat⟩ st r) := by
  refine (b_commit hi.vi (hz.dedr hm) hw hz.vlt).mono ?_
  rintro e w' ⟨rfl, HZ⟩
  exact ⟨rfl, Hall.of_vlt (unhide HZ)⟩
theorem h_tear (keep : Int) (hi : HInv h) (hw : WOk d.ws) (hm : OptT (some (D, d)) ∈ r) (hz : Hall w0 w hb vb tb gb h st r) :
    Calls Try.prog 79 #[.pointer (some ⟨vb, 0, none⟩), .pointer (some ⟨D, 0, none⟩), .int .i64 keep] w fun e w' => e = .returned (.tuple #[.int .i64 (tnum h.f h.cs d.md d.y d.rs d.ws keep), .int .i64 (vcode h.f h.cs d.md d.y d.rs d.ws)]) ∧ ∃ tb', Hid (Hall w0 w' hb vb tb' gb ⟨wal0 (tcs h.f h.cs d.md d.y d.rs d.ws keep), (tcs h.f h.cs d.md d.y d.rs d.ws keep).length, tcs h.f h.cs d.md d.y d.rs d.ws keep, h.seat⟩ st r) := by
  refine (b_tear keep hi.vi (hz.dedr hm) hw hz.vlt).mono ?_
  rintro e w' ⟨rfl, tb', HZ⟩
  exact ⟨rfl, tb', Hall.of_vlt (unhide HZ)⟩
theorem h_crash (hz : Hall w0 w hb vb tb gb h st r) :
    Calls Try.prog 43 #[.pointer (some ⟨vb, 0, none⟩)] w fun e w' => e = .returned (.tuple #[]) ∧ ∃ tb', Hid (Hall w0 w' hb vb tb' gb ⟨wal0 h.cs, h.cs.length, h.cs, h.seat⟩ st r) := by
  refine (b_crash hz.vlt).mono ?_
  rintro e w' ⟨rfl, tb', _, HZ⟩
  exact ⟨rfl, tb', Hall.of_vlt (unhide HZ)⟩
theorem h_clear (y : Int) (hz : Hall w0 w hb vb tb gb h st r) :
    Calls Try.prog 42 #[.pointer (some ⟨tb, 0, none⟩), .int .i64 y] w fun e w' => e = .returned (.int .i64 (cln h.f y 8 : Nat)) ∧ Hid (Hall w0 w' hb vb tb gb ⟨clm h.f y 8, h.n, h.cs, h.seat⟩ st r) := by
  obtain ⟨F, ⟨Ft, Fg, k⟩, k2⟩ := zoo_at0 hz.vlt
  refine (tclear46 y w k.t).mono ?_
  rintro e w' ⟨rfl, F', h1, h2, h3⟩
  exact ⟨rfl, Hall.of_vlt (k2 _ _ (k.table h1 h2 h3))⟩
theorem h_last (hz : Hall w0 w hb vb tb gb h st r) : Calls Try.prog 17 #[.pointer (some ⟨tb, 0, none⟩)] w fun e w' => e = .returned (.int .i64 h.n) ∧ w' = w := l_last hz.vlt
theorem h_first (hz : Hall w0 w hb vb tb gb h st r) : Calls Try.prog 18 #[.pointer (some ⟨tb, 0, none⟩)] w fun e w' => e = .returned (.int .i64 (fmx h.f 8)) ∧ w' = w := l_first hz.vlt
theorem h_sheet {y : Int} (hk : ShK h.f h.n y 8) (v : Nat → Ver) (hv : wagg (shw h.f h.n y 8) = wagg v) (hz : Hall w0 w hb vb tb gb h st r) :
    Calls Try.prog 34 #[.pointer (some ⟨tb, 0, none⟩), .int .i64 y] w fun e w' => e = .returned (.tuple #[.agg (wagg v), .bool true]) ∧ Hid (Hall w0 w' hb vb tb gb h st r) := by
  refine (l_sheet hk v hv hz.vlt).mono ?_
  rintro e w' ⟨rfl, HZ⟩
  exact ⟨rfl, zoo_swap (unhide HZ)⟩
end
end Go.Proofs.Ytehhpmfeaeabgac

/- Plain words for halls: first come. -/
namespace Go.Proofs.Ytehhpmfeaeabgac
open Go.RowKit
set_option maxRecDepth 20000

theorem snc_sfx {f g : Nat → List Ver} (h : Sfx f g) {k : Nat} (hk : k < 8) : snc f k = snc g k := by
  obtain ⟨d, h1, h2⟩ := h k hk
  unfold snc
  rw [Int.toNat_natCast, h2, va_last_drop h1]
theorem va_mem {ps : List Ver} {k : Int} (h : ∃ p ∈ ps, p.a = k) : ∃ i, i < ps.length ∧ va ps i = k := by
  obtain ⟨p, hp, e⟩ := h
  obtain ⟨i, hi, rfl⟩ := List.mem_iff_getElem.1 hp
  exact ⟨i, hi, by simp [va, List.getD_eq_getElem?_getD, List.getElem?_eq_getElem hi, e]⟩
/-- The last commit that wrote a key is no earlier than any that wrote it. -/
theorem snc_last {cs : List (List Ver)} (hl : LInv cs) {k : Nat} (hk : k < 8) : ∀ {i : Nat} {c : List Ver}, cs[i]? = some c → (∃ p ∈ c, p.a = (k : Int)) → (i : Int) + 1 ≤ snc (wal0 cs) k := by
  have key : ∀ m, m ≤ cs.length → ∀ {i : Nat} {c : List Ver}, i < m → cs[i]? = some c → (∃ p ∈ c, p.a = (k : Int)) → (i : Int) + 1 ≤ snc (wal0 (cs.take m)) k := by
    intro m
    induction m with
    | zero => intro _ i c hi; omega
    | succ m ih =>
      intro hm i c hi hc hp
      have hcm : cs[m]? = some cs[m] := List.getElem?_eq_getElem (by omega)
      have htk : cs.take (m + 1) = cs.take m ++ [cs[m]] := by rw [List.take_add_one, hcm]; rfl
      have hlt : LInv (cs.take m) := hl.take m
      have hlen : (cs.take m).length = m := by rw [List.length_take]; omega
      have hiv := inv_wal0 hlt
      rw [hlen] at hiv
      obtain ⟨w1, w2⟩ := wcode_ok (n := m) (hl.pf cs[m] (List.getElem_mem (by omega))) (by have := hl.n40; omega)
      rw [htk, wal0_snoc, hlen, snc_write hiv w1 hk]
      by_cases q : ∃ p ∈ cs[m], p.a = (k : Int)
      · obtain ⟨j, hj, ej⟩ := va_mem q
        rw [sj_yes ej _ hj]; omega
      · have hne : i ≠ m := fun e => by
          subst e
          rw [hcm] at hc
          cases hc
          exact q hp
        rw [sj_no _ (fun j hj e => q ⟨cs[m][j], List.getElem_mem hj, by simpa [va, List.getD_eq_getElem?_getD, List.getElem?_eq_getElem hj] using e⟩)]
        exact ih (by omega) (by omega) hc hp
  intro i c hc hp
  have hi := (List.getElem?_eq_some_iff.1 hc).1
  have := key cs.length (Nat.le_refl _) hi hc hp
  rwa [List.take_length] at this
/-- Of two deeds that were done and wrote the same key one began behind the other one's commit. -/
theorem first_come {h : HSt} (hi : HInv h) {md y : Int} {rs : List Int} {ws : List Ver} (hd : dm h.f md y rs ws = 0) {i : Nat} {c : List Ver} (hc : h.cs[i]? = some c) (hy : y < (i : Int) + 1) {k : Nat} (hk : k < 8) (hw : (lwr ws k).isSome = true) : ¬ ∃ p ∈ c, p.a = (k : Int) := by
  intro hp
  have h1 := snc_last hi.li hk hc hp
  rw [← snc_sfx hi.vi.sfx hk] at h1
  have hcl : cls h.f y ws 8 = true := by
    have : cls h.f y ws (k + 1) = true := by
      cases hl : lwr ws k with
      | none => rw [hl] at hw; cases hw
      | some v => exact cls_yes hl (by omega)
    exact cls_mono this 8 (by omega)
  unfold dm at hd
  rw [if_pos hcl] at hd
  simp at hd
end Go.Proofs.Ytehhpmfeaeabgac

/- Plain words for halls: to forget changes nothing that is seen. -/
namespace Go.Proofs.Ytehhpmfeaeabgac
open Go.RowKit
set_option maxRecDepth 20000

section
variable {f g : Nat → List Ver} {n : Nat} {y : Int} {ws : List Ver}
theorem sfx_fmx (h : Sfx f g) (hg : Inv g n) : fmx g 8 ≤ fmx f 8 := by
  have hf0 : (0 : Int) ≤ fmx f 8 := by
    have : ∀ m, (0 : Int) ≤ fmx f m := by
      intro m
      induction m with
      | zero => exact Int.le_refl _
      | succ m ih => simp only [fmx]; split <;> omega
    exact this 8
  refine fmx_bound hf0 8 (fun k hk => ?_)
  obtain ⟨d, h1, h2⟩ := h k hk
  have h3 := fmx_ge f 8 k hk
  rw [h2, va_drop, Nat.add_zero] at h3
  have h4 := (hg.rise k hk).le (Nat.zero_le d) h1
  omega
theorem dg_sfx (h : Sfx f g) (hg : Inv g n) (hy : fmx f 8 ≤ y) (k : Int) : dg f n y ws k = dg g n y ws k := by
  unfold dg
  rw [h.read hg k y hy]
theorem dr_sfx (h : Sfx f g) (hg : Inv g n) (hy : fmx f 8 ≤ y) (rs : List Int) (k : Int) : dr f n y rs ws k = dr g n y rs ws k := by
  unfold dr
  rw [h.read hg k y hy]
theorem dgo_sfx (h : Sfx f g) (hg : Inv g n) (hy : fmx f 8 ≤ y) : ∀ (m k : Nat) (acc : List Ver) (rs : List Int), dgo f n y ws k m acc rs = dgo g n y ws k m acc rs := by
  intro m
  induction m with
  | zero => intro k acc rs; rfl
  | succ m ih =>
    intro k acc rs
    simp only [dgo]
    rw [dg_sfx h hg hy, dr_sfx h hg hy, ih, ih]
theorem dls_sfx (h : Sfx f g) (hg : Inv g n) (hy : fmx f 8 ≤ y) (rs : List Int) (a b : Int) : dls f n y ws rs a b = dls g n y ws rs a b := by
  unfold dls
  rw [dgo_sfx h hg hy]
theorem cls_sfx (h : Sfx f g) : ∀ m, m ≤ 8 → cls f y ws m = cls g y ws m := by
  intro m
  induction m with
  | zero => intro _; rfl
  | succ m ih => intro hm; simp only [cls]; rw [snc_sfx h (by omega), ih (by omega)]
theorem stl_sfx (h : Sfx f g) (rs : List Int) : ∀ m, m ≤ 8 → stl f y rs m = stl g y rs m := by
  intro m
  induction m with
  | zero => intro _; rfl
  | succ m ih => intro hm; simp only [stl]; rw [snc_sfx h (by omega), ih (by omega)]
theorem dm_sfx (h : Sfx f g) (md : Int) (rs : List Int) : dm f md y rs ws = dm g md y rs ws := by
  unfold dm
  rw [cls_sfx h 8 (Nat.le_refl _), stl_sfx h rs 8 (Nat.le_refl _)]
theorem v_sfx (h : Sfx f g) (cs : List (List Ver)) (md : Int) (rs : List Int) : vcode f cs md y rs ws = vcode g cs md y rs ws ∧ vdone f cs md y rs ws = vdone g cs md y rs ws := by
  unfold vcode vdone
  rw [dm_sfx h]
  exact ⟨rfl, rfl⟩
theorem vs_sfx (h : Sfx f g) (cs : List (List Ver)) (md : Int) (rs : List Int) : vnum f n cs md y rs ws = vnum g n cs md y rs ws ∧ vn f n cs md y rs ws = vn g n cs md y rs ws ∧ vcs f cs md y rs ws = vcs g cs md y rs ws ∧ Sfx (vf f n cs md y rs ws) (vf g n cs md y rs ws) := by
  unfold vnum vn vcs vf
  rw [(v_sfx h cs md rs).2]
  refine ⟨rfl, rfl, rfl, ?_⟩
  split
  · exact h.write n _
  · exact h
theorem t_sfx (h : Sfx f g) (cs : List (List Ver)) (md : Int) (rs : List Int) (keep : Int) : tcs f cs md y rs ws keep = tcs g cs md y rs ws keep ∧ tnum f cs md y rs ws keep = tnum g cs md y rs ws keep := by
  unfold tnum tcs
  rw [dm_sfx h]
  exact ⟨rfl, rfl⟩
end

/-- Two halls, of which one forgot more. -/
structure HRel (h g : HSt) : Prop where
  hi : HInv h
  gi : HInv g
  sfx : Sfx h.f g.f
  n : h.n = g.n
  cs : h.cs = g.cs
  seat : h.seat = g.seat
theorem HRel.clear {h g : HSt} (r : HRel h g) {x : HStep} (hx : x.d = 8) : HRel (hdo h x) g := by
  have hi := r.hi.step x
  have e : hdo h x = { h with f := clm h.f (least h.n h.seat 5) 8 } := by
    have n0 : ¬ (x.d < 1 ∨ 10 < x.d) := by omega
    unfold hdo
    rw [if_neg n0, if_pos hx]
  rw [e] at hi ⊢
  exact ⟨hi, r.gi, r.sfx.clear _ r.hi.inv, r.n, r.cs, r.seat⟩
theorem HKind.eq {h : HSt} {x : HStep} {h' : HSt} {e : Ev} (k : HKind h x h' e) : hdo h x = h' ∧ hev h x = e := by
  unfold hdo hev
  cases k with
  | kind c => rw [if_pos c, if_pos c]; exact ⟨rfl, rfl⟩
  | clear c =>
    have n0 : ¬ (x.d < 1 ∨ 10 < x.d) := by omega
    rw [if_neg n0, if_neg n0, if_pos c, if_pos c]; exact ⟨rfl, rfl⟩
  | crash c =>
    have n0 : ¬ (x.d < 1 ∨ 10 < x.d) := by omega
    have n8 : ¬ x.d = 8 := by omega
    rw [if_neg n0, if_neg n0, if_neg n8, if_neg n8, if_pos c, if_pos c]; exact ⟨rfl, rfl⟩
  | range c1 c2 =>
    have n0 : ¬ (x.d < 1 ∨ 10 < x.d) := by omega
    have n8 : ¬ x.d = 8 := by omega
    have n9 : ¬ x.d = 9 := by omega
    rw [if_neg n0, if_neg n0, if_neg n8, if_neg n8, if_neg n9, if_neg n9, if_pos c2, if_pos c2]; exact ⟨rfl, rfl⟩
  | began c1 c2 c3 c4 =>
    have n0 : ¬ (x.d < 1 ∨ 10 < x.d) := by omega
    have n8 : ¬ x.d = 8 := by omega
    have n9 : ¬ x.d = 9 := by omega
    have hns : ¬ ¬ (0 ≤ x.s ∧ x.s < 5) := fun q => q c2
    rw [if_neg n0, if_neg n0, if_neg n8, if_neg n8, if_neg n9, if_neg n9, if_neg hns, if_neg hns, c3]
    dsimp only
    rw [if_pos ⟨c1, c4⟩, if_pos c1, c4]; exact ⟨rfl, rfl⟩
  | beganNot c1 c2 c3 c4 =>
    have n0 : ¬ (x.d < 1 ∨ 10 < x.d) := by omega
    have n8 : ¬ x.d = 8 := by omega
    have n9 : ¬ x.d = 9 := by omega
    have hns : ¬ ¬ (0 ≤ x.s ∧ x.s < 5) := fun q => q c2
    rw [if_neg n0, if_neg n0, if_neg n8, if_neg n8, if_neg n9, if_neg n9, if_neg hns, if_neg hns, c3]
    dsimp only
    have hq : ¬ (x.d = 1 ∧ bcode h.f h.n x.md x.at_ = 0) := fun q => c4 q.2
    rw [if_neg hq, if_pos c1]; exact ⟨rfl, rfl⟩
  | none_ c1 c2 c3 =>
    have n0 : ¬ (x.d < 1 ∨ 10 < x.d) := by omega
    have n8 : ¬ x.d = 8 := by omega
    have n9 : ¬ x.d = 9 := by omega
    have hns : ¬ ¬ (0 ≤ x.s ∧ x.s < 5) := fun q => q c2
    have hn1 : ¬ x.d = 1 := by omega
    rw [if_neg n0, if_neg n0, if_neg n8, if_neg n8, if_neg n9, if_neg n9, if_neg hns, if_neg hns, c3]
    dsimp only
    have hq : ¬ (x.d = 1 ∧ bcode h.f h.n x.md x.at_ = 0) := fun q => hn1 q.1
    rw [if_neg hq, if_neg hn1]; exact ⟨rfl, rfl⟩
  | there d c1 c2 c3 =>
    have n0 : ¬ (x.d < 1 ∨ 10 < x.d) := by omega
    have n8 : ¬ x.d = 8 := by omega
    have n9 : ¬ x.d = 9 := by omega
    have hns : ¬ ¬ (0 ≤ x.s ∧ x.s < 5) := fun q => q c2
    rw [if_neg n0, if_neg n0, if_neg n8, if_neg n8, if_neg n9, if_neg n9, if_neg hns, if_neg hns, c3]
    dsimp only
    rw [if_pos c1, if_pos c1]; exact ⟨rfl, rfl⟩
  | get d c1 c2 c3 =>
    have n0 : ¬ (x.d < 1 ∨ 10 < x.d) := by omega
    have n8 : ¬ x.d = 8 := by omega
    have n9 : ¬ x.d = 9 := by omega
    have hns : ¬ ¬ (0 ≤ x.s ∧ x.s < 5) := fun q => q c2
    have m1 : ¬ x.d = 1 := by omega
    rw [if_neg n0, if_neg n0, if_neg n8, if_neg n8, if_neg n9, if_neg n9, if_neg hns, if_neg hns, c3]
    dsimp only
    rw [if_neg m1, if_neg m1, if_pos c1, if_pos c1]; exact ⟨rfl, rfl⟩
  | put d c1 c2 c3 =>
    have n0 : ¬ (x.d < 1 ∨ 10 < x.d) := by omega
    have n8 : ¬ x.d = 8 := by omega
    have n9 : ¬ x.d = 9 := by omega
    have hns : ¬ ¬ (0 ≤ x.s ∧ x.s < 5) := fun q => q c2
    have m1 : ¬ x.d = 1 := by omega
    have m2 : ¬ x.d = 2 := by omega
    rw [if_neg n0, if_neg n0, if_neg n8, if_neg n8, if_neg n9, if_neg n9, if_neg hns, if_neg hns, c3]
    dsimp only
    rw [if_neg m1, if_neg m1, if_neg m2, if_neg m2, if_pos c1, if_pos c1]; exact ⟨rfl, rfl⟩
  | drop d c1 c2 c3 =>
    have n0 : ¬ (x.d < 1 ∨ 10 < x.d) := by omega
    have n8 : ¬ x.d = 8 := by omega
    have n9 : ¬ x.d = 9 := by omega
    have hns : ¬ ¬ (0 ≤ x.s ∧ x.s < 5) := fun q => q c2
    have m1 : ¬ x.d = 1 := by omega
    have m2 : ¬ x.d = 2 := by omega
    have m3 : ¬ x.d = 3 := by omega
    rw [if_neg n0, if_neg n0, if_neg n8, if_neg n8, if_neg n9, if_neg n9, if_neg hns, if_neg hns, c3]
    dsimp only
    rw [if_neg m1, if_neg m1, if_neg m2, if_neg m2, if_neg m3, if_neg m3, if_pos c1, if_pos c1]; exact ⟨rfl, rfl⟩
  | list d c1 c2 c3 =>
    have n0 : ¬ (x.d < 1 ∨ 10 < x.d) := by omega
    have n8 : ¬ x.d = 8 := by omega
    have n9 : ¬ x.d = 9 := by omega
    have hns : ¬ ¬ (0 ≤ x.s ∧ x.s < 5) := fun q => q c2
    have m1 : ¬ x.d = 1 := by omega
    have m2 : ¬ x.d = 2 := by omega
    have m3 : ¬ x.d = 3 := by omega
    have m4 : ¬ x.d = 4 := by omega
    rw [if_neg n0, if_neg n0, if_neg n8, if_neg n8, if_neg n9, if_neg n9, if_neg hns, if_neg hns, c3]
    dsimp only
    rw [if_neg m1, if_neg m1, if_neg m2, if_neg m2, if_neg m3, if_neg m3, if_neg m4, if_neg m4, if_pos c1, if_pos c1]; exact ⟨rfl, rfl⟩
  | commit d c1 c2 c3 =>
    have n0 : ¬ (x.d < 1 ∨ 10 < x.d) := by omega
    have n8 : ¬ x.d = 8 := by omega
    have n9 : ¬ x.d = 9 := by omega
    have hns : ¬ ¬ (0 ≤ x.s ∧ x.s < 5) := fun q => q c2
    have m1 : ¬ x.d = 1 := by omega
    have m2 : ¬ x.d = 2 := by omega
    have m3 : ¬ x.d = 3 := by omega
    have m4 : ¬ x.d = 4 := by omega
    have m5 : ¬ x.d = 5 := by omega
    rw [if_neg n0, if_neg n0, if_neg n8, if_neg n8, if_neg n9, if_neg n9, if_neg hns, if_neg hns, c3]
    dsimp only
    rw [if_neg m1, if_neg m1, if_neg m2, if_neg m2, if_neg m3, if_neg m3, if_neg m4, if_neg m4, if_neg m5, if_neg m5, if_pos c1, if_pos c1]; exact ⟨rfl, rfl⟩
  | tear d c1 c2 c3 =>
    have n0 : ¬ (x.d < 1 ∨ 10 < x.d) := by omega
    have n8 : ¬ x.d = 8 := by omega
    have n9 : ¬ x.d = 9 := by omega
    have hns : ¬ ¬ (0 ≤ x.s ∧ x.s < 5) := fun q => q c2
    have m1 : ¬ x.d = 1 := by omega
    have m2 : ¬ x.d = 2 := by omega
    have m3 : ¬ x.d = 3 := by omega
    have m4 : ¬ x.d = 4 := by omega
    have m5 : ¬ x.d = 5 := by omega
    have m6 : ¬ x.d = 6 := by omega
    rw [if_neg n0, if_neg n0, if_neg n8, if_neg n8, if_neg n9, if_neg n9, if_neg hns, if_neg hns, c3]
    dsimp only
    rw [if_neg m1, if_neg m1, if_neg m2, if_neg m2, if_neg m3, if_neg m3, if_neg m4, if_neg m4, if_neg m5, if_neg m5, if_neg m6, if_neg m6, if_pos c1, if_pos c1]; exact ⟨rfl, rfl⟩
  | abort d c1 c2 c3 =>
    have n0 : ¬ (x.d < 1 ∨ 10 < x.d) := by omega
    have n8 : ¬ x.d = 8 := by omega
    have n9 : ¬ x.d = 9 := by omega
    have hns : ¬ ¬ (0 ≤ x.s ∧ x.s < 5) := fun q => q c2
    have m1 : ¬ x.d = 1 := by omega
    have m2 : ¬ x.d = 2 := by omega
    have m3 : ¬ x.d = 3 := by omega
    have m4 : ¬ x.d = 4 := by omega
    have m5 : ¬ x.d = 5 := by omega
    have m6 : ¬ x.d = 6 := by omega
    have m10 : ¬ x.d = 10 := by omega
    rw [if_neg n0, if_neg n0, if_neg n8, if_neg n8, if_neg n9, if_neg n9, if_neg hns, if_neg hns, c3]
    dsimp only
    rw [if_neg m1, if_neg m1, if_neg m2, if_neg m2, if_neg m3, if_neg m3, if_neg m4, if_neg m4, if_neg m5, if_neg m5, if_neg m6, if_neg m6, if_neg m10, if_neg m10]; exact ⟨rfl, rfl⟩
/-- The same step: the same is told, but of what is forgotten. -/
theorem HRel.step {h g : HSt} (r : HRel h g) (x : HStep) (hx : x.d ≠ 8) (ho : (hev h x).c ≠ 12) : hev h x = hev g x ∧ HRel (hdo h x) (hdo g x) := by
  have hi' := r.hi.step x
  have gi' := r.gi.step x
  obtain ⟨f, n, cs, seat⟩ := h
  obtain ⟨f2, n2, cs2, seat2⟩ := g
  obtain ⟨hi, gi, sfx, e1, e2, e3⟩ := r
  dsimp only at e1 e2 e3 sfx
  subst e1 e2 e3
  have known := hi.known
  have ginv := gi.inv
  dsimp only at known ginv
  have hk := hkind ⟨f, n, cs, seat⟩ x
  generalize hdo ⟨f, n, cs, seat⟩ x = h2 at *
  generalize hev ⟨f, n, cs, seat⟩ x = e at *
  cases hk with
  | kind c =>
    obtain ⟨q1, q2⟩ := (HKind.kind (h := ⟨f2, n, cs, seat⟩) (x := x) c).eq
    rw [q1, q2]; exact ⟨rfl, hi, gi, sfx, rfl, rfl, rfl⟩
  | clear c => exact absurd c hx
  | crash c =>
    obtain ⟨q1, q2⟩ := (HKind.crash (h := ⟨f2, n, cs, seat⟩) (x := x) c).eq
    rw [q1] at gi'
    rw [q1, q2]; exact ⟨rfl, hi', gi', sfx_refl hi'.inv, rfl, rfl, rfl⟩
  | range c1 c2 =>
    obtain ⟨q1, q2⟩ := (HKind.range (h := ⟨f2, n, cs, seat⟩) (x := x) c1 c2).eq
    rw [q1, q2]; exact ⟨rfl, hi, gi, sfx, rfl, rfl, rfl⟩
  | began c1 c2 c3 c4 =>
    have hm := sfx_fmx sfx ginv
    have c4' : bcode f2 n x.md x.at_ = 0 := by
      dsimp only at c4
      unfold bcode at c4 ⊢
      split
      · rename_i p1
        rw [if_pos p1] at c4
        split
        · rename_i p2
          rw [if_pos p2] at c4
          by_cases p3 : x.at_ < 0 ∨ (n : Int) < x.at_
          · rw [if_pos p3] at c4; simp at c4
          · rw [if_neg p3] at c4 ⊢
            by_cases p4 : x.at_ < fmx f 8
            · rw [if_pos p4] at c4; simp at c4
            · rw [if_neg (by omega)]
        · rfl
      · rename_i p1
        rw [if_neg p1] at c4; exact c4
    obtain ⟨q1, q2⟩ := (HKind.began (h := ⟨f2, n, cs, seat⟩) (x := x) c1 c2 c3 c4').eq
    rw [q1] at gi'
    rw [q1, q2]; exact ⟨rfl, hi', gi', sfx, rfl, rfl, rfl⟩
  | beganNot c1 c2 c3 c4 =>
    have hb : bcode f n x.md x.at_ = bcode f2 n x.md x.at_ := by
      dsimp only [evc] at ho
      unfold bcode at ho ⊢
      split
      · rename_i p1
        rw [if_pos p1] at ho
        split
        · rename_i p2
          rw [if_pos p2] at ho
          by_cases p3 : x.at_ < 0 ∨ (n : Int) < x.at_
          · rw [if_pos p3, if_pos p3]
          · rw [if_neg p3] at ho
            rw [if_neg p3, if_neg p3]
            by_cases p4 : x.at_ < fmx f 8
            · rw [if_pos p4] at ho; exact absurd rfl ho
            · have hm := sfx_fmx sfx ginv
              rw [if_neg p4, if_neg (by omega)]
        · rfl
      · rfl
    have c4' : ¬ bcode f2 n x.md x.at_ = 0 := fun q => c4 (hb.trans q)
    obtain ⟨q1, q2⟩ := (HKind.beganNot (h := ⟨f2, n, cs, seat⟩) (x := x) c1 c2 c3 c4').eq
    rw [q1, q2]; exact ⟨congrArg evc hb, hi, gi, sfx, rfl, rfl, rfl⟩
  | none_ c1 c2 c3 =>
    obtain ⟨q1, q2⟩ := (HKind.none_ (h := ⟨f2, n, cs, seat⟩) (x := x) c1 c2 c3).eq
    rw [q1, q2]; exact ⟨rfl, hi, gi, sfx, rfl, rfl, rfl⟩
  | there d c1 c2 c3 =>
    obtain ⟨q1, q2⟩ := (HKind.there (h := ⟨f2, n, cs, seat⟩) (x := x) d c1 c2 c3).eq
    rw [q1, q2]; exact ⟨rfl, hi, gi, sfx, rfl, rfl, rfl⟩
  | get d c1 c2 c3 =>
    obtain ⟨q1, q2⟩ := (HKind.get (h := ⟨f2, n, cs, seat⟩) (x := x) d c1 c2 c3).eq
    have hy := (known _ d c3).1
    rw [q1] at gi'
    rw [q1, q2]
    dsimp only
    rw [dg_sfx sfx ginv hy]
    refine ⟨rfl, hi', gi', sfx, rfl, rfl, ?_⟩
    dsimp only [sit]
    rw [dr_sfx sfx ginv hy]
  | put d c1 c2 c3 =>
    obtain ⟨q1, q2⟩ := (HKind.put (h := ⟨f2, n, cs, seat⟩) (x := x) d c1 c2 c3).eq
    rw [q1] at gi'
    rw [q1, q2]; exact ⟨rfl, hi', gi', sfx, rfl, rfl, rfl⟩
  | drop d c1 c2 c3 =>
    obtain ⟨q1, q2⟩ := (HKind.drop (h := ⟨f2, n, cs, seat⟩) (x := x) d c1 c2 c3).eq
    rw [q1] at gi'
    rw [q1, q2]; exact ⟨rfl, hi', gi', sfx, rfl, rfl, rfl⟩
  | list d c1 c2 c3 =>
    obtain ⟨q1, q2⟩ := (HKind.list (h := ⟨f2, n, cs, seat⟩) (x := x) d c1 c2 c3).eq
    have hy := (known _ d c3).1
    rw [q1] at gi'
    rw [q1, q2]
    dsimp only
    rw [dls_sfx sfx ginv hy]
    refine ⟨rfl, ?_, gi', sfx, rfl, rfl, rfl⟩
    dsimp only at hi'
    rw [dls_sfx sfx ginv hy] at hi'
    exact hi'
  | commit d c1 c2 c3 =>
    obtain ⟨q1, q2⟩ := (HKind.commit (h := ⟨f2, n, cs, seat⟩) (x := x) d c1 c2 c3).eq
    obtain ⟨v1, v2, v3, v4⟩ := vs_sfx (n := n) (y := d.y) (ws := d.ws) sfx cs d.md d.rs
    rw [q1] at gi'
    rw [q1, q2]
    dsimp only
    rw [(v_sfx sfx cs d.md d.rs).1, v1]
    exact ⟨rfl, hi', gi', v4, v2, v3, rfl⟩
  | tear d c1 c2 c3 =>
    obtain ⟨q1, q2⟩ := (HKind.tear (h := ⟨f2, n, cs, seat⟩) (x := x) d c1 c2 c3).eq
    obtain ⟨t1, t2⟩ := t_sfx (y := d.y) (ws := d.ws) sfx cs d.md d.rs x.keep
    rw [q1] at gi'
    rw [q1, q2]
    dsimp only at hi' ⊢
    rw [(v_sfx sfx cs d.md d.rs).1, t2]
    rw [t1] at hi' ⊢
    exact ⟨rfl, hi', gi', sfx_refl gi'.inv, rfl, rfl, rfl⟩
  | abort d c1 c2 c3 =>
    obtain ⟨q1, q2⟩ := (HKind.abort (h := ⟨f2, n, cs, seat⟩) (x := x) d c1 c2 c3).eq
    rw [q1] at gi'
    rw [q1, q2]; exact ⟨rfl, hi', gi', sfx, rfl, rfl, rfl⟩
theorem hrel_new : HRel ⟨fun _ => [dv], 0, [], fun _ => none⟩ ⟨fun _ => [dv], 0, [], fun _ => none⟩ := ⟨hinv_new, hinv_new, sfx_refl inv_dv, rfl, rfl, rfl⟩
end Go.Proofs.Ytehhpmfeaeabgac

/- A hall's begin, by its contract. -/
namespace Go.Proofs.Ytehhpmfeaeabgac
open Go.RowKit
set_option maxRecDepth 20000
attribute [local go_sem ↓] Go.wp_at_zero Go.wp_at_succ

def xcs (x : HStep) : Array Value := #[.int .i64 x.d, .int .i64 x.s, .int .i64 x.md, .int .i64 x.at_, .int .i64 x.key, .int .i64 x.to_, .int .i64 x.keep, .string x.b]
def ecl (v : Ev) (a : Option Addr) (cap : Nat) : Array Value := #[.int .i64 v.c, .int .i64 v.n, .bool v.t, .string v.s, .slice a v.l.length cap]
theorem Sts.put {st : Nat → Sd} {seat : Nat → Option Dp} (h : Sts st seat) (s : Nat) (d : Sd) : Sts (upd st s d) (upd seat s (d.map Prod.snd)) := fun j => by
  simp only [upd]
  split
  · rfl
  · exact h j
theorem upd_id {α : Type} {g : Nat → α} {k : Nat} {v : α} (h : g k = v) : upd g k v = g := by
  funext j
  unfold upd
  split
  · rename_i e; rw [e, h]
  · rfl
section
variable {w0 w : World} {hb vb tb gb : Nat} {h : HSt} {st : Nat → Sd} {r : List Thing}
theorem Hall.as {h' : HSt} (hz : Hall w0 w hb vb tb gb h st r) (e1 : h'.f = h.f) (e2 : h'.n = h.n) (e3 : h'.cs = h.cs) : Hall w0 w hb vb tb gb h' st r := by
  unfold Hall at hz ⊢
  rw [e1, e2, e3]
  exact hz
theorem h_vbegin {md at_ : Int} (hb0 : bcode h.f h.n md at_ = 0) (hz : Hall w0 w hb vb tb gb h st r) :
    Calls Try.prog 73 #[.pointer (some ⟨vb, 0, none⟩), .int .i64 md, .int .i64 at_] w fun e w' => ∃ D, e = .returned (.tuple #[.pointer (some ⟨D, 0, none⟩), .int .i64 0]) ∧ Hid (Hall w0 w' hb vb tb gb h st (OptT (some (D, ⟨md, bat h.n md at_, [], []⟩)) :: r)) := by
  refine (b_begin hb0 hz.vlt).mono ?_
  rintro e w' ⟨D, rfl, HZ⟩
  refine ⟨D, rfl, ?_⟩
  have h1 := unhide HZ
  have p1 : Zoo w0 w' (OptT (some (D, ⟨md, bat h.n md at_, [], []⟩)) :: BoxT hb (hcells vb st) 43 :: VltT vb tb gb h.f h.n h.cs [] :: (seats st ++ r)) := h1.perm ((List.Perm.swap _ _ _).trans (List.Perm.cons _ (List.Perm.swap _ _ _)))
  exact p1.perm (List.perm_middle (l₁ := BoxT hb (hcells vb st) 43 :: VltT vb tb gb h.f h.n h.cs [] :: seats st)).symm
theorem h_vnone {md at_ z : Int} (hb0 : bcode h.f h.n md at_ = z) (h0 : z ≠ 0) (hz : Hall w0 w hb vb tb gb h st r) :
    Calls Try.prog 73 #[.pointer (some ⟨vb, 0, none⟩), .int .i64 md, .int .i64 at_] w fun e w' => e = .returned (.tuple #[.pointer none, .int .i64 z]) ∧ Hid (Hall w0 w' hb vb tb gb h st r) := by
  refine (b_none hb0 h0 hz.vlt).mono ?_
  rintro e w' ⟨rfl, HZ⟩
  exact ⟨rfl, zoo_swap (unhide HZ)⟩
/-- A new deed sits down at an empty seat. -/
theorem Hall.sitNew {D : Nat} {d : Dp} {l1 l2 : List Thing} (hz : Hall w0 w hb vb tb gb h st (l1 ++ OptT (some (D, d)) :: l2)) {s : Nat} (hs : s < 5) (hn : st s = none) : Hall w0 (w.setCell ⟨hb, 1 + s, none⟩ (.pointer (some ⟨D, 0, none⟩))) hb vb tb gb h (upd st s (some (D, d))) (l1 ++ l2) := by
  have h1 := hz.perm (List.perm_middle (l₁ := l1))
  have h2 : Zoo w0 w (VltT vb tb gb h.f h.n h.cs [] :: OptT (some (D, d)) :: BoxT hb (hcells vb st) 43 :: (seats st ++ (l1 ++ l2))) := by
    have p := Zoo.perm h1 (List.perm_middle (l₁ := BoxT hb (hcells vb st) 43 :: VltT vb tb gb h.f h.n h.cs [] :: seats st))
    exact p.perm ((List.Perm.cons _ (List.Perm.swap _ _ _)).trans (List.Perm.swap _ _ _))
  exact Hall.join h2 hs hn

/-- What begin leaves. -/
def BgEnd (w0 : World) (hb vb tb gb : Nat) (r : List Thing) (h' : HSt) (v : Ev) (e : Ending) (w' : World) : Prop := ∃ st', e = .returned (.int .i64 v.c) ∧ v = evc v.c ∧ Sts st' h'.seat ∧ Hid (Hall w0 w' hb vb tb gb h' st' r)
set_option maxHeartbeats 1000000 in
theorem h_begin (x : HStep) (hx : x.d = 1) (hs : Sts st h.seat) (hz : Hall w0 w hb vb tb gb h st r) :
    Calls Try.prog 45 #[.pointer (some ⟨hb, 0, none⟩), .agg #[.int .i64 x.d, .int .i64 x.s, .int .i64 x.md, .int .i64 x.at_, .int .i64 x.key, .int .i64 x.to_, .int .i64 x.keep, .string x.b]] w fun e w' => BgEnd w0 hb vb tb gb r (hdo h x) (hev h x) e w' := by
  have HS := hide hs
  have HX := hide (hz.new (xcs x) 37)
  by_cases hsx : 0 ≤ x.s ∧ x.s < 5
  · obtain ⟨j, hj, h5⟩ := seat_in hsx
    have hjs : x.s.toNat = j := by omega
    have hsb : seatB (j : Int) = true := decide_eq_true (by omega)
    have i0 : (0 : Int) ≤ (j : Int) := by omega
    have i5 : (j : Int) < 5 := by omega
    cases hsd : st j with
    | some xx =>
      have hsj : h.seat j = some xx.2 := by rw [← hs j, hsd]; rfl
      have heq := (HKind.there (h := h) (x := x) xx.2 hx hsx (by rw [hjs]; exact hsj)).eq
      rw [heq.1, heq.2]
      clear heq hz hs
      have hda : dat st (j : Int) = some xx := by rw [dat_in h5, hsd]
      obtain ⟨xd, xs, xm, xa, xk, xt, xp, xb⟩ := x
      dsimp only [xcs] at *
      subst hx hj
      go_enter Try.func45, Try.ntmps45
      go_wp2_with fail
      generalize w.alloc (.cells #[.int .i64 1, .int .i64 (j : Int), .int .i64 xm, .int .i64 xa, .int .i64 xk, .int .i64 xt, .int .i64 xp, .string xb] 37) = W at HX ⊢
      generalize w.heap.size = q at HX ⊢
      have hq := (unhide HX).var (List.Mem.head _)
      have x1 : W.cell? ⟨q, 1, none⟩ = some (.int .i64 (j : Int)) := cell_of_block hq rfl
      clear hq
      refine (hseat (j : Int) _).mono ?_
      rintro e w' ⟨rfl, hw'⟩
      subst w'
      rw [hsb]
      go_wp2_with fail
      refine (h_busy (j : Int) (unhide HX)).mono ?_
      rintro e w' ⟨rfl, hw'⟩
      subst w'
      rw [hda, show Option.isSome (some xx) = true from rfl]
      go_wp2_with fail
      go_ret
      exact ⟨st, rfl, rfl, unhide HS, (unhide HX).tail⟩
    | none =>
      have hsj : h.seat j = none := by rw [← hs j, hsd]; rfl
      have hda : dat st (j : Int) = none := by rw [dat_in h5, hsd]
      by_cases hb0 : bcode h.f h.n x.md x.at_ = 0
      · have heq := (HKind.began (h := h) (x := x) hx hsx (by rw [hjs]; exact hsj) hb0).eq
        rw [heq.1, heq.2]
        clear heq hz hs
        have HB0 := hide hb0
        clear hb0
        obtain ⟨xd, xs, xm, xa, xk, xt, xp, xb⟩ := x
        dsimp only [xcs] at *
        subst hx hj
        go_enter Try.func45, Try.ntmps45
        go_wp2_with fail
        generalize w.alloc (.cells #[.int .i64 1, .int .i64 (j : Int), .int .i64 xm, .int .i64 xa, .int .i64 xk, .int .i64 xt, .int .i64 xp, .string xb] 37) = W at HX ⊢
        generalize w.heap.size = q at HX ⊢
        have hq := (unhide HX).var (List.Mem.head _)
        have x1 : W.cell? ⟨q, 1, none⟩ = some (.int .i64 (j : Int)) := cell_of_block hq rfl
        have x2 : W.cell? ⟨q, 2, none⟩ = some (.int .i64 xm) := cell_of_block hq rfl
        have x3 : W.cell? ⟨q, 3, none⟩ = some (.int .i64 xa) := cell_of_block hq rfl
        clear hq
        refine (hseat (j : Int) _).mono ?_
        rintro e w' ⟨rfl, hw'⟩
        subst w'
        rw [hsb]
        go_wp2_with fail
        refine (h_busy (j : Int) (unhide HX)).mono ?_
        rintro e w' ⟨rfl, hw'⟩
        subst w'
        rw [hda, show Option.isSome (none : Sd) = false from rfl]
        have c0 := (unhide HX).c0
        have HV := hide (fun W' (hk : Kp [] W W') => h_vbegin (unhide HB0) ((unhide HX).kp0 hk))
        go_wp2_with fail
        go_region_with (go_at_call 73; refine (unhide HV _ ((Kp.refl [] W).drewN _)).mono ?_; rintro e w' ⟨D, rfl, HY⟩)
        all_goals
          have hq2 := (unhide HY).var (List.Mem.tail _ (List.Mem.head _))
          have y1 : w'.cell? ⟨q, 1, none⟩ = some (.int .i64 (j : Int)) := cell_of_block hq2 rfl
          have c2 := (unhide HY).cs_ h5
          have f2 := (unhide HY).fz (1 + j)
          rw [hsd] at c2
          clear hq2 x1 x2 x3 c0 HV
          go_wp2_with fail
          go_region
        all_goals
          go_wp2_with fail
          go_ret
          exact ⟨upd st j (some (D, _)), rfl, rfl, by show Sts _ (upd h.seat ((j : Int).toNat) _); rw [hjs]; exact (unhide HS).put j _, ((((unhide HY).sitNew (l1 := []) h5 hsd).tail).kp0 (Kp.refl [] _).drew).as rfl rfl rfl⟩
      · have heq := (HKind.beganNot (h := h) (x := x) hx hsx (by rw [hjs]; exact hsj) hb0).eq
        rw [heq.1, heq.2]
        clear heq hz hs
        have HB0 := hide hb0
        clear hb0
        generalize hzz : bcode h.f h.n x.md x.at_ = z at HB0 ⊢
        have HZ0 := hide hzz
        clear hzz
        obtain ⟨xd, xs, xm, xa, xk, xt, xp, xb⟩ := x
        dsimp only [xcs] at *
        subst hx hj
        go_enter Try.func45, Try.ntmps45
        go_wp2_with fail
        generalize w.alloc (.cells #[.int .i64 1, .int .i64 (j : Int), .int .i64 xm, .int .i64 xa, .int .i64 xk, .int .i64 xt, .int .i64 xp, .string xb] 37) = W at HX ⊢
        generalize w.heap.size = q at HX ⊢
        have hq := (unhide HX).var (List.Mem.head _)
        have x1 : W.cell? ⟨q, 1, none⟩ = some (.int .i64 (j : Int)) := cell_of_block hq rfl
        have x2 : W.cell? ⟨q, 2, none⟩ = some (.int .i64 xm) := cell_of_block hq rfl
        have x3 : W.cell? ⟨q, 3, none⟩ = some (.int .i64 xa) := cell_of_block hq rfl
        clear hq
        refine (hseat (j : Int) _).mono ?_
        rintro e w' ⟨rfl, hw'⟩
        subst w'
        rw [hsb]
        go_wp2_with fail
        refine (h_busy (j : Int) (unhide HX)).mono ?_
        rintro e w' ⟨rfl, hw'⟩
        subst w'
        rw [hda, show Option.isSome (none : Sd) = false from rfl]
        have c0 := (unhide HX).c0
        have HV := hide (fun W' (hk : Kp [] W W') => h_vnone (unhide HZ0) (unhide HB0) ((unhide HX).kp0 hk))
        go_wp2_with fail
        go_region_with (go_at_call 73; refine (unhide HV _ ((Kp.refl [] W).drewN _)).mono ?_; rintro e w' ⟨rfl, HY⟩)
        all_goals
          have hq2 := (unhide HY).var (List.Mem.head _)
          have y1 : w'.cell? ⟨q, 1, none⟩ = some (.int .i64 (j : Int)) := cell_of_block hq2 rfl
          have c2 := (unhide HY).cs_ h5
          have f2 := (unhide HY).fz (1 + j)
          rw [hsd] at c2
          clear hq2 x1 x2 x3 c0 HV
          go_wp2_with fail
          go_region
        all_goals
          go_wp2_with fail
          go_ret
          exact ⟨st, rfl, rfl, unhide HS, by have h9 := (unhide HY).leave h5; rw [upd_id hsd] at h9; exact (h9.tail.tail).kp0 (Kp.refl [] _).drew⟩
  · have heq := (HKind.range (h := h) (x := x) (by omega) hsx).eq
    rw [heq.1, heq.2]
    clear heq hz hs
    have hsb : seatB x.s = false := decide_eq_false hsx
    obtain ⟨xd, xs, xm, xa, xk, xt, xp, xb⟩ := x
    dsimp only [xcs] at *
    subst hx
    go_enter Try.func45, Try.ntmps45
    go_wp2_with fail
    refine (hseat xs _).mono ?_
    rintro e w' ⟨rfl, hw'⟩
    subst w'
    rw [hsb]
    go_wp2_with fail
    go_ret
    exact ⟨st, rfl, rfl, unhide HS, (unhide HX).tail⟩
end
end Go.Proofs.Ytehhpmfeaeabgac

/- A hall's goOn: where there is no deed; Put. -/
namespace Go.Proofs.Ytehhpmfeaeabgac
open Go.RowKit
set_option maxRecDepth 20000
attribute [local go_sem ↓] Go.wp_at_zero Go.wp_at_succ

/-- What goOn, end and Do leave. -/
def GoEnd (w0 : World) (hb vb gb : Nat) (r : List Thing) (h' : HSt) (v : Ev) (e : Ending) (w' : World) : Prop := ∃ tb' st' a cap, e = .returned (.agg #[.int .i64 v.c, .int .i64 v.n, .bool v.t, .string v.s, .slice a v.l.length cap]) ∧ Sts st' h'.seat ∧ Hid (Hall w0 w' hb vb tb' gb h' st' (PsT a cap v.l :: r))
/-- An event in a variable. -/
structure EvF (w : World) (p : Nat) (a b c d e : Value) : Prop where
  c0 : w.cell? ⟨p, 0, none⟩ = some a
  c1 : w.cell? ⟨p, 1, none⟩ = some b
  c2 : w.cell? ⟨p, 2, none⟩ = some c
  c3 : w.cell? ⟨p, 3, none⟩ = some d
  c4 : w.cell? ⟨p, 4, none⟩ = some e
  f0 : w.frozen? ⟨p, 0, none⟩ = false
  f1 : w.frozen? ⟨p, 1, none⟩ = false
  f2 : w.frozen? ⟨p, 2, none⟩ = false
  f3 : w.frozen? ⟨p, 3, none⟩ = false
  f4 : w.frozen? ⟨p, 4, none⟩ = false
theorem evF {w : World} {p : Nat} {a b c d e : Value} {T : TypeId} (h : w.heap[p]? = some (.cells #[a, b, c, d, e] T (0, 0))) : EvF w p a b c d e :=
  ⟨cell_of_block h rfl, cell_of_block h rfl, cell_of_block h rfl, cell_of_block h rfl, cell_of_block h rfl, frozen_of_block _ h, frozen_of_block _ h, frozen_of_block _ h, frozen_of_block _ h, frozen_of_block _ h⟩
section
variable {w0 w : World} {hb vb tb gb : Nat} {h : HSt} {st : Nat → Sd} {r : List Thing}
theorem Hall.ps {tb' : Nat} {h' : HSt} {st' : Nat → Sd} {w' : World} (hz : Hall w0 w' hb vb tb' gb h' st' r) : Hall w0 w' hb vb tb' gb h' st' (PsT none 0 [] :: r) := Zoo.perm (ps_nil hz) (List.perm_middle (l₁ := BoxT hb (hcells vb st') 43 :: VltT vb tb' gb h'.f h'.n h'.cs [] :: seats st')).symm
/-- Behind an event's five cells, written; the variables are let go. -/
theorem Hall.fin {W : World} {p q : Nat} {c xc : Array Value} {T U : TypeId} (hz : Hall w0 W hb vb tb gb h st (BoxT p c T :: BoxT q xc U :: r)) (a b c' d e : Value) : Hall w0 (((((W.setCell ⟨p, 0, none⟩ a).setCell ⟨p, 1, none⟩ b).setCell ⟨p, 2, none⟩ c').setCell ⟨p, 3, none⟩ d).setCell ⟨p, 4, none⟩ e) hb vb tb gb h st r := (((((hz.set0 0 a).set0 1 b).set0 2 c').set0 3 d).set0 4 e).tail.tail
theorem f_not (hs : Sts st h.seat) {x : HStep} (hx : 2 ≤ x.d ∧ x.d ≤ 10 ∧ x.d ≠ 8 ∧ x.d ≠ 9) (hf : ¬ fcode st x.s = 0) : hdo h x = h ∧ hev h x = evc (fcode st x.s) := by
  unfold fcode at hf ⊢
  by_cases hsx : 0 ≤ x.s ∧ x.s < 5
  · rw [if_pos hsx] at hf ⊢
    cases hd : st x.s.toNat with
    | none =>
      have : h.seat x.s.toNat = none := by rw [← hs, hd]; rfl
      exact (HKind.none_ (h := h) (x := x) hx hsx this).eq
    | some y => rw [hd] at hf; exact absurd rfl hf
  · rw [if_neg hsx]
    exact (HKind.range (h := h) (x := x) (by omega) hsx).eq
theorem f_yes {s : Int} (hf : fcode st s = 0) : ∃ (j D : Nat) (d : Dp), s = (j : Int) ∧ j < 5 ∧ st j = some (D, d) := by
  unfold fcode at hf
  split at hf
  · rename_i hsx
    obtain ⟨j, rfl, h5⟩ := seat_in hsx
    rw [Int.toNat_natCast] at hf
    cases hd : st j with
    | none => rw [hd] at hf; exact absurd hf (by simp)
    | some y => exact ⟨j, y.1, y.2, rfl, h5, hd⟩
  · exact absurd hf (by simp)
set_option maxHeartbeats 1000000 in
theorem go_none (x : HStep) (hx : 2 ≤ x.d ∧ x.d ≤ 5) (hf : ¬ fcode st x.s = 0) (hs : Sts st h.seat) (hz : Hall w0 w hb vb tb gb h st r) :
    Calls Try.prog 46 #[.pointer (some ⟨hb, 0, none⟩), .agg #[.int .i64 x.d, .int .i64 x.s, .int .i64 x.md, .int .i64 x.at_, .int .i64 x.key, .int .i64 x.to_, .int .i64 x.keep, .string x.b]] w fun e w' => GoEnd w0 hb vb gb r (hdo h x) (hev h x) e w' := by
  have heq := f_not hs (x := x) (by omega) hf
  rw [heq.1, heq.2]
  clear heq
  have HS := hide hs
  have HX := hide (hz.two (xcs x) 37 #[.int .i64 0, .int .i64 0, .bool false, .string ⟨#[]⟩, .slice none 0 0] 34)
  clear hz hs
  generalize hzz : fcode st x.s = z at hf ⊢
  have HZ0 := hide hzz
  have hzb : (z != 0) = true := by simpa using hf
  clear hzz hf
  obtain ⟨xd, xs, xm, xa, xk, xt, xp, xb⟩ := x
  dsimp only [xcs] at *
  go_enter Try.func46, Try.ntmps46
  go_wp2_with fail
  generalize (w.alloc (.cells #[.int .i64 xd, .int .i64 xs, .int .i64 xm, .int .i64 xa, .int .i64 xk, .int .i64 xt, .int .i64 xp, .string xb] 37)).alloc (.cells #[.int .i64 0, .int .i64 0, .bool false, .string ⟨#[]⟩, .slice none 0 0] 34) = W at HX ⊢
  generalize w.heap.size = q at HX ⊢
  generalize q + 1 = p at HX ⊢
  have hq := (unhide HX).var (List.Mem.tail _ (List.Mem.head _))
  have x1 : W.cell? ⟨q, 1, none⟩ = some (.int .i64 xs) := cell_of_block hq rfl
  clear hq
  refine (h_find xs (unhide HX)).mono ?_
  rintro e w' ⟨rfl, hw'⟩
  subst w'
  rw [unhide HZ0]
  generalize sp (dat st xs) = o
  have HE := hide ((unhide HX).new #[.int .i64 z, .int .i64 0, .bool false, .string ⟨#[]⟩, .slice none 0 0] 34)
  have pl := lt_of_block ((unhide HX).var (List.Mem.head _))
  obtain ⟨e0, e1, e2, e3, e4, g0, g1, g2, g3, g4⟩ := evF ((unhide HX).var (List.Mem.head _))
  go_wp2_with fail
  refine bodyPost_ret (v := .agg #[.int .i64 z, .int .i64 0, .bool false, .string ⟨#[]⟩, .slice none 0 0]) (by simp [results, Try.results46, go_sem, e0, e1, e2, e3, e4, pl]) rfl ?_
  exact ⟨tb, st, none, 0, rfl, unhide HS, (((unhide HX).fin _ _ _ _ _).new _ _).tail.ps⟩
end
end Go.Proofs.Ytehhpmfeaeabgac

/- A hall's goOn: Put and Drop. -/
namespace Go.Proofs.Ytehhpmfeaeabgac
open Go.RowKit
set_option maxRecDepth 20000
attribute [local go_sem ↓] Go.wp_at_zero Go.wp_at_succ

section
variable {w0 w : World} {hb vb tb gb : Nat} {h : HSt} {st : Nat → Sd} {r : List Thing}
set_option maxHeartbeats 1000000 in
theorem go_put (x : HStep) (hx : x.d = 3) {j D : Nat} {d : Dp} (hj : x.s = (j : Int)) (h5 : j < 5) (hsd : st j = some (D, d)) (hs : Sts st h.seat) (hz : Hall w0 w hb vb tb gb h st r) (hsz : x.b.size ≤ maxLen) :
    Calls Try.prog 46 #[.pointer (some ⟨hb, 0, none⟩), .agg #[.int .i64 x.d, .int .i64 x.s, .int .i64 x.md, .int .i64 x.at_, .int .i64 x.key, .int .i64 x.to_, .int .i64 x.keep, .string x.b]] w fun e w' => GoEnd w0 hb vb gb r (hdo h x) (hev h x) e w' := by
  have HS := hide hs
  have HX := hide (hz.two (xcs x) 37 #[.int .i64 0, .int .i64 0, .bool false, .string ⟨#[]⟩, .slice none 0 0] 34)
  have hjs : x.s.toNat = j := by omega
  have i0 : (0 : Int) ≤ (j : Int) := by omega
  have i5 : (j : Int) < 5 := by omega
  have hsj : h.seat j = some d := by rw [← hs j, hsd]; rfl
  have heq := (HKind.put (h := h) (x := x) d hx ⟨by omega, by omega⟩ (by rw [hjs]; exact hsj)).eq
  rw [heq.1, heq.2]
  clear heq hz hs hsj
  have hda : dat st (j : Int) = some (D, d) := by rw [dat_in h5, hsd]
  have hfc : fcode st (j : Int) = 0 := by unfold fcode; rw [if_pos ⟨i0, i5⟩, Int.toNat_natCast, hsd]; rfl
  obtain ⟨xd, xs, xm, xa, xk, xt, xp, xb⟩ := x
  dsimp only [xcs] at *
  subst hx hj
  go_enter Try.func46, Try.ntmps46
  go_wp2_with fail
  generalize (w.alloc (.cells #[.int .i64 3, .int .i64 (j : Int), .int .i64 xm, .int .i64 xa, .int .i64 xk, .int .i64 xt, .int .i64 xp, .string xb] 37)).alloc (.cells #[.int .i64 0, .int .i64 0, .bool false, .string ⟨#[]⟩, .slice none 0 0] 34) = W at HX ⊢
  generalize w.heap.size = q at HX ⊢
  generalize q + 1 = p at HX ⊢
  have hq := (unhide HX).var (List.Mem.tail _ (List.Mem.head _))
  have x0 : W.cell? ⟨q, 0, none⟩ = some (.int .i64 3) := cell_of_block hq rfl
  have x1 : W.cell? ⟨q, 1, none⟩ = some (.int .i64 (j : Int)) := cell_of_block hq rfl
  have x4 : W.cell? ⟨q, 4, none⟩ = some (.int .i64 xk) := cell_of_block hq rfl
  have x5 : W.cell? ⟨q, 5, none⟩ = some (.int .i64 xt) := cell_of_block hq rfl
  have x6 : W.cell? ⟨q, 6, none⟩ = some (.int .i64 xp) := cell_of_block hq rfl
  have x7 : W.cell? ⟨q, 7, none⟩ = some (.string xb) := cell_of_block hq rfl
  have ql := lt_of_block hq
  clear hq
  refine (h_find (j : Int) (unhide HX)).mono ?_
  rintro e w' ⟨rfl, hw'⟩
  subst w'
  rw [hda, hfc]
  rw [show sp (some (D, d)) = .pointer (some ⟨D, 0, none⟩) from rfl]
  have HE := hide ((unhide HX).new #[.int .i64 0, .int .i64 0, .bool false, .string ⟨#[]⟩, .slice none 0 0] 34)
  have pl := lt_of_block ((unhide HX).var (List.Mem.head _))
  have hl := (unhide HX).lt
  have vl := (unhide HX).vlt_
  have c0 := (unhide HX).c0
  have v0 := (unhide HX).v0
  obtain ⟨e0, e1, e2, e3, e4, g0, g1, g2, g3, g4⟩ := evF ((unhide HX).var (List.Mem.head _))
  go_wp2_with fail
  generalize W.alloc (.cells #[.int .i64 0, .int .i64 0, .bool false, .string ⟨#[]⟩, .slice none 0 0] 34) = W2 at HE ⊢
  generalize W.heap.size = pe at HE ⊢
  clear e0 e1 e2 e3 e4 g0 g1 g2 g3 g4 x0 x1 x4 x5 x6 x7 ql pl hl vl c0 v0
  refine (h_put xk true xb hsz h5 hsd (unhide HE)).mono ?_
  rintro e w3 ⟨rfl, HY⟩
  have hep := (unhide HY).var (List.Mem.head _)
  have hpp := (unhide HY).var (List.Mem.tail _ (List.Mem.head _))
  obtain ⟨a0, a1, a2, a3, a4, b0, b1, b2, b3, b4⟩ := evF hep
  obtain ⟨e0, e1, e2, e3, e4, g0, g1, g2, g3, g4⟩ := evF hpp
  have pl := lt_of_block hpp
  have el := lt_of_block hep
  clear hep hpp HE
  have hne := (unhide HY).ne2
  go_wp2_with fail
  refine bodyPost_ret (v := .agg #[.int .i64 (dpc d.md xk true xb), .int .i64 0, .bool false, .string ⟨#[]⟩, .slice none 0 0]) (by simp [results, Try.results46, go_sem, e0, e1, e2, e3, e4]) rfl ?_
  exact ⟨tb, _, none, 0, rfl, by show Sts _ (upd h.seat ((j : Int).toNat) _); rw [hjs]; exact (unhide HS).put j (some (D, _)), ((((unhide HY).set0 0 _).tail).fin _ _ _ _ _).ps.as rfl rfl rfl⟩
set_option maxHeartbeats 1000000 in
theorem go_drop (x : HStep) (hx : x.d = 4) {j D : Nat} {d : Dp} (hj : x.s = (j : Int)) (h5 : j < 5) (hsd : st j = some (D, d)) (hs : Sts st h.seat) (hz : Hall w0 w hb vb tb gb h st r) (hsz : x.b.size ≤ maxLen) :
    Calls Try.prog 46 #[.pointer (some ⟨hb, 0, none⟩), .agg #[.int .i64 x.d, .int .i64 x.s, .int .i64 x.md, .int .i64 x.at_, .int .i64 x.key, .int .i64 x.to_, .int .i64 x.keep, .string x.b]] w fun e w' => GoEnd w0 hb vb gb r (hdo h x) (hev h x) e w' := by
  have HS := hide hs
  have HX := hide (hz.two (xcs x) 37 #[.int .i64 0, .int .i64 0, .bool false, .string ⟨#[]⟩, .slice none 0 0] 34)
  have hjs : x.s.toNat = j := by omega
  have i0 : (0 : Int) ≤ (j : Int) := by omega
  have i5 : (j : Int) < 5 := by omega
  have hsj : h.seat j = some d := by rw [← hs j, hsd]; rfl
  have heq := (HKind.drop (h := h) (x := x) d hx ⟨by omega, by omega⟩ (by rw [hjs]; exact hsj)).eq
  rw [heq.1, heq.2]
  clear heq hz hs hsj
  have hda : dat st (j : Int) = some (D, d) := by rw [dat_in h5, hsd]
  have hfc : fcode st (j : Int) = 0 := by unfold fcode; rw [if_pos ⟨i0, i5⟩, Int.toNat_natCast, hsd]; rfl
  obtain ⟨xd, xs, xm, xa, xk, xt, xp, xb⟩ := x
  dsimp only [xcs] at *
  subst hx hj
  go_enter Try.func46, Try.ntmps46
  go_wp2_with fail
  generalize (w.alloc (.cells #[.int .i64 4, .int .i64 (j : Int), .int .i64 xm, .int .i64 xa, .int .i64 xk, .int .i64 xt, .int .i64 xp, .string xb] 37)).alloc (.cells #[.int .i64 0, .int .i64 0, .bool false, .string ⟨#[]⟩, .slice none 0 0] 34) = W at HX ⊢
  generalize w.heap.size = q at HX ⊢
  generalize q + 1 = p at HX ⊢
  have hq := (unhide HX).var (List.Mem.tail _ (List.Mem.head _))
  have x0 : W.cell? ⟨q, 0, none⟩ = some (.int .i64 4) := cell_of_block hq rfl
  have x1 : W.cell? ⟨q, 1, none⟩ = some (.int .i64 (j : Int)) := cell_of_block hq rfl
  have x4 : W.cell? ⟨q, 4, none⟩ = some (.int .i64 xk) := cell_of_block hq rfl
  have x5 : W.cell? ⟨q, 5, none⟩ = some (.int .i64 xt) := cell_of_block hq rfl
  have x6 : W.cell? ⟨q, 6, none⟩ = some (.int .i64 xp) := cell_of_block hq rfl
  have x7 : W.cell? ⟨q, 7, none⟩ = some (.string xb) := cell_of_block hq rfl
  have ql := lt_of_block hq
  clear hq
  refine (h_find (j : Int) (unhide HX)).mono ?_
  rintro e w' ⟨rfl, hw'⟩
  subst w'
  rw [hda, hfc]
  rw [show sp (some (D, d)) = .pointer (some ⟨D, 0, none⟩) from rfl]
  have HE := hide ((unhide HX).new #[.int .i64 0, .int .i64 0, .bool false, .string ⟨#[]⟩, .slice none 0 0] 34)
  have pl := lt_of_block ((unhide HX).var (List.Mem.head _))
  have hl := (unhide HX).lt
  have vl := (unhide HX).vlt_
  have c0 := (unhide HX).c0
  have v0 := (unhide HX).v0
  obtain ⟨e0, e1, e2, e3, e4, g0, g1, g2, g3, g4⟩ := evF ((unhide HX).var (List.Mem.head _))
  go_wp2_with fail
  generalize W.alloc (.cells #[.int .i64 0, .int .i64 0, .bool false, .string ⟨#[]⟩, .slice none 0 0] 34) = W2 at HE ⊢
  generalize W.heap.size = pe at HE ⊢
  clear e0 e1 e2 e3 e4 g0 g1 g2 g3 g4 x0 x1 x4 x5 x6 x7 ql pl hl vl c0 v0
  refine (h_put xk false ⟨#[]⟩ (Nat.zero_le _) h5 hsd (unhide HE)).mono ?_
  rintro e w3 ⟨rfl, HY⟩
  have hep := (unhide HY).var (List.Mem.head _)
  have hpp := (unhide HY).var (List.Mem.tail _ (List.Mem.head _))
  obtain ⟨a0, a1, a2, a3, a4, b0, b1, b2, b3, b4⟩ := evF hep
  obtain ⟨e0, e1, e2, e3, e4, g0, g1, g2, g3, g4⟩ := evF hpp
  have pl := lt_of_block hpp
  have el := lt_of_block hep
  clear hep hpp HE
  have hne := (unhide HY).ne2
  go_wp2_with fail
  refine bodyPost_ret (v := .agg #[.int .i64 (dpc d.md xk false ⟨#[]⟩), .int .i64 0, .bool false, .string ⟨#[]⟩, .slice none 0 0]) (by simp [results, Try.results46, go_sem, e0, e1, e2, e3, e4]) rfl ?_
  exact ⟨tb, _, none, 0, rfl, by show Sts _ (upd h.seat ((j : Int).toNat) _); rw [hjs]; exact (unhide HS).put j (some (D, _)), ((((unhide HY).set0 0 _).tail).fin _ _ _ _ _).ps.as rfl rfl rfl⟩
end
end Go.Proofs.Ytehhpmfeaeabgac

/- A hall's goOn: Get. -/
namespace Go.Proofs.Ytehhpmfeaeabgac
open Go.RowKit
set_option maxRecDepth 20000
attribute [local go_sem ↓] Go.wp_at_zero Go.wp_at_succ

section
variable {w0 w : World} {hb vb tb gb : Nat} {h : HSt} {st : Nat → Sd} {r : List Thing}
set_option maxHeartbeats 1000000 in
theorem go_get (x : HStep) (hx : x.d = 2) {j D : Nat} {d : Dp} (hj : x.s = (j : Int)) (h5 : j < 5) (hsd : st j = some (D, d)) (hs : Sts st h.seat) (hz : Hall w0 w hb vb tb gb h st r) :
    Calls Try.prog 46 #[.pointer (some ⟨hb, 0, none⟩), .agg #[.int .i64 x.d, .int .i64 x.s, .int .i64 x.md, .int .i64 x.at_, .int .i64 x.key, .int .i64 x.to_, .int .i64 x.keep, .string x.b]] w fun e w' => GoEnd w0 hb vb gb r (hdo h x) (hev h x) e w' := by
  have HS := hide hs
  have HX := hide (hz.two (xcs x) 37 #[.int .i64 0, .int .i64 0, .bool false, .string ⟨#[]⟩, .slice none 0 0] 34)
  have hjs : x.s.toNat = j := by omega
  have i0 : (0 : Int) ≤ (j : Int) := by omega
  have i5 : (j : Int) < 5 := by omega
  have hsj : h.seat j = some d := by rw [← hs j, hsd]; rfl
  have heq := (HKind.get (h := h) (x := x) d hx ⟨by omega, by omega⟩ (by rw [hjs]; exact hsj)).eq
  rw [heq.1, heq.2]
  clear heq hz hs hsj
  have hda : dat st (j : Int) = some (D, d) := by rw [dat_in h5, hsd]
  have hfc : fcode st (j : Int) = 0 := by unfold fcode; rw [if_pos ⟨i0, i5⟩, Int.toNat_natCast, hsd]; rfl
  obtain ⟨xd, xs, xm, xa, xk, xt, xp, xb⟩ := x
  dsimp only [xcs] at *
  subst hx hj
  go_enter Try.func46, Try.ntmps46
  go_wp2_with fail
  generalize (w.alloc (.cells #[.int .i64 2, .int .i64 (j : Int), .int .i64 xm, .int .i64 xa, .int .i64 xk, .int .i64 xt, .int .i64 xp, .string xb] 37)).alloc (.cells #[.int .i64 0, .int .i64 0, .bool false, .string ⟨#[]⟩, .slice none 0 0] 34) = W at HX ⊢
  generalize w.heap.size = q at HX ⊢
  generalize q + 1 = p at HX ⊢
  have hq := (unhide HX).var (List.Mem.tail _ (List.Mem.head _))
  have x0 : W.cell? ⟨q, 0, none⟩ = some (.int .i64 2) := cell_of_block hq rfl
  have x1 : W.cell? ⟨q, 1, none⟩ = some (.int .i64 (j : Int)) := cell_of_block hq rfl
  have x4 : W.cell? ⟨q, 4, none⟩ = some (.int .i64 xk) := cell_of_block hq rfl
  have x5 : W.cell? ⟨q, 5, none⟩ = some (.int .i64 xt) := cell_of_block hq rfl
  have x6 : W.cell? ⟨q, 6, none⟩ = some (.int .i64 xp) := cell_of_block hq rfl
  have x7 : W.cell? ⟨q, 7, none⟩ = some (.string xb) := cell_of_block hq rfl
  have ql := lt_of_block hq
  clear hq
  refine (h_find (j : Int) (unhide HX)).mono ?_
  rintro e w' ⟨rfl, hw'⟩
  subst w'
  rw [hda, hfc]
  rw [show sp (some (D, d)) = .pointer (some ⟨D, 0, none⟩) from rfl]
  have HE := hide ((unhide HX).new #[.int .i64 0, .int .i64 0, .bool false, .string ⟨#[]⟩, .slice none 0 0] 34)
  have pl := lt_of_block ((unhide HX).var (List.Mem.head _))
  have hl := (unhide HX).lt
  have vl := (unhide HX).vlt_
  have c0 := (unhide HX).c0
  have v0 := (unhide HX).v0
  obtain ⟨e0, e1, e2, e3, e4, g0, g1, g2, g3, g4⟩ := evF ((unhide HX).var (List.Mem.head _))
  go_wp2_with fail
  generalize W.alloc (.cells #[.int .i64 0, .int .i64 0, .bool false, .string ⟨#[]⟩, .slice none 0 0] 34) = W2 at HE ⊢
  generalize W.heap.size = pe at HE ⊢
  clear e0 e1 e2 e3 e4 g0 g1 g2 g3 g4 x0 x1 x4 x5 x6 x7 ql pl hl vl c0 v0
  have c0 := (unhide HE).c0
  have v0 := (unhide HE).v0
  have hq := (unhide HE).var (List.Mem.tail _ (List.Mem.tail _ (List.Mem.head _)))
  have x4 : W2.cell? ⟨q, 4, none⟩ = some (.int .i64 xk) := cell_of_block hq rfl
  clear hq
  have HG := hide (fun W' (hk : Kp [] W2 W') => h_get xk h5 hsd ((unhide HE).kp0 hk))
  go_region_with (go_at_call 75; refine (unhide HG _ (Kp.refl [] W2).drew).mono ?_; rintro e w3 ⟨rfl, HY⟩; (have hep := (unhide HY).var (List.Mem.head _)); (obtain ⟨a0, a1, a2, a3, a4, b0, b1, b2, b3, b4⟩ := evF hep); clear hep)
  all_goals
    have hpp := (unhide HY).var (List.Mem.tail _ (List.Mem.head _))
    obtain ⟨e0, e1, e2, e3, e4, g0, g1, g2, g3, g4⟩ := evF hpp
    have pl := lt_of_block hpp
    clear hpp
    have hne := (unhide HY).ne2
    go_wp2_with fail
    refine bodyPost_ret (v := .agg #[.int .i64 (dg h.f h.n d.y d.ws xk).a, .int .i64 0, .bool (dg h.f h.n d.y d.ws xk).t, .string (dg h.f h.n d.y d.ws xk).s, .slice none 0 0]) (by simp [results, Try.results46, go_sem, e0, e1, e2, e3, e4]) rfl ?_
    exact ⟨tb, _, none, 0, rfl, by show Sts _ (upd h.seat ((j : Int).toNat) _); rw [hjs]; exact (unhide HS).put j (some (D, _)), ((((((unhide HY).set0 2 _).set0 3 _).set0 0 _).tail).fin _ _ _ _ _).ps.as rfl rfl rfl⟩
end
end Go.Proofs.Ytehhpmfeaeabgac

/- A hall's goOn: List. -/
namespace Go.Proofs.Ytehhpmfeaeabgac
open Go.RowKit
set_option maxRecDepth 20000
attribute [local go_sem ↓] Go.wp_at_zero Go.wp_at_succ

section
variable {w0 w : World} {hb vb tb gb : Nat} {h : HSt} {st : Nat → Sd} {r : List Thing}
set_option maxHeartbeats 1000000 in
theorem go_list (x : HStep) (hx : x.d = 5) {j D : Nat} {d : Dp} (hj : x.s = (j : Int)) (h5 : j < 5) (hsd : st j = some (D, d)) (hs : Sts st h.seat) (hz : Hall w0 w hb vb tb gb h st r) :
    Calls Try.prog 46 #[.pointer (some ⟨hb, 0, none⟩), .agg #[.int .i64 x.d, .int .i64 x.s, .int .i64 x.md, .int .i64 x.at_, .int .i64 x.key, .int .i64 x.to_, .int .i64 x.keep, .string x.b]] w fun e w' => GoEnd w0 hb vb gb r (hdo h x) (hev h x) e w' := by
  have HS := hide hs
  have HX := hide (hz.two (xcs x) 37 #[.int .i64 0, .int .i64 0, .bool false, .string ⟨#[]⟩, .slice none 0 0] 34)
  have hjs : x.s.toNat = j := by omega
  have i0 : (0 : Int) ≤ (j : Int) := by omega
  have i5 : (j : Int) < 5 := by omega
  have hsj : h.seat j = some d := by rw [← hs j, hsd]; rfl
  have heq := (HKind.list (h := h) (x := x) d hx ⟨by omega, by omega⟩ (by rw [hjs]; exact hsj)).eq
  rw [heq.1, heq.2]
  clear heq hz hs hsj
  have hda : dat st (j : Int) = some (D, d) := by rw [dat_in h5, hsd]
  have hfc : fcode st (j : Int) = 0 := by unfold fcode; rw [if_pos ⟨i0, i5⟩, Int.toNat_natCast, hsd]; rfl
  obtain ⟨xd, xs, xm, xa, xk, xt, xp, xb⟩ := x
  dsimp only [xcs] at *
  subst hx hj
  go_enter Try.func46, Try.ntmps46
  go_wp2_with fail
  generalize (w.alloc (.cells #[.int .i64 5, .int .i64 (j : Int), .int .i64 xm, .int .i64 xa, .int .i64 xk, .int .i64 xt, .int .i64 xp, .string xb] 37)).alloc (.cells #[.int .i64 0, .int .i64 0, .bool false, .string ⟨#[]⟩, .slice none 0 0] 34) = W at HX ⊢
  generalize w.heap.size = q at HX ⊢
  generalize q + 1 = p at HX ⊢
  have hq := (unhide HX).var (List.Mem.tail _ (List.Mem.head _))
  have x0 : W.cell? ⟨q, 0, none⟩ = some (.int .i64 5) := cell_of_block hq rfl
  have x1 : W.cell? ⟨q, 1, none⟩ = some (.int .i64 (j : Int)) := cell_of_block hq rfl
  have x4 : W.cell? ⟨q, 4, none⟩ = some (.int .i64 xk) := cell_of_block hq rfl
  have x5 : W.cell? ⟨q, 5, none⟩ = some (.int .i64 xt) := cell_of_block hq rfl
  have x6 : W.cell? ⟨q, 6, none⟩ = some (.int .i64 xp) := cell_of_block hq rfl
  have x7 : W.cell? ⟨q, 7, none⟩ = some (.string xb) := cell_of_block hq rfl
  have ql := lt_of_block hq
  clear hq
  refine (h_find (j : Int) (unhide HX)).mono ?_
  rintro e w' ⟨rfl, hw'⟩
  subst w'
  rw [hda, hfc]
  rw [show sp (some (D, d)) = .pointer (some ⟨D, 0, none⟩) from rfl]
  have HE := hide ((unhide HX).new #[.int .i64 0, .int .i64 0, .bool false, .string ⟨#[]⟩, .slice none 0 0] 34)
  have pl := lt_of_block ((unhide HX).var (List.Mem.head _))
  have hl := (unhide HX).lt
  have vl := (unhide HX).vlt_
  have c0 := (unhide HX).c0
  have v0 := (unhide HX).v0
  obtain ⟨e0, e1, e2, e3, e4, g0, g1, g2, g3, g4⟩ := evF ((unhide HX).var (List.Mem.head _))
  go_wp2_with fail
  generalize W.alloc (.cells #[.int .i64 0, .int .i64 0, .bool false, .string ⟨#[]⟩, .slice none 0 0] 34) = W2 at HE ⊢
  generalize W.heap.size = pe at HE ⊢
  clear e0 e1 e2 e3 e4 g0 g1 g2 g3 g4 x0 x1 x4 x5 x6 x7 ql pl hl vl c0 v0
  have c0 := (unhide HE).c0
  have v0 := (unhide HE).v0
  have hq := (unhide HE).var (List.Mem.tail _ (List.Mem.tail _ (List.Mem.head _)))
  have x4 : W2.cell? ⟨q, 4, none⟩ = some (.int .i64 xk) := cell_of_block hq rfl
  have x5 : W2.cell? ⟨q, 5, none⟩ = some (.int .i64 xt) := cell_of_block hq rfl
  clear hq
  have HG := hide (fun W' (hk : Kp [] W2 W') => h_list xk xt h5 hsd ((unhide HE).kp0 hk))
  go_region_with (go_at_call 77; refine (unhide HG _ (Kp.refl [] W2).drew).mono ?_; rintro e w3 ⟨a, cap, rfl, HY0⟩; (have HY := hide ((unhide HY0).perm (List.perm_middle (l₁ := [_, _, _])).symm)); clear HY0; (have hep := (unhide HY).var (List.Mem.head _)); (obtain ⟨a0, a1, a2, a3, a4, b0, b1, b2, b3, b4⟩ := evF hep); clear hep)
  all_goals
    have hpp := (unhide HY).var (List.Mem.tail _ (List.Mem.head _))
    obtain ⟨e0, e1, e2, e3, e4, g0, g1, g2, g3, g4⟩ := evF hpp
    have pl := lt_of_block hpp
    clear hpp
    have hne := (unhide HY).ne2
    go_wp2_with fail
    refine bodyPost_ret (v := .agg #[.int .i64 (dls h.f h.n d.y d.ws d.rs xk xt).2.1, .int .i64 0, .bool false, .string ⟨#[]⟩, .slice a (dls h.f h.n d.y d.ws d.rs xk xt).1.length cap]) (by simp [results, Try.results46, go_sem, e0, e1, e2, e3, e4]) rfl ?_
    exact ⟨tb, _, a, cap, rfl, by show Sts _ (upd h.seat ((j : Int).toNat) _); rw [hjs]; exact (unhide HS).put j (some (D, _)), (((((unhide HY).set0 4 _).set0 0 _).tail).fin _ _ _ _ _).as rfl rfl rfl⟩
end
end Go.Proofs.Ytehhpmfeaeabgac

/- A hall's end: where there is no deed; Commit, Abort, Tear. -/
namespace Go.Proofs.Ytehhpmfeaeabgac
open Go.RowKit
set_option maxRecDepth 20000
attribute [local go_sem ↓] Go.wp_at_zero Go.wp_at_succ

section
variable {w0 w : World} {hb vb tb gb : Nat} {h : HSt} {st : Nat → Sd} {r : List Thing}
set_option maxHeartbeats 1000000 in
theorem end_none (x : HStep) (hx : x.d = 6 ∨ x.d = 7 ∨ x.d = 10) (hf : ¬ fcode st x.s = 0) (hs : Sts st h.seat) (hz : Hall w0 w hb vb tb gb h st r) :
    Calls Try.prog 47 #[.pointer (some ⟨hb, 0, none⟩), .agg #[.int .i64 x.d, .int .i64 x.s, .int .i64 x.md, .int .i64 x.at_, .int .i64 x.key, .int .i64 x.to_, .int .i64 x.keep, .string x.b]] w fun e w' => GoEnd w0 hb vb gb r (hdo h x) (hev h x) e w' := by
  have heq := f_not hs (x := x) (by omega) hf
  rw [heq.1, heq.2]
  clear heq
  have HS := hide hs
  have HX := hide (hz.two (xcs x) 37 #[.int .i64 0, .int .i64 0, .bool false, .string ⟨#[]⟩, .slice none 0 0] 34)
  clear hz hs
  generalize hzz : fcode st x.s = z at hf ⊢
  have HZ0 := hide hzz
  have hzb : (z != 0) = true := by simpa using hf
  clear hzz hf
  obtain ⟨xd, xs, xm, xa, xk, xt, xp, xb⟩ := x
  dsimp only [xcs] at *
  go_enter Try.func47, Try.ntmps47
  go_wp2_with fail
  generalize (w.alloc (.cells #[.int .i64 xd, .int .i64 xs, .int .i64 xm, .int .i64 xa, .int .i64 xk, .int .i64 xt, .int .i64 xp, .string xb] 37)).alloc (.cells #[.int .i64 0, .int .i64 0, .bool false, .string ⟨#[]⟩, .slice none 0 0] 34) = W at HX ⊢
  generalize w.heap.size = q at HX ⊢
  generalize q + 1 = p at HX ⊢
  have hq := (unhide HX).var (List.Mem.tail _ (List.Mem.head _))
  have x1 : W.cell? ⟨q, 1, none⟩ = some (.int .i64 xs) := cell_of_block hq rfl
  clear hq
  refine (h_find xs (unhide HX)).mono ?_
  rintro e w' ⟨rfl, hw'⟩
  subst w'
  rw [unhide HZ0]
  generalize sp (dat st xs) = o
  have HE := hide ((unhide HX).new #[.int .i64 z, .int .i64 0, .bool false, .string ⟨#[]⟩, .slice none 0 0] 34)
  have pl := lt_of_block ((unhide HX).var (List.Mem.head _))
  obtain ⟨e0, e1, e2, e3, e4, g0, g1, g2, g3, g4⟩ := evF ((unhide HX).var (List.Mem.head _))
  go_wp2_with fail
  refine bodyPost_ret (v := .agg #[.int .i64 z, .int .i64 0, .bool false, .string ⟨#[]⟩, .slice none 0 0]) (by simp [results, Try.results47, go_sem, e0, e1, e2, e3, e4, pl]) rfl ?_
  exact ⟨tb, st, none, 0, rfl, unhide HS, (((unhide HX).fin _ _ _ _ _).new _ _).tail.ps⟩
set_option maxHeartbeats 1000000 in
theorem end_commit (x : HStep) (hx : x.d = 6) {j D : Nat} {d : Dp} (hj : x.s = (j : Int)) (h5 : j < 5) (hsd : st j = some (D, d)) (hs : Sts st h.seat) (hz : Hall w0 w hb vb tb gb h st r) (hi : HInv h) :
    Calls Try.prog 47 #[.pointer (some ⟨hb, 0, none⟩), .agg #[.int .i64 x.d, .int .i64 x.s, .int .i64 x.md, .int .i64 x.at_, .int .i64 x.key, .int .i64 x.to_, .int .i64 x.keep, .string x.b]] w fun e w' => GoEnd w0 hb vb gb r (hdo h x) (hev h x) e w' := by
  have HS := hide hs
  have HX := hide (hz.two (xcs x) 37 #[.int .i64 0, .int .i64 0, .bool false, .string ⟨#[]⟩, .slice none 0 0] 34)
  have hjs : x.s.toNat = j := by omega
  have i0 : (0 : Int) ≤ (j : Int) := by omega
  have i5 : (j : Int) < 5 := by omega
  have hsj : h.seat j = some d := by rw [← hs j, hsd]; rfl
  have heq := (HKind.commit (h := h) (x := x) d hx ⟨by omega, by omega⟩ (by rw [hjs]; exact hsj)).eq
  rw [heq.1, heq.2]
  clear heq hz hs hsj
  have hda : dat st (j : Int) = some (D, d) := by rw [dat_in h5, hsd]
  have hfc : fcode st (j : Int) = 0 := by unfold fcode; rw [if_pos ⟨i0, i5⟩, Int.toNat_natCast, hsd]; rfl
  have HI := hide hi
  have HW := hide (hi.ok j d (by rw [← unhide HS j, hsd]; rfl))
  clear hi
  obtain ⟨xd, xs, xm, xa, xk, xt, xp, xb⟩ := x
  dsimp only [xcs] at *
  subst hx hj
  go_enter Try.func47, Try.ntmps47
  go_wp2_with fail
  generalize (w.alloc (.cells #[.int .i64 6, .int .i64 (j : Int), .int .i64 xm, .int .i64 xa, .int .i64 xk, .int .i64 xt, .int .i64 xp, .string xb] 37)).alloc (.cells #[.int .i64 0, .int .i64 0, .bool false, .string ⟨#[]⟩, .slice none 0 0] 34) = W at HX ⊢
  generalize w.heap.size = q at HX ⊢
  generalize q + 1 = p at HX ⊢
  have hq := (unhide HX).var (List.Mem.tail _ (List.Mem.head _))
  have x0 : W.cell? ⟨q, 0, none⟩ = some (.int .i64 6) := cell_of_block hq rfl
  have x1 : W.cell? ⟨q, 1, none⟩ = some (.int .i64 (j : Int)) := cell_of_block hq rfl
  have x4 : W.cell? ⟨q, 4, none⟩ = some (.int .i64 xk) := cell_of_block hq rfl
  have x5 : W.cell? ⟨q, 5, none⟩ = some (.int .i64 xt) := cell_of_block hq rfl
  have x6 : W.cell? ⟨q, 6, none⟩ = some (.int .i64 xp) := cell_of_block hq rfl
  have x7 : W.cell? ⟨q, 7, none⟩ = some (.string xb) := cell_of_block hq rfl
  have ql := lt_of_block hq
  clear hq
  refine (h_find (j : Int) (unhide HX)).mono ?_
  rintro e w' ⟨rfl, hw'⟩
  subst w'
  rw [hda, hfc]
  rw [show sp (some (D, d)) = .pointer (some ⟨D, 0, none⟩) from rfl]
  have HE := hide ((unhide HX).new #[.int .i64 0, .int .i64 0, .bool false, .string ⟨#[]⟩, .slice none 0 0] 34)
  have pl := lt_of_block ((unhide HX).var (List.Mem.head _))
  have hl := (unhide HX).lt
  have vl := (unhide HX).vlt_
  have c0 := (unhide HX).c0
  have v0 := (unhide HX).v0
  obtain ⟨e0, e1, e2, e3, e4, g0, g1, g2, g3, g4⟩ := evF ((unhide HX).var (List.Mem.head _))
  go_wp2_with fail
  generalize W.alloc (.cells #[.int .i64 0, .int .i64 0, .bool false, .string ⟨#[]⟩, .slice none 0 0] 34) = W2 at HE ⊢
  generalize W.heap.size = pe at HE ⊢
  clear e0 e1 e2 e3 e4 g0 g1 g2 g3 g4 x0 x1 x4 x5 x6 x7 ql pl hl vl c0 v0
  have c2 := (unhide HE).cs_ h5
  have f2 := (unhide HE).fz (1 + j)
  have hq := (unhide HE).var (List.Mem.tail _ (List.Mem.tail _ (List.Mem.head _)))
  have x1 : W2.cell? ⟨q, 1, none⟩ = some (.int .i64 (j : Int)) := cell_of_block hq rfl
  clear hq
  have HL := hide ((unhide HE).leave h5)
  rw [hsd] at HL
  go_region
  have HL2 := hide (((unhide HL).kp0 (Kp.refl [] _).drew).perm (List.perm_middle (l₁ := [_, _, _])).symm)
  clear HL HE HX c2 f2 x1
  generalize World.drew _ = W3 at HL2 ⊢
  have hq := (unhide HL2).var (List.Mem.tail _ (List.Mem.tail _ (List.Mem.head _)))
  have x0 : W3.cell? ⟨q, 0, none⟩ = some (.int .i64 6) := cell_of_block hq rfl
  have x6 : W3.cell? ⟨q, 6, none⟩ = some (.int .i64 xp) := cell_of_block hq rfl
  clear hq
  have c0 := (unhide HL2).c0
  go_wp2_with fail
  refine (h_commit (unhide HI) (unhide HW) (List.Mem.tail _ (List.Mem.tail _ (List.Mem.tail _ (List.Mem.head _)))) (unhide HL2)).mono ?_
  rintro e w4 ⟨rfl, HY⟩
  clear x0 x6 c0 HL2
  have hep := (unhide HY).var (List.Mem.head _)
  have hpp := (unhide HY).var (List.Mem.tail _ (List.Mem.head _))
  obtain ⟨a0, a1, a2, a3, a4, b0, b1, b2, b3, b4⟩ := evF hep
  obtain ⟨e0, e1, e2, e3, e4, g0, g1, g2, g3, g4⟩ := evF hpp
  clear hep hpp
  have hne := (unhide HY).ne2
  go_wp2_with fail
  refine bodyPost_ret (v := .agg #[.int .i64 (vcode h.f h.cs d.md d.y d.rs d.ws), .int .i64 (vnum h.f h.n h.cs d.md d.y d.rs d.ws), .bool false, .string ⟨#[]⟩, .slice none 0 0]) (by simp [results, Try.results47, go_sem, e0, e1, e2, e3, e4]) rfl ?_
  exact ⟨tb, _, none, 0, rfl, by show Sts _ (upd h.seat ((j : Int).toNat) none); rw [hjs]; exact (unhide HS).put j none, (((((unhide HY).set0 1 _).set0 0 _).tail).fin _ _ _ _ _).tail.ps.as rfl rfl rfl⟩
set_option maxHeartbeats 1000000 in
theorem end_abort (x : HStep) (hx : x.d = 7) {j D : Nat} {d : Dp} (hj : x.s = (j : Int)) (h5 : j < 5) (hsd : st j = some (D, d)) (hs : Sts st h.seat) (hz : Hall w0 w hb vb tb gb h st r) (hi : HInv h) :
    Calls Try.prog 47 #[.pointer (some ⟨hb, 0, none⟩), .agg #[.int .i64 x.d, .int .i64 x.s, .int .i64 x.md, .int .i64 x.at_, .int .i64 x.key, .int .i64 x.to_, .int .i64 x.keep, .string x.b]] w fun e w' => GoEnd w0 hb vb gb r (hdo h x) (hev h x) e w' := by
  have HS := hide hs
  have HX := hide (hz.two (xcs x) 37 #[.int .i64 0, .int .i64 0, .bool false, .string ⟨#[]⟩, .slice none 0 0] 34)
  have hjs : x.s.toNat = j := by omega
  have i0 : (0 : Int) ≤ (j : Int) := by omega
  have i5 : (j : Int) < 5 := by omega
  have hsj : h.seat j = some d := by rw [← hs j, hsd]; rfl
  have heq := (HKind.abort (h := h) (x := x) d hx ⟨by omega, by omega⟩ (by rw [hjs]; exact hsj)).eq
  rw [heq.1, heq.2]
  clear heq hz hs hsj
  have hda : dat st (j : Int) = some (D, d) := by rw [dat_in h5, hsd]
  have hfc : fcode st (j : Int) = 0 := by unfold fcode; rw [if_pos ⟨i0, i5⟩, Int.toNat_natCast, hsd]; rfl
  have HI := hide hi
  have HW := hide (hi.ok j d (by rw [← unhide HS j, hsd]; rfl))
  clear hi
  obtain ⟨xd, xs, xm, xa, xk, xt, xp, xb⟩ := x
  dsimp only [xcs] at *
  subst hx hj
  go_enter Try.func47, Try.ntmps47
  go_wp2_with fail
  generalize (w.alloc (.cells #[.int .i64 7, .int .i64 (j : Int), .int .i64 xm, .int .i64 xa, .int .i64 xk, .int .i64 xt, .int .i64 xp, .string xb] 37)).alloc (.cells #[.int .i64 0, .int .i64 0, .bool false, .string ⟨#[]⟩, .slice none 0 0] 34) = W at HX ⊢
  generalize w.heap.size = q at HX ⊢
  generalize q + 1 = p at HX ⊢
  have hq := (unhide HX).var (List.Mem.tail _ (List.Mem.head _))
  have x0 : W.cell? ⟨q, 0, none⟩ = some (.int .i64 7) := cell_of_block hq rfl
  have x1 : W.cell? ⟨q, 1, none⟩ = some (.int .i64 (j : Int)) := cell_of_block hq rfl
  have x4 : W.cell? ⟨q, 4, none⟩ = some (.int .i64 xk) := cell_of_block hq rfl
  have x5 : W.cell? ⟨q, 5, none⟩ = some (.int .i64 xt) := cell_of_block hq rfl
  have x6 : W.cell? ⟨q, 6, none⟩ = some (.int .i64 xp) := cell_of_block hq rfl
  have x7 : W.cell? ⟨q, 7, none⟩ = some (.string xb) := cell_of_block hq rfl
  have ql := lt_of_block hq
  clear hq
  refine (h_find (j : Int) (unhide HX)).mono ?_
  rintro e w' ⟨rfl, hw'⟩
  subst w'
  rw [hda, hfc]
  rw [show sp (some (D, d)) = .pointer (some ⟨D, 0, none⟩) from rfl]
  have HE := hide ((unhide HX).new #[.int .i64 0, .int .i64 0, .bool false, .string ⟨#[]⟩, .slice none 0 0] 34)
  have pl := lt_of_block ((unhide HX).var (List.Mem.head _))
  have hl := (unhide HX).lt
  have vl := (unhide HX).vlt_
  have c0 := (unhide HX).c0
  have v0 := (unhide HX).v0
  obtain ⟨e0, e1, e2, e3, e4, g0, g1, g2, g3, g4⟩ := evF ((unhide HX).var (List.Mem.head _))
  go_wp2_with fail
  generalize W.alloc (.cells #[.int .i64 0, .int .i64 0, .bool false, .string ⟨#[]⟩, .slice none 0 0] 34) = W2 at HE ⊢
  generalize W.heap.size = pe at HE ⊢
  clear e0 e1 e2 e3 e4 g0 g1 g2 g3 g4 x0 x1 x4 x5 x6 x7 ql pl hl vl c0 v0
  have c2 := (unhide HE).cs_ h5
  have f2 := (unhide HE).fz (1 + j)
  have hq := (unhide HE).var (List.Mem.tail _ (List.Mem.tail _ (List.Mem.head _)))
  have x1 : W2.cell? ⟨q, 1, none⟩ = some (.int .i64 (j : Int)) := cell_of_block hq rfl
  clear hq
  have HL := hide ((unhide HE).leave h5)
  rw [hsd] at HL
  go_region
  have HL2 := hide (((unhide HL).kp0 (Kp.refl [] _).drew).perm (List.perm_middle (l₁ := [_, _, _])).symm)
  clear HL HE HX c2 f2 x1
  generalize World.drew _ = W3 at HL2 ⊢
  have hq := (unhide HL2).var (List.Mem.tail _ (List.Mem.tail _ (List.Mem.head _)))
  have x0 : W3.cell? ⟨q, 0, none⟩ = some (.int .i64 7) := cell_of_block hq rfl
  have x6 : W3.cell? ⟨q, 6, none⟩ = some (.int .i64 xp) := cell_of_block hq rfl
  clear hq
  have c0 := (unhide HL2).c0
  have HY := HL2
  have hep := (unhide HY).var (List.Mem.head _)
  have hpp := (unhide HY).var (List.Mem.tail _ (List.Mem.head _))
  obtain ⟨a0, a1, a2, a3, a4, b0, b1, b2, b3, b4⟩ := evF hep
  obtain ⟨e0, e1, e2, e3, e4, g0, g1, g2, g3, g4⟩ := evF hpp
  clear hep hpp
  have hne := (unhide HY).ne2
  go_wp2_with fail
  refine bodyPost_ret (v := .agg #[.int .i64 0, .int .i64 0, .bool false, .string ⟨#[]⟩, .slice none 0 0]) (by simp [results, Try.results47, go_sem, e0, e1, e2, e3, e4]) rfl ?_
  exact ⟨tb, _, none, 0, rfl, by show Sts _ (upd h.seat ((j : Int).toNat) none); rw [hjs]; exact (unhide HS).put j none, (((unhide HY).tail).fin _ _ _ _ _).tail.ps.as rfl rfl rfl⟩
end
end Go.Proofs.Ytehhpmfeaeabgac

/- A hall's end: Tear. -/
namespace Go.Proofs.Ytehhpmfeaeabgac
open Go.RowKit
set_option maxRecDepth 20000
attribute [local go_sem ↓] Go.wp_at_zero Go.wp_at_succ

theorem ev_set10 (a b c d e x y : Value) : ((#[a, b, c, d, e] : Array Value).setIfInBounds 1 x).setIfInBounds 0 y = #[y, x, c, d, e] := rfl
section
variable {w0 w : World} {hb vb tb gb : Nat} {h : HSt} {st : Nat → Sd} {r : List Thing}
set_option maxHeartbeats 1000000 in
theorem end_tear (x : HStep) (hx : x.d = 10) {j D : Nat} {d : Dp} (hj : x.s = (j : Int)) (h5 : j < 5) (hsd : st j = some (D, d)) (hs : Sts st h.seat) (hz : Hall w0 w hb vb tb gb h st r) (hi : HInv h) :
    Calls Try.prog 47 #[.pointer (some ⟨hb, 0, none⟩), .agg #[.int .i64 x.d, .int .i64 x.s, .int .i64 x.md, .int .i64 x.at_, .int .i64 x.key, .int .i64 x.to_, .int .i64 x.keep, .string x.b]] w fun e w' => GoEnd w0 hb vb gb r (hdo h x) (hev h x) e w' := by
  have HS := hide hs
  have HX := hide (hz.two (xcs x) 37 #[.int .i64 0, .int .i64 0, .bool false, .string ⟨#[]⟩, .slice none 0 0] 34)
  have hjs : x.s.toNat = j := by omega
  have i0 : (0 : Int) ≤ (j : Int) := by omega
  have i5 : (j : Int) < 5 := by omega
  have hsj : h.seat j = some d := by rw [← hs j, hsd]; rfl
  have heq := (HKind.tear (h := h) (x := x) d hx ⟨by omega, by omega⟩ (by rw [hjs]; exact hsj)).eq
  rw [heq.1, heq.2]
  clear heq hz hs hsj
  have hda : dat st (j : Int) = some (D, d) := by rw [dat_in h5, hsd]
  have hfc : fcode st (j : Int) = 0 := by unfold fcode; rw [if_pos ⟨i0, i5⟩, Int.toNat_natCast, hsd]; rfl
  have HI := hide hi
  have HW := hide (hi.ok j d (by rw [← unhide HS j, hsd]; rfl))
  clear hi
  obtain ⟨xd, xs, xm, xa, xk, xt, xp, xb⟩ := x
  dsimp only [xcs] at *
  subst hx hj
  go_enter Try.func47, Try.ntmps47
  go_wp2_with fail
  generalize (w.alloc (.cells #[.int .i64 10, .int .i64 (j : Int), .int .i64 xm, .int .i64 xa, .int .i64 xk, .int .i64 xt, .int .i64 xp, .string xb] 37)).alloc (.cells #[.int .i64 0, .int .i64 0, .bool false, .string ⟨#[]⟩, .slice none 0 0] 34) = W at HX ⊢
  generalize w.heap.size = q at HX ⊢
  generalize q + 1 = p at HX ⊢
  have hq := (unhide HX).var (List.Mem.tail _ (List.Mem.head _))
  have x0 : W.cell? ⟨q, 0, none⟩ = some (.int .i64 10) := cell_of_block hq rfl
  have x1 : W.cell? ⟨q, 1, none⟩ = some (.int .i64 (j : Int)) := cell_of_block hq rfl
  have x4 : W.cell? ⟨q, 4, none⟩ = some (.int .i64 xk) := cell_of_block hq rfl
  have x5 : W.cell? ⟨q, 5, none⟩ = some (.int .i64 xt) := cell_of_block hq rfl
  have x6 : W.cell? ⟨q, 6, none⟩ = some (.int .i64 xp) := cell_of_block hq rfl
  have x7 : W.cell? ⟨q, 7, none⟩ = some (.string xb) := cell_of_block hq rfl
  have ql := lt_of_block hq
  clear hq
  refine (h_find (j : Int) (unhide HX)).mono ?_
  rintro e w' ⟨rfl, hw'⟩
  subst w'
  rw [hda, hfc]
  rw [show sp (some (D, d)) = .pointer (some ⟨D, 0, none⟩) from rfl]
  have HE := hide ((unhide HX).new #[.int .i64 0, .int .i64 0, .bool false, .string ⟨#[]⟩, .slice none 0 0] 34)
  have pl := lt_of_block ((unhide HX).var (List.Mem.head _))
  have hl := (unhide HX).lt
  have vl := (unhide HX).vlt_
  have c0 := (unhide HX).c0
  have v0 := (unhide HX).v0
  obtain ⟨e0, e1, e2, e3, e4, g0, g1, g2, g3, g4⟩ := evF ((unhide HX).var (List.Mem.head _))
  go_wp2_with fail
  generalize W.alloc (.cells #[.int .i64 0, .int .i64 0, .bool false, .string ⟨#[]⟩, .slice none 0 0] 34) = W2 at HE ⊢
  generalize W.heap.size = pe at HE ⊢
  clear e0 e1 e2 e3 e4 g0 g1 g2 g3 g4 x0 x1 x4 x5 x6 x7 ql pl hl vl c0 v0
  have c2 := (unhide HE).cs_ h5
  have f2 := (unhide HE).fz (1 + j)
  have hq := (unhide HE).var (List.Mem.tail _ (List.Mem.tail _ (List.Mem.head _)))
  have x1 : W2.cell? ⟨q, 1, none⟩ = some (.int .i64 (j : Int)) := cell_of_block hq rfl
  clear hq
  have HL := hide ((unhide HE).leave h5)
  rw [hsd] at HL
  go_region
  have HL2 := hide (((unhide HL).kp0 (Kp.refl [] _).drew).perm (List.perm_middle (l₁ := [_, _, _])).symm)
  clear HL HE HX c2 f2 x1
  generalize World.drew _ = W3 at HL2 ⊢
  have hq := (unhide HL2).var (List.Mem.tail _ (List.Mem.tail _ (List.Mem.head _)))
  have x0 : W3.cell? ⟨q, 0, none⟩ = some (.int .i64 10) := cell_of_block hq rfl
  have x6 : W3.cell? ⟨q, 6, none⟩ = some (.int .i64 xp) := cell_of_block hq rfl
  clear hq
  have c0 := (unhide HL2).c0
  have HG := hide (fun W' (hk : Kp [] W3 W') => h_tear xp (unhide HI) (unhide HW) (List.Mem.tail _ (List.Mem.tail _ (List.Mem.tail _ (List.Mem.head _)))) ((unhide HL2).kp0 hk))
  go_wp2_with fail
  go_region_with (go_at_call 79; refine (unhide HG _ (Kp.refl [] W3).drew).mono ?_; rintro e w4 ⟨rfl, tb', HY⟩; (have hep := (unhide HY).var (List.Mem.head _)); (obtain ⟨a0, a1, a2, a3, a4, b0, b1, b2, b3, b4⟩ := evF hep); clear hep)
  all_goals
    have HY2 := hide (((unhide HY).set0 1 (.int .i64 (tnum h.f h.cs d.md d.y d.rs d.ws xp))).set0 0 (.int .i64 (vcode h.f h.cs d.md d.y d.rs d.ws)))
    clear a0 a1 a2 a3 a4 b0 b1 b2 b3 b4 HY HG x0 x6 c0
    rw [ev_set10] at HY2
    go_wp2_with fail
    refine (h_leaveAll (unhide HY2)).mono ?_
    rintro e w5 ⟨rfl, HY⟩
    clear HY2
    have hep := (unhide HY).var (List.Mem.head _)
    have hpp := (unhide HY).var (List.Mem.tail _ (List.Mem.head _))
    obtain ⟨a0, a1, a2, a3, a4, b0, b1, b2, b3, b4⟩ := evF hep
    obtain ⟨e0, e1, e2, e3, e4, g0, g1, g2, g3, g4⟩ := evF hpp
    clear hep hpp
    have hne := (unhide HY).ne2
    go_wp2_with fail
    refine bodyPost_ret (v := .agg #[.int .i64 (vcode h.f h.cs d.md d.y d.rs d.ws), .int .i64 (tnum h.f h.cs d.md d.y d.rs d.ws xp), .bool false, .string ⟨#[]⟩, .slice none 0 0]) (by simp [results, Try.results47, go_sem, e0, e1, e2, e3, e4]) rfl ?_
    exact ⟨tb', _, none, 0, rfl, fun _ => rfl, (((unhide HY).tail).fin _ _ _ _ _).tail.ps.as rfl rfl rfl⟩
end
end Go.Proofs.Ytehhpmfeaeabgac
