/- V2, H0, H1, H2, H3, H4, H5, H6, H7, So, Sa, Sp, Sq: bound together for a claim. -/
import Derived.Test.YtapmlleemopcnacM5
/- Plain words for the laws of vaults: what was written laid over what was there; what is read behind a crash. -/
namespace Go.Proofs.Ytapmlleemopcnac
open Go.RowKit
set_option maxRecDepth 20000

/-- The values of all keys, with what a deed wrote last laid over them. -/
def lay (v : Nat → Ver) (ws : List Ver) : Nat → Ver := fun k => match lwr ws k with | some u => ⟨0, u.t, u.s⟩ | none => v k
theorem lay_nil (v : Nat → Ver) : lay v [] = v := by
  funext k
  unfold lay
  rw [lwr_nil]
theorem lay_put (v : Nat → Ver) (ws : List Ver) (j : Nat) (t : Bool) (s : ByteArray) : lay v (ws ++ [⟨(j : Int), t, s⟩]) = upd (lay v ws) j ⟨0, t, s⟩ := by
  funext k
  unfold upd
  by_cases e : k = j
  · subst e
    rw [if_pos rfl]
    unfold lay
    rw [lwr_put, if_pos rfl]
  · rw [if_neg e]
    unfold lay
    rw [lwr_put, if_neg (by show ¬ ((j : Int) = (k : Int)); omega)]
theorem wk_lt (ws : List Ver) : ∀ m, ∀ q ∈ wk ws m, q.a < m := by
  intro m
  induction m with
  | zero => intro q hq; simp [wk] at hq
  | succ m ih =>
    intro q hq
    simp only [wk] at hq
    split at hq
    · rcases List.mem_append.1 hq with e | e
      · have := ih q e; push_cast; omega
      · rw [List.mem_singleton.1 e]; push_cast; omega
    · have := ih q hq; push_cast; omega
theorem fnd_wk (ws : List Ver) {k : Nat} : ∀ m, k < m → fnd (wk ws m) k = (lwr ws k).map (fun u => ⟨(k : Int), u.t, u.s⟩) := by
  intro m
  induction m with
  | zero => intro h; omega
  | succ m ih =>
    intro h
    by_cases e : k = m
    · subst e
      have hn : (wk ws k).find? (fun p => p.a == (k : Int)) = none := by
        rw [List.find?_eq_none]
        intro q hq
        have := wk_lt ws k q hq
        simp only [beq_iff_eq]
        omega
      cases hl : lwr ws k with
      | some u =>
        rw [wk_yes hl]
        unfold fnd
        rw [List.find?_append, hn]
        simp
      | none =>
        rw [wk_no hl]
        unfold fnd
        rw [hn]
        rfl
    · have hk := ih (by omega)
      cases hl : lwr ws m with
      | some u =>
        rw [wk_yes hl]
        unfold fnd at hk ⊢
        rw [List.find?_append, hk]
        have hf : ((m : Int) == (k : Int)) = false := by simp only [beq_eq_false_iff_ne]; omega
        simp [hf]
      | none =>
        rw [wk_no hl]
        exact hk
theorem lay_wvs {ws : List Ver} (h : WOk ws) (v : Nat → Ver) : wagg (wvs v (wk ws 8)) = wagg (lay v ws) := by
  refine wagg_congr (fun k hk => ?_)
  rw [wvs_get h.pf k, fnd_wk ws 8 hk]
  unfold lay
  cases lwr ws k with
  | some u => exact ⟨rfl, rfl⟩
  | none => exact ⟨rfl, rfl⟩
/-- Behind a crash all that is known is read as it was. -/
theorem crash_tr {f : Nat → List Ver} {n : Nat} {cs : List (List Ver)} (h : VI f n cs) (hl : LInv cs) {y : Int} (hy : fmx f 8 ≤ y) (j : Nat) : tr (wal0 cs) n j y = tr f n j y := by
  have hi := inv_wal0 hl
  rw [← h.len] at hi
  exact (h.sfx.read hi j y hy).symm
theorem crash_shw {f : Nat → List Ver} {n : Nat} {cs : List (List Ver)} (h : VI f n cs) (hl : LInv cs) {y : Int} (hy : fmx f 8 ≤ y) : shw (wal0 cs) n y 8 = shw f n y 8 :=
  shw_congr (Nat.le_refl _) (fun j _ => crash_tr h hl hy j)
theorem shk_known {f : Nat → List Ver} {n : Nat} {y : Int} (h : Inv f n) (h1 : fmx f 8 ≤ y) (h2 : y ≤ n) : ShK f n y 8 :=
  ⟨Nat.le_refl _, fun _ hj => tr_known h h1 h2 hj, fun h => by omega⟩
/-- What is there behind a commit that came whole. -/
theorem tears_now {f : Nat → List Ver} {n : Nat} {cs : List (List Ver)} {ws : List Ver} (h : VI f n cs) (hf : Inv f n) (hl : LInv cs) (hw : WOk ws) (hc : lcode cs (wk ws 8) = 0) {m : Nat} (hm : n + 1 = m) :
    wagg (lay (shw f n n 8) ws) = wagg (shw (wal0 (cs ++ [wk ws 8])) m m 8) := by
  subst hm
  have hi := inv_wal0 hl
  rw [← h.len] at hi
  have h1 := shots_now' hi (h.room hc).1
  rw [crash_shw h hl (fmx_le hf 8 (Nat.le_refl _)).2, lay_wvs hw] at h1
  rw [h1, wal0_snoc, ← h.len]
end Go.Proofs.Ytapmlleemopcnac

/- Plain words for halls: what a step tells, and what it leaves; no statement of the program yet. -/
namespace Go.Proofs.Ytapmlleemopcnac
open Go.RowKit
set_option maxRecDepth 20000

/-- A seat's deed. -/
structure Dp where
  md : Int
  y : Int
  rs : List Int
  ws : List Ver
/-- A hall: the versions of all keys, how many commits, the commits, the seats' deeds. -/
structure HSt where
  f : Nat → List Ver
  n : Nat
  cs : List (List Ver)
  seat : Nat → Option Dp
structure HStep where
  d : Int
  s : Int
  md : Int
  at_ : Int
  key : Int
  to_ : Int
  keep : Int
  b : ByteArray
structure Ev where
  c : Int
  n : Int
  t : Bool
  s : ByteArray
  l : List Ver
def ev0 : Ev := ⟨0, 0, false, ⟨#[]⟩, []⟩
def evc (c : Int) : Ev := ⟨c, 0, false, ⟨#[]⟩, []⟩
def evn (c n : Int) : Ev := ⟨c, n, false, ⟨#[]⟩, []⟩

/-- The lowest commit behind which one of the first m seats' deeds began. -/
def least (n : Nat) (seat : Nat → Option Dp) : Nat → Int
  | 0 => n
  | m + 1 => match seat m with
    | some d => if d.y < least n seat m then d.y else least n seat m
    | none => least n seat m
theorem least_le (n : Nat) (seat : Nat → Option Dp) : ∀ m, least n seat m ≤ n ∧ ∀ s d, s < m → seat s = some d → least n seat m ≤ d.y := by
  intro m
  induction m with
  | zero => exact ⟨Int.le_refl _, fun s d h => by omega⟩
  | succ m ih =>
    obtain ⟨h1, h2⟩ := ih
    simp only [least]
    cases hs : seat m with
    | none =>
      refine ⟨h1, fun s d h e => ?_⟩
      by_cases q : s = m
      · subst q; rw [hs] at e; cases e
      · exact h2 s d (by omega) e
    | some x =>
      dsimp only
      refine ⟨by split <;> omega, fun s d h e => ?_⟩
      by_cases q : s = m
      · subst q
        rw [hs] at e
        cases e
        split <;> omega
      · have := h2 s d (by omega) e
        split <;> omega
theorem least_ge {n : Nat} {seat : Nat → Option Dp} {z : Int} (hz : z ≤ n) (h : ∀ s d, seat s = some d → z ≤ d.y) : ∀ m, z ≤ least n seat m := by
  intro m
  induction m with
  | zero => exact hz
  | succ m ih =>
    simp only [least]
    cases hs : seat m with
    | none => exact ih
    | some x =>
      dsimp only
      have := h m x hs
      split <;> omega

/-- What is so of a hall. -/
structure HInv (h : HSt) : Prop where
  inv : Inv h.f h.n
  li : LInv h.cs
  vi : VI h.f h.n h.cs
  ok : ∀ s d, h.seat s = some d → WOk d.ws
  known : ∀ s d, h.seat s = some d → fmx h.f 8 ≤ d.y ∧ d.y ≤ h.n
  five : ∀ s, 5 ≤ s → h.seat s = none

/-- The seat's deed, where there is such a seat. -/
def at5 (h : HSt) (s : Int) : Option Dp := if 0 ≤ s ∧ s < 5 then h.seat s.toNat else none
def sit (h : HSt) (s : Int) (d : Option Dp) : HSt := { h with seat := upd h.seat s.toNat d }

/-- What a step leaves. -/
def hdo (h : HSt) (x : HStep) : HSt :=
  if x.d < 1 ∨ 10 < x.d then h
  else if x.d = 8 then { h with f := clm h.f (least h.n h.seat 5) 8 }
  else if x.d = 9 then ⟨wal0 h.cs, h.cs.length, h.cs, fun _ => none⟩
  else if ¬ (0 ≤ x.s ∧ x.s < 5) then h
  else match h.seat x.s.toNat with
    | none => if x.d = 1 ∧ bcode h.f h.n x.md x.at_ = 0 then sit h x.s (some ⟨x.md, bat h.n x.md x.at_, [], []⟩) else h
    | some d =>
      if x.d = 1 then h
      else if x.d = 2 then sit h x.s (some { d with rs := dr h.f h.n d.y d.rs d.ws x.key })
      else if x.d = 3 then sit h x.s (some { d with ws := dpw d.md d.ws x.key true x.b })
      else if x.d = 4 then sit h x.s (some { d with ws := dpw d.md d.ws x.key false ⟨#[]⟩ })
      else if x.d = 5 then sit h x.s (some { d with rs := (dls h.f h.n d.y d.ws d.rs x.key x.to_).2.2 })
      else if x.d = 6 then ⟨vf h.f h.n h.cs d.md d.y d.rs d.ws, vn h.f h.n h.cs d.md d.y d.rs d.ws, vcs h.f h.cs d.md d.y d.rs d.ws, upd h.seat x.s.toNat none⟩
      else if x.d = 10 then ⟨wal0 (tcs h.f h.cs d.md d.y d.rs d.ws x.keep), (tcs h.f h.cs d.md d.y d.rs d.ws x.keep).length, tcs h.f h.cs d.md d.y d.rs d.ws x.keep, fun _ => none⟩
      else sit h x.s none
/-- What a step tells. -/
def hev (h : HSt) (x : HStep) : Ev :=
  if x.d < 1 ∨ 10 < x.d then evc 3
  else if x.d = 8 then evn 0 (cln h.f (least h.n h.seat 5) 8 : Nat)
  else if x.d = 9 then ev0
  else if ¬ (0 ≤ x.s ∧ x.s < 5) then evc 1
  else match h.seat x.s.toNat with
    | none => if x.d = 1 then evc (bcode h.f h.n x.md x.at_) else evc 7
    | some d =>
      if x.d = 1 then evc 8
      else if x.d = 2 then ⟨(dg h.f h.n d.y d.ws x.key).a, 0, (dg h.f h.n d.y d.ws x.key).t, (dg h.f h.n d.y d.ws x.key).s, []⟩
      else if x.d = 3 then evc (dpc d.md x.key true x.b)
      else if x.d = 4 then evc (dpc d.md x.key false ⟨#[]⟩)
      else if x.d = 5 then ⟨(dls h.f h.n d.y d.ws d.rs x.key x.to_).2.1, 0, false, ⟨#[]⟩, (dls h.f h.n d.y d.ws d.rs x.key x.to_).1⟩
      else if x.d = 6 then evn (vcode h.f h.cs d.md d.y d.rs d.ws) (vnum h.f h.n h.cs d.md d.y d.rs d.ws)
      else if x.d = 10 then evn (vcode h.f h.cs d.md d.y d.rs d.ws) (tnum h.f h.cs d.md d.y d.rs d.ws x.keep)
      else ev0

theorem fmx_bound {g : Nat → List Ver} {y : Int} (h0 : 0 ≤ y) : ∀ m, (∀ k, k < m → va (g k) 0 ≤ y) → fmx g m ≤ y := by
  intro m
  induction m with
  | zero => intro _; exact h0
  | succ m ih =>
    intro h
    have h1 := ih (fun k hk => h k (by omega))
    have h2 := h m (by omega)
    simp only [fmx]
    split <;> omega
theorem fmx_clm {f : Nat → List Ver} {n : Nat} {l y : Int} (hi : Inv f n) (hl : l ≤ y) (hy : fmx f 8 ≤ y) : fmx (clm f l 8) 8 ≤ y := by
  have h0 := (fmx_le hi 8 (Nat.le_refl _)).1
  refine fmx_bound (by omega) 8 (fun k hk => ?_)
  have hc := cntf_is l (hi.rise k hk)
  have hg := fmx_ge f 8 k hk
  unfold clm
  rw [if_pos hk]
  have e : va ((f k).drop (cd (f k) l)) 0 = va (f k) (cd (f k) l) := by simp [va]
  rw [e]
  unfold cd
  rcases Nat.eq_zero_or_pos (cntf (f k) l) with q | q
  · rw [q]; show va (f k) 0 ≤ y; omega
  · have := hc.lo (cntf (f k) l - 1) (by omega); omega
theorem wrs_lo1 {k : Nat} : ∀ (ps : List Ver) (f : Nat → List Ver) (x : Int), 0 < (f k).length → 0 < (wrs f x ps k).length ∧ va (wrs f x ps k) 0 = va (f k) 0 := by
  intro ps
  induction ps with
  | nil => intro f x h; exact ⟨h, rfl⟩
  | cons p r ih =>
    intro f x h
    have hl : 0 < (wr1 f x p k).length ∧ va (wr1 f x p k) 0 = va (f k) 0 := by
      unfold wr1
      by_cases e : k = p.a.toNat
      · subst e
        rw [upd_same]
        exact ⟨by have := (pvers_length (f p.a.toNat) x p.t p.s).1; omega, pvers_lo h⟩
      · rw [upd_other _ _ _ e]
        exact ⟨h, rfl⟩
    simp only [wrs]
    obtain ⟨h1, h2⟩ := ih (wr1 f x p) x hl.1
    exact ⟨h1, h2.trans hl.2⟩
theorem fmx_wst {f : Nat → List Ver} {n : Nat} {y : Int} (hi : Inv f n) (ps : List Ver) (hy : fmx f 8 ≤ y) : fmx (wst f n ps) 8 ≤ y := by
  have h0 := (fmx_le hi 8 (Nat.le_refl _)).1
  refine fmx_bound (by omega) 8 (fun k hk => ?_)
  have hg := fmx_ge f 8 k hk
  unfold wst
  split
  · rw [(wrs_lo1 ps f _ (hi.pos k hk)).2]; omega
  · omega
theorem fmx_vf {f : Nat → List Ver} {n : Nat} {cs : List (List Ver)} {md y' y : Int} {rs : List Int} {ws : List Ver} (hi : Inv f n) (hy : fmx f 8 ≤ y) : fmx (vf f n cs md y' rs ws) 8 ≤ y := by
  unfold vf
  split
  · exact fmx_wst hi _ hy
  · exact hy
theorem vn_ge (f : Nat → List Ver) (n : Nat) (cs : List (List Ver)) (md y : Int) (rs : List Int) (ws : List Ver) : n ≤ vn f n cs md y rs ws := by
  unfold vn
  split <;> omega
theorem inv_vf {f : Nat → List Ver} {n : Nat} {cs : List (List Ver)} {md y : Int} {rs : List Int} {ws : List Ver} (hi : Inv f n) (hv : VI f n cs) : Inv (vf f n cs md y rs ws) (vn f n cs md y rs ws) := by
  unfold vf vn
  split
  · rename_i h
    have hl : lcode cs (wk ws 8) = 0 := by unfold vdone at h; simp at h; exact h.2.2
    have h1 := hi.write (wk ws 8)
    rw [(hv.room hl).2.1] at h1
    exact h1
  · exact hi
theorem linv_vcs {f : Nat → List Ver} {cs : List (List Ver)} {md y : Int} {rs : List Int} {ws : List Ver} (h : LInv cs) : LInv (vcs f cs md y rs ws) := by
  unfold vcs
  split
  · rename_i q
    have hl : lcode cs (wk ws 8) = 0 := by unfold vdone at q; simp at q; exact q.2.2
    exact h.snoc hl
  · exact h
theorem upd_at {α : Type} (g : Nat → α) (k : Nat) (v : α) (s : Nat) : upd g k v s = if s = k then v else g s := by
  unfold upd
  rfl
/-- A seat's deed is another one, or none. -/
theorem HInv.sit {h : HSt} (hi : HInv h) {s : Int} (hs : 0 ≤ s ∧ s < 5) {d : Option Dp} (hd : ∀ e, d = some e → WOk e.ws ∧ fmx h.f 8 ≤ e.y ∧ e.y ≤ h.n) : HInv (Ytapmlleemopcnac.sit h s d) := by
  refine ⟨hi.inv, hi.li, hi.vi, fun k e he => ?_, fun k e he => ?_, fun k hk => ?_⟩
  · simp only [Ytapmlleemopcnac.sit, upd_at] at he
    split at he
    · exact (hd e he).1
    · exact hi.ok k e he
  · simp only [Ytapmlleemopcnac.sit, upd_at] at he
    split at he
    · exact (hd e he).2
    · exact hi.known k e he
  · simp only [Ytapmlleemopcnac.sit, upd_at]
    rw [if_neg (by omega)]
    exact hi.five k hk
theorem bat_known {f : Nat → List Ver} {n : Nat} {md at_ : Int} (hi : Inv f n) (hb : bcode f n md at_ = 0) : fmx f 8 ≤ bat n md at_ ∧ bat n md at_ ≤ n := by
  have hf := fmx_le hi 8 (Nat.le_refl _)
  unfold bcode at hb
  unfold bat
  split at hb
  · split at hb
    · rename_i q
      rw [if_pos q]
      split at hb
      · simp at hb
      · split at hb
        · simp at hb
        · omega
    · rename_i q
      rw [if_neg q]
      exact ⟨hf.2, Int.le_refl _⟩
  · simp at hb
/-- What is so of a hall stays so. -/
theorem HInv.clear {h : HSt} (hi : HInv h) : HInv { h with f := clm h.f (least h.n h.seat 5) 8 } := by
  obtain ⟨l1, l2⟩ := least_le h.n h.seat 5
  refine ⟨hi.inv.clm _ 8 (Nat.le_refl _), hi.li, hi.vi.clear hi.inv _, hi.ok, fun s d hs => ?_, hi.five⟩
  obtain ⟨k1, k2⟩ := hi.known s d hs
  refine ⟨fmx_clm hi.inv (l2 s d ?_ hs) k1, k2⟩
  rcases Nat.lt_or_ge s 5 with q | q
  · exact q
  · rw [hi.five s q] at hs; cases hs
theorem HInv.crash {cs : List (List Ver)} (hl : LInv cs) : HInv ⟨wal0 cs, cs.length, cs, fun _ => none⟩ := ⟨inv_wal0 hl, hl, VI.crash hl, fun _ _ h => (by cases h), fun _ _ h => (by cases h), fun _ _ => rfl⟩
theorem HInv.commit {h : HSt} (hi : HInv h) (d : Dp) {k : Nat} (hk : k < 5) : HInv ⟨vf h.f h.n h.cs d.md d.y d.rs d.ws, vn h.f h.n h.cs d.md d.y d.rs d.ws, vcs h.f h.cs d.md d.y d.rs d.ws, upd h.seat k none⟩ := by
  refine ⟨inv_vf hi.inv hi.vi, linv_vcs hi.li, hi.vi.done, fun s e he => ?_, fun s e he => ?_, fun s hs => ?_⟩
  · simp only [upd_at] at he
    split at he
    · cases he
    · exact hi.ok s e he
  · simp only [upd_at] at he
    split at he
    · cases he
    · obtain ⟨k1, k2⟩ := hi.known s e he
      have := vn_ge h.f h.n h.cs d.md d.y d.rs d.ws
      exact ⟨fmx_vf hi.inv k1, by show e.y ≤ ((vn h.f h.n h.cs d.md d.y d.rs d.ws : Nat) : Int); omega⟩
  · simp only [upd_at]
    rw [if_neg (by omega)]
    exact hi.five s hs
theorem HInv.step {h : HSt} (hi : HInv h) (x : HStep) : HInv (hdo h x) := by
  unfold hdo
  by_cases c0 : x.d < 1 ∨ 10 < x.d
  · rw [if_pos c0]; exact hi
  rw [if_neg c0]
  by_cases c8 : x.d = 8
  · rw [if_pos c8]; exact hi.clear
  rw [if_neg c8]
  by_cases c9 : x.d = 9
  · rw [if_pos c9]; exact HInv.crash hi.li
  rw [if_neg c9]
  by_cases hs : 0 ≤ x.s ∧ x.s < 5
  · rw [if_neg (fun q => q hs)]
    cases hd : h.seat x.s.toNat with
    | none =>
      dsimp only
      by_cases hb : x.d = 1 ∧ bcode h.f h.n x.md x.at_ = 0
      · rw [if_pos hb]
        exact hi.sit hs (fun e he => by cases he; exact ⟨wok_nil, bat_known hi.inv hb.2⟩)
      · rw [if_neg hb]; exact hi
    | some d =>
      dsimp only
      have h1 := hi.ok _ d hd
      have h2 := hi.known _ d hd
      by_cases c1 : x.d = 1
      · rw [if_pos c1]; exact hi
      rw [if_neg c1]
      by_cases c2 : x.d = 2
      · rw [if_pos c2]; exact hi.sit hs (fun e he => by cases he; exact ⟨h1, h2⟩)
      rw [if_neg c2]
      by_cases c3 : x.d = 3
      · rw [if_pos c3]; exact hi.sit hs (fun e he => by cases he; exact ⟨h1.put _ _ _ _, h2⟩)
      rw [if_neg c3]
      by_cases c4 : x.d = 4
      · rw [if_pos c4]; exact hi.sit hs (fun e he => by cases he; exact ⟨h1.put _ _ _ _, h2⟩)
      rw [if_neg c4]
      by_cases c5 : x.d = 5
      · rw [if_pos c5]; exact hi.sit hs (fun e he => by cases he; exact ⟨h1, h2⟩)
      rw [if_neg c5]
      by_cases c6 : x.d = 6
      · rw [if_pos c6]; exact hi.commit d (by omega)
      rw [if_neg c6]
      by_cases c10 : x.d = 10
      · rw [if_pos c10]; exact HInv.crash (LInv.tcs hi.li)
      rw [if_neg c10]
      exact hi.sit hs (fun e he => by cases he)
  · rw [if_pos hs]; exact hi
theorem hinv_new : HInv ⟨fun _ => [dv], 0, [], fun _ => none⟩ := ⟨inv_dv, linv_nil, vi_new, fun _ _ h => (by cases h), fun _ _ h => (by cases h), fun _ _ => rfl⟩
end Go.Proofs.Ytapmlleemopcnac

/- Plain words for halls: what a deed sees is of one time; what is refused changes nothing. -/
namespace Go.Proofs.Ytapmlleemopcnac
open Go.RowKit
set_option maxRecDepth 20000

theorem shw_clm {f : Nat → List Ver} {n : Nat} {l y : Int} (hi : Inv f n) (hl : l ≤ y) : shw (clm f l 8) n y 8 = shw f n y 8 := shw_congr (Nat.le_refl _) (fun _ hj => tr_clm hi hl hj)
theorem shw_vf {f : Nat → List Ver} {n : Nat} {cs : List (List Ver)} {md y' y : Int} {rs : List Int} {ws : List Ver} (hi : Inv f n) (hv : VI f n cs) (hy : y ≤ n) : shw (vf f n cs md y' rs ws) (vn f n cs md y' rs ws) y 8 = shw f n y 8 := by
  unfold vf vn
  split
  · rename_i h
    have hl : lcode cs (wk ws 8) = 0 := by unfold vdone at h; simp at h; exact h.2.2
    have e := (hv.room hl).2.1
    exact shw_congr (Nat.le_refl _) (fun j hj => by have := tr_later hi (wk ws 8) hy hj; rw [e] at this; exact this)
  · rfl
theorem vdone_code {f : Nat → List Ver} {cs : List (List Ver)} {md y : Int} {rs : List Int} {ws : List Ver} (h : ¬ vcode f cs md y rs ws = 0) : vdone f cs md y rs ws = false := by
  by_cases h1 : dm f md y rs ws = 0
  · by_cases h2 : (wk ws 8).length = 0
    · exact absurd (v_none (cs := cs) h1 h2).1 h
    · by_cases h3 : lcode cs (wk ws 8) = 0
      · exact absurd (v_yes h1 h2 h3).1 h
      · exact (v_full h1 h2 h3).2
  · exact (v_may h1).2

/-- The kinds of a step, one by one. -/
inductive HKind (h : HSt) (x : HStep) : HSt → Ev → Prop
  | kind : (x.d < 1 ∨ 10 < x.d) → HKind h x h (evc 3)
  | clear : x.d = 8 → HKind h x { h with f := clm h.f (least h.n h.seat 5) 8 } (evn 0 (cln h.f (least h.n h.seat 5) 8 : Nat))
  | crash : x.d = 9 → HKind h x ⟨wal0 h.cs, h.cs.length, h.cs, fun _ => none⟩ ev0
  | range : (1 ≤ x.d ∧ x.d ≤ 10 ∧ x.d ≠ 8 ∧ x.d ≠ 9) → ¬ (0 ≤ x.s ∧ x.s < 5) → HKind h x h (evc 1)
  | began : x.d = 1 → (0 ≤ x.s ∧ x.s < 5) → h.seat x.s.toNat = none → bcode h.f h.n x.md x.at_ = 0 → HKind h x (sit h x.s (some ⟨x.md, bat h.n x.md x.at_, [], []⟩)) (evc 0)
  | beganNot : x.d = 1 → (0 ≤ x.s ∧ x.s < 5) → h.seat x.s.toNat = none → ¬ bcode h.f h.n x.md x.at_ = 0 → HKind h x h (evc (bcode h.f h.n x.md x.at_))
  | none_ : (2 ≤ x.d ∧ x.d ≤ 10 ∧ x.d ≠ 8 ∧ x.d ≠ 9) → (0 ≤ x.s ∧ x.s < 5) → h.seat x.s.toNat = none → HKind h x h (evc 7)
  | there (d : Dp) : x.d = 1 → (0 ≤ x.s ∧ x.s < 5) → h.seat x.s.toNat = some d → HKind h x h (evc 8)
  | get (d : Dp) : x.d = 2 → (0 ≤ x.s ∧ x.s < 5) → h.seat x.s.toNat = some d → HKind h x (sit h x.s (some { d with rs := dr h.f h.n d.y d.rs d.ws x.key })) ⟨(dg h.f h.n d.y d.ws x.key).a, 0, (dg h.f h.n d.y d.ws x.key).t, (dg h.f h.n d.y d.ws x.key).s, []⟩
  | put (d : Dp) : x.d = 3 → (0 ≤ x.s ∧ x.s < 5) → h.seat x.s.toNat = some d → HKind h x (sit h x.s (some { d with ws := dpw d.md d.ws x.key true x.b })) (evc (dpc d.md x.key true x.b))
  | drop (d : Dp) : x.d = 4 → (0 ≤ x.s ∧ x.s < 5) → h.seat x.s.toNat = some d → HKind h x (sit h x.s (some { d with ws := dpw d.md d.ws x.key false ⟨#[]⟩ })) (evc (dpc d.md x.key false ⟨#[]⟩))
  | list (d : Dp) : x.d = 5 → (0 ≤ x.s ∧ x.s < 5) → h.seat x.s.toNat = some d → HKind h x (sit h x.s (some { d with rs := (dls h.f h.n d.y d.ws d.rs x.key x.to_).2.2 })) ⟨(dls h.f h.n d.y d.ws d.rs x.key x.to_).2.1, 0, false, ⟨#[]⟩, (dls h.f h.n d.y d.ws d.rs x.key x.to_).1⟩
  | commit (d : Dp) : x.d = 6 → (0 ≤ x.s ∧ x.s < 5) → h.seat x.s.toNat = some d → HKind h x ⟨vf h.f h.n h.cs d.md d.y d.rs d.ws, vn h.f h.n h.cs d.md d.y d.rs d.ws, vcs h.f h.cs d.md d.y d.rs d.ws, upd h.seat x.s.toNat none⟩ (evn (vcode h.f h.cs d.md d.y d.rs d.ws) (vnum h.f h.n h.cs d.md d.y d.rs d.ws))
  | tear (d : Dp) : x.d = 10 → (0 ≤ x.s ∧ x.s < 5) → h.seat x.s.toNat = some d → HKind h x ⟨wal0 (tcs h.f h.cs d.md d.y d.rs d.ws x.keep), (tcs h.f h.cs d.md d.y d.rs d.ws x.keep).length, tcs h.f h.cs d.md d.y d.rs d.ws x.keep, fun _ => none⟩ (evn (vcode h.f h.cs d.md d.y d.rs d.ws) (tnum h.f h.cs d.md d.y d.rs d.ws x.keep))
  | abort (d : Dp) : x.d = 7 → (0 ≤ x.s ∧ x.s < 5) → h.seat x.s.toNat = some d → HKind h x (sit h x.s none) ev0
theorem hkind (h : HSt) (x : HStep) : HKind h x (hdo h x) (hev h x) := by
  unfold hdo hev
  by_cases c0 : x.d < 1 ∨ 10 < x.d
  · rw [if_pos c0, if_pos c0]; exact .kind c0
  rw [if_neg c0, if_neg c0]
  by_cases c8 : x.d = 8
  · rw [if_pos c8, if_pos c8]; exact .clear c8
  rw [if_neg c8, if_neg c8]
  by_cases c9 : x.d = 9
  · rw [if_pos c9, if_pos c9]; exact .crash c9
  rw [if_neg c9, if_neg c9]
  by_cases hs : 0 ≤ x.s ∧ x.s < 5
  · have hns : ¬ ¬ (0 ≤ x.s ∧ x.s < 5) := fun q => q hs
    rw [if_neg hns, if_neg hns]
    cases hd : h.seat x.s.toNat with
    | none =>
      dsimp only
      by_cases c1 : x.d = 1
      · rw [if_pos c1]
        by_cases hb : bcode h.f h.n x.md x.at_ = 0
        · rw [if_pos ⟨c1, hb⟩, hb]; exact .began c1 hs hd hb
        · rw [if_neg (fun q => hb q.2)]; exact .beganNot c1 hs hd hb
      · rw [if_neg (fun q => c1 q.1), if_neg c1]; exact .none_ (by omega) hs hd
    | some d =>
      dsimp only
      by_cases c1 : x.d = 1
      · rw [if_pos c1, if_pos c1]; exact .there d c1 hs hd
      rw [if_neg c1, if_neg c1]
      by_cases c2 : x.d = 2
      · rw [if_pos c2, if_pos c2]; exact .get d c2 hs hd
      rw [if_neg c2, if_neg c2]
      by_cases c3 : x.d = 3
      · rw [if_pos c3, if_pos c3]; exact .put d c3 hs hd
      rw [if_neg c3, if_neg c3]
      by_cases c4 : x.d = 4
      · rw [if_pos c4, if_pos c4]; exact .drop d c4 hs hd
      rw [if_neg c4, if_neg c4]
      by_cases c5 : x.d = 5
      · rw [if_pos c5, if_pos c5]; exact .list d c5 hs hd
      rw [if_neg c5, if_neg c5]
      by_cases c6 : x.d = 6
      · rw [if_pos c6, if_pos c6]; exact .commit d c6 hs hd
      rw [if_neg c6, if_neg c6]
      by_cases c10 : x.d = 10
      · rw [if_pos c10, if_pos c10]; exact .tear d c10 hs hd
      rw [if_neg c10, if_neg c10]
      exact .abort d (by omega) hs hd
  · rw [if_pos hs, if_pos hs]; exact .range (by omega) hs

/-- What the seat's deed sees of all keys. -/
def hsee (h : HSt) (d : Dp) : Nat → Ver := lay (shw h.f h.n d.y 8) d.ws
theorem dg_see {h : HSt} (hi : HInv h) {s : Nat} {d : Dp} (hs : h.seat s = some d) {k : Nat} (hk : k < 8) : dg h.f h.n d.y d.ws k = ⟨0, (hsee h d k).t, (hsee h d k).s⟩ := by
  obtain ⟨k1, k2⟩ := hi.known s d hs
  have ha := tr_known hi.inv k1 k2 hk
  have hkb : keyB (k : Int) = true := by simp [keyB]; omega
  unfold dg hsee lay
  rw [if_pos hkb]
  cases lwr d.ws k with
  | some v => rfl
  | none =>
    dsimp only
    unfold shw
    rw [if_pos hk]
    rw [← ha]
theorem sit_at {h : HSt} {x : Int} {e : Option Dp} {s : Nat} {d' : Dp} (h' : (sit h x e).seat s = some d') : (s = x.toNat ∧ e = some d') ∨ (s ≠ x.toNat ∧ h.seat s = some d') := by
  simp only [sit, upd_at] at h'
  split at h'
  · exact .inl ⟨by assumption, h'⟩
  · exact .inr ⟨by assumption, h'⟩
/-- What a deed sees is of one time: whatever is done, what it sees is what it saw, and what it wrote itself. -/
theorem hdo_sees {h : HSt} (hi : HInv h) (x : HStep) {s : Nat} {d d' : Dp} (hs : h.seat s = some d) (hs' : (hdo h x).seat s = some d') :
    d'.y = d.y ∧ d'.md = d.md ∧ shw (hdo h x).f (hdo h x).n d.y 8 = shw h.f h.n d.y 8 ∧
      (d'.ws = d.ws ∨ (x.s = s ∧ x.d = 3 ∧ d'.ws = dpw d.md d.ws x.key true x.b) ∨ (x.s = s ∧ x.d = 4 ∧ d'.ws = dpw d.md d.ws x.key false ⟨#[]⟩)) := by
  obtain ⟨k1, k2⟩ := hi.known s d hs
  have hk := hkind h x
  generalize hdo h x = h2 at *
  generalize hev h x = e at *
  have same : ∀ {d' : Dp}, h.seat s = some d' → d' = d := fun q => by rw [hs] at q; cases q; rfl
  cases hk with
  | kind c => have q := same hs'; subst q; exact ⟨rfl, rfl, rfl, .inl rfl⟩
  | clear c =>
    have q := same hs'
    subst q
    have h5 : s < 5 := by
      rcases Nat.lt_or_ge s 5 with q | q
      · exact q
      · rw [hi.five s q] at hs; cases hs
    exact ⟨rfl, rfl, shw_clm hi.inv ((least_le h.n h.seat 5).2 s _ h5 hs), .inl rfl⟩
  | crash c => cases hs'
  | range c1 c2 => have q := same hs'; subst q; exact ⟨rfl, rfl, rfl, .inl rfl⟩
  | began c1 c2 c3 c4 =>
    rcases sit_at hs' with ⟨q1, q2⟩ | ⟨q1, q2⟩
    · rw [← q1, hs] at c3; cases c3
    · have q := same q2; subst q; exact ⟨rfl, rfl, rfl, .inl rfl⟩
  | beganNot c1 c2 c3 c4 => have q := same hs'; subst q; exact ⟨rfl, rfl, rfl, .inl rfl⟩
  | none_ c1 c2 c3 => have q := same hs'; subst q; exact ⟨rfl, rfl, rfl, .inl rfl⟩
  | there d0 c1 c2 c3 => have q := same hs'; subst q; exact ⟨rfl, rfl, rfl, .inl rfl⟩
  | get d0 c1 c2 c3 =>
    rcases sit_at hs' with ⟨q1, q2⟩ | ⟨q1, q2⟩
    · rw [← q1] at c3; have q := same c3; subst q; cases q2; exact ⟨rfl, rfl, rfl, .inl rfl⟩
    · have q := same q2; subst q; exact ⟨rfl, rfl, rfl, .inl rfl⟩
  | put d0 c1 c2 c3 =>
    rcases sit_at hs' with ⟨q1, q2⟩ | ⟨q1, q2⟩
    · rw [← q1] at c3; have q := same c3; subst q; cases q2; exact ⟨rfl, rfl, rfl, .inr (.inl ⟨by omega, c1, rfl⟩)⟩
    · have q := same q2; subst q; exact ⟨rfl, rfl, rfl, .inl rfl⟩
  | drop d0 c1 c2 c3 =>
    rcases sit_at hs' with ⟨q1, q2⟩ | ⟨q1, q2⟩
    · rw [← q1] at c3; have q := same c3; subst q; cases q2; exact ⟨rfl, rfl, rfl, .inr (.inr ⟨by omega, c1, rfl⟩)⟩
    · have q := same q2; subst q; exact ⟨rfl, rfl, rfl, .inl rfl⟩
  | list d0 c1 c2 c3 =>
    rcases sit_at hs' with ⟨q1, q2⟩ | ⟨q1, q2⟩
    · rw [← q1] at c3; have q := same c3; subst q; cases q2; exact ⟨rfl, rfl, rfl, .inl rfl⟩
    · have q := same q2; subst q; exact ⟨rfl, rfl, rfl, .inl rfl⟩
  | commit d0 c1 c2 c3 =>
    simp only [upd_at] at hs'
    split at hs'
    · cases hs'
    · have q := same hs'; subst q; exact ⟨rfl, rfl, shw_vf hi.inv hi.vi k2, .inl rfl⟩
  | tear d0 c1 c2 c3 => cases hs'
  | abort d0 c1 c2 c3 =>
    rcases sit_at hs' with ⟨q1, q2⟩ | ⟨q1, q2⟩
    · cases q2
    · have q := same q2; subst q; exact ⟨rfl, rfl, rfl, .inl rfl⟩
/-- What is refused changes nothing: behind a code the log is as it was, and what all keys have; but a deed that could not be done is over. -/
theorem hdo_refused {h : HSt} (hi : HInv h) (x : HStep) (hc : (hev h x).c ≠ 0) : (hdo h x).cs = h.cs ∧ (hdo h x).n = h.n ∧ shw (hdo h x).f h.n h.n 8 = shw h.f h.n h.n 8 ∧
    ∀ s, ((hdo h x).seat s).isSome = ((h.seat s).isSome && !(decide (x.d = 6 ∧ x.s = s) || decide (x.d = 10 ∧ (0 ≤ x.s ∧ x.s < 5) ∧ (h.seat x.s.toNat).isSome = true))) := by
  have hk := hkind h x
  generalize hdo h x = h2 at *
  generalize hev h x = e at *
  have five : ∀ s, (h.seat s).isSome = true → s < 5 := fun s q => by
    rcases Nat.lt_or_ge s 5 with r | r
    · exact r
    · rw [hi.five s r] at q; cases q
  cases hk with
  | kind c => exact ⟨rfl, rfl, rfl, fun s => by rw [decide_eq_false (by omega), decide_eq_false (by omega)]; simp⟩
  | clear c => exact absurd rfl hc
  | crash c => exact absurd rfl hc
  | range c1 c2 =>
    refine ⟨rfl, rfl, rfl, fun s => ?_⟩
    rw [decide_eq_false (p := x.d = 10 ∧ _ ∧ _) (fun q => c2 q.2.1)]
    cases hq : (h.seat s).isSome with
    | false => simp
    | true =>
      have := five s hq
      rw [decide_eq_false (by omega)]
      simp
  | began c1 c2 c3 c4 => exact absurd rfl hc
  | beganNot c1 c2 c3 c4 => exact ⟨rfl, rfl, rfl, fun s => by rw [decide_eq_false (by omega), decide_eq_false (by omega)]; simp⟩
  | none_ c1 c2 c3 =>
    refine ⟨rfl, rfl, rfl, fun s => ?_⟩
    rw [decide_eq_false (p := x.d = 10 ∧ _ ∧ _) (fun q => by have := q.2.2; rw [c3] at this; cases this)]
    by_cases q : x.d = 6 ∧ x.s = s
    · have e : x.s.toNat = s := by omega
      rw [← e, c3]; rfl
    · rw [decide_eq_false q]; simp
  | there d0 c1 c2 c3 => exact ⟨rfl, rfl, rfl, fun s => by rw [decide_eq_false (by omega), decide_eq_false (by omega)]; simp⟩
  | get d0 c1 c2 c3 =>
    refine ⟨rfl, rfl, rfl, fun s => ?_⟩
    rw [decide_eq_false (by omega), decide_eq_false (by omega)]
    simp only [sit, upd_at]
    split
    · rename_i q; rw [q, c3]; rfl
    · simp
  | put d0 c1 c2 c3 =>
    refine ⟨rfl, rfl, rfl, fun s => ?_⟩
    rw [decide_eq_false (by omega), decide_eq_false (by omega)]
    simp only [sit, upd_at]
    split
    · rename_i q; rw [q, c3]; rfl
    · simp
  | drop d0 c1 c2 c3 =>
    refine ⟨rfl, rfl, rfl, fun s => ?_⟩
    rw [decide_eq_false (by omega), decide_eq_false (by omega)]
    simp only [sit, upd_at]
    split
    · rename_i q; rw [q, c3]; rfl
    · simp
  | list d0 c1 c2 c3 =>
    refine ⟨rfl, rfl, rfl, fun s => ?_⟩
    rw [decide_eq_false (by omega), decide_eq_false (by omega)]
    simp only [sit, upd_at]
    split
    · rename_i q; rw [q, c3]; rfl
    · simp
  | commit d0 c1 c2 c3 =>
    have hv := vdone_code (cs := h.cs) (show ¬ vcode h.f h.cs d0.md d0.y d0.rs d0.ws = 0 from hc)
    obtain ⟨e1, e2, e3, _⟩ := v_not (n := h.n) hv
    refine ⟨e3, e2, by show shw (vf h.f h.n h.cs d0.md d0.y d0.rs d0.ws) h.n h.n 8 = _; rw [e1], fun s => ?_⟩
    rw [decide_eq_false (p := x.d = 10 ∧ _ ∧ _) (fun q => by omega)]
    simp only [upd_at]
    split
    · rename_i q
      rw [decide_eq_true (by omega)]
      simp
    · rename_i q
      rw [decide_eq_false (by omega)]
      simp
  | tear d0 c1 c2 c3 =>
    have ht := tcs_code (keep := x.keep) (show ¬ vcode h.f h.cs d0.md d0.y d0.rs d0.ws = 0 from hc)
    refine ⟨ht, by show (tcs h.f h.cs d0.md d0.y d0.rs d0.ws x.keep).length = h.n; rw [ht]; exact hi.vi.len.symm, ?_, fun s => ?_⟩
    · show shw (wal0 (tcs h.f h.cs d0.md d0.y d0.rs d0.ws x.keep)) h.n h.n 8 = _
      rw [ht]
      exact crash_shw hi.vi hi.li (fmx_le hi.inv 8 (Nat.le_refl _)).2
    · rw [decide_eq_true (p := x.d = 10 ∧ _ ∧ _) ⟨c1, c2, by rw [c3]; rfl⟩]
      simp
  | abort d0 c1 c2 c3 => exact absurd rfl hc
end Go.Proofs.Ytapmlleemopcnac

/- Plain words for halls: first come. -/
namespace Go.Proofs.Ytapmlleemopcnac
open Go.RowKit
set_option maxRecDepth 20000

theorem snc_sfx {f g : Nat → List Ver} (h : Sfx f g) {k : Nat} (hk : k < 8) : snc f k = snc g k := by
  obtain ⟨d, h1, h2⟩ := h k hk
  unfold snc
  rw [Int.toNat_natCast, h2, va_last_drop h1]
theorem va_mem {ps : List Ver} {k : Int} (h : ∃ p ∈ ps, p.a = k) : ∃ i, i < ps.length ∧ va ps i = k := by
  obtain ⟨p, hp, e⟩ := h
  obtain ⟨i, hi, rfl⟩ := List.mem_iff_getElem.1 hp
  exact ⟨i, hi, by simp [va, List.getD_eq_getElem?_getD, List.getElem?_eq_getElem hi, e]⟩
/-- The last commit that wrote a key is no earlier than any that wrote it. -/
theorem snc_last {cs : List (List Ver)} (hl : LInv cs) {k : Nat} (hk : k < 8) : ∀ {i : Nat} {c : List Ver}, cs[i]? = some c → (∃ p ∈ c, p.a = (k : Int)) → (i : Int) + 1 ≤ snc (wal0 cs) k := by
  have key : ∀ m, m ≤ cs.length → ∀ {i : Nat} {c : List Ver}, i < m → cs[i]? = some c → (∃ p ∈ c, p.a = (k : Int)) → (i : Int) + 1 ≤ snc (wal0 (cs.take m)) k := by
    intro m
    induction m with
    | zero => intro _ i c hi; omega
    | succ m ih =>
      intro hm i c hi hc hp
      have hcm : cs[m]? = some cs[m] := List.getElem?_eq_getElem (by omega)
      have htk : cs.take (m + 1) = cs.take m ++ [cs[m]] := by rw [List.take_add_one, hcm]; rfl
      have hlt : LInv (cs.take m) := hl.take m
      have hlen : (cs.take m).length = m := by rw [List.length_take]; omega
      have hiv := inv_wal0 hlt
      rw [hlen] at hiv
      obtain ⟨w1, w2⟩ := wcode_ok (n := m) (hl.pf cs[m] (List.getElem_mem (by omega))) (by have := hl.n40; omega)
      rw [htk, wal0_snoc, hlen, snc_write hiv w1 hk]
      by_cases q : ∃ p ∈ cs[m], p.a = (k : Int)
      · obtain ⟨j, hj, ej⟩ := va_mem q
        rw [sj_yes ej _ hj]; omega
      · have hne : i ≠ m := fun e => by
          subst e
          rw [hcm] at hc
          cases hc
          exact q hp
        rw [sj_no _ (fun j hj e => q ⟨cs[m][j], List.getElem_mem hj, by simpa [va, List.getD_eq_getElem?_getD, List.getElem?_eq_getElem hj] using e⟩)]
        exact ih (by omega) (by omega) hc hp
  intro i c hc hp
  have hi := (List.getElem?_eq_some_iff.1 hc).1
  have := key cs.length (Nat.le_refl _) hi hc hp
  rwa [List.take_length] at this
/-- Of two deeds that were done and wrote the same key one began behind the other one's commit. -/
theorem first_come {h : HSt} (hi : HInv h) {md y : Int} {rs : List Int} {ws : List Ver} (hd : dm h.f md y rs ws = 0) {i : Nat} {c : List Ver} (hc : h.cs[i]? = some c) (hy : y < (i : Int) + 1) {k : Nat} (hk : k < 8) (hw : (lwr ws k).isSome = true) : ¬ ∃ p ∈ c, p.a = (k : Int) := by
  intro hp
  have h1 := snc_last hi.li hk hc hp
  rw [← snc_sfx hi.vi.sfx hk] at h1
  have hcl : cls h.f y ws 8 = true := by
    have : cls h.f y ws (k + 1) = true := by
      cases hl : lwr ws k with
      | none => rw [hl] at hw; cases hw
      | some v => exact cls_yes hl (by omega)
    exact cls_mono this 8 (by omega)
  unfold dm at hd
  rw [if_pos hcl] at hd
  simp at hd
end Go.Proofs.Ytapmlleemopcnac

/- Plain words for halls: to forget changes nothing that is seen. -/
namespace Go.Proofs.Ytapmlleemopcnac
open Go.RowKit
set_option maxRecDepth 20000

section
variable {f g : Nat → List Ver} {n : Nat} {y : Int} {ws : List Ver}
theorem sfx_fmx (h : Sfx f g) (hg : Inv g n) : fmx g 8 ≤ fmx f 8 := by
  have hf0 : (0 : Int) ≤ fmx f 8 := by
    have : ∀ m, (0 : Int) ≤ fmx f m := by
      intro m
      induction m with
      | zero => exact Int.le_refl _
      | succ m ih => simp only [fmx]; split <;> omega
    exact this 8
  refine fmx_bound hf0 8 (fun k hk => ?_)
  obtain ⟨d, h1, h2⟩ := h k hk
  have h3 := fmx_ge f 8 k hk
  rw [h2, va_drop, Nat.add_zero] at h3
  have h4 := (hg.rise k hk).le (Nat.zero_le d) h1
  omega
theorem dg_sfx (h : Sfx f g) (hg : Inv g n) (hy : fmx f 8 ≤ y) (k : Int) : dg f n y ws k = dg g n y ws k := by
  unfold dg
  rw [h.read hg k y hy]
theorem dr_sfx (h : Sfx f g) (hg : Inv g n) (hy : fmx f 8 ≤ y) (rs : List Int) (k : Int) : dr f n y rs ws k = dr g n y rs ws k := by
  unfold dr
  rw [h.read hg k y hy]
theorem dgo_sfx (h : Sfx f g) (hg : Inv g n) (hy : fmx f 8 ≤ y) : ∀ (m k : Nat) (acc : List Ver) (rs : List Int), dgo f n y ws k m acc rs = dgo g n y ws k m acc rs := by
  intro m
  induction m with
  | zero => intro k acc rs; rfl
  | succ m ih =>
    intro k acc rs
    simp only [dgo]
    rw [dg_sfx h hg hy, dr_sfx h hg hy, ih, ih]
theorem dls_sfx (h : Sfx f g) (hg : Inv g n) (hy : fmx f 8 ≤ y) (rs : List Int) (a b : Int) : dls f n y ws rs a b = dls g n y ws rs a b := by
  unfold dls
  rw [dgo_sfx h hg hy]
theorem cls_sfx (h : Sfx f g) : ∀ m, m ≤ 8 → cls f y ws m = cls g y ws m := by
  intro m
  induction m with
  | zero => intro _; rfl
  | succ m ih => intro hm; simp only [cls]; rw [snc_sfx h (by omega), ih (by omega)]
theorem stl_sfx (h : Sfx f g) (rs : List Int) : ∀ m, m ≤ 8 → stl f y rs m = stl g y rs m := by
  intro m
  induction m with
  | zero => intro _; rfl
  | succ m ih => intro hm; simp only [stl]; rw [snc_sfx h (by omega), ih (by omega)]
theorem dm_sfx (h : Sfx f g) (md : Int) (rs : List Int) : dm f md y rs ws = dm g md y rs ws := by
  unfold dm
  rw [cls_sfx h 8 (Nat.le_refl _), stl_sfx h rs 8 (Nat.le_refl _)]
theorem v_sfx (h : Sfx f g) (cs : List (List Ver)) (md : Int) (rs : List Int) : vcode f cs md y rs ws = vcode g cs md y rs ws ∧ vdone f cs md y rs ws = vdone g cs md y rs ws := by
  unfold vcode vdone
  rw [dm_sfx h]
  exact ⟨rfl, rfl⟩
theorem vs_sfx (h : Sfx f g) (cs : List (List Ver)) (md : Int) (rs : List Int) : vnum f n cs md y rs ws = vnum g n cs md y rs ws ∧ vn f n cs md y rs ws = vn g n cs md y rs ws ∧ vcs f cs md y rs ws = vcs g cs md y rs ws ∧ Sfx (vf f n cs md y rs ws) (vf g n cs md y rs ws) := by
  unfold vnum vn vcs vf
  rw [(v_sfx h cs md rs).2]
  refine ⟨rfl, rfl, rfl, ?_⟩
  split
  · exact h.write n _
  · exact h
theorem t_sfx (h : Sfx f g) (cs : List (List Ver)) (md : Int) (rs : List Int) (keep : Int) : tcs f cs md y rs ws keep = tcs g cs md y rs ws keep ∧ tnum f cs md y rs ws keep = tnum g cs md y rs ws keep := by
  unfold tnum tcs
  rw [dm_sfx h]
  exact ⟨rfl, rfl⟩
end

/-- Two halls, of which one forgot more. -/
structure HRel (h g : HSt) : Prop where
  hi : HInv h
  gi : HInv g
  sfx : Sfx h.f g.f
  n : h.n = g.n
  cs : h.cs = g.cs
  seat : h.seat = g.seat
theorem HRel.clear {h g : HSt} (r : HRel h g) {x : HStep} (hx : x.d = 8) : HRel (hdo h x) g := by
  have hi := r.hi.step x
  have e : hdo h x = { h with f := clm h.f (least h.n h.seat 5) 8 } := by
    have n0 : ¬ (x.d < 1 ∨ 10 < x.d) := by omega
    unfold hdo
    rw [if_neg n0, if_pos hx]
  rw [e] at hi ⊢
  exact ⟨hi, r.gi, r.sfx.clear _ r.hi.inv, r.n, r.cs, r.seat⟩
theorem HKind.eq {h : HSt} {x : HStep} {h' : HSt} {e : Ev} (k : HKind h x h' e) : hdo h x = h' ∧ hev h x = e := by
  unfold hdo hev
  cases k with
  | kind c => rw [if_pos c, if_pos c]; exact ⟨rfl, rfl⟩
  | clear c =>
    have n0 : ¬ (x.d < 1 ∨ 10 < x.d) := by omega
    rw [if_neg n0, if_neg n0, if_pos c, if_pos c]; exact ⟨rfl, rfl⟩
  | crash c =>
    have n0 : ¬ (x.d < 1 ∨ 10 < x.d) := by omega
    have n8 : ¬ x.d = 8 := by omega
    rw [if_neg n0, if_neg n0, if_neg n8, if_neg n8, if_pos c, if_pos c]; exact ⟨rfl, rfl⟩
  | range c1 c2 =>
    have n0 : ¬ (x.d < 1 ∨ 10 < x.d) := by omega
    have n8 : ¬ x.d = 8 := by omega
    have n9 : ¬ x.d = 9 := by omega
    rw [if_neg n0, if_neg n0, if_neg n8, if_neg n8, if_neg n9, if_neg n9, if_pos c2, if_pos c2]; exact ⟨rfl, rfl⟩
  | began c1 c2 c3 c4 =>
    have n0 : ¬ (x.d < 1 ∨ 10 < x.d) := by omega
    have n8 : ¬ x.d = 8 := by omega
    have n9 : ¬ x.d = 9 := by omega
    have hns : ¬ ¬ (0 ≤ x.s ∧ x.s < 5) := fun q => q c2
    rw [if_neg n0, if_neg n0, if_neg n8, if_neg n8, if_neg n9, if_neg n9, if_neg hns, if_neg hns, c3]
    dsimp only
    rw [if_pos ⟨c1, c4⟩, if_pos c1, c4]; exact ⟨rfl, rfl⟩
  | beganNot c1 c2 c3 c4 =>
    have n0 : ¬ (x.d < 1 ∨ 10 < x.d) := by omega
    have n8 : ¬ x.d = 8 := by omega
    have n9 : ¬ x.d = 9 := by omega
    have hns : ¬ ¬ (0 ≤ x.s ∧ x.s < 5) := fun q => q c2
    rw [if_neg n0, if_neg n0, if_neg n8, if_neg n8, if_neg n9, if_neg n9, if_neg hns, if_neg hns, c3]
    dsimp only
    have hq : ¬ (x.d = 1 ∧ bcode h.f h.n x.md x.at_ = 0) := fun q => c4 q.2
    rw [if_neg hq, if_pos c1]; exact ⟨rfl, rfl⟩
  | none_ c1 c2 c3 =>
    have n0 : ¬ (x.d < 1 ∨ 10 < x.d) := by omega
    have n8 : ¬ x.d = 8 := by omega
    have n9 : ¬ x.d = 9 := by omega
    have hns : ¬ ¬ (0 ≤ x.s ∧ x.s < 5) := fun q => q c2
    have hn1 : ¬ x.d = 1 := by omega
    rw [if_neg n0, if_neg n0, if_neg n8, if_neg n8, if_neg n9, if_neg n9, if_neg hns, if_neg hns, c3]
    dsimp only
    have hq : ¬ (x.d = 1 ∧ bcode h.f h.n x.md x.at_ = 0) := fun q => hn1 q.1
    rw [if_neg hq, if_neg hn1]; exact ⟨rfl, rfl⟩
  | there d c1 c2 c3 =>
    have n0 : ¬ (x.d < 1 ∨ 10 < x.d) := by omega
    have n8 : ¬ x.d = 8 := by omega
    have n9 : ¬ x.d = 9 := by omega
    have hns : ¬ ¬ (0 ≤ x.s ∧ x.s < 5) := fun q => q c2
    rw [if_neg n0, if_neg n0, if_neg n8, if_neg n8, if_neg n9, if_neg n9, if_neg hns, if_neg hns, c3]
    dsimp only
    rw [if_pos c1, if_pos c1]; exact ⟨rfl, rfl⟩
  | get d c1 c2 c3 =>
    have n0 : ¬ (x.d < 1 ∨ 10 < x.d) := by omega
    have n8 : ¬ x.d = 8 := by omega
    have n9 : ¬ x.d = 9 := by omega
    have hns : ¬ ¬ (0 ≤ x.s ∧ x.s < 5) := fun q => q c2
    have m1 : ¬ x.d = 1 := by omega
    rw [if_neg n0, if_neg n0, if_neg n8, if_neg n8, if_neg n9, if_neg n9, if_neg hns, if_neg hns, c3]
    dsimp only
    rw [if_neg m1, if_neg m1, if_pos c1, if_pos c1]; exact ⟨rfl, rfl⟩
  | put d c1 c2 c3 =>
    have n0 : ¬ (x.d < 1 ∨ 10 < x.d) := by omega
    have n8 : ¬ x.d = 8 := by omega
    have n9 : ¬ x.d = 9 := by omega
    have hns : ¬ ¬ (0 ≤ x.s ∧ x.s < 5) := fun q => q c2
    have m1 : ¬ x.d = 1 := by omega
    have m2 : ¬ x.d = 2 := by omega
    rw [if_neg n0, if_neg n0, if_neg n8, if_neg n8, if_neg n9, if_neg n9, if_neg hns, if_neg hns, c3]
    dsimp only
    rw [if_neg m1, if_neg m1, if_neg m2, if_neg m2, if_pos c1, if_pos c1]; exact ⟨rfl, rfl⟩
  | drop d c1 c2 c3 =>
    have n0 : ¬ (x.d < 1 ∨ 10 < x.d) := by omega
    have n8 : ¬ x.d = 8 := by omega
    have n9 : ¬ x.d = 9 := by omega
    have hns : ¬ ¬ (0 ≤ x.s ∧ x.s < 5) := fun q => q c2
    have m1 : ¬ x.d = 1 := by omega
    have m2 : ¬ x.d = 2 := by omega
    have m3 : ¬ x.d = 3 := by omega
    rw [if_neg n0, if_neg n0, if_neg n8, if_neg n8, if_neg n9, if_neg n9, if_neg hns, if_neg hns, c3]
    dsimp only
    rw [if_neg m1, if_neg m1, if_neg m2, if_neg m2, if_neg m3, if_neg m3, if_pos c1, if_pos c1]; exact ⟨rfl, rfl⟩
  | list d c1 c2 c3 =>
    have n0 : ¬ (x.d < 1 ∨ 10 < x.d) := by omega
    have n8 : ¬ x.d = 8 := by omega
    have n9 : ¬ x.d = 9 := by omega
    have hns : ¬ ¬ (0 ≤ x.s ∧ x.s < 5) := fun q => q c2
    have m1 : ¬ x.d = 1 := by omega
    have m2 : ¬ x.d = 2 := by omega
    have m3 : ¬ x.d = 3 := by omega
    have m4 : ¬ x.d = 4 := by omega
    rw [if_neg n0, if_neg n0, if_neg n8, if_neg n8, if_neg n9, if_neg n9, if_neg hns, if_neg hns, c3]
    dsimp only
    rw [if_neg m1, if_neg m1, if_neg m2, if_neg m2, if_neg m3, if_neg m3, if_neg m4, if_neg m4, if_pos c1, if_pos c1]; exact ⟨rfl, rfl⟩
  | commit d c1 c2 c3 =>
    have n0 : ¬ (x.d < 1 ∨ 10 < x.d) := by omega
    have n8 : ¬ x.d = 8 := by omega
    have n9 : ¬ x.d = 9 := by omega
    have hns : ¬ ¬ (0 ≤ x.s ∧ x.s < 5) := fun q => q c2
    have m1 : ¬ x.d = 1 := by omega
    have m2 : ¬ x.d = 2 := by omega
    have m3 : ¬ x.d = 3 := by omega
    have m4 : ¬ x.d = 4 := by omega
    have m5 : ¬ x.d = 5 := by omega
    rw [if_neg n0, if_neg n0, if_neg n8, if_neg n8, if_neg n9, if_neg n9, if_neg hns, if_neg hns, c3]
    dsimp only
    rw [if_neg m1, if_neg m1, if_neg m2, if_neg m2, if_neg m3, if_neg m3, if_neg m4, if_neg m4, if_neg m5, if_neg m5, if_pos c1, if_pos c1]; exact ⟨rfl, rfl⟩
  | tear d c1 c2 c3 =>
    have n0 : ¬ (x.d < 1 ∨ 10 < x.d) := by omega
    have n8 : ¬ x.d = 8 := by omega
    have n9 : ¬ x.d = 9 := by omega
    have hns : ¬ ¬ (0 ≤ x.s ∧ x.s < 5) := fun q => q c2
    have m1 : ¬ x.d = 1 := by omega
    have m2 : ¬ x.d = 2 := by omega
    have m3 : ¬ x.d = 3 := by omega
    have m4 : ¬ x.d = 4 := by omega
    have m5 : ¬ x.d = 5 := by omega
    have m6 : ¬ x.d = 6 := by omega
    rw [if_neg n0, if_neg n0, if_neg n8, if_neg n8, if_neg n9, if_neg n9, if_neg hns, if_neg hns, c3]
    dsimp only
    rw [if_neg m1, if_neg m1, if_neg m2, if_neg m2, if_neg m3, if_neg m3, if_neg m4, if_neg m4, if_neg m5, if_neg m5, if_neg m6, if_neg m6, if_pos c1, if_pos c1]; exact ⟨rfl, rfl⟩
  | abort d c1 c2 c3 =>
    have n0 : ¬ (x.d < 1 ∨ 10 < x.d) := by omega
    have n8 : ¬ x.d = 8 := by omega
    have n9 : ¬ x.d = 9 := by omega
    have hns : ¬ ¬ (0 ≤ x.s ∧ x.s < 5) := fun q => q c2
    have m1 : ¬ x.d = 1 := by omega
    have m2 : ¬ x.d = 2 := by omega
    have m3 : ¬ x.d = 3 := by omega
    have m4 : ¬ x.d = 4 := by omega
    have m5 : ¬ x.d = 5 := by omega
    have m6 : ¬ x.d = 6 := by omega
    have m10 : ¬ x.d = 10 := by omega
    rw [if_neg n0, if_neg n0, if_neg n8, if_neg n8, if_neg n9, if_neg n9, if_neg hns, if_neg hns, c3]
    dsimp only
    rw [if_neg m1, if_neg m1, if_neg m2, if_neg m2, if_neg m3, if_neg m3, if_neg m4, if_neg m4, if_neg m5, if_neg m5, if_neg m6, if_neg m6, if_neg m10, if_neg m10]; exact ⟨rfl, rfl⟩
/-- The same step: the same is told, but of what is forgotten. -/
theorem HRel.step {h g : HSt} (r : HRel h g) (x : HStep) (hx : x.d ≠ 8) (ho : (hev h x).c ≠ 12) : hev h x = hev g x ∧ HRel (hdo h x) (hdo g x) := by
  have hi' := r.hi.step x
  have gi' := r.gi.step x
  obtain ⟨f, n, cs, seat⟩ := h
  obtain ⟨f2, n2, cs2, seat2⟩ := g
  obtain ⟨hi, gi, sfx, e1, e2, e3⟩ := r
  dsimp only at e1 e2 e3 sfx
  subst e1 e2 e3
  have known := hi.known
  have ginv := gi.inv
  dsimp only at known ginv
  have hk := hkind ⟨f, n, cs, seat⟩ x
  generalize hdo ⟨f, n, cs, seat⟩ x = h2 at *
  generalize hev ⟨f, n, cs, seat⟩ x = e at *
  cases hk with
  | kind c =>
    obtain ⟨q1, q2⟩ := (HKind.kind (h := ⟨f2, n, cs, seat⟩) (x := x) c).eq
    rw [q1, q2]; exact ⟨rfl, hi, gi, sfx, rfl, rfl, rfl⟩
  | clear c => exact absurd c hx
  | crash c =>
    obtain ⟨q1, q2⟩ := (HKind.crash (h := ⟨f2, n, cs, seat⟩) (x := x) c).eq
    rw [q1] at gi'
    rw [q1, q2]; exact ⟨rfl, hi', gi', sfx_refl hi'.inv, rfl, rfl, rfl⟩
  | range c1 c2 =>
    obtain ⟨q1, q2⟩ := (HKind.range (h := ⟨f2, n, cs, seat⟩) (x := x) c1 c2).eq
    rw [q1, q2]; exact ⟨rfl, hi, gi, sfx, rfl, rfl, rfl⟩
  | began c1 c2 c3 c4 =>
    have hm := sfx_fmx sfx ginv
    have c4' : bcode f2 n x.md x.at_ = 0 := by
      dsimp only at c4
      unfold bcode at c4 ⊢
      split
      · rename_i p1
        rw [if_pos p1] at c4
        split
        · rename_i p2
          rw [if_pos p2] at c4
          by_cases p3 : x.at_ < 0 ∨ (n : Int) < x.at_
          · rw [if_pos p3] at c4; simp at c4
          · rw [if_neg p3] at c4 ⊢
            by_cases p4 : x.at_ < fmx f 8
            · rw [if_pos p4] at c4; simp at c4
            · rw [if_neg (by omega)]
        · rfl
      · rename_i p1
        rw [if_neg p1] at c4; exact c4
    obtain ⟨q1, q2⟩ := (HKind.began (h := ⟨f2, n, cs, seat⟩) (x := x) c1 c2 c3 c4').eq
    rw [q1] at gi'
    rw [q1, q2]; exact ⟨rfl, hi', gi', sfx, rfl, rfl, rfl⟩
  | beganNot c1 c2 c3 c4 =>
    have hb : bcode f n x.md x.at_ = bcode f2 n x.md x.at_ := by
      dsimp only [evc] at ho
      unfold bcode at ho ⊢
      split
      · rename_i p1
        rw [if_pos p1] at ho
        split
        · rename_i p2
          rw [if_pos p2] at ho
          by_cases p3 : x.at_ < 0 ∨ (n : Int) < x.at_
          · rw [if_pos p3, if_pos p3]
          · rw [if_neg p3] at ho
            rw [if_neg p3, if_neg p3]
            by_cases p4 : x.at_ < fmx f 8
            · rw [if_pos p4] at ho; exact absurd rfl ho
            · have hm := sfx_fmx sfx ginv
              rw [if_neg p4, if_neg (by omega)]
        · rfl
      · rfl
    have c4' : ¬ bcode f2 n x.md x.at_ = 0 := fun q => c4 (hb.trans q)
    obtain ⟨q1, q2⟩ := (HKind.beganNot (h := ⟨f2, n, cs, seat⟩) (x := x) c1 c2 c3 c4').eq
    rw [q1, q2]; exact ⟨congrArg evc hb, hi, gi, sfx, rfl, rfl, rfl⟩
  | none_ c1 c2 c3 =>
    obtain ⟨q1, q2⟩ := (HKind.none_ (h := ⟨f2, n, cs, seat⟩) (x := x) c1 c2 c3).eq
    rw [q1, q2]; exact ⟨rfl, hi, gi, sfx, rfl, rfl, rfl⟩
  | there d c1 c2 c3 =>
    obtain ⟨q1, q2⟩ := (HKind.there (h := ⟨f2, n, cs, seat⟩) (x := x) d c1 c2 c3).eq
    rw [q1, q2]; exact ⟨rfl, hi, gi, sfx, rfl, rfl, rfl⟩
  | get d c1 c2 c3 =>
    obtain ⟨q1, q2⟩ := (HKind.get (h := ⟨f2, n, cs, seat⟩) (x := x) d c1 c2 c3).eq
    have hy := (known _ d c3).1
    rw [q1] at gi'
    rw [q1, q2]
    dsimp only
    rw [dg_sfx sfx ginv hy]
    refine ⟨rfl, hi', gi', sfx, rfl, rfl, ?_⟩
    dsimp only [sit]
    rw [dr_sfx sfx ginv hy]
  | put d c1 c2 c3 =>
    obtain ⟨q1, q2⟩ := (HKind.put (h := ⟨f2, n, cs, seat⟩) (x := x) d c1 c2 c3).eq
    rw [q1] at gi'
    rw [q1, q2]; exact ⟨rfl, hi', gi', sfx, rfl, rfl, rfl⟩
  | drop d c1 c2 c3 =>
    obtain ⟨q1, q2⟩ := (HKind.drop (h := ⟨f2, n, cs, seat⟩) (x := x) d c1 c2 c3).eq
    rw [q1] at gi'
    rw [q1, q2]; exact ⟨rfl, hi', gi', sfx, rfl, rfl, rfl⟩
  | list d c1 c2 c3 =>
    obtain ⟨q1, q2⟩ := (HKind.list (h := ⟨f2, n, cs, seat⟩) (x := x) d c1 c2 c3).eq
    have hy := (known _ d c3).1
    rw [q1] at gi'
    rw [q1, q2]
    dsimp only
    rw [dls_sfx sfx ginv hy]
    refine ⟨rfl, ?_, gi', sfx, rfl, rfl, rfl⟩
    dsimp only at hi'
    rw [dls_sfx sfx ginv hy] at hi'
    exact hi'
  | commit d c1 c2 c3 =>
    obtain ⟨q1, q2⟩ := (HKind.commit (h := ⟨f2, n, cs, seat⟩) (x := x) d c1 c2 c3).eq
    obtain ⟨v1, v2, v3, v4⟩ := vs_sfx (n := n) (y := d.y) (ws := d.ws) sfx cs d.md d.rs
    rw [q1] at gi'
    rw [q1, q2]
    dsimp only
    rw [(v_sfx sfx cs d.md d.rs).1, v1]
    exact ⟨rfl, hi', gi', v4, v2, v3, rfl⟩
  | tear d c1 c2 c3 =>
    obtain ⟨q1, q2⟩ := (HKind.tear (h := ⟨f2, n, cs, seat⟩) (x := x) d c1 c2 c3).eq
    obtain ⟨t1, t2⟩ := t_sfx (y := d.y) (ws := d.ws) sfx cs d.md d.rs x.keep
    rw [q1] at gi'
    rw [q1, q2]
    dsimp only at hi' ⊢
    rw [(v_sfx sfx cs d.md d.rs).1, t2]
    rw [t1] at hi' ⊢
    exact ⟨rfl, hi', gi', sfx_refl gi'.inv, rfl, rfl, rfl⟩
  | abort d c1 c2 c3 =>
    obtain ⟨q1, q2⟩ := (HKind.abort (h := ⟨f2, n, cs, seat⟩) (x := x) d c1 c2 c3).eq
    rw [q1] at gi'
    rw [q1, q2]; exact ⟨rfl, hi', gi', sfx, rfl, rfl, rfl⟩
theorem hrel_new : HRel ⟨fun _ => [dv], 0, [], fun _ => none⟩ ⟨fun _ => [dv], 0, [], fun _ => none⟩ := ⟨hinv_new, hinv_new, sfx_refl inv_dv, rfl, rfl, rfl⟩
end Go.Proofs.Ytapmlleemopcnac

/- Plain words for halls: one alone writes what it means. -/
namespace Go.Proofs.Ytapmlleemopcnac
open Go.RowKit
set_option maxRecDepth 20000

section
variable {f : Nat → List Ver} {n : Nat} {cs : List (List Ver)} {md y : Int} {rs : List Int} {ws : List Ver}
theorem snc_top (hi : Inv f n) {k : Nat} (hk : k < 8) : snc f k ≤ n := by
  have h1 := hi.hi k hk
  unfold snc
  split
  · rw [Int.toNat_natCast]; exact h1
  · omega
theorem cls_top (hi : Inv f n) (hy : (n : Int) ≤ y) : ∀ m, m ≤ 8 → cls f y ws m = false := by
  intro m
  induction m with
  | zero => intro _; rfl
  | succ m ih =>
    intro hm
    have h1 := snc_top hi (k := m) (by omega)
    rw [cls_old (by omega)]
    exact ih (by omega)
theorem stl_top (hi : Inv f n) (hy : (n : Int) ≤ y) : ∀ m, m ≤ 8 → stl f y rs m = false := by
  intro m
  induction m with
  | zero => intro _; rfl
  | succ m ih =>
    intro hm
    have h1 := snc_top hi (k := m) (by omega)
    simp only [stl]
    rw [if_neg (fun q => by omega)]
    exact ih (by omega)
/-- Nobody is in the way of a deed that began behind the last commit. -/
theorem dm_top (hi : Inv f n) (hy : (n : Int) ≤ y) : dm f md y rs ws = 0 := by
  unfold dm
  rw [cls_top hi hy 8 (Nat.le_refl _), stl_top hi hy 8 (Nat.le_refl _)]
  simp
/-- What is there behind a commit: what was there, and what was written laid over it. -/
theorem commit_now (hi : Inv f n) (hv : VI f n cs) (hw : WOk ws) (hd : vdone f cs md y rs ws = true) :
    vn f n cs md y rs ws = n + 1 ∧ wagg (shw (vf f n cs md y rs ws) (n + 1) ((n + 1 : Nat) : Int) 8) = wagg (lay (shw f n n 8) ws) := by
  have hl : lcode cs (wk ws 8) = 0 := by unfold vdone at hd; simp at hd; exact hd.2.2
  obtain ⟨e1, e2, _, _⟩ := v_did (n := n) hd
  refine ⟨e2, ?_⟩
  rw [e1, ← shots_now' hi (hv.room hl).1, lay_wvs hw]
end
theorem wk_one {k : Nat} (hk : k < 8) (t : Bool) (s : ByteArray) : wk [⟨(k : Int), t, s⟩] 8 = [⟨(k : Int), t, s⟩] := by
  have hl : ∀ j : Nat, lwr [⟨(k : Int), t, s⟩] j = if (k : Int) = (j : Int) then some ⟨(j : Int), t, s⟩ else none := by
    intro j
    have := lwr_put [] (j : Int) ⟨(k : Int), t, s⟩
    rw [List.nil_append, lwr_nil] at this
    exact this
  have key : ∀ m, m ≤ 8 → wk [⟨(k : Int), t, s⟩] m = if k < m then [⟨(k : Int), t, s⟩] else [] := by
    intro m
    induction m with
    | zero => intro _; rfl
    | succ m ih =>
      intro hm
      by_cases q : k = m
      · subst q
        rw [wk_yes (by rw [hl]; rw [if_pos rfl]), ih (by omega), if_neg (by omega), if_pos (by omega)]
        rfl
      · rw [wk_no (by rw [hl]; rw [if_neg (by omega)]), ih (by omega)]
        by_cases r : k < m
        · rw [if_pos r, if_pos (by omega)]
        · rw [if_neg r, if_neg (by omega)]
  rw [key 8 (Nat.le_refl _), if_pos hk]
end Go.Proofs.Ytapmlleemopcnac

/- Plain words for halls: one seat alone, whose deeds are done one behind the other. -/
namespace Go.Proofs.Ytapmlleemopcnac
open Go.RowKit
set_option maxRecDepth 20000

def xb (md : Int) : HStep := ⟨1, 0, md, 0, 0, 0, 0, ⟨#[]⟩⟩
def xc : HStep := ⟨6, 0, 0, 0, 0, 0, 0, ⟨#[]⟩⟩
theorem sit_get {h : HSt} {d : Option Dp} : (sit h 0 d).seat 0 = d := by simp [sit, upd]
theorem al_begin {h : HSt} (hn : h.seat 0 = none) {md : Int} (hm : md = 1 ∨ md = 2) : hdo h (xb md) = sit h 0 (some ⟨md, h.n, [], []⟩) ∧ hev h (xb md) = evc 0 := by
  have hb : bcode h.f h.n md 0 = 0 := by unfold bcode; rw [if_pos (by omega), if_neg (by omega)]
  have ha : bat h.n md 0 = h.n := by unfold bat; rw [if_neg (by omega)]
  have := (HKind.began (h := h) (x := xb md) rfl ⟨Int.le_refl _, by show (0 : Int) < 5; decide⟩ hn hb).eq
  rw [show (xb md).at_ = 0 from rfl, show (xb md).md = md from rfl, ha] at this
  exact this
theorem al_put {h : HSt} {d : Dp} (hd : h.seat 0 = some d) {x : HStep} (hs : x.s = 0) (hx : x.d = 3) : hdo h x = sit h 0 (some { d with ws := dpw d.md d.ws x.key true x.b }) ∧ hev h x = evc (dpc d.md x.key true x.b) := by
  have := (HKind.put (h := h) (x := x) d hx ⟨by omega, by omega⟩ (by rw [hs]; exact hd)).eq
  rw [hs] at this
  exact this
theorem al_drop {h : HSt} {d : Dp} (hd : h.seat 0 = some d) {x : HStep} (hs : x.s = 0) (hx : x.d = 4) : hdo h x = sit h 0 (some { d with ws := dpw d.md d.ws x.key false ⟨#[]⟩ }) ∧ hev h x = evc (dpc d.md x.key false ⟨#[]⟩) := by
  have := (HKind.drop (h := h) (x := x) d hx ⟨by omega, by omega⟩ (by rw [hs]; exact hd)).eq
  rw [hs] at this
  exact this
theorem al_commit {h : HSt} {d : Dp} (hd : h.seat 0 = some d) : hdo h xc = ⟨vf h.f h.n h.cs d.md d.y d.rs d.ws, vn h.f h.n h.cs d.md d.y d.rs d.ws, vcs h.f h.cs d.md d.y d.rs d.ws, upd h.seat 0 none⟩ ∧ hev h xc = evn (vcode h.f h.cs d.md d.y d.rs d.ws) (vnum h.f h.n h.cs d.md d.y d.rs d.ws) :=
  (HKind.commit (h := h) (x := xc) d rfl ⟨by decide, by decide⟩ hd).eq
theorem al_clear {h : HSt} (hi : HInv h) (hn : ∀ s, h.seat s = none) {x : HStep} (hx : x.d = 8) : (∀ s, (hdo h x).seat s = none) ∧ (hdo h x).n = h.n ∧ shw (hdo h x).f h.n h.n 8 = shw h.f h.n h.n 8 := by
  have e := (HKind.clear (h := h) (x := x) hx).eq.1
  rw [e]
  exact ⟨hn, rfl, shw_clm hi.inv (least_le h.n h.seat 5).1⟩
theorem dpc_key' {md k : Int} {t : Bool} {s : ByteArray} (h : dpc md k t s = 0) : ∃ j : Nat, j < 8 ∧ k = (j : Int) := by
  unfold dpc at h
  split at h
  · rename_i hk
    refine ⟨k.toNat, ?_⟩
    simp only [keyB, decide_eq_true_eq] at hk
    omega
  · simp at h
/-- Begin, Put and Commit of one alone: what is told, and what is then. -/
theorem al_round {h : HSt} (hi : HInv h) (hn : ∀ s, h.seat s = none) {md : Int} (k : Int) (t : Bool) (s : ByteArray) {h3 : HSt} {c num code : Int}
    (e3 : h3 = ⟨vf h.f h.n h.cs md h.n [] (dpw md [] k t s), vn h.f h.n h.cs md h.n [] (dpw md [] k t s), vcs h.f h.cs md h.n [] (dpw md [] k t s), upd (upd (upd h.seat 0 (some ⟨md, h.n, [], []⟩)) 0 (some ⟨md, h.n, [], dpw md [] k t s⟩)) 0 none⟩) (ec : c = dpc md k t s) (en : num = vnum h.f h.n h.cs md h.n [] (dpw md [] k t s)) (eo : code = vcode h.f h.cs md h.n [] (dpw md [] k t s)) :
    (∀ s, h3.seat s = none) ∧ ((¬ c = 0 ∧ code = 0 ∧ num = 0 ∧ wagg (shw h3.f h3.n h3.n 8) = wagg (shw h.f h.n h.n 8)) ∨ (c = 0 ∧ code = 9) ∨
      (c = 0 ∧ code = 0 ∧ num = h.n + 1 ∧ ∃ j : Nat, j < 8 ∧ k = (j : Int) ∧ wagg (shw h3.f h3.n h3.n 8) = wagg (upd (shw h.f h.n h.n 8) j ⟨0, t, s⟩))) := by
  have hz : dm h.f md h.n [] (dpw md [] k t s) = 0 := dm_top hi.inv (Int.le_refl _)
  have hw : WOk (dpw md [] k t s) := wok_nil.put md k t s
  refine ⟨fun j => by rw [e3]; simp only [upd]; split <;> simp [*], ?_⟩
  by_cases hc : dpc md k t s = 0
  · obtain ⟨j, hj, ek⟩ := dpc_key' hc
    have hws : dpw md [] k t s = [⟨(j : Int), t, s⟩] := by unfold dpw; rw [if_pos hc, ek]; rfl
    have hl : ¬ (wk (dpw md [] k t s) 8).length = 0 := by rw [hws, wk_one hj]; simp
    by_cases hlc : lcode h.cs (wk (dpw md [] k t s) 8) = 0
    · obtain ⟨q1, q2⟩ := v_yes hz hl hlc
      obtain ⟨q3, q4, q5, q6⟩ := v_did (n := h.n) q2
      refine .inr (.inr ⟨ec.trans hc, eo.trans q1, en.trans q6, j, hj, ek, ?_⟩)
      obtain ⟨z1, z2⟩ := commit_now hi.inv hi.vi hw q2
      rw [e3]
      dsimp only
      rw [z1, z2, hws]
      have := lay_put (shw h.f h.n h.n 8) [] j t s
      rw [lay_nil] at this
      exact congrArg wagg this
    · refine .inr (.inl ⟨ec.trans hc, ?_⟩)
      rw [eo, (v_full hz hl hlc).1]
      have hp := hw.pf
      unfold lcode at hlc ⊢
      rw [if_pos hp] at hlc ⊢
      split
      · rfl
      · rename_i q; rw [if_neg q] at hlc; exact absurd rfl hlc
  · have hws : dpw md [] k t s = [] := by unfold dpw; rw [if_neg hc]
    have hl : (wk (dpw md [] k t s) 8).length = 0 := by rw [hws]; rfl
    obtain ⟨q1, q2⟩ := v_none (cs := h.cs) hz hl
    obtain ⟨q3, q4, q5, q6⟩ := v_not (n := h.n) q2
    refine .inl ⟨by rw [ec]; exact hc, eo.trans q1, en.trans q6, ?_⟩
    rw [e3]
    dsimp only
    rw [q3, q4]
end Go.Proofs.Ytapmlleemopcnac

/- Plain words for halls: what a deed's worlds are; its lists. -/
namespace Go.Proofs.Ytapmlleemopcnac
open Go.RowKit
set_option maxRecDepth 20000

/-- The keys from a to b that have a value, of the first m. -/
def wl (v : Nat → Ver) (a b : Int) : Nat → List Ver
  | 0 => []
  | m + 1 => if a ≤ (m : Int) ∧ (m : Int) ≤ b ∧ (v m).t = true then wl v a b m ++ [⟨(m : Int), (v m).t, (v m).s⟩] else wl v a b m
theorem wl_len (v : Nat → Ver) (a b : Int) : ∀ m, (wl v a b m).length ≤ m := by
  intro m
  induction m with
  | zero => simp [wl]
  | succ m ih => simp only [wl]; split <;> (try simp) <;> omega
theorem wl_lo {v : Nat → Ver} {a b : Int} : ∀ {m : Nat}, (m : Int) ≤ a → wl v a b m = [] := by
  intro m
  induction m with
  | zero => intro _; rfl
  | succ m ih => intro h; simp only [wl]; rw [if_neg (by omega), ih (by omega)]
theorem wl_hi {v : Nat → Ver} {a b : Int} {m : Nat} (hm : b < (m : Int)) : ∀ j, wl v a b (m + j) = wl v a b m := by
  intro j
  induction j with
  | zero => rfl
  | succ j ih => rw [show m + (j + 1) = (m + j) + 1 by omega]; simp only [wl]; rw [if_neg (by push_cast; omega), ih]
theorem wl_congr {v u : Nat → Ver} {a b : Int} : ∀ m, (∀ k, k < m → (v k).t = (u k).t ∧ (v k).s = (u k).s) → wl v a b m = wl u a b m := by
  intro m
  induction m with
  | zero => intro _; rfl
  | succ m ih =>
    intro h
    simp only [wl]
    rw [ih (fun k hk => h k (by omega)), (h m (by omega)).1, (h m (by omega)).2]
theorem dgo_wl {f : Nat → List Ver} {n : Nat} {y : Int} {ws : List Ver} {v : Nat → Ver} {p t : Nat} (ht : t < 8) (hv : ∀ k : Nat, k < 8 → dg f n y ws k = ⟨0, (v k).t, (v k).s⟩) : ∀ (m k : Nat) (acc : List Ver) (rs : List Int), p ≤ k → k + m ≤ t + 1 → acc = wl v p t k → (dgo f n y ws k m acc rs).1 = wl v p t (k + m) ∧ (dgo f n y ws k m acc rs).2.1 = 0 := by
  intro m
  induction m with
  | zero => intro k acc rs _ _ e; exact ⟨e, rfl⟩
  | succ m ih =>
    intro k acc rs h1 h2 e
    have hk := hv k (by omega)
    simp only [dgo]
    rw [hk]
    dsimp only
    rw [show k + (m + 1) = (k + 1) + m by omega]
    simp only [if_true]
    cases hb : (v k).t with
    | true =>
      simp only [if_true]
      exact ih (k + 1) _ _ (by omega) (by omega) (by rw [e]; simp only [wl]; rw [if_pos ⟨by omega, by omega, hb⟩, hb])
    | false =>
      simp only [Bool.false_eq_true, if_false]
      exact ih (k + 1) _ _ (by omega) (by omega) (by rw [e]; simp only [wl]; rw [if_neg (fun q => by rw [hb] at q; exact absurd q.2.2 (by simp))])
/-- A list that is told is all keys from one to the other that have a value for the deed. -/
theorem dls_wl {f : Nat → List Ver} {n : Nat} {y : Int} {ws : List Ver} {rs : List Int} {v : Nat → Ver} {a b : Int} (hv : ∀ k : Nat, k < 8 → dg f n y ws k = ⟨0, (v k).t, (v k).s⟩) (hc : (dls f n y ws rs a b).2.1 = 0) : (dls f n y ws rs a b).1 = wl v a b 8 := by
  unfold dls at hc ⊢
  split
  · rename_i hk
    simp only [keyB, decide_eq_true_eq] at hk
    obtain ⟨p, rfl⟩ : ∃ p : Nat, a = (p : Int) := ⟨a.toNat, by omega⟩
    obtain ⟨t, rfl⟩ : ∃ t : Nat, b = (t : Int) := ⟨b.toNat, by omega⟩
    rw [Int.toNat_natCast, show ((t : Int) + 1 - (p : Int)).toNat = t + 1 - p by omega]
    by_cases hpt : p ≤ t + 1
    · rw [(dgo_wl (f := f) (n := n) (y := y) (ws := ws) (v := v) (p := p) (t := t) (by omega) hv (t + 1 - p) p [] rs (Nat.le_refl _) (by omega) (wl_lo (Int.le_refl _)).symm).1]
      rw [show p + (t + 1 - p) = t + 1 by omega]
      have := wl_hi (v := v) (a := (p : Int)) (b := (t : Int)) (m := t + 1) (by push_cast; omega) (8 - (t + 1))
      rw [show t + 1 + (8 - (t + 1)) = 8 by omega] at this
      exact this.symm
    · rw [show t + 1 - p = 0 by omega]
      show [] = _
      have h1 := wl_hi (v := v) (a := (p : Int)) (b := (t : Int)) (m := t + 1) (by push_cast; omega) (8 - (t + 1))
      rw [show t + 1 + (8 - (t + 1)) = 8 by omega] at h1
      rw [h1, wl_lo (by push_cast; omega)]
  · rename_i hk
    rw [if_neg hk] at hc
    exact absurd hc (by simp)

/-- The worlds of the seats' deeds: what each of them sees. -/
def Shot (h : HSt) (u : Nat → Nat → Ver) : Prop := ∀ s d, h.seat s = some d → ∀ k, k < 8 → (u s k).t = (hsee h d k).t ∧ (u s k).s = (hsee h d k).s
/-- Whatever a step is that is no Begin and no write, the worlds stay. -/
theorem Shot.stay {h : HSt} {u : Nat → Nat → Ver} (hs : Shot h u) (hi : HInv h) (x : HStep) (hx : ¬ (hev h x).c = 0 ∨ (x.d ≠ 1 ∧ x.d ≠ 3 ∧ x.d ≠ 4)) : Shot (hdo h x) u := by
  intro s d' hd' k hk
  have hold : ∃ d, h.seat s = some d := by
    have hkd := hkind h x
    generalize hdo h x = h2 at *
    generalize hev h x = e at *
    cases hkd with
    | kind c => exact ⟨d', hd'⟩
    | clear c => exact ⟨d', hd'⟩
    | crash c => cases hd'
    | range c1 c2 => exact ⟨d', hd'⟩
    | began c1 c2 c3 c4 =>
      rcases hx with q | q
      · exact absurd rfl q
      · exact absurd c1 q.1
    | beganNot c1 c2 c3 c4 => exact ⟨d', hd'⟩
    | none_ c1 c2 c3 => exact ⟨d', hd'⟩
    | there d0 c1 c2 c3 => exact ⟨d', hd'⟩
    | get d0 c1 c2 c3 => rcases sit_at hd' with ⟨q1, q2⟩ | ⟨q1, q2⟩; (rw [q1]; exact ⟨_, c3⟩); exact ⟨_, q2⟩
    | put d0 c1 c2 c3 => rcases sit_at hd' with ⟨q1, q2⟩ | ⟨q1, q2⟩; (rw [q1]; exact ⟨_, c3⟩); exact ⟨_, q2⟩
    | drop d0 c1 c2 c3 => rcases sit_at hd' with ⟨q1, q2⟩ | ⟨q1, q2⟩; (rw [q1]; exact ⟨_, c3⟩); exact ⟨_, q2⟩
    | list d0 c1 c2 c3 => rcases sit_at hd' with ⟨q1, q2⟩ | ⟨q1, q2⟩; (rw [q1]; exact ⟨_, c3⟩); exact ⟨_, q2⟩
    | commit d0 c1 c2 c3 =>
      simp only [upd_at] at hd'
      split at hd'
      · cases hd'
      · exact ⟨_, hd'⟩
    | tear d0 c1 c2 c3 => cases hd'
    | abort d0 c1 c2 c3 => rcases sit_at hd' with ⟨q1, q2⟩ | ⟨q1, q2⟩; (cases q2); exact ⟨_, q2⟩
  obtain ⟨d, hd⟩ := hold
  obtain ⟨e1, e2, e3, e4⟩ := hdo_sees hi x hd hd'
  have hw : d'.ws = d.ws := by
    rcases e4 with q | ⟨q1, q2, q3⟩ | ⟨q1, q2, q3⟩
    · exact q
    · rcases hx with hx | hx
      · have h5 : s < 5 := by
          rcases Nat.lt_or_ge s 5 with r | r
          · exact r
          · rw [hi.five s r] at hd; cases hd
        have hc := (HKind.put (h := h) (x := x) d q2 ⟨by omega, by omega⟩ (by rw [q1, Int.toNat_natCast]; exact hd)).eq.2
        rw [hc] at hx
        rw [q3]
        unfold dpw
        exact if_neg hx
      · exact absurd q2 hx.2.1
    · rcases hx with hx | hx
      · have h5 : s < 5 := by
          rcases Nat.lt_or_ge s 5 with r | r
          · exact r
          · rw [hi.five s r] at hd; cases hd
        have hc := (HKind.drop (h := h) (x := x) d q2 ⟨by omega, by omega⟩ (by rw [q1, Int.toNat_natCast]; exact hd)).eq.2
        rw [hc] at hx
        rw [q3]
        unfold dpw
        exact if_neg hx
      · exact absurd q2 hx.2.2
  have : hsee (hdo h x) d' = hsee h d := by unfold hsee; rw [e1, e3, hw]
  rw [this]
  exact hs s d hd k hk
/-- A deed began: its world is what all keys have behind its commit. -/
theorem Shot.began {h : HSt} {u : Nat → Nat → Ver} (hs : Shot h u) (hi : HInv h) (x : HStep) (hx : x.d = 1) (hc : (hev h x).c = 0) : ∃ (s : Nat) (d : Dp), s < 5 ∧ x.s = (s : Int) ∧ (hdo h x).seat s = some d ∧ fmx (hdo h x).f 8 ≤ d.y ∧ d.y ≤ (hdo h x).n ∧ Shot (hdo h x) (upd u s (shw (hdo h x).f (hdo h x).n d.y 8)) := by
  have hkd := hkind h x
  have hi2 := hi.step x
  have hsees := @hdo_sees h hi x
  generalize hdo h x = h2 at *
  generalize hev h x = e at *
  have bad : ∀ {c : Int}, (evc c).c = c := rfl
  cases hkd with
  | kind c => omega
  | clear c => omega
  | crash c => omega
  | range c1 c2 => exact absurd hc (by simp [evc])
  | began c1 c2 c3 c4 =>
    refine ⟨x.s.toNat, ⟨x.md, bat h.n x.md x.at_, [], []⟩, by omega, by omega, by simp [sit, upd], ?_⟩
    have hse : (sit h x.s (some ⟨x.md, bat h.n x.md x.at_, [], []⟩)).seat x.s.toNat = some ⟨x.md, bat h.n x.md x.at_, [], []⟩ := by simp [sit, upd]
    obtain ⟨k1, k2⟩ := hi2.known _ _ hse
    refine ⟨k1, k2, fun s d' hd' k hk => ?_⟩
    by_cases e : s = x.s.toNat
    · rw [e] at hd' ⊢
      rw [hse] at hd'
      cases hd'
      rw [upd_same]
      unfold hsee
      rw [lay_nil]
      exact ⟨rfl, rfl⟩
    · rw [upd_other _ _ _ e]
      have hd : h.seat s = some d' := by
        simp only [sit, upd_other _ _ _ e] at hd'
        exact hd'
      exact hs s d' hd k hk
  | beganNot c1 c2 c3 c4 => exact absurd hc c4
  | none_ c1 c2 c3 => omega
  | there d0 c1 c2 c3 => exact absurd hc (by simp [evc])
  | get d0 c1 c2 c3 => omega
  | put d0 c1 c2 c3 => omega
  | drop d0 c1 c2 c3 => omega
  | list d0 c1 c2 c3 => omega
  | commit d0 c1 c2 c3 => omega
  | tear d0 c1 c2 c3 => omega
  | abort d0 c1 c2 c3 => omega
/-- A deed wrote: its world has what it wrote. -/
theorem Shot.wrote {h : HSt} {u : Nat → Nat → Ver} (hs : Shot h u) (x : HStep) {s : Nat} {d : Dp} (h5 : s < 5) (hxs : x.s = (s : Int)) (hd : h.seat s = some d) {t : Bool} {b : ByteArray} (hx : (x.d = 3 ∧ t = true ∧ b = x.b) ∨ (x.d = 4 ∧ t = false ∧ b = ⟨#[]⟩)) (hc : (hev h x).c = 0) : ∃ j : Nat, j < 8 ∧ x.key = (j : Int) ∧ Shot (hdo h x) (upd u s (upd (u s) j ⟨0, t, b⟩)) := by
  have hst : h.seat x.s.toNat = some d := by rw [hxs, Int.toNat_natCast]; exact hd
  have key : hdo h x = sit h x.s (some { d with ws := dpw d.md d.ws x.key t b }) ∧ (hev h x).c = dpc d.md x.key t b := by
    rcases hx with ⟨q1, rfl, rfl⟩ | ⟨q1, rfl, rfl⟩
    · have := (HKind.put (h := h) (x := x) d q1 ⟨by omega, by omega⟩ hst).eq
      exact ⟨this.1, by rw [this.2]; rfl⟩
    · have := (HKind.drop (h := h) (x := x) d q1 ⟨by omega, by omega⟩ hst).eq
      exact ⟨this.1, by rw [this.2]; rfl⟩
  rw [key.2] at hc
  obtain ⟨j, hj, ek⟩ := dpc_key' hc
  refine ⟨j, hj, ek, fun s' d' hd' k hk => ?_⟩
  rw [key.1] at hd' ⊢
  by_cases e : s' = s
  · subst e
    have : d' = { d with ws := dpw d.md d.ws x.key t b } := by
      simp only [sit, hxs, Int.toNat_natCast, upd_same, Option.some.injEq] at hd'
      exact hd'.symm
    subst this
    have hw : dpw d.md d.ws x.key t b = d.ws ++ [⟨(j : Int), t, b⟩] := by unfold dpw; rw [if_pos hc, ek]
    have h0 := hs s' d hd k hk
    rw [upd_same]
    unfold hsee at h0 ⊢
    simp only [sit]
    rw [hw, lay_put]
    by_cases ek2 : k = j
    · subst ek2; rw [upd_same, upd_same]; exact ⟨rfl, rfl⟩
    · rw [upd_other _ _ _ ek2, upd_other _ _ _ ek2]; exact h0
  · rw [upd_other _ _ _ e]
    have hd2 : h.seat s' = some d' := by
      simp only [sit, hxs, Int.toNat_natCast, upd_other _ _ _ e] at hd'
      exact hd'
    exact hs s' d' hd2 k hk
/-- A deed read: it tells what its world has. -/
theorem Shot.got {h : HSt} {u : Nat → Nat → Ver} (hs : Shot h u) (hi : HInv h) (x : HStep) {s : Nat} {d : Dp} (h5 : s < 5) (hxs : x.s = (s : Int)) (hd : h.seat s = some d) (hx : x.d = 2) (hc : (hev h x).c = 0) : ∃ j : Nat, j < 8 ∧ x.key = (j : Int) ∧ (hev h x).t = (u s j).t ∧ (hev h x).s = (u s j).s := by
  have hst : h.seat x.s.toNat = some d := by rw [hxs, Int.toNat_natCast]; exact hd
  have key := (HKind.get (h := h) (x := x) d hx ⟨by omega, by omega⟩ hst).eq.2
  rw [key] at hc ⊢
  dsimp only at hc ⊢
  have hk : keyB x.key = true := by
    cases q : keyB x.key with
    | true => rfl
    | false => unfold dg at hc; rw [q] at hc; simp at hc
  simp only [keyB, decide_eq_true_eq] at hk
  obtain ⟨j, hj⟩ : ∃ j : Nat, x.key = (j : Int) := ⟨x.key.toNat, by omega⟩
  have hj8 : j < 8 := by omega
  refine ⟨j, hj8, hj, ?_⟩
  rw [hj, dg_see hi hd hj8]
  obtain ⟨e1, e2⟩ := hs s d hd j hj8
  exact ⟨e1.symm, e2.symm⟩
theorem Shot.listed {h : HSt} {u : Nat → Nat → Ver} (hs : Shot h u) (hi : HInv h) (x : HStep) {s : Nat} {d : Dp} (h5 : s < 5) (hxs : x.s = (s : Int)) (hd : h.seat s = some d) (hx : x.d = 5) (hc : (hev h x).c = 0) : (hev h x).l = wl (u s) x.key x.to_ 8 := by
  have hst : h.seat x.s.toNat = some d := by rw [hxs, Int.toNat_natCast]; exact hd
  have key := (HKind.list (h := h) (x := x) d hx ⟨by omega, by omega⟩ hst).eq.2
  rw [key] at hc ⊢
  dsimp only at hc ⊢
  exact dls_wl (fun k hk => by rw [dg_see hi hd hk, (hs s d hd k hk).1, (hs s d hd k hk).2]) hc
end Go.Proofs.Ytapmlleemopcnac

/- Plain words for halls: first come. -/
namespace Go.Proofs.Ytapmlleemopcnac
open Go.RowKit
set_option maxRecDepth 20000

theorem wk_isSome (ws : List Ver) : ∀ m, ∀ q ∈ wk ws m, ∃ k : Nat, k < m ∧ q.a = (k : Int) ∧ (lwr ws k).isSome = true := by
  intro m
  induction m with
  | zero => intro q hq; simp [wk] at hq
  | succ m ih =>
    intro q hq
    simp only [wk] at hq
    split at hq
    · rename_i v hv
      rcases List.mem_append.1 hq with e | e
      · obtain ⟨k, h1, h2, h3⟩ := ih q e
        exact ⟨k, by omega, h2, h3⟩
      · rw [List.mem_singleton.1 e]
        exact ⟨m, by omega, rfl, by rw [hv]; rfl⟩
    · obtain ⟨k, h1, h2, h3⟩ := ih q hq
      exact ⟨k, by omega, h2, h3⟩
/-- A step makes no commit, or it is a deed that is done. -/
theorem hdo_first {h : HSt} (hi : HInv h) (x : HStep) : ((hdo h x).n = h.n ∧ (hdo h x).cs = h.cs) ∨
    ∃ (s : Nat) (d : Dp), s < 5 ∧ x.s = (s : Int) ∧ h.seat s = some d ∧ (x.d = 6 ∨ x.d = 10) ∧ (hdo h x).n = h.n + 1 ∧ (hev h x).n = (h.n : Int) + 1 ∧ (hdo h x).cs = h.cs ++ [wk d.ws 8] ∧ dm h.f d.md d.y d.rs d.ws = 0 := by
  have hkd := hkind h x
  generalize hdo h x = h2 at *
  generalize hev h x = e at *
  cases hkd with
  | kind c => exact .inl ⟨rfl, rfl⟩
  | clear c => exact .inl ⟨rfl, rfl⟩
  | crash c => exact .inl ⟨hi.vi.len.symm, rfl⟩
  | range c1 c2 => exact .inl ⟨rfl, rfl⟩
  | began c1 c2 c3 c4 => exact .inl ⟨rfl, rfl⟩
  | beganNot c1 c2 c3 c4 => exact .inl ⟨rfl, rfl⟩
  | none_ c1 c2 c3 => exact .inl ⟨rfl, rfl⟩
  | there d0 c1 c2 c3 => exact .inl ⟨rfl, rfl⟩
  | get d0 c1 c2 c3 => exact .inl ⟨rfl, rfl⟩
  | put d0 c1 c2 c3 => exact .inl ⟨rfl, rfl⟩
  | drop d0 c1 c2 c3 => exact .inl ⟨rfl, rfl⟩
  | list d0 c1 c2 c3 => exact .inl ⟨rfl, rfl⟩
  | commit d c1 c2 c3 =>
    cases hv : vdone h.f h.cs d.md d.y d.rs d.ws with
    | false =>
      obtain ⟨_, q2, q3, _⟩ := v_not (n := h.n) hv
      exact .inl ⟨q2, q3⟩
    | true =>
      obtain ⟨_, q2, q3, q4⟩ := v_did (n := h.n) hv
      refine .inr ⟨x.s.toNat, d, by omega, by omega, c3, .inl c1, q2, q4, q3, ?_⟩
      unfold vdone at hv
      simp at hv
      exact hv.1
  | tear d c1 c2 c3 =>
    rcases tcs_cases (f := h.f) (cs := h.cs) (md := d.md) (y := d.y) (rs := d.rs) (ws := d.ws) (keep := x.keep) with q | ⟨q, _, q3, _⟩
    · exact .inl ⟨by show (tcs h.f h.cs d.md d.y d.rs d.ws x.keep).length = h.n; rw [q]; exact hi.vi.len.symm, q⟩
    · refine .inr ⟨x.s.toNat, d, by omega, by omega, c3, .inr c1, ?_, ?_, q, q3⟩
      · show (tcs h.f h.cs d.md d.y d.rs d.ws x.keep).length = h.n + 1
        rw [q, hi.vi.len]; simp
      · show tnum h.f h.cs d.md d.y d.rs d.ws x.keep = (h.n : Int) + 1
        rw [tnum_more q, hi.vi.len]
  | abort d0 c1 c2 c3 => exact .inl ⟨rfl, rfl⟩
/-- The keys of a commit. -/
def kys (c : List Ver) : List Int := c.map (·.a)
/-- Nobody's write is lost unseen. -/
theorem first_keys {h : HSt} (hi : HInv h) {d : Dp} (hd : dm h.f d.md d.y d.rs d.ws = 0) {i : Nat} {c : List Ver} (hc : h.cs[i]? = some c) (hy : d.y < (i : Int) + 1) {z : Int} (hz : z ∈ kys (wk d.ws 8)) : z ∉ kys c := by
  intro hm
  obtain ⟨q, hq, rfl⟩ := List.mem_map.1 hz
  obtain ⟨k, hk, e, hs⟩ := wk_isSome d.ws 8 q hq
  obtain ⟨p, hp, e2⟩ := List.mem_map.1 hm
  exact first_come hi hd hc hy hk hs ⟨p, hp, by rw [← e]; exact e2⟩
end Go.Proofs.Ytapmlleemopcnac

/- Plain words for a stable sort: elements by their places, turned round, sorted, in the order in which they came. -/
namespace Go.Proofs.Ytapmlleemopcnac.Srt
set_option maxRecDepth 20000
variable {α : Type}

/-- n elements from a on. -/
def sg (d : Nat → α) (a : Nat) : Nat → List α
  | 0 => []
  | n + 1 => d a :: sg d (a + 1) n
theorem sg_len (d : Nat → α) : ∀ (n a : Nat), (sg d a n).length = n := by
  intro n
  induction n with
  | zero => intro a; rfl
  | succ n ih => intro a; simp only [sg, List.length_cons, ih]
theorem sg_app (d : Nat → α) : ∀ (m n a : Nat), sg d a (m + n) = sg d a m ++ sg d (a + m) n := by
  intro m
  induction m with
  | zero => intro n a; simp [sg]
  | succ m ih =>
    intro n a
    rw [show m + 1 + n = (m + n) + 1 by omega]
    simp only [sg, List.cons_append]
    rw [ih n (a + 1), show a + 1 + m = a + (m + 1) by omega]
theorem sg_congr {d e : Nat → α} : ∀ (n a : Nat), (∀ x, a ≤ x → x < a + n → d x = e x) → sg d a n = sg e a n := by
  intro n
  induction n with
  | zero => intro a _; rfl
  | succ n ih =>
    intro a h
    simp only [sg]
    rw [h a (by omega) (by omega), ih (a + 1) (fun x h1 h2 => h x (by omega) (by omega))]
theorem sg_shift {d e : Nat → α} (b : Nat) : ∀ (n a : Nat), (∀ i, i < n → d (a + i) = e (b + i)) → sg d a n = sg e b n := by
  intro n
  induction n generalizing b with
  | zero => intro a _; rfl
  | succ n ih =>
    intro a h
    simp only [sg]
    have h0 := h 0 (by omega)
    simp only [Nat.add_zero] at h0
    rw [h0, ih (b + 1) (a + 1) (fun i hi => by have := h (i + 1) (by omega); rw [show a + 1 + i = a + (i + 1) by omega, show b + 1 + i = b + (i + 1) by omega]; exact this)]
theorem sg_mem {d : Nat → α} {x : α} : ∀ {n a : Nat}, x ∈ sg d a n ↔ ∃ i, a ≤ i ∧ i < a + n ∧ d i = x := by
  intro n
  induction n with
  | zero => intro a; simp only [sg, List.not_mem_nil, false_iff]; rintro ⟨i, h1, h2, _⟩; omega
  | succ n ih =>
    intro a
    simp only [sg, List.mem_cons, ih]
    constructor
    · rintro (h | ⟨i, h1, h2, h3⟩)
      · exact ⟨a, by omega, by omega, h.symm⟩
      · exact ⟨i, by omega, by omega, h3⟩
    · rintro ⟨i, h1, h2, h3⟩
      by_cases e : i = a
      · subst e; exact .inl h3.symm
      · exact .inr ⟨i, by omega, by omega, h3⟩
theorem sg_at (d : Nat → α) : ∀ (n a i : Nat), i < n → (sg d a n)[i]? = some (d (a + i)) := by
  intro n
  induction n with
  | zero => intro a i h; omega
  | succ n ih =>
    intro a i h
    cases i with
    | zero => simp [sg]
    | succ i => simp only [sg, List.getElem?_cons_succ]; rw [ih (a + 1) i (by omega), show a + 1 + i = a + (i + 1) by omega]

/-- The elements of the key k. -/
def kf (key : α → Int) (k : Int) (l : List α) : List α := l.filter (fun x => decide (key x = k))
theorem kf_app (key : α → Int) (k : Int) (l m : List α) : kf key k (l ++ m) = kf key k l ++ kf key k m := by simp [kf]
/-- From a to b the elements of each key come in the order in which they came; the others are as they were. -/
structure Stb (key : α → Int) (a b : Nat) (d d' : Nat → α) : Prop where
  out : ∀ x, ¬ (a ≤ x ∧ x < b) → d' x = d x
  ord : ∀ k, kf key k (sg d' a (b - a)) = kf key k (sg d a (b - a))
theorem Stb.refl (key : α → Int) (a b : Nat) (d : Nat → α) : Stb key a b d d := ⟨fun _ _ => rfl, fun _ => rfl⟩
theorem Stb.trans {key : α → Int} {a b : Nat} {d e f : Nat → α} (h : Stb key a b d e) (k : Stb key a b e f) : Stb key a b d f :=
  ⟨fun x hx => (k.out x hx).trans (h.out x hx), fun i => (k.ord i).trans (h.ord i)⟩
theorem Stb.wide {key : α → Int} {a b p q : Nat} {d d' : Nat → α} (h : Stb key a b d d') (h1 : p ≤ a) (h2 : a ≤ b) (h3 : b ≤ q) : Stb key p q d d' := by
  refine ⟨fun x hx => h.out x (fun k => hx ⟨by omega, by omega⟩), fun k => ?_⟩
  have e : q - p = (a - p) + ((b - a) + (q - b)) := by omega
  rw [e, sg_app, sg_app, sg_app d, sg_app d, kf_app, kf_app, kf_app, kf_app]
  rw [show p + (a - p) = a by omega, show a + (b - a) = b by omega, h.ord k]
  rw [sg_congr (d := d') (e := d) (a - p) p (fun x _ _ => h.out x (by omega)), sg_congr (d := d') (e := d) (q - b) b (fun x _ _ => h.out x (by omega))]
theorem Stb.mem {key : α → Int} {a b : Nat} {d d' : Nat → α} (h : Stb key a b d d') {x : Nat} (h1 : a ≤ x) (h2 : x < b) : ∃ y, a ≤ y ∧ y < b ∧ d' x = d y := by
  have hm : d' x ∈ kf key (key (d' x)) (sg d' a (b - a)) := by
    unfold kf
    rw [List.mem_filter]
    exact ⟨sg_mem.2 ⟨x, h1, by omega, rfl⟩, by simp⟩
  rw [h.ord] at hm
  unfold kf at hm
  rw [List.mem_filter] at hm
  obtain ⟨y, k1, k2, k3⟩ := sg_mem.1 hm.1
  exact ⟨y, k1, by omega, k3.symm⟩

/-- The elements from p to m and those from m to q change their places. -/
def rot (d : Nat → α) (p m q : Nat) : Nat → α := fun x => if p ≤ x ∧ x < p + (q - m) then d (m + (x - p)) else if p + (q - m) ≤ x ∧ x < q then d (x - (q - m)) else d x
theorem rot_lo {d : Nat → α} {p m q x : Nat} (h : p ≤ x ∧ x < p + (q - m)) : rot d p m q x = d (m + (x - p)) := by unfold rot; rw [if_pos h]
theorem rot_hi {d : Nat → α} {p m q x : Nat} (h : p + (q - m) ≤ x ∧ x < q) : rot d p m q x = d (x - (q - m)) := by unfold rot; rw [if_neg (by omega), if_pos h]
theorem rot_out {d : Nat → α} {p m q x : Nat} (hp : p ≤ m) (hq : m ≤ q) (h : ¬ (p ≤ x ∧ x < q)) : rot d p m q x = d x := by unfold rot; rw [if_neg (by omega), if_neg (by omega)]
theorem rot_sg {d : Nat → α} {p m q : Nat} (hp : p ≤ m) (hq : m ≤ q) : sg (rot d p m q) p (q - p) = sg d m (q - m) ++ sg d p (m - p) := by
  rw [show q - p = (q - m) + (m - p) by omega, sg_app]
  rw [sg_shift (e := d) m (q - m) p (fun i hi => by rw [rot_lo (by omega)]; congr 1; omega)]
  rw [sg_shift (e := d) p (m - p) (p + (q - m)) (fun i hi => by rw [rot_hi (by omega)]; congr 1; omega)]
theorem rot_stb {key : α → Int} {d : Nat → α} {p m q : Nat} (hp : p ≤ m) (hq : m ≤ q) (h : ∀ x y, p ≤ x → x < m → m ≤ y → y < q → key (d y) < key (d x)) : Stb key p q d (rot d p m q) := by
  refine ⟨fun x hx => rot_out hp hq hx, fun k => ?_⟩
  rw [rot_sg hp hq, show q - p = (m - p) + (q - m) by omega, sg_app, show p + (m - p) = m by omega, kf_app, kf_app]
  by_cases e : ∃ y, m ≤ y ∧ y < q ∧ key (d y) = k
  · obtain ⟨y, h1, h2, h3⟩ := e
    have : kf key k (sg d p (m - p)) = [] := by
      unfold kf
      rw [List.filter_eq_nil_iff]
      intro z hz hk
      obtain ⟨x, k1, k2, k3⟩ := sg_mem.1 hz
      have := h x y k1 (by omega) h1 h2
      simp at hk
      rw [← k3] at hk
      omega
    rw [this]; simp
  · have : kf key k (sg d m (q - m)) = [] := by
      unfold kf
      rw [List.filter_eq_nil_iff]
      intro z hz hk
      obtain ⟨x, k1, k2, k3⟩ := sg_mem.1 hz
      simp at hk
      rw [← k3] at hk
      exact e ⟨x, k1, by omega, hk⟩
    rw [this]; simp

/-- Two elements change their places. -/
def swp (d : Nat → α) (i j : Nat) : Nat → α := fun x => if x = i then d j else if x = j then d i else d x
/-- The elements from a on and those from b on, n each, change their places. -/
def swr (d : Nat → α) (a b n : Nat) : Nat → α := fun x => if a ≤ x ∧ x < a + n then d (b + (x - a)) else if b ≤ x ∧ x < b + n then d (a + (x - b)) else d x
theorem swr_zero (d : Nat → α) (a b : Nat) : swr d a b 0 = d := by
  funext x; unfold swr; rw [if_neg (by omega), if_neg (by omega)]
theorem swr_succ (d : Nat → α) {a b n : Nat} (h : a + n < b) : swp (swr d a b n) (a + n) (b + n) = swr d a b (n + 1) := by
  funext x
  unfold swp swr
  by_cases e1 : x = a + n
  · subst e1
    rw [if_pos rfl, if_neg (by omega), if_neg (by omega), if_pos (by omega)]
    congr 1; omega
  rw [if_neg e1]
  by_cases e2 : x = b + n
  · subst e2
    rw [if_pos rfl, if_neg (by omega), if_neg (by omega), if_neg (by omega), if_pos (by omega)]
    congr 1; omega
  rw [if_neg e2]
  by_cases c1 : a ≤ x ∧ x < a + n
  · rw [if_pos c1, if_pos (by omega)]
  rw [if_neg c1, if_neg (c := a ≤ x ∧ x < a + (n + 1)) (by omega)]
  by_cases c2 : b ≤ x ∧ x < b + n
  · rw [if_pos c2, if_pos (by omega)]
  · rw [if_neg c2, if_neg (by omega)]
/-- The three ways of rotate. -/
theorem rot_left {d : Nat → α} {m i j : Nat} (hi : i ≤ m) (h : j < i) : rot (swr d (m - i) m j) (m - (i - j)) m (m + j) = rot d (m - i) m (m + j) := by
  funext x
  simp only [rot, swr]
  repeat' split
  all_goals first | rfl | (congr 1; omega)
theorem rot_right {d : Nat → α} {m i j : Nat} (hi : i ≤ m) (h : i < j) : rot (swr d (m - i) (m + j - i) i) (m - i) m (m + (j - i)) = rot d (m - i) m (m + j) := by
  funext x
  unfold rot swr
  have e : m + j - m = j := by omega
  have e' : m + (j - i) - m = j - i := by omega
  rw [e, e']
  by_cases c0 : m - i ≤ x ∧ x < m - i + (j - i)
  · rw [if_pos c0, if_pos (c := m - i ≤ x ∧ x < m - i + j) (by omega)]
    by_cases c1 : m - i ≤ m + (x - (m - i)) ∧ m + (x - (m - i)) < m - i + i
    · omega
    rw [if_neg c1, if_neg (by omega)]
  rw [if_neg c0]
  by_cases c1 : m - i + (j - i) ≤ x ∧ x < m + (j - i)
  · rw [if_pos c1, if_pos (by omega), if_pos (by omega)]
    congr 1; omega
  rw [if_neg c1]
  by_cases c2 : m + j - i ≤ x ∧ x < m + j - i + i
  · rw [if_neg (by omega), if_pos c2, if_neg (by omega), if_pos (by omega)]
    congr 1; omega
  · rw [if_neg (by omega), if_neg c2, if_neg (by omega), if_neg (by omega)]
theorem rot_mid {d : Nat → α} {m i : Nat} (hi : i ≤ m) : swr d (m - i) m i = rot d (m - i) m (m + i) := by
  funext x
  unfold rot swr
  have e : m + i - m = i := by omega
  rw [e]
  by_cases c0 : m - i ≤ x ∧ x < m - i + i
  · rw [if_pos c0, if_pos c0]
  rw [if_neg c0, if_neg c0]
  by_cases c1 : m ≤ x ∧ x < m + i
  · rw [if_pos c1, if_pos (by omega)]; congr 1; omega
  · rw [if_neg c1, if_neg (by omega)]
/-- One element goes up, one place after the other. -/
theorem rot_up0 (d : Nat → α) (a : Nat) : rot d a (a + 1) (a + 1) = d := by
  funext x; unfold rot
  rw [if_neg (by omega)]
  by_cases c : a + (a + 1 - (a + 1)) ≤ x ∧ x < a + 1
  · rw [if_pos c]; congr 1; omega
  · rw [if_neg c]
theorem rot_up (d : Nat → α) {a k : Nat} (h : a ≤ k) : swp (rot d a (a + 1) (k + 1)) k (k + 1) = rot d a (a + 1) (k + 2) := by
  funext x
  unfold swp rot
  by_cases e1 : x = k
  · subst e1
    rw [if_pos rfl, if_neg (by omega), if_neg (by omega), if_pos (by omega)]; congr 1; omega
  rw [if_neg e1]
  by_cases e2 : x = k + 1
  · subst e2
    rw [if_pos rfl, if_neg (by omega), if_pos (by omega), if_neg (by omega), if_pos (by omega)]; congr 1; omega
  rw [if_neg e2]
  by_cases c : a ≤ x ∧ x < a + (k + 1 - (a + 1))
  · rw [if_pos c, if_pos (by omega)]
  · rw [if_neg c, if_neg (by omega), if_neg (by omega), if_neg (by omega)]
/-- One element goes down. -/
theorem rot_down0 (d : Nat → α) (m : Nat) : rot d m m (m + 1) = d := by
  funext x; unfold rot
  by_cases c : m ≤ x ∧ x < m + (m + 1 - m)
  · rw [if_pos c]; congr 1; omega
  · rw [if_neg c, if_neg (by omega)]
theorem rot_down (d : Nat → α) {m k : Nat} (h : k + 1 ≤ m) : swp (rot d (k + 1) m (m + 1)) (k + 1) k = rot d k m (m + 1) := by
  funext x
  unfold swp rot
  have e : m + 1 - m = 1 := by omega
  rw [e]
  by_cases e1 : x = k + 1
  · subst e1
    rw [if_pos rfl, if_neg (by omega), if_neg (by omega), if_neg (by omega), if_pos (by omega)]; congr 1
  rw [if_neg e1]
  by_cases e2 : x = k
  · subst e2
    rw [if_pos rfl, if_pos (by omega), if_pos (by omega)]; congr 1; omega
  rw [if_neg e2]
  by_cases c : k + 1 ≤ x ∧ x < k + 1 + 1
  · omega
  rw [if_neg c]
  by_cases c1 : k + 1 + 1 ≤ x ∧ x < m + 1
  · rw [if_pos c1, if_neg (by omega), if_pos (by omega)]
  · rw [if_neg c1, if_neg (by omega), if_neg (by omega)]

/-- Sorted from a to b. -/
def SrtOn (key : α → Int) (d : Nat → α) (a b : Nat) : Prop := ∀ x y, a ≤ x → x ≤ y → y < b → key (d x) ≤ key (d y)
theorem SrtOn.sub {key : α → Int} {d : Nat → α} {a b p q : Nat} (h : SrtOn key d a b) (h1 : a ≤ p) (h2 : q ≤ b) : SrtOn key d p q := fun x y k1 k2 k3 => h x y (by omega) k2 (by omega)
theorem SrtOn.congr {key : α → Int} {d e : Nat → α} {a b : Nat} (h : SrtOn key d a b) (he : ∀ x, a ≤ x → x < b → e x = d x) : SrtOn key e a b := fun x y k1 k2 k3 => by
  rw [he x k1 (by omega), he y (by omega) k3]; exact h x y k1 k2 k3
/-- One element more, put in its place. -/
theorem srt_ins {key : α → Int} {d : Nat → α} {a i j : Nat} (h : SrtOn key d a i) (hj : a ≤ j ∧ j ≤ i) (h1 : ∀ x, j ≤ x → x < i → key (d i) < key (d x)) (h2 : a < j → key (d (j - 1)) ≤ key (d i)) :
    SrtOn key (rot d j i (i + 1)) a (i + 1) ∧ Stb key a (i + 1) d (rot d j i (i + 1)) := by
  have e : i + 1 - i = 1 := by omega
  have lo : ∀ x, x < j → rot d j i (i + 1) x = d x := fun x hx => rot_out (by omega) (by omega) (by omega)
  have mid : rot d j i (i + 1) j = d i := by rw [rot_lo (by omega)]; congr 1; omega
  have hi : ∀ x, j < x → x < i + 1 → rot d j i (i + 1) x = d (x - 1) := fun x h3 h4 => by rw [rot_hi (by omega), e]
  refine ⟨fun x y k1 k2 k3 => ?_, (rot_stb hj.2 (by omega) (fun x y k1 k2 k3 k4 => by rw [show y = i by omega]; exact h1 x k1 k2)).wide hj.1 (by omega) (Nat.le_refl _)⟩
  rcases Nat.lt_trichotomy x j with c | c | c
  · rw [lo x c]
    rcases Nat.lt_trichotomy y j with c' | c' | c'
    · rw [lo y c']; exact h x y k1 k2 (by omega)
    · rw [c', mid]
      have := h x (j - 1) k1 (by omega) (by omega)
      have := h2 (by omega)
      omega
    · rw [hi y c' k3]; exact h x (y - 1) k1 (by omega) (by omega)
  · rw [c, mid]
    rcases Nat.lt_trichotomy y j with c' | c' | c'
    · omega
    · rw [c', mid]; exact Int.le_refl _
    · rw [hi y c' k3]
      have := h1 (y - 1) (by omega) (by omega)
      omega
  · rw [hi x c (by omega), hi y (by omega) k3]
    exact h (x - 1) (y - 1) (by omega) (by omega) (by omega)
/-- The first one of two sorted parts is one element alone: it goes up to i. -/
theorem srt_first {key : α → Int} {d : Nat → α} {a b i : Nat} (h : SrtOn key d (a + 1) b) (hi : a + 1 ≤ i ∧ i ≤ b) (h1 : ∀ x, a + 1 ≤ x → x < i → key (d x) < key (d a)) (h2 : i < b → key (d a) ≤ key (d i)) :
    SrtOn key (rot d a (a + 1) i) a b ∧ Stb key a b d (rot d a (a + 1) i) := by
  have lo : ∀ x, a ≤ x → x + 1 < i → rot d a (a + 1) i x = d (x + 1) := fun x h3 h4 => by rw [rot_lo (by omega)]; congr 1; omega
  have mid : rot d a (a + 1) i (i - 1) = d a := by rw [rot_hi (by omega)]; congr 1; omega
  have hh : ∀ x, i ≤ x → rot d a (a + 1) i x = d x := fun x h3 => rot_out (by omega) (by omega) (by omega)
  refine ⟨fun x y k1 k2 k3 => ?_, (rot_stb (by omega) hi.1 (fun x y k1 k2 k3 k4 => by rw [show x = a by omega]; exact h1 y k3 k4)).wide (Nat.le_refl _) (by omega) hi.2⟩
  rcases Nat.lt_trichotomy x (i - 1) with c | c | c
  · rw [lo x k1 (by omega)]
    rcases Nat.lt_trichotomy y (i - 1) with c' | c' | c'
    · rw [lo y (by omega) (by omega)]; exact h (x + 1) (y + 1) (by omega) (by omega) (by omega)
    · rw [c', mid]
      have := h1 (x + 1) (by omega) (by omega)
      omega
    · rw [hh y (by omega)]; exact h (x + 1) y (by omega) (by omega) k3
  · rw [c, mid]
    rcases Nat.lt_trichotomy y (i - 1) with c' | c' | c'
    · omega
    · rw [c', mid]; exact Int.le_refl _
    · rw [hh y (by omega)]
      have := h i y (by omega) (by omega) k3
      have := h2 (by omega)
      omega
  · rw [hh x (by omega), hh y (by omega)]
    exact h x y (by omega) k2 k3
/-- Two sorted parts, cut so that what changes places is apart: the lower half's parts and the upper half's. -/
theorem srt_cut {key : α → Int} {d : Nat → α} {a m b mid start end_ : Nat} (ham : a ≤ m) (hmb : m ≤ b) (hs : a ≤ start ∧ start ≤ m) (he : m ≤ end_ ∧ end_ ≤ b) (hmid : start + (end_ - m) = mid)
    (h1 : SrtOn key d a m) (h2 : SrtOn key d m b) (h3 : start < m → m < end_ → key (d (end_ - 1)) < key (d start)) (h4 : a < start → end_ < b → key (d (start - 1)) ≤ key (d end_)) :
    let e := rot d start m end_
    SrtOn key e a start ∧ SrtOn key e start mid ∧ SrtOn key e mid end_ ∧ SrtOn key e end_ b ∧ Stb key a b d e ∧ ∀ x y, a ≤ x → x < mid → mid ≤ y → y < b → key (e x) ≤ key (e y) := by
  intro e
  have out : ∀ x, ¬ (start ≤ x ∧ x < end_) → e x = d x := fun x hx => rot_out hs.2 he.1 hx
  have lo : ∀ x, start ≤ x → x < mid → e x = d (m + (x - start)) := fun x k1 k2 => rot_lo (by omega)
  have hi : ∀ x, mid ≤ x → x < end_ → e x = d (x - (end_ - m)) := fun x k1 k2 => rot_hi (by omega)
  have ap : ∀ x y, start ≤ x → x < m → m ≤ y → y < end_ → key (d y) < key (d x) := fun x y k1 k2 k3 k4 => by
    have q1 := h1 start x hs.1 k1 k2
    have q2 := h2 y (end_ - 1) k3 (by omega) (by omega)
    have q3 := h3 (by omega) (by omega)
    omega
  refine ⟨h1.sub (Nat.le_refl _) hs.2 |>.congr (fun x _ k => out x (by omega)), fun x y k1 k2 k3 => ?_, fun x y k1 k2 k3 => ?_, h2.sub he.1 (Nat.le_refl _) |>.congr (fun x k _ => out x (by omega)), (rot_stb hs.2 he.1 ap).wide hs.1 (by omega) he.2, fun x y k1 k2 k3 k4 => ?_⟩
  · rw [lo x k1 (by omega), lo y (by omega) k3]; exact h2 _ _ (by omega) (by omega) (by omega)
  · rw [hi x k1 (by omega), hi y (by omega) k3]; exact h1 _ _ (by omega) (by omega) (by omega)
  · by_cases c1 : x < start
    · rw [out x (by omega)]
      by_cases c2 : y < end_
      · rw [hi y k3 c2]; exact h1 _ _ k1 (by omega) (by omega)
      · rw [out y (by omega)]
        have q1 := h1 x (start - 1) k1 (by omega) (by omega)
        have q2 := h2 end_ y (by omega) (by omega) k4
        have q3 := h4 (by omega) (by omega)
        omega
    · rw [lo x (by omega) k2]
      by_cases c2 : y < end_
      · rw [hi y k3 c2]
        have := ap (y - (end_ - m)) (m + (x - start)) (by omega) (by omega) (by omega) (by omega)
        omega
      · rw [out y (by omega)]; exact h2 _ _ (by omega) (by omega) k4
/-- Both halves sorted by themselves, the whole is. -/
theorem srt_join {key : α → Int} {e f : Nat → α} {a mid b : Nat} (_ha : a ≤ mid) (_hb : mid ≤ b) (hle : ∀ x y, a ≤ x → x < mid → mid ≤ y → y < b → key (e x) ≤ key (e y)) {g : Nat → α} (s1 : Stb key a mid e g) (s2 : Stb key mid b g f) (h1 : SrtOn key g a mid) (h2 : SrtOn key f mid b) : SrtOn key f a b := by
  have lo : ∀ x, x < mid → f x = g x := fun x hx => s2.out x (by omega)
  intro x y k1 k2 k3
  by_cases c1 : y < mid
  · rw [lo x (by omega), lo y c1]; exact h1 x y k1 k2 c1
  · by_cases c2 : x < mid
    · rw [lo x c2]
      obtain ⟨x', p1, p2, p3⟩ := s1.mem k1 c2
      obtain ⟨y', q1, q2, q3⟩ := s2.mem (x := y) (by omega) k3
      rw [p3, q3, s1.out y' (by omega)]
      exact hle x' y' p1 p2 q1 q2
    · exact h2 x y (by omega) k2 k3
/-- Blocks of s elements are sorted, the last ones up to n. -/
def Bks (key : α → Int) (d : Nat → α) (s a n : Nat) : Prop := ∀ t, SrtOn key d (a + t * s) (min (a + t * s + s) n)
theorem bks_of {key : α → Int} {d : Nat → α} {s u n : Nat} (h : ∀ t, t < u → SrtOn key d (t * s) (t * s + s)) (h1 : SrtOn key d (u * s) n) (h2 : n < u * s + s) : Bks key d s 0 n := by
  intro t
  rw [Nat.zero_add]
  rcases Nat.lt_trichotomy t u with c | c | c
  · exact (h t c).sub (Nat.le_refl _) (by omega)
  · subst c
    exact h1.sub (Nat.le_refl _) (by omega)
  · have := Nat.mul_le_mul_right s (show u + 1 ≤ t by omega)
    rw [Nat.succ_mul] at this
    intro x y k1 k2 k3
    omega
theorem bks_two {key : α → Int} {d : Nat → α} {s a n : Nat} (h : Bks key d s a n) : SrtOn key d a (min (a + s) n) ∧ SrtOn key d (a + s) (min (a + s + s) n) := by
  have h0 := h 0
  have h1 := h 1
  rw [Nat.zero_mul, Nat.add_zero] at h0
  rw [Nat.one_mul] at h1
  exact ⟨h0, h1⟩
theorem bks_next {key : α → Int} {d e : Nat → α} {s a n : Nat} (h : Bks key d s a n) (he : ∀ x, a + 2 * s ≤ x → e x = d x) : Bks key e s (a + 2 * s) n := by
  intro t
  have h2 := h (t + 2)
  rw [Nat.add_mul, show a + (t * s + 2 * s) = a + 2 * s + t * s by omega] at h2
  exact h2.congr (fun x k1 _ => he x (by omega))
theorem blk_next {key : α → Int} {d e : Nat → α} {s u : Nat} (h : ∀ t, t < u → SrtOn key d (t * s) (t * s + s)) (h1 : SrtOn key e (u * s) (u * s + s)) (he : ∀ x, x < u * s → e x = d x) : ∀ t, t < u + 1 → SrtOn key e (t * s) (t * s + s) := by
  intro t ht
  by_cases c : t = u
  · subst c; exact h1
  · have := Nat.mul_le_mul_right s (show t + 1 ≤ u by omega)
    rw [Nat.succ_mul] at this
    exact (h t (by omega)).congr (fun x k1 k2 => he x (by omega))

/-- A list is sorted by a key. -/
def SrtL (key : α → Int) (l : List α) : Prop := l.Pairwise (fun x y => key x ≤ key y)
theorem srtL_sg {key : α → Int} {d : Nat → α} : ∀ (n a : Nat), SrtOn key d a (a + n) → SrtL key (sg d a n) := by
  intro n
  induction n with
  | zero => intro a _; exact List.Pairwise.nil
  | succ n ih =>
    intro a h
    refine List.Pairwise.cons (fun y hy => ?_) (ih (a + 1) (h.sub (by omega) (by omega)))
    obtain ⟨i, h1, h2, rfl⟩ := sg_mem.1 hy
    exact h a i (Nat.le_refl _) (by omega) (by omega)
/-- Of two lists whose elements of each key are the same ones, in the same order, the same are there. -/
theorem kf_mem {key : α → Int} {l m : List α} (h : ∀ k, kf key k l = kf key k m) {x : α} (hx : x ∈ l) : x ∈ m := by
  have : x ∈ kf key (key x) l := by unfold kf; rw [List.mem_filter]; exact ⟨hx, by simp⟩
  rw [h] at this
  unfold kf at this
  exact (List.mem_filter.1 this).1
/-- A sorted list, cut at a key: those below, those of that key, those above. -/
theorem srtL_cut {key : α → Int} (k : Int) : ∀ {l : List α}, SrtL key l → (∀ x, x ∈ l → k ≤ key x) → l = kf key k l ++ l.filter (fun x => decide (k < key x)) := by
  intro l
  induction l with
  | nil => intro _ _; rfl
  | cons x l ih =>
    intro h hk
    have h2 := List.pairwise_cons.1 h
    have hx := hk x (by simp)
    by_cases e : key x = k
    · have := ih h2.2 (fun y hy => hk y (by simp [hy]))
      unfold kf at *
      rw [List.filter_cons_of_pos (by simp [e]), List.filter_cons_of_neg (by simp; omega), List.cons_append, ← this]
    · have hall : ∀ y, y ∈ x :: l → k < key y := fun y hy => by
        rcases List.mem_cons.1 hy with q | q
        · subst q; omega
        · have := h2.1 y q; omega
      have e1 : kf key k (x :: l) = [] := by
        unfold kf; rw [List.filter_eq_nil_iff]; intro y hy q; have := hall y hy; simp at q; omega
      have e2 : (x :: l).filter (fun x => decide (k < key x)) = x :: l := by
        rw [List.filter_eq_self]; intro y hy; have := hall y hy; simp [this]
      rw [e1, e2, List.nil_append]
theorem kf_above {key : α → Int} {k j : Int} (h : k < j) (l : List α) : kf key j (l.filter (fun x => decide (k < key x))) = kf key j l := by
  unfold kf
  rw [List.filter_filter]
  apply List.filter_congr
  intro x _
  by_cases e : key x = j
  · simp [e, h]
  · simp [e]
theorem srtL_filter {key : α → Int} {l : List α} (h : SrtL key l) (p : α → Bool) : SrtL key (l.filter p) := List.Pairwise.filter p h
end Go.Proofs.Ytapmlleemopcnac.Srt

/- Deeds that were done, in memory: their rows; a comparison of two by a closure. -/
namespace Go.Proofs.Ytapmlleemopcnac
open Go.RowKit Srt
set_option maxRecDepth 20000
attribute [local go_sem ↓] Go.wp_at_zero Go.wp_at_succ

/-- An act. -/
structure Ac where
  kd : Int
  key : Int
  to_ : Int
  t : Bool
  s : ByteArray
  l : List Ver
/-- A deed that was done. -/
structure Dn where
  n : Int
  at_ : Int
  md : Int
  acts : List Ac

/-- A deed that was done, and where its acts lie. -/
structure Dx where
  d : Dn
  a : Option Addr
  c : Nat
def dxc (x : Dx) : List Value := [.int .i64 x.d.n, .int .i64 x.d.at_, .int .i64 x.d.md, .slice x.a x.d.acts.length x.c]
def dxv (x : Dx) : Value := .agg #[.int .i64 x.d.n, .int .i64 x.d.at_, .int .i64 x.d.md, .slice x.a x.d.acts.length x.c]
/-- The cells of one of a row. -/
structure Dc4 (cur : Array Value) (i : Nat) (x : Dx) : Prop where
  c0 : cur[i * 4]? = some (.int .i64 x.d.n)
  c1 : cur[i * 4 + 1]? = some (.int .i64 x.d.at_)
  c2 : cur[i * 4 + 2]? = some (.int .i64 x.d.md)
  c3 : cur[i * 4 + 3]? = some (.slice x.a x.d.acts.length x.c)
/-- n of them lie from the beginning of block g on. -/
def DRow (w : World) (g n : Nat) (d : Nat → Dx) : Prop := ∃ cur, w.heap[g]? = some (.cells cur 90 (0, 0)) ∧ ∀ i, i < n → Dc4 cur i (d i)
section
variable {w w' : World} {g n i j : Nat} {d : Nat → Dx} {S : List Nat} {a : Option Addr}
theorem DRow.kp (h : DRow w g n d) (hk : Kp S w w') (hg : g ∉ S) : DRow w' g n d := by
  obtain ⟨cur, h1, h2⟩ := h
  exact ⟨cur, by rw [hk.block g (lt_of_block h1) hg]; exact h1, h2⟩
theorem DRow.kp0 (h : DRow w g n d) (hk : Kp [] w w') : DRow w' g n d := h.kp hk (by simp)
theorem DRow.lt (h : DRow w g n d) : g < w.heap.size := by
  obtain ⟨cur, h1, h2⟩ := h
  exact lt_of_block h1
theorem DRow.cells (h : DRow w g n d) (hi : i < n) : w.cell? ⟨g, i * 4, none⟩ = some (.int .i64 (d i).d.n) ∧ w.cell? ⟨g, i * 4 + 1, none⟩ = some (.int .i64 (d i).d.at_) ∧ w.cell? ⟨g, i * 4 + 1 + 1, none⟩ = some (.int .i64 (d i).d.md) ∧ w.cell? ⟨g, i * 4 + 1 + 1 + 1, none⟩ = some (.slice (d i).a (d i).d.acts.length (d i).c) := by
  obtain ⟨cur, h1, h2⟩ := h
  have h3 := h2 i hi
  exact ⟨cell_of_block h1 h3.c0, cell_of_block h1 h3.c1, cell_of_block h1 h3.c2, cell_of_block h1 h3.c3⟩
theorem DRow.fz (h : DRow w g n d) (o : Nat) : w.frozen? ⟨g, o, none⟩ = false := by
  obtain ⟨cur, h1, h2⟩ := h
  exact frozen_of_block o h1
/-- One of them is put at a place. -/
def put4 (w : World) (g i : Nat) (x : Dx) : World := (((w.setCell ⟨g, i * 4, none⟩ (.int .i64 x.d.n)).setCell ⟨g, i * 4 + 1, none⟩ (.int .i64 x.d.at_)).setCell ⟨g, i * 4 + 2, none⟩ (.int .i64 x.d.md)).setCell ⟨g, i * 4 + 3, none⟩ (.slice x.a x.d.acts.length x.c)
theorem put4_kp (w : World) (g i : Nat) (x : Dx) : Kp [g] w (put4 w g i x) := ((((Kp.refl [g] w).setCell (.inl (by simp)) _).setCell (.inl (by simp)) _).setCell (.inl (by simp)) _).setCell (.inl (by simp)) _
theorem DRow.put (h : DRow w g n d) (hi : i < n) (x : Dx) : DRow (put4 w g i x) g n (fun j => if j = i then x else d j) := by
  obtain ⟨cur, h1, h2⟩ := h
  refine ⟨_, heap_setCell_at _ _ (heap_setCell_at _ _ (heap_setCell_at _ _ (heap_setCell_at _ _ h1))), fun j hj => ?_⟩
  have h3 := h2 j hj
  have h4 := h2 i hi
  have b0 := (Array.getElem?_eq_some_iff.1 h4.c0).1
  have b1 := (Array.getElem?_eq_some_iff.1 h4.c1).1
  have b2 := (Array.getElem?_eq_some_iff.1 h4.c2).1
  have b3 := (Array.getElem?_eq_some_iff.1 h4.c3).1
  dsimp only
  by_cases e : j = i
  · subst e
    rw [if_pos rfl]
    constructor <;> simp only [Array.getElem?_setIfInBounds, Array.size_setIfInBounds] <;> (repeat' split) <;> first | rfl | omega | contradiction | simp_all
  · rw [if_neg e]
    constructor <;> simp only [Array.getElem?_setIfInBounds, Array.size_setIfInBounds]
    · rw [if_neg (by omega), if_neg (by omega), if_neg (by omega), if_neg (by omega)]; exact h3.c0
    · rw [if_neg (by omega), if_neg (by omega), if_neg (by omega), if_neg (by omega)]; exact h3.c1
    · rw [if_neg (by omega), if_neg (by omega), if_neg (by omega), if_neg (by omega)]; exact h3.c2
    · rw [if_neg (by omega), if_neg (by omega), if_neg (by omega), if_neg (by omega)]; exact h3.c3
theorem DRow.congr {e : Nat → Dx} (h : DRow w g n d) (he : ∀ i, i < n → e i = d i) : DRow w g n e := by
  obtain ⟨cur, h1, h2⟩ := h
  exact ⟨cur, h1, fun i hi => by rw [he i hi]; exact h2 i hi⟩
theorem DRow.swap (h : DRow w g n d) (hi : i < n) (hj : j < n) (hne : i ≠ j) : DRow (put4 (put4 w g i (d j)) g j (d i)) g n (swp d i j) := by
  refine ((h.put hi (d j)).put hj (d i)).congr (fun x _ => ?_)
  unfold swp
  by_cases e : x = i
  · subst e; rw [if_pos rfl, if_neg hne, if_pos rfl]
  · rw [if_neg e]
    by_cases e2 : x = j
    · rw [if_pos e2, if_pos e2]
    · rw [if_neg e2, if_neg e2, if_neg e]
theorem DRow.swap2 (h : DRow w g n d) (hi : i < n) (hj : j < n) (hne : i ≠ j) : DRow (put4 (put4 w g i (d j)) g j (d i)) g n (swp d i j) ∧ Kp [g] w (put4 (put4 w g i (d j)) g j (d i)) :=
  ⟨h.swap hi hj hne, (put4_kp _ _ _ _).trans (put4_kp _ _ _ _) (fun _ hx => .inl hx)⟩
/-- A slice of them. -/
def SlD (w : World) (a : Option Addr) (n : Nat) (d : Nat → Dx) : Prop := 0 < n → ∃ g, a = some ⟨g, 0, none⟩ ∧ DRow w g n d
def obd (a : Option Addr) : List Nat := match a with | some x => [x.block] | none => []
theorem SlD.kp (h : SlD w a n d) (hk : Kp S w w') (hg : ∀ x, x ∈ obd a → x ∉ S) : SlD w' a n d := fun hp => by
  obtain ⟨g, rfl, h1⟩ := h hp
  exact ⟨g, rfl, h1.kp hk (hg g (by simp [obd]))⟩
theorem SlD.kp0 (h : SlD w a n d) (hk : Kp [] w w') : SlD w' a n d := h.kp hk (fun _ _ => by simp)
end
/-- What cmp.Compare tells. -/
def cmpI (x y : Int) : Int := if x < y then -1 else if y < x then 1 else 0
theorem isnan (x : Int) (w : World) : Calls Try.prog 120 #[.int .i64 x] w fun e w' => e = .returned (.bool false) ∧ w' = w := by
  go_enter Try.func120, Try.ntmps120
  go_wp2_with fail
  go_ret
  exact ⟨by simp, rfl⟩
theorem compare (x y : Int) (w : World) : Calls Try.prog 84 #[.int .i64 x, .int .i64 y] w fun e w' => e = .returned (.int .i64 (cmpI x y)) ∧ w' = w := by
  unfold cmpI
  by_cases h1 : x < y
  · rw [if_pos h1]
    go_enter Try.func84, Try.ntmps84
    go_wp2_with fail
    refine (isnan x w).mono ?_
    rintro e w' ⟨rfl, rfl⟩
    go_wp2_with fail
    refine (isnan y _).mono ?_
    rintro e w' ⟨rfl, rfl⟩
    go_wp2_with fail
    go_ret
    exact ⟨rfl, rfl⟩
  · rw [if_neg h1]
    by_cases h2 : y < x
    · rw [if_pos h2]
      go_enter Try.func84, Try.ntmps84
      go_wp2_with fail
      refine (isnan x w).mono ?_
      rintro e w' ⟨rfl, rfl⟩
      go_wp2_with fail
      refine (isnan y _).mono ?_
      rintro e w' ⟨rfl, rfl⟩
      go_wp2_with fail
      go_ret
      exact ⟨rfl, rfl⟩
    · rw [if_neg h2]
      go_enter Try.func84, Try.ntmps84
      go_wp2_with fail
      refine (isnan x w).mono ?_
      rintro e w' ⟨rfl, rfl⟩
      go_wp2_with fail
      refine (isnan y _).mono ?_
      rintro e w' ⟨rfl, rfl⟩
      go_wp2_with fail
      go_ret
      exact ⟨rfl, rfl⟩
theorem cmpN (x y : Dx) (w : World) : Calls Try.prog 83 #[dxv x, dxv y] w fun e w' => e = .returned (.int .i64 (cmpI x.d.n y.d.n)) ∧ Kp [] w w' := by
  have hk : Kp [] w ((w.alloc (.cells (dxc x).toArray 90)).alloc (.cells (dxc y).toArray 90)) := ((Kp.refl [] w).alloc _).alloc _
  obtain ⟨⟨n, at_, md, acts⟩, a, c⟩ := x
  obtain ⟨⟨n', at', md', acts'⟩, a', c'⟩ := y
  dsimp only [dxv, dxc] at *
  generalize acts.length = l at *
  generalize acts'.length = l' at *
  go_enter Try.func83, Try.ntmps83
  go_wp2_with fail
  refine (compare n n' _).mono ?_
  rintro e w' ⟨rfl, rfl⟩
  go_wp2_with fail
  go_ret
  exact ⟨rfl, hk⟩
theorem cmpA (x y : Dx) (w : World) : Calls Try.prog 86 #[dxv x, dxv y] w fun e w' => e = .returned (.int .i64 (cmpI x.d.at_ y.d.at_)) ∧ Kp [] w w' := by
  have hk : Kp [] w ((w.alloc (.cells (dxc x).toArray 90)).alloc (.cells (dxc y).toArray 90)) := ((Kp.refl [] w).alloc _).alloc _
  obtain ⟨⟨n, at_, md, acts⟩, a, c⟩ := x
  obtain ⟨⟨n', at', md', acts'⟩, a', c'⟩ := y
  dsimp only [dxv, dxc] at *
  generalize acts.length = l at *
  generalize acts'.length = l' at *
  go_enter Try.func86, Try.ntmps86
  go_wp2_with fail
  refine (compare at_ at' _).mono ?_
  rintro e w' ⟨rfl, rfl⟩
  go_wp2_with fail
  go_ret
  exact ⟨rfl, hk⟩
end Go.Proofs.Ytapmlleemopcnac

/- Plain words for what was done: acts on a world, deeds one behind the other; both ways of asking come to the same. -/
namespace Go.Proofs.Ytapmlleemopcnac
open Go.RowKit Srt
set_option maxRecDepth 20000

deriving instance DecidableEq for Ver

/-- Is an act so in a world; what it leaves. -/
def aso (v : Nat → Ver) (a : Ac) : Bool :=
  if a.kd = 2 then decide (a.t = (v a.key.toNat).t ∧ a.s = (v a.key.toNat).s) else if a.kd = 5 then decide (a.l = wl v a.key a.to_ 8) else true
def ado (v : Nat → Ver) (a : Ac) : Nat → Ver := if a.kd = 3 ∨ a.kd = 4 then upd v a.key.toNat ⟨0, a.t, a.s⟩ else v
/-- Acts on a world. -/
def rpl : (Nat → Ver) → Bool → List Ac → (Nat → Ver) × Bool
  | v, ok, [] => (v, ok)
  | v, ok, a :: r => if keyB a.key = true then rpl (ado v a) (ok && aso v a) r else (v, false)
def rpw (v : Nat → Ver) (l : List Ac) : Nat → Ver := (rpl v true l).1
def rpo (v : Nat → Ver) (l : List Ac) : Bool := (rpl v true l).2
theorem rpl_false : ∀ (l : List Ac) (v : Nat → Ver) (ok : Bool), rpl v ok l = (rpw v l, ok && rpo v l) := by
  intro l
  induction l with
  | nil => intro v ok; simp [rpl, rpw, rpo]
  | cons a r ih =>
    intro v ok
    unfold rpw rpo
    simp only [rpl]
    split
    · rw [ih, ih (ado v a) (true && aso v a)]
      simp [Bool.and_assoc]
    · simp
theorem rpl_app : ∀ (l m : List Ac) (v : Nat → Ver) (ok : Bool), (∀ a, a ∈ l → keyB a.key = true) → rpl v ok (l ++ m) = rpl (rpl v ok l).1 (rpl v ok l).2 m := by
  intro l
  induction l with
  | nil => intro m v ok _; rfl
  | cons a r ih =>
    intro m v ok h
    simp only [List.cons_append, rpl]
    rw [if_pos (h a (by simp)), if_pos (h a (by simp))]
    exact ih m _ _ (fun b hb => h b (by simp [hb]))
theorem rpl_join (l m : List Ac) (v : Nat → Ver) (h : ∀ a, a ∈ l → keyB a.key = true) : rpl v true (l ++ m) = (rpw (rpw v l) m, rpo v l && rpo (rpw v l) m) := by
  rw [rpl_app l m v true h]
  exact rpl_false m (rpw v l) (rpo v l)
theorem rpl_at {l : List Ac} {k : Nat} {a : Ac} (h : l[k]? = some a) (v : Nat → Ver) (ok : Bool) (hk : keyB a.key = true) : rpl v ok (l.drop k) = rpl (ado v a) (ok && aso v a) (l.drop (k + 1)) := by
  have hl := (List.getElem?_eq_some_iff.1 h).1
  rw [List.drop_eq_getElem_cons hl]
  have e : l[k] = a := by rw [List.getElem?_eq_getElem hl] at h; exact Option.some.inj h
  rw [e]
  simp only [rpl]
  rw [if_pos hk]
theorem rpl_bad {l : List Ac} {k : Nat} {a : Ac} (h : l[k]? = some a) (v : Nat → Ver) (ok : Bool) (hk : ¬ keyB a.key = true) : rpl v ok (l.drop k) = (v, false) := by
  have hl := (List.getElem?_eq_some_iff.1 h).1
  rw [List.drop_eq_getElem_cons hl]
  have e : l[k] = a := by rw [List.getElem?_eq_getElem hl] at h; exact Option.some.inj h
  rw [e]
  simp only [rpl]
  rw [if_neg hk]

/-- The document's way: those of the commit n; those that only read, behind n; from 0 to the greatest. -/
def srN (n : Int) : (Nat → Ver) → Bool → List Dn → (Nat → Ver) × Bool
  | v, ok, [] => (v, ok)
  | v, ok, d :: r => if d.n = n then srN n (rpw v d.acts) (ok && (rpo v d.acts || decide (d.md ≠ 2))) r else srN n v ok r
def srL (n : Int) (v : Nat → Ver) : Bool → List Dn → Bool
  | ok, [] => ok
  | ok, d :: r => if d.n = 0 ∧ d.at_ = n then srL n v (ok && rpo v d.acts) r else srL n v ok r
def mxn : Int → List Dn → Int
  | m, [] => m
  | m, d :: r => mxn (if m < d.n then d.n else m) r
/-- One round. -/
def sr1 (ds : List Dn) (n : Nat) (v : Nat → Ver) (ok : Bool) : (Nat → Ver) × Bool :=
  let s := if 0 < n then srN n v ok ds else (v, ok)
  (s.1, srL n s.1 s.2 ds)
/-- From the round n on, m rounds. -/
def srs (ds : List Dn) : Nat → Nat → (Nat → Ver) → Bool → Bool
  | 0, _, _, ok => ok
  | m + 1, n, v, ok => srs ds m (n + 1) (sr1 ds n v ok).1 (sr1 ds n v ok).2
def ser (ds : List Dn) : Bool := srs ds ((mxn 0 ds).toNat + 1) 0 (fun _ => dv) true

theorem mxn_ge : ∀ (ds : List Dn) (m : Int), m ≤ mxn m ds ∧ ∀ d, d ∈ ds → d.n ≤ mxn m ds := by
  intro ds
  induction ds with
  | nil => intro m; exact ⟨Int.le_refl _, fun d h => by simp at h⟩
  | cons x r ih =>
    intro m
    simp only [mxn]
    by_cases c : m < x.n
    · rw [if_pos c]
      obtain ⟨h1, h2⟩ := ih x.n
      refine ⟨by omega, fun d hd => ?_⟩
      rcases List.mem_cons.1 hd with e | e
      · subst e; exact h1
      · exact h2 d e
    · rw [if_neg c]
      obtain ⟨h1, h2⟩ := ih m
      refine ⟨h1, fun d hd => ?_⟩
      rcases List.mem_cons.1 hd with e | e
      · subst e; omega
      · exact h2 d e
theorem mxn_is : ∀ (ds : List Dn) (m : Int), mxn m ds = m ∨ ∃ d, d ∈ ds ∧ d.n = mxn m ds := by
  intro ds
  induction ds with
  | nil => intro m; exact .inl rfl
  | cons x r ih =>
    intro m
    simp only [mxn]
    rcases ih (if m < x.n then x.n else m) with e | ⟨d, h1, h2⟩
    · by_cases c : m < x.n
      · rw [if_pos c] at e ⊢; exact .inr ⟨x, by simp, e.symm⟩
      · rw [if_neg c] at e ⊢; exact .inl e
    · exact .inr ⟨d, by simp [h1], h2⟩

/-- All of them, in their order, on a world. -/
def cmw : (Nat → Ver) → List Dn → (Nat → Ver)
  | v, [] => v
  | v, d :: r => cmw (rpw v d.acts) r
def cmo : (Nat → Ver) → List Dn → Bool
  | _, [] => true
  | v, d :: r => (rpo v d.acts || decide (d.md ≠ 2)) && cmo (rpw v d.acts) r
def lko (v : Nat → Ver) : List Dn → Bool
  | [] => true
  | d :: r => rpo v d.acts && lko v r
theorem srN_eq (n : Int) : ∀ (ds : List Dn) (v : Nat → Ver) (ok : Bool), srN n v ok ds = (cmw v (kf Dn.n n ds), ok && cmo v (kf Dn.n n ds)) := by
  intro ds
  induction ds with
  | nil => intro v ok; simp [srN, kf, cmw, cmo]
  | cons d r ih =>
    intro v ok
    simp only [srN]
    by_cases e : d.n = n
    · rw [if_pos e, ih]
      unfold kf
      rw [List.filter_cons_of_pos (by simp [e])]
      simp [cmw, cmo, Bool.and_assoc]
    · rw [if_neg e, ih]
      unfold kf
      rw [List.filter_cons_of_neg (by simp [e])]
def lks (ds : List Dn) : List Dn := ds.filter (fun d => decide (d.n = 0 ∧ 0 ≤ d.at_))
def cms (ds : List Dn) : List Dn := ds.filter (fun d => decide (0 < d.n))
theorem srL_eq {n : Int} (hn : 0 ≤ n) (v : Nat → Ver) : ∀ (ds : List Dn) (ok : Bool), srL n v ok ds = (ok && lko v (kf Dn.at_ n (lks ds))) := by
  intro ds
  induction ds with
  | nil => intro ok; simp [srL, kf, lks, lko]
  | cons d r ih =>
    intro ok
    simp only [srL]
    by_cases e : d.n = 0 ∧ d.at_ = n
    · rw [if_pos e, ih]
      unfold kf lks
      rw [List.filter_cons_of_pos (by simp [e.1]; omega), List.filter_cons_of_pos (by simp [e.2])]
      simp [lko, Bool.and_assoc]
    · rw [if_neg e, ih]
      unfold kf lks
      by_cases e2 : d.n = 0 ∧ 0 ≤ d.at_
      · rw [List.filter_cons_of_pos (by simp; exact e2), List.filter_cons_of_neg (by simp; omega)]
      · rw [List.filter_cons_of_neg (by simp; omega)]
theorem kf_cms {n : Int} (hn : 0 < n) (ds : List Dn) : kf Dn.n n (cms ds) = kf Dn.n n ds := by
  unfold kf cms
  rw [List.filter_filter]
  apply List.filter_congr
  intro x _
  by_cases e : x.n = n
  · simp [e, hn]
  · simp [e]

/-- The program's way. -/
def btw (v : Nat → Ver) (u : Int) : List Dn → Bool × List Dn
  | [] => (true, [])
  | d :: r => if d.at_ ≤ u then (if rpo v d.acts = true then btw v u r else (false, d :: r)) else (true, d :: r)
def rall : (Nat → Ver) → Int → List Dn → List Dn → Bool
  | v, g, [], L => (btw v g L).1
  | v, _, d :: r, L => (btw v (d.n - 1) L).1 && ((rpo v d.acts || decide (d.md ≠ 2)) && rall (rpw v d.acts) d.n r (btw v (d.n - 1) L).2)
theorem btw_app {v : Nat → Ver} {u : Int} : ∀ (A L : List Dn), (∀ a, a ∈ A → a.at_ ≤ u) → (btw v u (A ++ L)).1 = (lko v A && (btw v u L).1) ∧ (lko v A = true → (btw v u (A ++ L)).2 = (btw v u L).2) := by
  intro A
  induction A with
  | nil => intro L _; simp [lko]
  | cons a A ih =>
    intro L h
    obtain ⟨h1, h2⟩ := ih L (fun b hb => h b (by simp [hb]))
    simp only [List.cons_append, btw]
    rw [if_pos (h a (by simp))]
    cases e : rpo v a.acts with
    | true =>
      simp only [if_true, lko, e, Bool.true_and]
      exact ⟨h1, h2⟩
    | false =>
      simp [lko, e]
theorem btw_none {v : Nat → Ver} {u : Int} : ∀ {L : List Dn}, (∀ a, a ∈ L → u < a.at_) → btw v u L = (true, L) := by
  intro L h
  cases L with
  | nil => rfl
  | cons a L => simp only [btw]; rw [if_neg (by have := h a (by simp); omega)]
theorem rall_looks {v : Nat → Ver} {g : Int} {C A L : List Dn} (h : ∀ a, a ∈ A → (C = [] → a.at_ ≤ g) ∧ ∀ c, C.head? = some c → a.at_ ≤ c.n - 1) : rall v g C (A ++ L) = (lko v A && rall v g C L) := by
  cases C with
  | nil =>
    simp only [rall]
    exact (btw_app A L (fun a ha => (h a ha).1 rfl)).1
  | cons c C =>
    obtain ⟨h1, h2⟩ := btw_app (v := v) (u := c.n - 1) A L (fun a ha => (h a ha).2 c rfl)
    simp only [rall]
    rw [h1]
    cases e : lko v A with
    | false => simp
    | true => rw [h2 e]; simp
theorem rall_coms {n : Int} : ∀ (D : List Dn) {v : Nat → Ver} {g : Int} {C L : List Dn}, (∀ d, d ∈ D → d.n = n) → (∀ a, a ∈ L → n - 1 < a.at_) → rall v g (D ++ C) L = (cmo v D && rall (cmw v D) (if D = [] then g else n) C L) := by
  intro D
  induction D with
  | nil => intro v g C L _ _; simp [cmo, cmw]
  | cons d D ih =>
    intro v g C L h1 h2
    have hd := h1 d (by simp)
    simp only [List.cons_append, rall]
    rw [hd, btw_none h2]
    rw [ih (fun e he => h1 e (by simp [he])) h2]
    have : (if D = [] then n else n) = n := by split <;> rfl
    rw [this]
    simp [cmo, cmw, Bool.and_assoc]
/-- What is left from the round n on. -/
theorem rest_eq {ds C0 L0 : List Dn} {last : Nat} (hC : ∀ k, kf Dn.n k C0 = kf Dn.n k (cms ds)) (hL : ∀ k, kf Dn.at_ k L0 = kf Dn.at_ k (lks ds)) (hlast : (mxn 0 ds) = (last : Int)) :
    ∀ (m n : Nat) (v : Nat → Ver) (g : Int) (C L : List Dn), n + m = last → SrtL Dn.n C → SrtL Dn.at_ L → (∀ x, x ∈ C → (n : Int) < x.n) → (∀ x, x ∈ L → (n : Int) ≤ x.at_) → (∀ k, (n : Int) < k → kf Dn.n k C = kf Dn.n k C0) → (∀ k, (n : Int) ≤ k → kf Dn.at_ k L = kf Dn.at_ k L0) → (m = 0 → g = last) →
      ∀ ok, srs ds m (n + 1) v (ok && lko v (kf Dn.at_ n L)) = (ok && rall v g C L) := by
  intro m
  induction m with
  | zero =>
    intro n v g C L hn sC sL cl ll kC kL hg ok
    have hC0 : C = [] := by
      cases C with
      | nil => rfl
      | cons c C =>
        exfalso
        have h1 := cl c (by simp)
        have hc : c ∈ kf Dn.n c.n (c :: C) := by unfold kf; rw [List.mem_filter]; exact ⟨by simp, by simp⟩
        rw [kC c.n h1, hC] at hc
        have h2 : c ∈ ds := by
          unfold kf cms at hc
          exact (List.mem_filter.1 (List.mem_filter.1 hc).1).1
        have := (mxn_ge ds 0).2 c h2
        omega
    subst hC0
    have hA := srtL_cut (n : Int) sL ll
    simp only [srs, rall]
    rw [hg rfl]
    have hn' : (n : Int) = last := by omega
    have e1 := (btw_app (v := v) (u := (last : Int)) (kf Dn.at_ n L) (L.filter (fun x => decide ((n : Int) < x.at_))) (fun a ha => by
      unfold kf at ha
      have := (List.mem_filter.1 ha).2
      simp at this; omega)).1
    rw [← hA] at e1
    rw [e1, btw_none (fun a ha => by have := (List.mem_filter.1 ha).2; simp at this; omega)]
    simp
  | succ m ih =>
    intro n v g C L hn sC sL cl ll kC kL hg ok
    have hA := srtL_cut (n : Int) sL ll
    have hD := srtL_cut ((n : Int) + 1) sC (fun x hx => by have := cl x hx; omega)
    generalize hL2 : L.filter (fun x => decide ((n : Int) < x.at_)) = L2 at *
    generalize hC2 : C.filter (fun x => decide ((n : Int) + 1 < x.n)) = C2 at *
    have kD : kf Dn.n ((n : Int) + 1) C = kf Dn.n ((n : Int) + 1) ds := by rw [kC _ (by omega), hC, kf_cms (by omega)]
    have lL2 : ∀ x, x ∈ L2 → (n : Int) < x.at_ := fun x hx => by rw [← hL2] at hx; have := (List.mem_filter.1 hx).2; simpa using this
    have lC2 : ∀ x, x ∈ C2 → (n : Int) + 1 < x.n := fun x hx => by rw [← hC2] at hx; have := (List.mem_filter.1 hx).2; simpa using this
    have hne : C ≠ [] := by
      intro e
      rcases mxn_is ds 0 with q | ⟨d, q1, q2⟩
      · omega
      · have hd : d ∈ kf Dn.n d.n ds := by unfold kf; rw [List.mem_filter]; exact ⟨q1, by simp⟩
        rw [← kf_cms (by omega), ← hC, ← kC d.n (by omega), e] at hd
        simp [kf] at hd
    have e1 : rall v g C L = (lko v (kf Dn.at_ n L) && rall v g C L2) := by
      rw [show rall v g C L = rall v g C (kf Dn.at_ n L ++ L2) by rw [← hA]]
      refine rall_looks (fun a ha => ⟨fun q => absurd q hne, fun c hc => ?_⟩)
      unfold kf at ha
      have h1 := (List.mem_filter.1 ha).2
      simp at h1
      have h2 := cl c (List.mem_of_mem_head? hc)
      omega
    have e2 := rall_coms (n := (n : Int) + 1) (kf Dn.n ((n : Int) + 1) C) (v := v) (g := g) (C := C2) (L := L2) (fun d hd => by unfold kf at hd; have := (List.mem_filter.1 hd).2; simpa using this) (fun a ha => by have := lL2 a ha; omega)
    rw [← hD] at e2
    rw [e1, e2]
    rw [show srs ds (m + 1) (n + 1) v (ok && lko v (kf Dn.at_ n L)) = srs ds m (n + 1 + 1) (sr1 ds (n + 1) v (ok && lko v (kf Dn.at_ n L))).1 (sr1 ds (n + 1) v (ok && lko v (kf Dn.at_ n L))).2 from rfl]
    have e3 : sr1 ds (n + 1) v (ok && lko v (kf Dn.at_ n L)) = (cmw v (kf Dn.n ((n : Int) + 1) C), (ok && lko v (kf Dn.at_ n L) && cmo v (kf Dn.n ((n : Int) + 1) C)) && lko (cmw v (kf Dn.n ((n : Int) + 1) C)) (kf Dn.at_ ((n : Int) + 1) L2)) := by
      unfold sr1
      rw [if_pos (by omega)]
      have c1 : ((n + 1 : Nat) : Int) = (n : Int) + 1 := by omega
      rw [c1, srN_eq, ← kD]
      dsimp only
      rw [srL_eq (by omega), ← hL, ← kL _ (by omega)]
      have : kf Dn.at_ ((n : Int) + 1) L2 = kf Dn.at_ ((n : Int) + 1) L := by rw [← hL2]; exact kf_above (by omega) L
      rw [this]
    rw [e3]
    dsimp only
    have c1 : ((n + 1 : Nat) : Int) = (n : Int) + 1 := by omega
    have h0 := ih (n + 1) (cmw v (kf Dn.n ((n : Int) + 1) C)) (if kf Dn.n ((n : Int) + 1) C = [] then g else (n : Int) + 1) C2 L2 (by omega) (by rw [← hC2]; exact srtL_filter sC _) (by rw [← hL2]; exact srtL_filter sL _) (fun x hx => by rw [c1]; exact lC2 x hx) (fun x hx => by have := lL2 x hx; omega)
      (fun k hk => by rw [← hC2, kf_above (by omega)]; exact kC k (by omega)) (fun k hk => by rw [← hL2, kf_above (by omega)]; exact kL k (by omega)) (fun hm => by
        rw [if_neg, ← hn]
        · omega
        · intro e
          rw [kD] at e
          rcases mxn_is ds 0 with q | ⟨d, q1, q2⟩
          · omega
          · have hd : d ∈ kf Dn.n ((n : Int) + 1) ds := by unfold kf; rw [List.mem_filter]; exact ⟨q1, by simp; omega⟩
            rw [e] at hd
            simp at hd) (ok && lko v (kf Dn.at_ n L) && cmo v (kf Dn.n ((n : Int) + 1) C))
    rw [c1] at h0
    rw [h0]
    simp [Bool.and_assoc]
/-- Both ways come to the same. -/
theorem ser_rall {ds C L : List Dn} (sC : SrtL Dn.n C) (sL : SrtL Dn.at_ L) (hC : ∀ k, kf Dn.n k C = kf Dn.n k (cms ds)) (hL : ∀ k, kf Dn.at_ k L = kf Dn.at_ k (lks ds)) : rall (fun _ => dv) 0 C L = ser ds := by
  have h0 := (mxn_ge ds 0).1
  obtain ⟨last, hl⟩ : ∃ last : Nat, mxn 0 ds = (last : Int) := ⟨(mxn 0 ds).toNat, by omega⟩
  have mC : ∀ x, x ∈ C → (0 : Int) < x.n := fun x hx => by
    have := kf_mem hC hx
    unfold cms at this
    simpa using (List.mem_filter.1 this).2
  have mL : ∀ x, x ∈ L → (0 : Int) ≤ x.at_ := fun x hx => by
    have := kf_mem hL hx
    unfold lks at this
    have := (List.mem_filter.1 this).2
    simp at this
    exact this.2
  have h1 := rest_eq (ds := ds) (C0 := C) (L0 := L) hC hL hl last 0 (fun _ => dv) 0 C L (by omega) sC sL mC mL (fun _ _ => rfl) (fun _ _ => rfl) (fun e => by omega) true
  simp only [Bool.true_and] at h1
  rw [← h1]
  unfold ser
  rw [hl, Int.toNat_natCast]
  simp only [srs]
  unfold sr1
  rw [if_neg (by omega)]
  dsimp only
  rw [srL_eq (by omega), ← hL]
  rfl
end Go.Proofs.Ytapmlleemopcnac

/- Plain words for what was done: a book of a hall's steps; what is so of it. -/
namespace Go.Proofs.Ytapmlleemopcnac
open Go.RowKit Srt
set_option maxRecDepth 20000

/-- A book: the seats' deeds that go on, the deeds that were done. -/
structure Bk where
  op : Nat → Option Dn
  dn : List Dn
def bk0 : Bk := ⟨fun _ => none, []⟩
def bat5 (b : Bk) (s : Int) : Option Dn := if 0 ≤ s ∧ s < 5 then b.op s.toNat else none
/-- What is noted of a step that a deed goes on by. -/
def nact (x : HStep) (e : Ev) : Ac :=
  if x.d = 2 then ⟨2, x.key, 0, e.t, e.s, []⟩ else if x.d = 3 then ⟨3, x.key, 0, true, x.b, []⟩ else if x.d = 4 then ⟨4, x.key, 0, false, ⟨#[]⟩, []⟩ else ⟨5, x.key, x.to_, false, ⟨#[]⟩, e.l⟩
def isd (x : HStep) (e : Ev) : Bool := if x.d = 6 then decide (e.c = 0) else if x.d = 10 then decide (e.n ≠ 0) else false
def bnote (b : Bk) (x : HStep) (e : Ev) (last : Int) : Bk :=
  if x.d = 1 then (if e.c = 0 ∧ 0 ≤ x.s ∧ x.s < 5 then ⟨upd b.op x.s.toNat (some ⟨0, if x.md = 3 then x.at_ else last, x.md, []⟩), b.dn⟩ else b)
  else if 2 ≤ x.d ∧ x.d ≤ 5 then (match bat5 b x.s with
    | none => b
    | some d => if e.c = 0 then ⟨upd b.op x.s.toNat (some { d with acts := d.acts ++ [nact x e] }), b.dn⟩ else b)
  else if x.d = 6 ∨ x.d = 7 ∨ x.d = 10 then (match bat5 b x.s with
    | none => b
    | some d => ⟨if x.d = 10 then (fun _ => none) else upd b.op x.s.toNat none, if isd x e = true then b.dn ++ [{ d with n := e.n }] else b.dn⟩)
  else if x.d = 9 then ⟨fun _ => none, b.dn⟩
  else b
/-- A hall and its book, step by step. -/
def nrun : HSt → Bk → List HStep → HSt × Bk
  | h, b, [] => (h, b)
  | h, b, x :: r => nrun (hdo h x) (bnote b x (hev h x) h.n) r
def hst0 : HSt := ⟨fun _ => [dv], 0, [], fun _ => none⟩
def ntd (l : List HStep) : List Dn := (nrun hst0 bk0 l).2.dn

/-- Two worlds are the same. -/
def Sm (v u : Nat → Ver) : Prop := ∀ k, k < 8 → (v k).t = (u k).t ∧ (v k).s = (u k).s
theorem Sm.refl (v : Nat → Ver) : Sm v v := fun _ _ => ⟨rfl, rfl⟩
theorem Sm.symm {v u : Nat → Ver} (h : Sm v u) : Sm u v := fun k hk => ⟨(h k hk).1.symm, (h k hk).2.symm⟩
theorem Sm.trans {v u z : Nat → Ver} (h : Sm v u) (g : Sm u z) : Sm v z := fun k hk => ⟨(h k hk).1.trans (g k hk).1, (h k hk).2.trans (g k hk).2⟩
theorem sm_wagg {v u : Nat → Ver} (h : wagg v = wagg u) : Sm v u := fun k hk => by
  have h1 := wagg_at0 v hk
  have h2 := wagg_at1 v hk
  rw [h, wagg_at0 u hk] at h1
  rw [h, wagg_at1 u hk] at h2
  simp only [Option.some.injEq, Value.bool.injEq, Value.string.injEq] at h1 h2
  exact ⟨h1.symm, h2.symm⟩
theorem Sm.upd {v u : Nat → Ver} (h : Sm v u) (j : Nat) (x : Ver) : Sm (Ytapmlleemopcnac.upd v j x) (Ytapmlleemopcnac.upd u j x) := fun k hk => by
  by_cases e : k = j
  · subst e; rw [upd_same, upd_same]; exact ⟨rfl, rfl⟩
  · rw [upd_other _ _ _ e, upd_other _ _ _ e]; exact h k hk
theorem sm_wvs : ∀ (ps : List Ver) {v u : Nat → Ver}, Sm v u → Sm (wvs v ps) (wvs u ps) := by
  intro ps
  induction ps with
  | nil => intro v u h; exact h
  | cons p r ih => intro v u h; exact ih (h.upd _ _)
theorem Sm.wvs {v u : Nat → Ver} (h : Sm v u) (ps : List Ver) : Sm (Ytapmlleemopcnac.wvs v ps) (Ytapmlleemopcnac.wvs u ps) := sm_wvs ps h
theorem wl_congr2 {v u : Nat → Ver} {a b : Int} : ∀ m, (∀ k : Nat, k < m → a ≤ (k : Int) → (k : Int) ≤ b → (v k).t = (u k).t ∧ (v k).s = (u k).s) → wl v a b m = wl u a b m := by
  intro m
  induction m with
  | zero => intro _; rfl
  | succ m ih =>
    intro h
    simp only [wl]
    rw [ih (fun k hk => h k (by omega))]
    by_cases c : a ≤ (m : Int) ∧ (m : Int) ≤ b
    · rw [(h m (by omega) c.1 c.2).1, (h m (by omega) c.1 c.2).2]
    · rw [if_neg (fun q => c ⟨q.1, q.2.1⟩), if_neg (fun q => c ⟨q.1, q.2.1⟩)]
theorem aso_congr {v u : Nat → Ver} (h : Sm v u) {a : Ac} (hk : keyB a.key = true) : aso v a = aso u a := by
  simp only [keyB, decide_eq_true_eq] at hk
  unfold aso
  rw [(h a.key.toNat (by omega)).1, (h a.key.toNat (by omega)).2, wl_congr2 8 (fun k hk _ _ => h k hk)]
theorem Sm.ado {v u : Nat → Ver} (h : Sm v u) (a : Ac) : Sm (Ytapmlleemopcnac.ado v a) (Ytapmlleemopcnac.ado u a) := by
  unfold Ytapmlleemopcnac.ado
  split
  · exact h.upd _ _
  · exact h
theorem rpl_congr : ∀ (l : List Ac) {v u : Nat → Ver} (ok : Bool), Sm v u → Sm (rpl v ok l).1 (rpl u ok l).1 ∧ (rpl v ok l).2 = (rpl u ok l).2 := by
  intro l
  induction l with
  | nil => intro v u ok h; exact ⟨h, rfl⟩
  | cons a r ih =>
    intro v u ok h
    simp only [rpl]
    by_cases c : keyB a.key = true
    · rw [if_pos c, if_pos c, aso_congr h c]
      exact ih _ (h.ado a)
    · rw [if_neg c, if_neg c]
      exact ⟨h, rfl⟩
theorem Sm.rpw {v u : Nat → Ver} (h : Sm v u) (l : List Ac) : Sm (Ytapmlleemopcnac.rpw v l) (Ytapmlleemopcnac.rpw u l) := (rpl_congr l true h).1
theorem rpo_congr {v u : Nat → Ver} (h : Sm v u) (l : List Ac) : rpo v l = rpo u l := (rpl_congr l true h).2

/-- What all keys have behind commits. -/
def wc (cs : List (List Ver)) : Nat → Ver := cs.foldl wvs (fun _ => dv)
theorem wc_snoc (cs : List (List Ver)) (c : List Ver) : wc (cs ++ [c]) = wvs (wc cs) c := by unfold wc; rw [List.foldl_append]; rfl
theorem wc_shw0 {cs : List (List Ver)} (hl : LInv cs) : ∀ m, m ≤ cs.length → ∀ y : Nat, y ≤ m → Sm (shw (wal0 (cs.take m)) m y 8) (wc (cs.take y)) := by
  intro m
  induction m with
  | zero =>
    intro _ y hy k hk
    have : y = 0 := by omega
    subst this
    rcases lt8 hk with rfl | rfl | rfl | rfl | rfl | rfl | rfl | rfl <;> exact ⟨rfl, rfl⟩
  | succ m ih =>
    intro hm y hy
    have hcm : cs[m]? = some cs[m] := List.getElem?_eq_getElem (by omega)
    have htk : cs.take (m + 1) = cs.take m ++ [cs[m]] := by rw [List.take_add_one, hcm]; rfl
    have hlt : LInv (cs.take m) := hl.take m
    have hlen : (cs.take m).length = m := by rw [List.length_take]; omega
    have hiv := inv_wal0 hlt
    rw [hlen] at hiv
    obtain ⟨w1, w2⟩ := wcode_ok (n := m) (hl.pf cs[m] (List.getElem_mem (by omega))) (by have := hl.n40; omega)
    have e1 : wal0 (cs.take (m + 1)) = wst (wal0 (cs.take m)) m cs[m] := by rw [htk, wal0_snoc, hlen]
    by_cases c : y = m + 1
    · subst c
      have h1 := shots_now' hiv w1
      rw [← e1] at h1
      have h2 := (ih (by omega) m (Nat.le_refl _)).wvs cs[m]
      rw [htk, wc_snoc, ← htk]
      exact (sm_wagg h1).symm.trans h2
    · have h2 := ih (by omega) y (by omega)
      have h3 : shw (wal0 (cs.take (m + 1))) (m + 1) y 8 = shw (wal0 (cs.take m)) m y 8 := by
        rw [e1]
        exact shw_congr (Nat.le_refl _) (fun j hj => by have := tr_later hiv cs[m] (y := y) (by omega) hj; rw [w2] at this; exact this)
      rw [h3]
      exact h2
/-- What is read behind a commit of which all is known is what the commits up to it wrote. -/
theorem wc_shw {h : HSt} (hi : HInv h) {y : Nat} (h1 : fmx h.f 8 ≤ (y : Int)) (h2 : y ≤ h.n) : Sm (shw h.f h.n y 8) (wc (h.cs.take y)) := by
  have h3 := wc_shw0 hi.li h.cs.length (Nat.le_refl _) y (by rw [← hi.vi.len]; exact h2)
  rw [List.take_length, ← hi.vi.len, crash_shw hi.vi hi.li h1] at h3
  exact h3

/-- A deed that goes on, and what is noted of it. -/
structure SeatOk (base : Nat → Ver) (d : Dp) (o : Dn) : Prop where
  n : o.n = 0
  y : o.at_ = d.y
  md : o.md = d.md
  keys : ∀ a, a ∈ o.acts → keyB a.key = true
  wr : ∀ v, rpw v o.acts = lay v d.ws
  rd : ∀ v : Nat → Ver, (∀ k : Nat, k < 8 → (k : Int) ∈ d.rs → (v k).t = (base k).t ∧ (v k).s = (base k).s) → rpo v o.acts = true
  wrote : (o.acts.any (fun a => decide (a.kd = 3) || decide (a.kd = 4))) = decide (d.ws ≠ [])
theorem rp_snoc {l : List Ac} {a : Ac} (hl : ∀ b, b ∈ l → keyB b.key = true) (ha : keyB a.key = true) (v : Nat → Ver) : rpw v (l ++ [a]) = ado (rpw v l) a ∧ rpo v (l ++ [a]) = (rpo v l && aso (rpw v l) a) := by
  have h := rpl_join l [a] v hl
  have h1 : rpl (rpw v l) true [a] = (ado (rpw v l) a, true && aso (rpw v l) a) := by simp only [rpl]; rw [if_pos ha]
  unfold rpw rpo at *
  rw [h]
  rw [h1]
  simp
theorem SeatOk.begin (base : Nat → Ver) (md y : Int) : SeatOk base ⟨md, y, [], []⟩ ⟨0, y, md, []⟩ :=
  ⟨rfl, rfl, rfl, fun a h => by simp at h, fun v => by rw [lay_nil]; rfl, fun _ _ => rfl, rfl⟩
theorem SeatOk.wrote_ {base : Nat → Ver} {d : Dp} {o : Dn} (h : SeatOk base d o) {j : Nat} (hj : j < 8) {kd : Int} (hk : kd = 3 ∨ kd = 4) (to_ : Int) (t : Bool) (s : ByteArray) (l : List Ver) : SeatOk base { d with ws := d.ws ++ [⟨(j : Int), t, s⟩] } { o with acts := o.acts ++ [⟨kd, j, to_, t, s, l⟩] } := by
  have hkb : keyB ((j : Nat) : Int) = true := by simp [keyB]; omega
  refine ⟨h.n, h.y, h.md, fun a ha => ?_, fun v => ?_, fun v hv => ?_, ?_⟩
  · rcases List.mem_append.1 ha with q | q
    · exact h.keys a q
    · rw [List.mem_singleton.1 q]; exact hkb
  · show rpw v (o.acts ++ [_]) = lay v (d.ws ++ [_])
    rw [(rp_snoc h.keys (a := ⟨kd, j, to_, t, s, l⟩) hkb v).1, lay_put, h.wr]
    unfold ado
    rw [if_pos hk, Int.toNat_natCast]
  · show rpo v (o.acts ++ [_]) = true
    rw [(rp_snoc h.keys (a := ⟨kd, j, to_, t, s, l⟩) hkb v).2, h.rd v hv]
    unfold aso
    rw [if_neg (by show ¬ kd = 2; omega), if_neg (by show ¬ kd = 5; omega)]
    rfl
  · show (o.acts ++ [_]).any _ = _
    rw [List.any_append]
    rcases hk with rfl | rfl <;> simp
theorem SeatOk.got {base : Nat → Ver} {d : Dp} {o : Dn} (h : SeatOk base d o) {j : Nat} (hj : j < 8) {f : Nat → List Ver} {n : Nat} (ha : (tr f n j d.y).a = 0) : SeatOk base { d with rs := dr f n d.y d.rs d.ws j } { o with acts := o.acts ++ [⟨2, j, 0, (lay base d.ws j).t, (lay base d.ws j).s, []⟩] } := by
  have hkb : keyB ((j : Nat) : Int) = true := by simp [keyB]; omega
  have hmem : ∀ k : Int, k ∈ d.rs → k ∈ dr f n d.y d.rs d.ws j := fun k hk => by unfold dr; split <;> simp [hk]
  refine ⟨h.n, h.y, h.md, fun a ha => ?_, fun v => ?_, fun v hv => ?_, ?_⟩
  · rcases List.mem_append.1 ha with q | q
    · exact h.keys a q
    · rw [List.mem_singleton.1 q]; exact hkb
  · show rpw v (o.acts ++ [_]) = lay v d.ws
    rw [(rp_snoc h.keys (a := ⟨2, j, 0, (lay base d.ws j).t, (lay base d.ws j).s, []⟩) hkb v).1, h.wr]
    rfl
  · show rpo v (o.acts ++ [_]) = true
    rw [(rp_snoc h.keys (a := ⟨2, j, 0, (lay base d.ws j).t, (lay base d.ws j).s, []⟩) hkb v).2, h.rd v (fun k hk hm => hv k hk (hmem _ hm)), h.wr]
    unfold aso
    rw [if_pos rfl]
    simp only [Int.toNat_natCast, Bool.true_and, decide_eq_true_eq]
    unfold lay
    cases hl : lwr d.ws j with
    | some u => exact ⟨rfl, rfl⟩
    | none =>
      have : (j : Int) ∈ dr f n d.y d.rs d.ws j := by unfold dr; rw [if_pos ⟨hkb, hl, ha⟩]; simp
      have := hv j hj this
      exact ⟨this.1.symm, this.2.symm⟩
  · show (o.acts ++ [_]).any _ = _
    rw [List.any_append, h.wrote]
    simp
/-- The keys of a list are read. -/
theorem dgo_rs {f : Nat → List Ver} {n : Nat} {y : Int} {ws : List Ver} (h0 : ∀ k : Nat, k < 8 → (dg f n y ws k).a = 0) (ht : ∀ k : Nat, k < 8 → (tr f n k y).a = 0) : ∀ (m k : Nat) (acc : List Ver) (rs : List Int), k + m ≤ 8 →
    (∀ x, x ∈ rs → x ∈ (dgo f n y ws k m acc rs).2.2) ∧ ∀ j : Nat, k ≤ j → j < k + m → lwr ws j = none → (j : Int) ∈ (dgo f n y ws k m acc rs).2.2 := by
  intro m
  induction m with
  | zero => intro k acc rs _; exact ⟨fun x hx => hx, fun j h1 h2 => by omega⟩
  | succ m ih =>
    intro k acc rs hk
    have hmem : ∀ x : Int, x ∈ rs → x ∈ dr f n y rs ws k := fun x hx => by unfold dr; split <;> simp [hx]
    have hkb : keyB ((k : Nat) : Int) = true := by simp [keyB]; omega
    have hat : lwr ws k = none → (k : Int) ∈ dr f n y rs ws k := fun hl => by unfold dr; rw [if_pos ⟨hkb, hl, ht k (by omega)⟩]; simp
    simp only [dgo]
    rw [if_pos (h0 k (by omega))]
    split
    · obtain ⟨g1, g2⟩ := ih (k + 1) (acc ++ [⟨k, (dg f n y ws k).t, (dg f n y ws k).s⟩]) (dr f n y rs ws k) (by omega)
      refine ⟨fun x hx => g1 x (hmem x hx), fun j h1 h2 h3 => ?_⟩
      by_cases e : j = k
      · subst e; exact g1 _ (hat h3)
      · exact g2 j (by omega) (by omega) h3
    · obtain ⟨g1, g2⟩ := ih (k + 1) acc (dr f n y rs ws k) (by omega)
      refine ⟨fun x hx => g1 x (hmem x hx), fun j h1 h2 h3 => ?_⟩
      by_cases e : j = k
      · subst e; exact g1 _ (hat h3)
      · exact g2 j (by omega) (by omega) h3
theorem dls_rs {f : Nat → List Ver} {n : Nat} {y : Int} {ws : List Ver} {rs : List Int} {a b : Int} (h0 : ∀ k : Nat, k < 8 → (dg f n y ws k).a = 0) (ht : ∀ k : Nat, k < 8 → (tr f n k y).a = 0) (hc : (dls f n y ws rs a b).2.1 = 0) :
    keyB a = true ∧ (∀ x, x ∈ rs → x ∈ (dls f n y ws rs a b).2.2) ∧ ∀ j : Nat, a ≤ (j : Int) → (j : Int) ≤ b → lwr ws j = none → (j : Int) ∈ (dls f n y ws rs a b).2.2 := by
  unfold dls at hc ⊢
  split
  · rename_i hk
    refine ⟨hk.1, ?_⟩
    have h1 := hk.1
    have h2 := hk.2
    simp only [keyB, decide_eq_true_eq] at h1 h2
    obtain ⟨p, rfl⟩ : ∃ p : Nat, a = (p : Int) := ⟨a.toNat, by omega⟩
    obtain ⟨t, rfl⟩ : ∃ t : Nat, b = (t : Int) := ⟨b.toNat, by omega⟩
    rw [Int.toNat_natCast, show ((t : Int) + 1 - (p : Int)).toNat = t + 1 - p by omega]
    by_cases hpt : p ≤ t + 1
    · obtain ⟨g1, g2⟩ := dgo_rs h0 ht (t + 1 - p) p [] rs (by omega)
      exact ⟨g1, fun j k1 k2 k3 => g2 j (by omega) (by omega) k3⟩
    · rw [show t + 1 - p = 0 by omega]
      exact ⟨fun x hx => hx, fun j k1 k2 => by omega⟩
  · rename_i hk
    rw [if_neg hk] at hc
    exact absurd hc (by simp)
theorem SeatOk.listed {base : Nat → Ver} {d : Dp} {o : Dn} (h : SeatOk base d o) {rs' : List Int} {a b : Int} (ha : keyB a = true) (h1 : ∀ x, x ∈ d.rs → x ∈ rs') (h2 : ∀ j : Nat, a ≤ (j : Int) → (j : Int) ≤ b → lwr d.ws j = none → (j : Int) ∈ rs') :
    SeatOk base { d with rs := rs' } { o with acts := o.acts ++ [⟨5, a, b, false, ⟨#[]⟩, wl (lay base d.ws) a b 8⟩] } := by
  refine ⟨h.n, h.y, h.md, fun x hx => ?_, fun v => ?_, fun v hv => ?_, ?_⟩
  · rcases List.mem_append.1 hx with q | q
    · exact h.keys x q
    · rw [List.mem_singleton.1 q]; exact ha
  · show rpw v (o.acts ++ [_]) = lay v d.ws
    rw [(rp_snoc h.keys (a := ⟨5, a, b, false, ⟨#[]⟩, wl (lay base d.ws) a b 8⟩) ha v).1, h.wr]
    rfl
  · show rpo v (o.acts ++ [_]) = true
    rw [(rp_snoc h.keys (a := ⟨5, a, b, false, ⟨#[]⟩, wl (lay base d.ws) a b 8⟩) ha v).2, h.rd v (fun k hk hm => hv k hk (h1 _ hm)), h.wr]
    unfold aso
    rw [if_neg (by show ¬ (5 : Int) = 2; omega), if_pos rfl]
    simp only [Bool.true_and, decide_eq_true_eq]
    refine wl_congr2 8 (fun k hk k1 k2 => ?_)
    unfold lay
    cases hl : lwr d.ws k with
    | some u => exact ⟨rfl, rfl⟩
    | none =>
      have := hv k hk (h2 k k1 k2 hl)
      exact ⟨this.1.symm, this.2.symm⟩
  · show (o.acts ++ [_]).any _ = _
    rw [List.any_append, h.wrote]
    simp

/-- A deed that was done. -/
structure DoneOk (cs : List (List Ver)) (d : Dn) : Prop where
  keys : ∀ a, a ∈ d.acts → keyB a.key = true
  lo : 0 ≤ d.n
  hi : d.n ≤ cs.length
  at0 : 0 ≤ d.at_
  com : 0 < d.n → d.at_ < d.n ∧ (∀ v, Sm (rpw v d.acts) (wvs v (cs.getD (d.n - 1).toNat []))) ∧ (d.md = 2 → rpo (wc (cs.take (d.n - 1).toNat)) d.acts = true)
  look : d.n = 0 → d.at_ ≤ cs.length ∧ rpo (wc (cs.take d.at_.toNat)) d.acts = true
  wrote : (d.acts.any (fun a => decide (a.kd = 3) || decide (a.kd = 4))) = decide (0 < d.n)
theorem DoneOk.more {cs : List (List Ver)} {d : Dn} (h : DoneOk cs d) (c : List Ver) : DoneOk (cs ++ [c]) d := by
  have hh := h.hi
  have hl := h.lo
  refine ⟨h.keys, h.lo, by simp only [List.length_append, List.length_cons, List.length_nil]; omega, h.at0, fun hp => ?_, fun h0 => ?_, h.wrote⟩
  · obtain ⟨k1, k2, k3⟩ := h.com hp
    refine ⟨k1, fun v => ?_, fun hm => ?_⟩
    · have e : (cs ++ [c]).getD (d.n - 1).toNat [] = cs.getD (d.n - 1).toNat [] := by
        simp only [List.getD_eq_getElem?_getD]
        rw [List.getElem?_append_left (by omega)]
      rw [e]
      exact k2 v
    · rw [List.take_append_of_le_length (by omega)]
      exact k3 hm
  · obtain ⟨k1, k2⟩ := h.look h0
    have ha := h.at0
    refine ⟨by simp only [List.length_append, List.length_cons, List.length_nil]; omega, ?_⟩
    rw [List.take_append_of_le_length (by omega)]
    exact k2
/-- The deeds that were done, as they were. -/
structure DI (cs : List (List Ver)) (ds : List Dn) : Prop where
  ok : ∀ d, d ∈ ds → DoneOk cs d
  num : (cms ds).map Dn.n = (List.range' 1 cs.length).map (fun i => ((i : Nat) : Int))
theorem di_nil : DI [] [] := ⟨fun d h => by simp at h, rfl⟩
theorem DI.look {cs : List (List Ver)} {ds : List Dn} (h : DI cs ds) {d : Dn} (hd : DoneOk cs d) (h0 : d.n = 0) : DI cs (ds ++ [d]) := by
  refine ⟨fun x hx => ?_, ?_⟩
  · rcases List.mem_append.1 hx with q | q
    · exact h.ok x q
    · rw [List.mem_singleton.1 q]; exact hd
  · unfold cms
    rw [List.filter_append, List.filter_cons_of_neg (by simp [h0]), List.filter_nil, List.append_nil]
    exact h.num
theorem DI.com {cs : List (List Ver)} {ds : List Dn} (h : DI cs ds) {c : List Ver} {d : Dn} (hd : DoneOk (cs ++ [c]) d) (h0 : d.n = (cs.length : Int) + 1) : DI (cs ++ [c]) (ds ++ [d]) := by
  refine ⟨fun x hx => ?_, ?_⟩
  · rcases List.mem_append.1 hx with q | q
    · exact (h.ok x q).more c
    · rw [List.mem_singleton.1 q]; exact hd
  · have hn := h.num
    unfold cms at hn ⊢
    have hf : List.filter (fun d : Dn => decide (0 < d.n)) [d] = [d] := List.filter_cons_of_pos (decide_eq_true (by omega))
    rw [List.filter_append, hf, List.map_append, hn]
    rw [List.length_append, List.length_cons, List.length_nil, Nat.zero_add, List.range'_1_concat, List.map_append]
    simp [h0]
    try omega

/-- What is so of a hall and its book. -/
structure NI (h : HSt) (b : Bk) : Prop where
  hi : HInv h
  some_ : ∀ s d, h.seat s = some d → ∃ o, b.op s = some o ∧ SeatOk (shw h.f h.n d.y 8) d o
  none_ : ∀ s, h.seat s = none → b.op s = none
  dn : DI h.cs b.dn
theorem ni_new : NI hst0 bk0 := ⟨hinv_new, fun _ _ h => (by cases h), fun _ _ => rfl, di_nil⟩
/-- What was read is still so, where a sure deed may be done. -/
theorem tr_since {f : Nat → List Ver} {n : Nat} {y : Int} (hi : Inv f n) (h1 : fmx f 8 ≤ y) (h2 : y ≤ n) {k : Nat} (hk : k < 8) (hs : snc f k ≤ y) : tr f n k y = tr f n k n := by
  have hp := hi.pos k hk
  have hr := hi.rise k hk
  have h3 := fmx_ge f 8 k hk
  have h4 := (fmx_le hi 8 (Nat.le_refl _)).1
  have hkb : keyB ((k : Nat) : Int) = true := by simp [keyB]; omega
  have hlast : va (f k) ((f k).length - 1) ≤ y := by
    unfold snc at hs
    rw [Int.toNat_natCast] at hs
    simpa [hkb] using hs
  rw [tr_last hi hk]
  unfold tr
  rw [if_pos ⟨hkb, h2⟩, Int.toNat_natCast]
  unfold rd3
  rw [if_neg (by omega), if_neg (by omega), cntf_all hr hp hlast]
theorem stl_not {f : Nat → List Ver} {y : Int} {rs : List Int} : ∀ m, stl f y rs m = false → ∀ k : Nat, k < m → (k : Int) ∈ rs → snc f k ≤ y := by
  intro m
  induction m with
  | zero => intro _ k hk; omega
  | succ m ih =>
    intro h k hk hm
    simp only [stl] at h
    split at h
    · cases h
    · rename_i q
      by_cases e : k = m
      · subst e
        by_cases c : y < snc f k
        · exact absurd ⟨hm, c⟩ q
        · omega
      · exact ih h k (by omega) hm
theorem wk_ne : ∀ (ws : List Ver), WOk ws → ((wk ws 8).length ≠ 0 ↔ ws ≠ []) := by
  intro ws hw
  constructor
  · intro h e
    subst e
    exact h (by simp [wk, lwr_nil])
  · intro h e
    have hn : wk ws 8 = [] := List.eq_nil_of_length_eq_zero e
    obtain ⟨p, hp⟩ := List.exists_mem_of_ne_nil ws h
    obtain ⟨h1, h2, _⟩ := hw p hp
    have hl : ∀ i, (∃ j, j < i ∧ va ws j = p.a) → (lw ws p.a i).isSome = true := by
      intro i
      induction i with
      | zero => rintro ⟨j, q, _⟩; omega
      | succ i ih =>
        rintro ⟨j, q1, q2⟩
        simp only [lw]
        split
        · rfl
        · rename_i q
          have : j ≠ i := fun e => q (by rw [← e]; exact q2)
          exact ih ⟨j, by omega, q2⟩
    have h3 := fnd_wk ws 8 (k := p.a.toNat) (by omega)
    rw [hn] at h3
    obtain ⟨i, hi, e⟩ := va_mem ⟨p, hp, rfl⟩
    have h4 : (lwr ws (p.a.toNat : Int)).isSome = true := by
      rw [show ((p.a.toNat : Nat) : Int) = p.a by omega]
      exact hl ws.length ⟨i, hi, e⟩
    cases hc : lwr ws (p.a.toNat : Int) with
    | none => rw [hc] at h4; cases h4
    | some u => rw [hc] at h3; simp [fnd] at h3
/-- A deed that may be done: it is done. -/
theorem NI.done {h : HSt} {b : Bk} (ni : NI h b) {s : Nat} {d : Dp} (hs : h.seat s = some d) {o : Dn} (ho : SeatOk (shw h.f h.n d.y 8) d o) (hm : dm h.f d.md d.y d.rs d.ws = 0) :
    ((wk d.ws 8).length = 0 → DoneOk h.cs { o with n := 0 }) ∧ (¬ (wk d.ws 8).length = 0 → lcode h.cs (wk d.ws 8) = 0 → DoneOk (h.cs ++ [wk d.ws 8]) { o with n := (h.n : Int) + 1 }) := by
  have hi := ni.hi
  obtain ⟨k1, k2⟩ := hi.known s d hs
  have hw := hi.ok s d hs
  have hlen := hi.vi.len
  have h0 := (fmx_le hi.inv 8 (Nat.le_refl _)).1
  obtain ⟨y, hy⟩ : ∃ y : Nat, d.y = (y : Int) := ⟨d.y.toNat, by omega⟩
  have hwn := wk_ne d.ws hw
  rw [hy] at k1 k2
  have hsm := wc_shw hi k1 (by omega)
  refine ⟨fun hz => ?_, fun hz hl => ?_⟩
  · have hn : d.ws = [] := Classical.byContradiction fun q => hwn.2 q hz
    refine ⟨ho.keys, Int.le_refl _, by show (0 : Int) ≤ _; omega, by show 0 ≤ o.at_; rw [ho.y, hy]; omega, fun q => absurd q (by show ¬ (0 : Int) < 0; omega), fun _ => ⟨by show o.at_ ≤ _; rw [ho.y, hy]; omega, ?_⟩, by show o.acts.any _ = _; rw [ho.wrote, hn]; rfl⟩
    show rpo (wc (h.cs.take o.at_.toNat)) o.acts = true
    rw [ho.y, hy, Int.toNat_natCast]
    refine ho.rd _ (fun k hk _ => ?_)
    rw [hy]
    exact ⟨(hsm k hk).1.symm, (hsm k hk).2.symm⟩
  · have hn : d.ws ≠ [] := hwn.1 hz
    have e1 : ((h.n : Int) + 1 - 1).toNat = h.n := by omega
    refine ⟨ho.keys, by show (0 : Int) ≤ (h.n : Int) + 1; omega, by show (h.n : Int) + 1 ≤ _; simp; omega, by show 0 ≤ o.at_; rw [ho.y, hy]; omega, fun _ => ⟨by show o.at_ < (h.n : Int) + 1; rw [ho.y, hy]; omega, fun v => ?_, fun hmd => ?_⟩, fun q => absurd q (by show ¬ (h.n : Int) + 1 = 0; omega), ?_⟩
    · show Sm (rpw v o.acts) (wvs v ((h.cs ++ [wk d.ws 8]).getD ((h.n : Int) + 1 - 1).toNat []))
      have e2 : (h.cs ++ [wk d.ws 8]).getD h.n [] = wk d.ws 8 := by
        rw [List.getD_eq_getElem?_getD, hlen, List.getElem?_concat_length]; rfl
      rw [e1, e2, ho.wr]
      exact (sm_wagg (lay_wvs hw v)).symm
    · show rpo (wc ((h.cs ++ [wk d.ws 8]).take ((h.n : Int) + 1 - 1).toNat)) o.acts = true
      rw [e1, hlen, List.take_left]
      refine ho.rd _ (fun k hk hrs => ?_)
      have hn2 : h.n ≤ h.n := Nat.le_refl _
      have hsl := wc_shw hi (y := h.n) (fmx_le hi.inv 8 (Nat.le_refl _)).2 hn2
      rw [hlen, List.take_length] at hsl
      rw [hy]
      have hst : stl h.f d.y d.rs 8 = false := by
        have hmd' : d.md = 2 := by rw [← ho.md]; exact hmd
        unfold dm at hm
        split at hm
        · simp at hm
        · split at hm
          · simp at hm
          · rename_i q
            cases hq : stl h.f d.y d.rs 8 with
            | false => rfl
            | true => exact absurd ⟨hmd', hq⟩ q
      have hsn := stl_not 8 hst k hk hrs
      rw [hy] at hsn
      have ht := tr_since hi.inv k1 k2 hk hsn
      have e3 : shw h.f h.n y 8 k = shw h.f h.n h.n 8 k := by unfold shw; rw [if_pos hk, if_pos hk, ht]
      rw [e3, hlen]
      exact ⟨(hsl k hk).1.symm, (hsl k hk).2.symm⟩
    · show o.acts.any _ = _
      rw [ho.wrote]
      have : decide (0 < (h.n : Int) + 1) = true := decide_eq_true (by omega)
      rw [this]
      simpa using hn
end Go.Proofs.Ytapmlleemopcnac
