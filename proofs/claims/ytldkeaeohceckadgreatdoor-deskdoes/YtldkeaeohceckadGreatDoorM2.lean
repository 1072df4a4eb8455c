/- Bound together for a claim. -/
import Derived.Test.YtldkeaeohceckadGreatDoorM1
import Derived.Deep.AppendSrc
import Derived.Laws.IdiomStrings
import Derived.Deep.Upon
import Derived.Deep.RegionLaw
namespace Go.Proofs.YtldkeaeohceckadGreatDoor
set_option maxRecDepth 20000
set_option maxHeartbeats 64000000
/- Plain words for halls: what a step tells, and what it leaves; no statement of the program yet. -/
section
open Go.RowKit

/-- A seat's deed. -/
structure Dp where
  md : Int
  y : Int
  rs : List Int
  ws : List Ver
/-- A hall: the versions of all keys, how many commits, the commits, the seats' deeds. -/
structure HSt where
  f : Nat → List Ver
  n : Nat
  cs : List (List Ver)
  seat : Nat → Option Dp
structure HStep where
  d : Int
  s : Int
  md : Int
  at_ : Int
  key : Int
  to_ : Int
  keep : Int
  b : ByteArray
structure Ev where
  c : Int
  n : Int
  t : Bool
  s : ByteArray
  l : List Ver
def ev0 : Ev := ⟨0, 0, false, ⟨#[]⟩, []⟩
def evc (c : Int) : Ev := ⟨c, 0, false, ⟨#[]⟩, []⟩
def evn (c n : Int) : Ev := ⟨c, n, false, ⟨#[]⟩, []⟩

/-- The lowest commit behind which one of the first m seats' deeds began. -/
def least (n : Nat) (seat : Nat → Option Dp) : Nat → Int
  | 0 => n
  | m + 1 => match seat m with
    | some d => if d.y < least n seat m then d.y else least n seat m
    | none => least n seat m
theorem least_le (n : Nat) (seat : Nat → Option Dp) : ∀ m, least n seat m ≤ n ∧ ∀ s d, s < m → seat s = some d → least n seat m ≤ d.y := by
  intro m
  induction m with
  | zero => exact ⟨Int.le_refl _, fun s d h => by omega⟩
  | succ m ih =>
    obtain ⟨h1, h2⟩ := ih
    simp only [least]
    cases hs : seat m with
    | none =>
      refine ⟨h1, fun s d h e => ?_⟩
      by_cases q : s = m
      · subst q; rw [hs] at e; cases e
      · exact h2 s d (by omega) e
    | some x =>
      dsimp only
      refine ⟨by split <;> omega, fun s d h e => ?_⟩
      by_cases q : s = m
      · subst q
        rw [hs] at e
        cases e
        split <;> omega
      · have := h2 s d (by omega) e
        split <;> omega
theorem least_ge {n : Nat} {seat : Nat → Option Dp} {z : Int} (hz : z ≤ n) (h : ∀ s d, seat s = some d → z ≤ d.y) : ∀ m, z ≤ least n seat m := by
  intro m
  induction m with
  | zero => exact hz
  | succ m ih =>
    simp only [least]
    cases hs : seat m with
    | none => exact ih
    | some x =>
      dsimp only
      have := h m x hs
      split <;> omega

/-- What is so of a hall. -/
structure HInv (h : HSt) : Prop where
  inv : Inv h.f h.n
  li : LInv h.cs
  vi : VI h.f h.n h.cs
  ok : ∀ s d, h.seat s = some d → WOk d.ws
  known : ∀ s d, h.seat s = some d → fmx h.f 8 ≤ d.y ∧ d.y ≤ h.n
  five : ∀ s, 5 ≤ s → h.seat s = none

def sit (h : HSt) (s : Int) (d : Option Dp) : HSt := { h with seat := upd h.seat s.toNat d }

/-- What a step leaves. -/
def hdo (h : HSt) (x : HStep) : HSt :=
  if x.d < 1 ∨ 10 < x.d then h
  else if x.d = 8 then { h with f := clm h.f (least h.n h.seat 5) 8 }
  else if x.d = 9 then ⟨wal0 h.cs, h.cs.length, h.cs, fun _ => none⟩
  else if ¬ (0 ≤ x.s ∧ x.s < 5) then h
  else match h.seat x.s.toNat with
    | none => if x.d = 1 ∧ bcode h.f h.n x.md x.at_ = 0 then sit h x.s (some ⟨x.md, bat h.n x.md x.at_, [], []⟩) else h
    | some d =>
      if x.d = 1 then h
      else if x.d = 2 then sit h x.s (some { d with rs := dr h.f h.n d.y d.rs d.ws x.key })
      else if x.d = 3 then sit h x.s (some { d with ws := dpw d.md d.ws x.key true x.b })
      else if x.d = 4 then sit h x.s (some { d with ws := dpw d.md d.ws x.key false ⟨#[]⟩ })
      else if x.d = 5 then sit h x.s (some { d with rs := (dls h.f h.n d.y d.ws d.rs x.key x.to_).2.2 })
      else if x.d = 6 then ⟨vf h.f h.n h.cs d.md d.y d.rs d.ws, vn h.f h.n h.cs d.md d.y d.rs d.ws, vcs h.f h.cs d.md d.y d.rs d.ws, upd h.seat x.s.toNat none⟩
      else if x.d = 10 then ⟨wal0 (tcs h.f h.cs d.md d.y d.rs d.ws x.keep), (tcs h.f h.cs d.md d.y d.rs d.ws x.keep).length, tcs h.f h.cs d.md d.y d.rs d.ws x.keep, fun _ => none⟩
      else sit h x.s none
/-- What a step tells. -/
def hev (h : HSt) (x : HStep) : Ev :=
  if x.d < 1 ∨ 10 < x.d then evc 3
  else if x.d = 8 then evn 0 (cln h.f (least h.n h.seat 5) 8 : Nat)
  else if x.d = 9 then ev0
  else if ¬ (0 ≤ x.s ∧ x.s < 5) then evc 1
  else match h.seat x.s.toNat with
    | none => if x.d = 1 then evc (bcode h.f h.n x.md x.at_) else evc 7
    | some d =>
      if x.d = 1 then evc 8
      else if x.d = 2 then ⟨(dg h.f h.n d.y d.ws x.key).a, 0, (dg h.f h.n d.y d.ws x.key).t, (dg h.f h.n d.y d.ws x.key).s, []⟩
      else if x.d = 3 then evc (dpc d.md x.key true x.b)
      else if x.d = 4 then evc (dpc d.md x.key false ⟨#[]⟩)
      else if x.d = 5 then ⟨(dls h.f h.n d.y d.ws d.rs x.key x.to_).2.1, 0, false, ⟨#[]⟩, (dls h.f h.n d.y d.ws d.rs x.key x.to_).1⟩
      else if x.d = 6 then evn (vcode h.f h.cs d.md d.y d.rs d.ws) (vnum h.f h.n h.cs d.md d.y d.rs d.ws)
      else if x.d = 10 then evn (vcode h.f h.cs d.md d.y d.rs d.ws) (tnum h.f h.cs d.md d.y d.rs d.ws x.keep)
      else ev0

theorem fmx_bound {g : Nat → List Ver} {y : Int} (h0 : 0 ≤ y) : ∀ m, (∀ k, k < m → va (g k) 0 ≤ y) → fmx g m ≤ y := by
  intro m
  induction m with
  | zero => intro _; exact h0
  | succ m ih =>
    intro h
    have h1 := ih (fun k hk => h k (by omega))
    have h2 := h m (by omega)
    simp only [fmx]
    split <;> omega
theorem fmx_clm {f : Nat → List Ver} {n : Nat} {l y : Int} (hi : Inv f n) (hl : l ≤ y) (hy : fmx f 8 ≤ y) : fmx (clm f l 8) 8 ≤ y := by
  have h0 := (fmx_le hi 8 (Nat.le_refl _)).1
  refine fmx_bound (by omega) 8 (fun k hk => ?_)
  have hc := cntf_is l (hi.rise k hk)
  have hg := fmx_ge f 8 k hk
  unfold clm
  rw [if_pos hk]
  have e : va ((f k).drop (cd (f k) l)) 0 = va (f k) (cd (f k) l) := by simp [va]
  rw [e]
  unfold cd
  rcases Nat.eq_zero_or_pos (cntf (f k) l) with q | q
  · rw [q]; show va (f k) 0 ≤ y; omega
  · have := hc.lo (cntf (f k) l - 1) (by omega); omega
theorem wrs_lo1 {k : Nat} : ∀ (ps : List Ver) (f : Nat → List Ver) (x : Int), 0 < (f k).length → 0 < (wrs f x ps k).length ∧ va (wrs f x ps k) 0 = va (f k) 0 := by
  intro ps
  induction ps with
  | nil => intro f x h; exact ⟨h, rfl⟩
  | cons p r ih =>
    intro f x h
    have hl : 0 < (wr1 f x p k).length ∧ va (wr1 f x p k) 0 = va (f k) 0 := by
      unfold wr1
      by_cases e : k = p.a.toNat
      · subst e
        rw [upd_same]
        exact ⟨by have := (pvers_length (f p.a.toNat) x p.t p.s).1; omega, pvers_lo h⟩
      · rw [upd_other _ _ _ e]
        exact ⟨h, rfl⟩
    simp only [wrs]
    obtain ⟨h1, h2⟩ := ih (wr1 f x p) x hl.1
    exact ⟨h1, h2.trans hl.2⟩
theorem fmx_wst {f : Nat → List Ver} {n : Nat} {y : Int} (hi : Inv f n) (ps : List Ver) (hy : fmx f 8 ≤ y) : fmx (wst f n ps) 8 ≤ y := by
  have h0 := (fmx_le hi 8 (Nat.le_refl _)).1
  refine fmx_bound (by omega) 8 (fun k hk => ?_)
  have hg := fmx_ge f 8 k hk
  unfold wst
  split
  · rw [(wrs_lo1 ps f _ (hi.pos k hk)).2]; omega
  · omega
theorem fmx_vf {f : Nat → List Ver} {n : Nat} {cs : List (List Ver)} {md y' y : Int} {rs : List Int} {ws : List Ver} (hi : Inv f n) (hy : fmx f 8 ≤ y) : fmx (vf f n cs md y' rs ws) 8 ≤ y := by
  unfold vf
  split
  · exact fmx_wst hi _ hy
  · exact hy
theorem vn_ge (f : Nat → List Ver) (n : Nat) (cs : List (List Ver)) (md y : Int) (rs : List Int) (ws : List Ver) : n ≤ vn f n cs md y rs ws := by
  unfold vn
  split <;> omega
theorem inv_vf {f : Nat → List Ver} {n : Nat} {cs : List (List Ver)} {md y : Int} {rs : List Int} {ws : List Ver} (hi : Inv f n) (hv : VI f n cs) : Inv (vf f n cs md y rs ws) (vn f n cs md y rs ws) := by
  unfold vf vn
  split
  · rename_i h
    have hl : lcode cs (wk ws 8) = 0 := by unfold vdone at h; simp at h; exact h.2.2
    have h1 := hi.write (wk ws 8)
    rw [(hv.room hl).2.1] at h1
    exact h1
  · exact hi
theorem linv_vcs {f : Nat → List Ver} {cs : List (List Ver)} {md y : Int} {rs : List Int} {ws : List Ver} (h : LInv cs) : LInv (vcs f cs md y rs ws) := by
  unfold vcs
  split
  · rename_i q
    have hl : lcode cs (wk ws 8) = 0 := by unfold vdone at q; simp at q; exact q.2.2
    exact h.snoc hl
  · exact h
theorem upd_at {α : Type} (g : Nat → α) (k : Nat) (v : α) (s : Nat) : upd g k v s = if s = k then v else g s := by
  unfold upd
  rfl
/-- A seat's deed is another one, or none. -/
theorem HInv.sit {h : HSt} (hi : HInv h) {s : Int} (hs : 0 ≤ s ∧ s < 5) {d : Option Dp} (hd : ∀ e, d = some e → WOk e.ws ∧ fmx h.f 8 ≤ e.y ∧ e.y ≤ h.n) : HInv (YtldkeaeohceckadGreatDoor.sit h s d) := by
  refine ⟨hi.inv, hi.li, hi.vi, fun k e he => ?_, fun k e he => ?_, fun k hk => ?_⟩
  · simp only [YtldkeaeohceckadGreatDoor.sit, upd_at] at he
    split at he
    · exact (hd e he).1
    · exact hi.ok k e he
  · simp only [YtldkeaeohceckadGreatDoor.sit, upd_at] at he
    split at he
    · exact (hd e he).2
    · exact hi.known k e he
  · simp only [YtldkeaeohceckadGreatDoor.sit, upd_at]
    rw [if_neg (by omega)]
    exact hi.five k hk
theorem bat_known {f : Nat → List Ver} {n : Nat} {md at_ : Int} (hi : Inv f n) (hb : bcode f n md at_ = 0) : fmx f 8 ≤ bat n md at_ ∧ bat n md at_ ≤ n := by
  have hf := fmx_le hi 8 (Nat.le_refl _)
  unfold bcode at hb
  unfold bat
  split at hb
  · split at hb
    · rename_i q
      rw [if_pos q]
      split at hb
      · simp at hb
      · split at hb
        · simp at hb
        · omega
    · rename_i q
      rw [if_neg q]
      exact ⟨hf.2, Int.le_refl _⟩
  · simp at hb
/-- What is so of a hall stays so. -/
theorem HInv.clear {h : HSt} (hi : HInv h) : HInv { h with f := clm h.f (least h.n h.seat 5) 8 } := by
  obtain ⟨l1, l2⟩ := least_le h.n h.seat 5
  refine ⟨hi.inv.clm _ 8 (Nat.le_refl _), hi.li, hi.vi.clear hi.inv _, hi.ok, fun s d hs => ?_, hi.five⟩
  obtain ⟨k1, k2⟩ := hi.known s d hs
  refine ⟨fmx_clm hi.inv (l2 s d ?_ hs) k1, k2⟩
  rcases Nat.lt_or_ge s 5 with q | q
  · exact q
  · rw [hi.five s q] at hs; cases hs
theorem HInv.crash {cs : List (List Ver)} (hl : LInv cs) : HInv ⟨wal0 cs, cs.length, cs, fun _ => none⟩ := ⟨inv_wal0 hl, hl, VI.crash hl, fun _ _ h => (by cases h), fun _ _ h => (by cases h), fun _ _ => rfl⟩
theorem HInv.commit {h : HSt} (hi : HInv h) (d : Dp) {k : Nat} (hk : k < 5) : HInv ⟨vf h.f h.n h.cs d.md d.y d.rs d.ws, vn h.f h.n h.cs d.md d.y d.rs d.ws, vcs h.f h.cs d.md d.y d.rs d.ws, upd h.seat k none⟩ := by
  refine ⟨inv_vf hi.inv hi.vi, linv_vcs hi.li, hi.vi.done, fun s e he => ?_, fun s e he => ?_, fun s hs => ?_⟩
  · simp only [upd_at] at he
    split at he
    · cases he
    · exact hi.ok s e he
  · simp only [upd_at] at he
    split at he
    · cases he
    · obtain ⟨k1, k2⟩ := hi.known s e he
      have := vn_ge h.f h.n h.cs d.md d.y d.rs d.ws
      exact ⟨fmx_vf hi.inv k1, by show e.y ≤ ((vn h.f h.n h.cs d.md d.y d.rs d.ws : Nat) : Int); omega⟩
  · simp only [upd_at]
    rw [if_neg (by omega)]
    exact hi.five s hs
theorem HInv.step {h : HSt} (hi : HInv h) (x : HStep) : HInv (hdo h x) := by
  unfold hdo
  by_cases c0 : x.d < 1 ∨ 10 < x.d
  · rw [if_pos c0]; exact hi
  rw [if_neg c0]
  by_cases c8 : x.d = 8
  · rw [if_pos c8]; exact hi.clear
  rw [if_neg c8]
  by_cases c9 : x.d = 9
  · rw [if_pos c9]; exact HInv.crash hi.li
  rw [if_neg c9]
  by_cases hs : 0 ≤ x.s ∧ x.s < 5
  · rw [if_neg (fun q => q hs)]
    cases hd : h.seat x.s.toNat with
    | none =>
      dsimp only
      by_cases hb : x.d = 1 ∧ bcode h.f h.n x.md x.at_ = 0
      · rw [if_pos hb]
        exact hi.sit hs (fun e he => by cases he; exact ⟨wok_nil, bat_known hi.inv hb.2⟩)
      · rw [if_neg hb]; exact hi
    | some d =>
      dsimp only
      have h1 := hi.ok _ d hd
      have h2 := hi.known _ d hd
      by_cases c1 : x.d = 1
      · rw [if_pos c1]; exact hi
      rw [if_neg c1]
      by_cases c2 : x.d = 2
      · rw [if_pos c2]; exact hi.sit hs (fun e he => by cases he; exact ⟨h1, h2⟩)
      rw [if_neg c2]
      by_cases c3 : x.d = 3
      · rw [if_pos c3]; exact hi.sit hs (fun e he => by cases he; exact ⟨h1.put _ _ _ _, h2⟩)
      rw [if_neg c3]
      by_cases c4 : x.d = 4
      · rw [if_pos c4]; exact hi.sit hs (fun e he => by cases he; exact ⟨h1.put _ _ _ _, h2⟩)
      rw [if_neg c4]
      by_cases c5 : x.d = 5
      · rw [if_pos c5]; exact hi.sit hs (fun e he => by cases he; exact ⟨h1, h2⟩)
      rw [if_neg c5]
      by_cases c6 : x.d = 6
      · rw [if_pos c6]; exact hi.commit d (by omega)
      rw [if_neg c6]
      by_cases c10 : x.d = 10
      · rw [if_pos c10]; exact HInv.crash (LInv.tcs hi.li)
      rw [if_neg c10]
      exact hi.sit hs (fun e he => by cases he)
  · rw [if_pos hs]; exact hi
theorem hinv_new : HInv ⟨fun _ => [dv], 0, [], fun _ => none⟩ := ⟨inv_dv, linv_nil, vi_new, fun _ _ h => (by cases h), fun _ _ h => (by cases h), fun _ _ => rfl⟩
end
/- Many things in memory beside each other: each with its own blocks, no two sharing one; a call on one of them leaves the others. -/
section
open Go.RowKit

/-- A thing in memory: what is so of it (since B, in a world, with its own blocks F), and that it hangs on its own blocks alone. -/
structure Thing where
  holds : Nat → World → List Nat → Prop
  kp : ∀ {B : Nat} {w w' : World} {S F : List Nat}, holds B w F → Kp S w w' → (∀ x, x ∈ F → x ∉ S) → holds B w' F
  lo : ∀ {B : Nat} {w : World} {F : List Nat}, holds B w F → ∀ x, x ∈ F → B ≤ x ∧ x < w.heap.size
  base : ∀ {B C : Nat} {w : World} {F : List Nat}, holds B w F → C ≤ B → holds C w F

/-- The things of a list, X all their blocks. -/
def ZooF (B : Nat) (w : World) : List Thing → List Nat → Prop
  | [], X => X = []
  | o :: r, X => ∃ F Y, o.holds B w F ∧ ZooF B w r Y ∧ (∀ x, x ∈ F → x ∉ Y) ∧ X = F ++ Y

theorem ZooF.lo {B : Nat} {w : World} : ∀ {os : List Thing} {X : List Nat}, ZooF B w os X → ∀ x, x ∈ X → B ≤ x ∧ x < w.heap.size
  | [], X, h, x, hx => by rw [show X = [] from h] at hx; simp at hx
  | o :: _, X, ⟨F, Y, h1, h2, _, e⟩, x, hx => by
    subst e
    rcases List.mem_append.1 hx with q | q
    · exact o.lo h1 x q
    · exact ZooF.lo h2 x q
theorem ZooF.kp {B : Nat} {w w' : World} {S : List Nat} (hk : Kp S w w') : ∀ {os : List Thing} {X : List Nat}, ZooF B w os X → (∀ x, x ∈ X → x ∉ S) → ZooF B w' os X
  | [], _, h, _ => h
  | o :: _, X, ⟨F, Y, h1, h2, h3, e⟩, hS => by
    subst e
    exact ⟨F, Y, o.kp h1 hk (fun x hx => hS x (by simp [hx])), ZooF.kp hk h2 (fun x hx => hS x (by simp [hx])), h3, rfl⟩
theorem ZooF.base {B C : Nat} {w : World} (hC : C ≤ B) : ∀ {os : List Thing} {X : List Nat}, ZooF B w os X → ZooF C w os X
  | [], _, h => h
  | o :: _, _, ⟨F, Y, h1, h2, h3, e⟩ => ⟨F, Y, o.base h1 hC, ZooF.base hC h2, h3, e⟩

/-- All were made since w0, and all that was there is as it was. -/
def Zoo (w0 w : World) (os : List Thing) : Prop := ∃ X, ZooF w0.heap.size w os X ∧ Kp [] w0 w

section
variable {w0 w w' : World} {o o' : Thing} {os r : List Thing}
theorem Zoo.kp (h : Zoo w0 w os) : Kp [] w0 w := by
  obtain ⟨_, _, h⟩ := h
  exact h
theorem Zoo.kp0 (h : Zoo w0 w os) (hk : Kp [] w w') : Zoo w0 w' os := by
  obtain ⟨X, h1, h2⟩ := h
  exact ⟨X, h1.kp hk (fun _ _ => by simp), h2.trans0 hk⟩
theorem zoo_nil (hk : Kp [] w0 w) : Zoo w0 w [] := ⟨[], rfl, hk⟩
/-- The first one, its blocks, and what a call on it may do. -/
theorem Zoo.head (h : Zoo w0 w (o :: r)) : ∃ F, o.holds w0.heap.size w F ∧ ∀ (o' : Thing) (w' : World), (∃ F', o'.holds w0.heap.size w' F' ∧ Kp F w w' ∧ ∀ x, x ∈ F' → x ∈ F ∨ w.heap.size ≤ x) → Zoo w0 w' (o' :: r) := by
  obtain ⟨X, ⟨F, Y, h1, h2, h3, rfl⟩, h4⟩ := h
  refine ⟨F, h1, fun o' w' ⟨F', k1, k2, k3⟩ => ⟨F' ++ Y, ⟨F', Y, k1, h2.kp k2 (fun x hx hf => h3 x hf hx), fun x hx hy => ?_, rfl⟩, h4.trans k2 (fun x hx => .inr (o.lo h1 x hx).1)⟩⟩
  rcases k3 x hx with e | e
  · exact h3 x e hy
  · have := (h2.lo x hy).2; omega
/-- A new one. -/
theorem Zoo.cons (h : Zoo w0 w os) {F : List Nat} (ho : o.holds w.heap.size w' F) (hk : Kp [] w w') : Zoo w0 w' (o :: os) := by
  obtain ⟨X, h1, h2⟩ := h
  refine ⟨F ++ X, ⟨F, X, o.base ho h2.size, h1.kp hk (fun _ _ => by simp), fun x hx hy => ?_, rfl⟩, h2.trans0 hk⟩
  have := (o.lo ho x hx).1
  have := (h1.lo x hy).2
  omega
theorem Zoo.tail (h : Zoo w0 w (o :: r)) : Zoo w0 w r := by
  obtain ⟨X, ⟨F, Y, h1, h2, h3, rfl⟩, h4⟩ := h
  exact ⟨Y, h2, h4⟩
end

theorem ZooF.perm {B : Nat} {w : World} {us vs : List Thing} (hp : us.Perm vs) : ∀ {X : List Nat}, ZooF B w us X → ∃ Y, ZooF B w vs Y ∧ ∀ x, x ∈ Y ↔ x ∈ X := by
  induction hp with
  | nil => intro X h; exact ⟨X, h, fun _ => Iff.rfl⟩
  | cons o _ ih =>
    rintro X ⟨F, Y, h1, h2, h3, rfl⟩
    obtain ⟨Z, k1, k2⟩ := ih h2
    exact ⟨F ++ Z, ⟨F, Z, h1, k1, fun x hx hz => h3 x hx ((k2 x).1 hz), rfl⟩, fun x => by simp [k2 x]⟩
  | swap a b l =>
    rintro X ⟨F, Y, h1, ⟨F2, Y2, h4, h5, h6, rfl⟩, h3, rfl⟩
    refine ⟨F2 ++ (F ++ Y2), ⟨F2, F ++ Y2, h4, ⟨F, Y2, h1, h5, fun x hx hy => h3 x hx (by simp [hy]), rfl⟩, fun x hx hy => ?_, rfl⟩, fun x => by simp [or_left_comm]⟩
    rcases List.mem_append.1 hy with q | q
    · exact h3 x q (by simp [hx])
    · exact h6 x hx q
  | trans _ _ ih1 ih2 =>
    intro X h
    obtain ⟨Y, h1, h2⟩ := ih1 h
    obtain ⟨Z, h3, h4⟩ := ih2 h1
    exact ⟨Z, h3, fun x => (h4 x).trans (h2 x)⟩
theorem Zoo.perm {w0 w : World} {us vs : List Thing} (h : Zoo w0 w us) (hp : us.Perm vs) : Zoo w0 w vs := by
  obtain ⟨X, h1, h2⟩ := h
  obtain ⟨Y, k1, _⟩ := h1.perm hp
  exact ⟨Y, k1, h2⟩
/-- One of them, its blocks, and what a call on it may do: it is changed where it stands. -/
theorem Zoo.at_ {w0 w : World} {l1 l2 : List Thing} {o : Thing} (h : Zoo w0 w (l1 ++ o :: l2)) : ∃ F, o.holds w0.heap.size w F ∧ ∀ (o' : Thing) (w' : World), (∃ F', o'.holds w0.heap.size w' F' ∧ Kp F w w' ∧ ∀ x, x ∈ F' → x ∈ F ∨ w.heap.size ≤ x) → Zoo w0 w' (l1 ++ o' :: l2) := by
  obtain ⟨F, h1, h2⟩ := (h.perm List.perm_middle).head
  exact ⟨F, h1, fun o' w' k => (h2 o' w' k).perm List.perm_middle.symm⟩
theorem Zoo.drop_ {w0 w : World} {l1 l2 : List Thing} {o : Thing} (h : Zoo w0 w (l1 ++ o :: l2)) : Zoo w0 w (l1 ++ l2) := (h.perm List.perm_middle).tail
/-- A new one, in between. -/
theorem Zoo.put_ {w0 w w' : World} {l1 l2 : List Thing} {o : Thing} (h : Zoo w0 w (l1 ++ l2)) {F : List Nat} (ho : o.holds w.heap.size w' F) (hk : Kp [] w w') : Zoo w0 w' (l1 ++ o :: l2) := (h.cons ho hk).perm List.perm_middle.symm

end
/- Bytes in memory; append onto them; string(b), b[i:j]. -/
section
open Go.RowKit

/-- The k-th byte, as a number. -/
def ub (bs : List UInt8) (k : Nat) : Nat := (bs.getD k 0).toNat
def bcells (bs : List UInt8) : List Value := bs.map fun b => Value.int .u8 b.toNat

theorem bcells_length (bs : List UInt8) : (bcells bs).length = bs.length := by simp [bcells]
theorem bcells_append (xs ys : List UInt8) : bcells (xs ++ ys) = bcells xs ++ bcells ys := by simp [bcells]
theorem bcells_at {bs : List UInt8} {k : Nat} (h : k < bs.length) : (bcells bs)[k]? = some (.int .u8 (ub bs k : Nat)) := by
  simp [bcells, ub, List.getD_eq_getElem?_getD, List.getElem?_eq_getElem h]
theorem bcells_one (bs : List UInt8) : ∀ u ∈ bcells bs, u.oneCell' = true := by
  intro u hu
  obtain ⟨_, _, rfl⟩ := List.mem_map.1 hu
  rfl
theorem ub_lt (bs : List UInt8) (k : Nat) : ub bs k < 256 := (bs.getD k 0).toNat_lt
theorem ub_drop (bs : List UInt8) (l k : Nat) : ub (bs.drop l) k = ub bs (l + k) := by simp [ub, List.getD_eq_getElem?_getD, List.getElem?_drop]
theorem ub_take (bs : List UInt8) {l k : Nat} (h : k < l) : ub (bs.take l) k = ub bs k := by simp [ub, List.getD_eq_getElem?_getD, h]

/-- The bytes lie in block g from offset o on. -/
def SlU (w : World) (g o : Nat) (bs : List UInt8) : Prop := ∀ j, j < bs.length → w.cell? ⟨g, o + j, none⟩ = some (.int .u8 (ub bs j : Nat))
theorem SlU.kp {S : List Nat} {w w' : World} {g o : Nat} {bs : List UInt8} (h : SlU w g o bs) (hk : Kp S w w') (hg : g ∉ S) : SlU w' g o bs :=
  fun j hj => hk.cell (p := ⟨g, o + j, none⟩) hg (h j hj)
theorem SlU.drop {w : World} {g o : Nat} {bs : List UInt8} (h : SlU w g o bs) (l : Nat) : SlU w g (o + l) (bs.drop l) := fun j hj => by
  rw [ub_drop, Nat.add_assoc]
  exact h (l + j) (by simp at hj; omega)
theorem SlU.take {w : World} {g o : Nat} {bs : List UInt8} (h : SlU w g o bs) (l : Nat) : SlU w g o (bs.take l) := fun j hj => by
  simp at hj
  rw [ub_take _ (by omega)]
  exact h j (by omega)
theorem SlU.news {w : World} {g o : Nat} {bs : List UInt8} (h : SlU w g o bs) : ∀ j u, (bcells bs)[j]? = some u → w.cell? ((⟨g, o, none⟩ : Addr).add j) = some u := fun j u hu => by
  have hj : j < bs.length := by rw [← bcells_length]; exact (List.getElem?_eq_some_iff.1 hu).1
  rw [addr_add, h j hj, ← bcells_at hj]; exact hu

/-- The bytes lie behind a slice's address. -/
def Byt (w : World) (a : Option Addr) (bs : List UInt8) : Prop := 0 < bs.length → ∃ g o, a = some ⟨g, o, none⟩ ∧ SlU w g o bs
theorem Byt.kp {S : List Nat} {w w' : World} {a : Option Addr} {bs : List UInt8} (h : Byt w a bs) (hk : Kp S w w') (hS : ∀ g o, a = some ⟨g, o, none⟩ → g ∉ S) : Byt w' a bs := fun hp => by
  obtain ⟨g, o, e, hs⟩ := h hp
  exact ⟨g, o, e, hs.kp hk (hS g o e)⟩
theorem Byt.kp0 {w w' : World} {a : Option Addr} {bs : List UInt8} (h : Byt w a bs) (hk : Kp [] w w') : Byt w' a bs := h.kp hk (fun _ _ _ => by simp)
theorem byt_nil (w : World) (a : Option Addr) : Byt w a [] := fun h => by simp at h

/-- A row of bytes that a call made since w0, and changed nothing else. -/
structure Row (w0 w : World) (g cap : Nat) (bs : List UInt8) : Prop where
  own : w.ownsRow w0.heap.size 5 1 (.slice (some ⟨g, 0, none⟩) bs.length cap) bs.length (bcells bs)
  kp : Kp [] w0 w
theorem Row.lt {w0 w : World} {g cap : Nat} {bs : List UInt8} (h : Row w0 w g cap bs) : w0.heap.size ≤ g ∧ g < w.heap.size := h.own.lt g rfl
theorem Row.kp0 {w0 w w' : World} {g cap : Nat} {bs : List UInt8} (h : Row w0 w g cap bs) (hk : Kp [] w w') : Row w0 w' g cap bs := ⟨own_kp0 h.own hk, h.kp.trans0 hk⟩
theorem Row.slu {w0 w : World} {g cap : Nat} {bs : List UInt8} (h : Row w0 w g cap bs) : SlU w g 0 bs := fun j hj => by
  have := h.own.cellAt j (by omega)
  rw [Nat.zero_add, this, bcells_at hj]
theorem Row.byt {w0 w : World} {g cap : Nat} {bs : List UInt8} (h : Row w0 w g cap bs) : Byt w (some ⟨g, 0, none⟩) bs := fun _ => ⟨g, 0, rfl, h.slu⟩
theorem row_lit (w0 w : World) (hk : Kp [] w0 w) (bs : List UInt8) (cs : Array Value) (hc : cs.toList = bcells bs) (hm : bs.length ≤ 1000) : Row w0 (w.alloc (.cells cs 5)) w.heap.size bs.length bs := by
  refine ⟨⟨by rw [bcells_length]; omega, .inr ⟨w.heap.size, bs.length, cs, rfl, hk.size, heap_alloc_new w _, Nat.le_refl _, by unfold maxLen; omega, ?_, ?_⟩⟩, hk.alloc _⟩
  · rw [← Array.length_toList, hc, bcells_length]; omega
  · rw [hc, Nat.mul_one, ← bcells_length, List.take_length]

theorem Tryz.info5 : (Tryz.prog.info? 5).map (fun i => (i.zero, i.size, i.bytes)) = some (some (.int .u8 0), 1, 1) := by kernel_rfl

/-- What may be appended: bytes behind an address, a string. -/
theorem Byt.src {w : World} {a : Option Addr} {bs : List UInt8} (h : Byt w a bs) (c : Nat) : Src Tryz.prog 1 42 (.slice a bs.length c) bs.length (bcells bs) w := by
  by_cases hp : 0 < bs.length
  · obtain ⟨g, o, rfl, hs⟩ := h hp
    exact Src.ofSlice w Tryz.underlying42 ⟨g, o, none⟩ bs.length c (bcells bs) (by rw [bcells_length]; omega) hs.news (bcells_one bs)
  · have e : bs = [] := List.eq_nil_of_length_eq_zero (by omega)
    subst e
    cases a with
    | none => exact Src.ofNil w Tryz.underlying42 c
    | some a => exact Src.ofSlice w Tryz.underlying42 a 0 c [] (by simp) (by simp) (by simp)
theorem str_src (w : World) (s : ByteArray) : Src Tryz.prog 1 9 (.string s) s.data.toList.length (bcells s.data.toList) w := by
  rw [bytes_size]
  exact Src.ofString w Tryz.underlying9 s

theorem grown_row {w0 w : World} (hk : Kp [] w0 w) (bs : List UInt8) (cap : Nat) (hc : bs.length ≤ cap) (hcm : cap ≤ maxLen) (tl : Array Value) (ht : tl.size = cap - bs.length) :
    Row w0 (w.drew.alloc (.cells ((bcells bs).toArray ++ tl) 5)) w.heap.size cap bs := by
  refine ⟨⟨by rw [bcells_length]; omega, .inr ⟨w.heap.size, cap, _, rfl, hk.size, heap_alloc_new w.drew _, hc, hcm, ?_, ?_⟩⟩, hk.drew.alloc _⟩
  · simp only [Array.size_append, List.size_toArray, bcells_length, ht]; omega
  · simp only [Array.toList_append, Nat.mul_one]
    rw [← bcells_length bs]
    exact List.take_left

theorem run_app {w0 w : World} {g cap : Nat} {bs : List UInt8} (h : Row w0 w g cap bs) (tx ty : TypeId) (x : Value) (news : List UInt8) (hs : Src Tryz.prog 1 tx x news.length (bcells news) w) (hm : bs.length + news.length ≤ 100000) :
    ∃ g' cap' w', (Builtin.append_ #[42, tx] ty #[.slice (some ⟨g, 0, none⟩) bs.length cap, x]).run Tryz.prog w = .ok (.slice (some ⟨g', 0, none⟩) (bs ++ news).length cap') w' ∧
      Row w0 w' g' cap' (bs ++ news) ∧ Kp [g] w w' ∧ (g' = g ∨ g' = w.heap.size) := by
  obtain ⟨i0, hi0, hz0, hz1, hz2⟩ := info_parts Tryz.info5
  have hB := h.kp.size
  have hgl := h.lt
  rcases h.own.2 with ⟨e, _⟩ | ⟨g2, c2, cur, e, q1, q2, q3, q4, q5, q6⟩
  · simp at e
  · simp only [Value.slice.injEq, Option.some.injEq, Addr.mk.injEq, and_true, true_and] at e
    obtain ⟨rfl, rfl⟩ := e
    have hs' : Src Tryz.prog i0.size tx x news.length (bcells news) w := by rw [hz1]; exact hs
    simp only [Nat.mul_one] at q5 q6
    by_cases hroom : bs.length + news.length ≤ cap
    · have hst := run_storeCells_at Tryz.prog g bs.length 5 (bcells news) 0 cur w q2 (by rw [bcells_length]; omega) (bcells_one news)
      simp only [Nat.add_zero] at hst
      refine ⟨g, cap, w.setRow g (cur.toList.take bs.length ++ bcells news ++ cur.toList.drop (bs.length + (bcells news).length)).toArray, ?_, ⟨⟨?_, .inr ⟨g, cap, _, rfl, q1, setRow_heap w g cur _ 5 _ q2, by simp; omega, q4, ?_, ?_⟩⟩, ?_⟩, ?_, .inl rfl⟩
      · have hl : (bs ++ news).length = bs.length + news.length := by simp
        rw [hl]
        rcases hs'.kind with ⟨e', hk⟩ | hk <;> simp [Builtin.append_, run_underlying Tryz.underlying42, run_underlying hk, sizeOf, typeInfo, hi0, hz1, hs.len, hroom, hs.cells, Addr.add_lit, hst]
      · rw [bcells_length]; omega
      · simp only [List.size_toArray, List.length_append, List.length_take, List.length_drop, Array.length_toList, bcells_length]
        omega
      · rw [q6, Nat.mul_one]
        have hl : (bs ++ news).length = (bcells bs ++ bcells news).length := by simp [bcells_length]
        rw [hl, bcells_append]
        exact List.take_left
      · exact ⟨h.kp.os, h.kp.tape, h.kp.output, by simpa using h.kp.size, fun k hk hn => by rw [setRow_other w g k _ (by omega)]; exact h.kp.block k hk hn⟩
      · exact ⟨rfl, rfl, rfl, by simp, fun k _ hn => setRow_other w g k _ (by simpa using hn)⟩
    · have hfo := run_firstCells_some (P := Tryz.prog) w.drew i0.size bs.length ⟨g, 0, none⟩ bs.length cap (bcells bs) (by rw [bcells_length, hz1]; omega) (fun j u hu => by simpa using h.slu.news j u hu)
      have hge := grownCap_ge w (bs.length + news.length) cap 5
      have hfit : Builtin.nextslicecap (bs.length + news.length) cap * i0.bytes ≤ 281474976710656 := growslice_fits (by omega) (by rw [hz2]; omega)
      have hr := run_append_grow_src (P := Tryz.prog) w 42 tx ty 5 i0 _ Tryz.underlying42 hi0 hz0 (some ⟨g, 0, none⟩) bs.length cap (bcells bs) hfo x news.length (bcells news) hs' (by omega) (by omega) hfit
      have hl : (bs ++ news).length = bs.length + news.length := by simp
      rw [← bcells_append, ← hl] at hr
      refine ⟨w.heap.size, _, _, hr, grown_row h.kp (bs ++ news) _ (by rw [hl]; exact hge) (grownCap_le_maxLen w _ _ _ (by rw [hl]; unfold maxLen; omega)) _ ?_, ?_, .inr rfl⟩
      · rw [size_zeroCells]; simp [Value.cells]
      · exact ((Kp.refl [g] w).drew.alloc _)

theorem run_app_nil {w0 w : World} (hk : Kp [] w0 w) (tx ty : TypeId) (x : Value) (news : List UInt8) (hs : Src Tryz.prog 1 tx x news.length (bcells news) w) (hp : 0 < news.length) (hm : news.length ≤ 100000) :
    ∃ cap' w', (Builtin.append_ #[42, tx] ty #[.slice none 0 0, x]).run Tryz.prog w = .ok (.slice (some ⟨w.heap.size, 0, none⟩) news.length cap') w' ∧ Row w0 w' w.heap.size cap' news ∧ Kp [] w w' := by
  obtain ⟨i0, hi0, hz0, hz1, hz2⟩ := info_parts Tryz.info5
  have hs' : Src Tryz.prog i0.size tx x news.length (bcells news) w := by rw [hz1]; exact hs
  have hge := grownCap_ge w (0 + news.length) 0 5
  have hfit : Builtin.nextslicecap (0 + news.length) 0 * i0.bytes ≤ 281474976710656 := growslice_fits (by omega) (by rw [hz2]; omega)
  have hr := run_append_grow_src (P := Tryz.prog) w 42 tx ty 5 i0 _ Tryz.underlying42 hi0 hz0 none 0 0 [] (run_firstCells_none w.drew i0.size 0 0 0) x news.length (bcells news) hs' (by omega) (by omega) hfit
  rw [List.nil_append, Nat.zero_add] at hr
  refine ⟨_, _, hr, grown_row hk news _ (by rw [Nat.zero_add] at hge; exact hge) (grownCap_le_maxLen w _ _ _ (by unfold maxLen; omega)) _ ?_, ((Kp.refl [] w).drew.alloc _)⟩
  rw [size_zeroCells]; simp [Value.cells]

end
/- append onto bytes, at the operation; appendPair, by its contract. -/
section
open Go.RowKit
attribute [local go_sem ↓] Go.wp_at_zero Go.wp_at_succ

theorem wpList_app {ops : Array Oper} {rest : List Oper} {o : Oper} {a : Act} {w : World} {Q : Exit → Act → World → Prop} (hw : Region.wanted o (yielded ops a.tmps) = true) (s x : Operand) (tx : TypeId)
    (ho : o.op = .call { callee := .builtin .append, args := #[s, x], argTypes := #[42, tx] }) {w0 : World} {g cap : Nat} {bs : List UInt8} (h : Row w0 w g cap bs) (n : Nat) (hn : n = bs.length) (xv : Value) (news : List UInt8)
    (hs : a.eval s = .slice (some ⟨g, 0, none⟩) n cap) (hx : a.eval x = xv) (hsrc : Src Tryz.prog 1 tx xv news.length (bcells news) w) (hm : bs.length + news.length ≤ 100000)
    (k : ∀ g' cap' n' w', Hid (n' = (bs ++ news).length) → Hid (Row w0 w' g' cap' (bs ++ news)) → Hid (Kp [g] w w') → Hid (g' = g ∨ g' = w.heap.size) → wpList Tryz.prog ops Q rest (a.put o.dst (.slice (some ⟨g', 0, none⟩) n' cap')) w') : wpList Tryz.prog ops Q (o :: rest) a w := by
  subst hn
  obtain ⟨g', cap', w', hr, h1, h2, h3⟩ := run_app h tx o.type xv news hsrc hm
  refine wpList_step fun K hK => ?_
  rw [if_pos hw]
  unfold Oper.wp execOp
  simp only [ho, resolve, invoke, builtin, Sem.run_bind, Sem.run_pure, Result.andThen_ok, List.map_toArray, List.map_cons, List.map_nil, hs, hx, hr]
  exact hK _ _ (k g' cap' _ w' rfl h1 h2 h3)

theorem mod_b8 (k : Int) : k % 256 = ((b8 k).toNat : Int) := (b8_toNat k).symm

/-- One byte, just laid into a block of its own. -/
theorem one_src {w : World} (b : Nat) (hb : b = w.heap.size) (u : UInt8) (x : Int) (h : x = (u.toNat : Int)) : Src Tryz.prog 1 42 (.slice (some ⟨b, 0, none⟩) 1 1) [u].length (bcells [u]) (w.alloc (.cells #[.int .u8 x] 5)) := by
  subst h
  subst hb
  exact (row_lit w w (Kp.refl _ _) [u] #[.int .u8 u.toNat] rfl (by simp)).byt.src 1

def ApEnd (w0 : World) (bs : List UInt8) (e : Ending) (w' : World) : Prop := ∃ g' cap' n', e = .returned (.slice (some ⟨g', 0, none⟩) n' cap') ∧ n' = bs.length ∧ Row w0 w' g' cap' bs
theorem apEnd_mk {w0 w' : World} {bs : List UInt8} {g' cap' n' : Nat} (hn : n' = bs.length) (h : Row w0 w' g' cap' bs) : ApEnd w0 bs (.returned (.slice (some ⟨g', 0, none⟩) n' cap')) w' := ⟨g', cap', n', rfl, hn, h⟩

theorem box_far {w w2 : World} {k x : Int} {t : Bool} {s : ByteArray} {g g2 : Nat} (hk : Kp [g] ((w.alloc (.cells #[.int .i64 k, .bool t, .string s] 106)).alloc (.cells #[.int .u8 x] 5)) w2)
    (hg2 : g2 = g ∨ g2 = ((w.alloc (.cells #[.int .i64 k, .bool t, .string s] 106)).alloc (.cells #[.int .u8 x] 5)).heap.size) (hg : g < w.heap.size) :
    w2.cell? ⟨w.heap.size, 1, none⟩ = some (.bool t) ∧ w2.cell? ⟨w.heap.size, 1 + 1, none⟩ = some (.string s) ∧ Hid (w.heap.size < w2.heap.size ∧ g2 ≠ w.heap.size) := by
  have h1 := hk.size
  simp at h1 hg2
  exact ⟨hk.cell (by simp; omega) (by simp), hk.cell (by simp; omega) (by simp), by omega, by omega⟩
theorem str_far {w2 w3 : World} {o : Obj} {s : ByteArray} {g2 q : Nat} (hk : Kp [g2] (w2.alloc o) w3) (hq : q < w2.heap.size ∧ g2 ≠ q) (h : w2.cell? ⟨q, 1 + 1, none⟩ = some (.string s)) : w3.cell? ⟨q, 1 + 1, none⟩ = some (.string s) :=
  hk.cell (by simp; omega) (((Kp.refl [] w2).alloc o).cell (by simp) h)

set_option maxHeartbeats 1000000 in
theorem appendPair17 {w0 w : World} {g cap n : Nat} {bs : List UInt8} (k : Int) (t : Bool) (s : ByteArray) (h : Row w0 w g cap bs) (hn : n = bs.length) (hm : bs.length ≤ 2000) (hs : s.size ≤ 300) :
    Calls Tryz.prog 193 #[.slice (some ⟨g, 0, none⟩) n cap, .agg #[.int .i64 k, .bool t, .string s]] w fun e w' => ApEnd w0 (bs ++ pb ⟨k, t, s⟩) e w' := by
  have hlt := h.lt
  have HR := hide (h.kp0 (((Kp.refl [] w).alloc (.cells #[.int .i64 k, .bool t, .string s] 106))))
  have HN := hide hn
  clear h hn
  cases t with
  | false =>
    go_enter Tryz.func193, Tryz.ntmps193
    go_wp2_with (first | (at_builtin; refine wpList_app (by rfl) (.tmp 5) (.tmp 9) 42 rfl ((unhide HR).kp0 ((Kp.refl [] _).alloc _)) n (unhide HN) (.slice (some ⟨w.heap.size + 1, 0, none⟩) 1 1) [b8 k] rfl rfl (one_src _ (by simp) (b8 k) _ (mod_b8 k)) (by simp; omega) ?_; intro g2 c2 n2 w2 hn2 hr2 hk2 hg2; obtain ⟨p1, p2, HQ2⟩ := box_far (unhide hk2) (unhide hg2) hlt.2) | (at_builtin; refine wpList_app (by rfl) (.tmp 15) (.tmp 16) 42 rfl ((unhide hr2).kp0 ((Kp.refl [] _).alloc _)) n2 (unhide hn2) (.slice (some ⟨w2.heap.size, 0, none⟩) 1 1) [255] rfl rfl (one_src _ rfl 255 _ rfl) (by simp; omega) ?_; intro g3 c3 n3 w3 hn3 hr3 hk3 hg3))
    go_ret
    exact apEnd_mk (by rw [unhide hn3]; simp [pb]) (by have := unhide hr3; simpa [pb] using this)
  | true =>
    go_enter Tryz.func193, Tryz.ntmps193
    go_wp2_with (first | (at_builtin; refine wpList_app (by rfl) (.tmp 5) (.tmp 9) 42 rfl ((unhide HR).kp0 ((Kp.refl [] _).alloc _)) n (unhide HN) (.slice (some ⟨w.heap.size + 1, 0, none⟩) 1 1) [b8 k] rfl rfl (one_src _ (by simp) (b8 k) _ (mod_b8 k)) (by simp; omega) ?_; intro g2 c2 n2 w2 hn2 hr2 hk2 hg2; obtain ⟨p1, p2, HQ2⟩ := box_far (unhide hk2) (unhide hg2) hlt.2) | (at_builtin; refine wpList_app (by rfl) (.tmp 18) (.tmp 24) 42 rfl ((unhide hr2).kp0 ((Kp.refl [] _).alloc _)) n2 (unhide hn2) (.slice (some ⟨w2.heap.size, 0, none⟩) 1 1) [b8 s.size] rfl rfl (one_src _ rfl (b8 s.size) _ (mod_b8 s.size)) (by simp; omega) ?_; intro g3 c3 n3 w3 hn3 hr3 hk3 hg3; have p3 := str_far (unhide hk3) (unhide HQ2) p2; clear p1 p2) | (at_builtin; refine wpList_app (by rfl) (.tmp 26) (.tmp 29) 9 rfl (unhide hr3) n3 (unhide hn3) (.string s) s.data.toList rfl rfl (str_src _ s) (by simp; omega) ?_; intro g4 c4 n4 w4 hn4 hr4 hk4 hg4))
    go_ret
    exact apEnd_mk (by rw [unhide hn4]; simp [pb]) (by have := unhide hr4; simpa [pb] using this)
end
/- append onto bytes that a call owns, whatever they are: nil, a row, nothing behind it. -/
section
open Go.RowKit
attribute [local go_sem ↓] Go.wp_at_zero Go.wp_at_succ

theorem kp_cut {w : World} {B : Nat} (h : B ≤ w.heap.size) : ∃ w0 : World, w0.heap.size = B ∧ Kp [] w0 w := by
  refine ⟨{ w with heap := w.heap.extract 0 B }, by simp; omega, rfl, rfl, rfl, by simp; omega, fun k hk _ => ?_⟩
  simp at hk
  simp only [Array.getElem?_extract]
  rw [if_pos (by omega), Nat.zero_add]

/-- The block behind an address. -/
def ob (a : Option Addr) : List Nat := match a with
  | none => []
  | some ad => [ad.block]
/-- Bytes that a call owns since B. -/
def OwnU (B : Nat) (w : World) (a : Option Addr) (cap : Nat) (bs : List UInt8) : Prop := w.ownsRow B 5 1 (.slice a bs.length cap) bs.length (bcells bs)

section
variable {B : Nat} {w w' : World} {a : Option Addr} {cap : Nat} {bs : List UInt8}
theorem ownU_nil (B : Nat) (w : World) : OwnU B w none 0 [] := World.ownsRow_nil _ _ _ _
theorem OwnU.cases (h : OwnU B w a cap bs) : (a = none ∧ cap = 0 ∧ bs = []) ∨ ∃ g, a = some ⟨g, 0, none⟩ ∧ B ≤ g ∧ g < w.heap.size ∧ bs.length ≤ cap := by
  have h' := h
  rcases h.2 with ⟨e, _⟩ | ⟨g, c, cur, e, h1, h2, h3, _⟩
  · simp only [Value.slice.injEq] at e
    exact .inl ⟨e.1, e.2.2, List.eq_nil_of_length_eq_zero e.2.1⟩
  · simp only [Value.slice.injEq, true_and] at e
    obtain ⟨rfl, rfl⟩ := e
    exact .inr ⟨g, rfl, h1, lt_of_block h2, h3⟩
theorem OwnU.lo (h : OwnU B w a cap bs) : ∀ x ∈ ob a, B ≤ x ∧ x < w.heap.size := by
  intro x hx
  rcases h.cases with ⟨rfl, _⟩ | ⟨g, rfl, h1, h2, _⟩
  · simp [ob] at hx
  · simp [ob] at hx; omega
theorem OwnU.kp {S : List Nat} (h : OwnU B w a cap bs) (hk : Kp S w w') (hS : ∀ x ∈ ob a, x ∉ S) : OwnU B w' a cap bs := by
  refine own_kp h hk (fun g hg => ?_)
  rcases h.cases with ⟨rfl, _⟩ | ⟨g', rfl, _⟩
  · simp [Value.ownBlock] at hg
  · have : g' = g := by simpa [Value.ownBlock] using hg
    subst this
    exact hS g' (by simp [ob])
theorem OwnU.kp0 (h : OwnU B w a cap bs) (hk : Kp [] w w') : OwnU B w' a cap bs := h.kp hk (fun _ _ => by simp)
theorem OwnU.base {C : Nat} (h : OwnU B w a cap bs) (hC : C ≤ B) : OwnU C w a cap bs := own_base h hC
theorem OwnU.le (h : OwnU B w a cap bs) : bs.length ≤ cap := by
  rcases h.cases with ⟨_, rfl, rfl⟩ | ⟨_, _, _, _, h⟩
  · simp
  · exact h
theorem Row.ownU {w0 : World} {g : Nat} (h : Row w0 w g cap bs) : OwnU w0.heap.size w (some ⟨g, 0, none⟩) cap bs := h.own
theorem OwnU.byt (h : OwnU B w a cap bs) : Byt w a bs := by
  rcases h.cases with ⟨_, _, rfl⟩ | ⟨g, rfl, _⟩
  · exact byt_nil _ _
  · refine fun _ => ⟨g, 0, rfl, fun j hj => ?_⟩
    have := World.ownsRow.cellAt h j (by omega)
    rw [Nat.zero_add, this, bcells_at hj]
/-- The first bytes of a row are a row. -/
theorem OwnU.take (h : OwnU B w a cap bs) (k : Nat) (hk : k ≤ bs.length) : OwnU B w a cap (bs.take k) := by
  have hl : (bs.take k).length = k := by simp; omega
  refine ⟨by rw [bcells_length]; omega, ?_⟩
  rcases h.2 with ⟨e, e2⟩ | ⟨g, c, cur, e, h1, h2, h3, h4, h5, h6⟩
  · have : k = 0 := by omega
    subst this
    simp only [Value.slice.injEq] at e
    exact .inl ⟨by simp [e.1, e.2.2], by simp⟩
  · simp only [Value.slice.injEq, true_and] at e
    obtain ⟨rfl, rfl⟩ := e
    refine .inr ⟨g, cap, cur, rfl, h1, h2, by omega, h4, h5, ?_⟩
    simp only [Nat.mul_one] at h6 ⊢
    have e2 : cur.toList.take k = (cur.toList.take bs.length).take k := by rw [List.take_take, Nat.min_eq_left hk]
    rw [hl, e2, h6]
    simp [bcells, List.map_take]

theorem run_appx (h : OwnU B w a cap bs) (hB : B ≤ w.heap.size) (tx ty : TypeId) (x : Value) (news : List UInt8) (hs : Src Tryz.prog 1 tx x news.length (bcells news) w) (hm : bs.length + news.length ≤ 100000) :
    ∃ a' cap' w', (Builtin.append_ #[42, tx] ty #[.slice a bs.length cap, x]).run Tryz.prog w = .ok (.slice a' (bs ++ news).length cap') w' ∧
      OwnU B w' a' cap' (bs ++ news) ∧ Kp (ob a) w w' ∧ (∀ x ∈ ob a', x ∈ ob a ∨ w.heap.size ≤ x) := by
  obtain ⟨w0, e0, hk0⟩ := kp_cut hB
  rcases h.cases with ⟨rfl, rfl, rfl⟩ | ⟨g, rfl, h1, h2, h3⟩
  · by_cases hp : 0 < news.length
    · obtain ⟨cap', w', hr, h4, h5⟩ := run_app_nil hk0 tx ty x news hs hp (by omega)
      refine ⟨_, _, w', hr, ?_, h5, fun y hy => .inr (by simp [ob] at hy; omega)⟩
      have := h4.ownU
      rw [e0] at this
      exact this
    · have e : news = [] := List.eq_nil_of_length_eq_zero (by omega)
      subst e
      obtain ⟨i0, hi0, hz0, hz1, hz2⟩ := info_parts Tryz.info5
      have hs' : Src Tryz.prog i0.size tx x 0 [] w := by rw [hz1]; exact hs
      have hr := run_append_nothing (P := Tryz.prog) w 42 tx ty 5 i0 Tryz.underlying42 hi0 none 0 0 (Nat.le_refl _) x hs'
      exact ⟨none, 0, w, hr, h, Kp.refl _ _, fun y hy => .inl hy⟩
  · have hrow : Row w0 w g cap bs := ⟨by rw [e0]; exact h, hk0⟩
    obtain ⟨g', cap', w', hr, h4, h5, h6⟩ := run_app hrow tx ty x news hs hm
    refine ⟨_, _, w', hr, ?_, h5, fun y hy => ?_⟩
    · have := h4.ownU
      rw [e0] at this
      exact this
    · simp only [ob, List.mem_singleton] at hy ⊢
      subst hy
      rcases h6 with e | e
      · exact .inl e
      · exact .inr (by omega)
end

theorem wpList_appx {ops : Array Oper} {rest : List Oper} {o : Oper} {ac : Act} {w : World} {Q : Exit → Act → World → Prop} (hw : Region.wanted o (yielded ops ac.tmps) = true) (s x : Operand) (tx : TypeId)
    (ho : o.op = .call { callee := .builtin .append, args := #[s, x], argTypes := #[42, tx] }) {B : Nat} {a : Option Addr} {cap : Nat} {bs : List UInt8} (h : OwnU B w a cap bs) (hB : B ≤ w.heap.size) (n : Nat) (hn : n = bs.length) (xv : Value) (news : List UInt8)
    (hs : ac.eval s = .slice a n cap) (hx : ac.eval x = xv) (hsrc : Src Tryz.prog 1 tx xv news.length (bcells news) w) (hm : bs.length + news.length ≤ 100000)
    (k : ∀ a' cap' n' w', Hid (n' = (bs ++ news).length) → Hid (OwnU B w' a' cap' (bs ++ news)) → Hid (Kp (ob a) w w') → Hid (∀ x ∈ ob a', x ∈ ob a ∨ w.heap.size ≤ x) → wpList Tryz.prog ops Q rest (ac.put o.dst (.slice a' n' cap')) w') : wpList Tryz.prog ops Q (o :: rest) ac w := by
  subst hn
  obtain ⟨a', cap', w', hr, h1, h2, h3⟩ := run_appx h hB tx o.type xv news hsrc hm
  refine wpList_step fun K hK => ?_
  rw [if_pos hw]
  unfold Oper.wp execOp
  simp only [ho, resolve, invoke, builtin, Sem.run_bind, Sem.run_pure, Result.andThen_ok, List.map_toArray, List.map_cons, List.map_nil, hs, hx, hr]
  exact hK _ _ (k a' cap' _ w' rfl h1 h2 h3)

theorem step_appx {ops : Array Oper} {o : Oper} {ac : Act} {w : World} {K : Act → World → Prop} {Q : Exit → Act → World → Prop} {E : Prop} (hgd : o.guard = none) (s x : Operand) (tx : TypeId)
    (ho : o.op = .call { callee := .builtin .append, args := #[s, x], argTypes := #[42, tx] }) {B : Nat} {a : Option Addr} {cap : Nat} {bs : List UInt8} (h : OwnU B w a cap bs) (hB : B ≤ w.heap.size) (n : Nat) (hn : n = bs.length) (xv : Value) (news : List UInt8)
    (hs : ac.eval s = .slice a n cap) (hx : ac.eval x = xv) (hsrc : Src Tryz.prog 1 tx xv news.length (bcells news) w) (hm : bs.length + news.length ≤ 100000)
    (k : ∀ a' cap' n' w', Hid (n' = (bs ++ news).length) → Hid (OwnU B w' a' cap' (bs ++ news)) → Hid (Kp (ob a) w w') → Hid (∀ x ∈ ob a', x ∈ ob a ∨ w.heap.size ≤ x) → K (ac.put o.dst (.slice a' n' cap')) w') :
    if Region.wanted o (yielded ops ac.tmps) = true then Oper.wp Tryz.prog o ac w K Q else E := by
  subst hn
  have hw : Region.wanted o (yielded ops ac.tmps) = true := by simp [Region.wanted, hgd]
  obtain ⟨a', cap', w', hr, h1, h2, h3⟩ := run_appx h hB tx o.type xv news hsrc hm
  rw [if_pos hw]
  unfold Oper.wp execOp
  simp only [ho, resolve, invoke, builtin, Sem.run_bind, Sem.run_pure, Result.andThen_ok, List.map_toArray, List.map_cons, List.map_nil, hs, hx, hr]
  exact k a' cap' _ w' rfl h1 h2 h3

/-- Behind bytes of no length: a copy. -/
theorem run_app_zero (w : World) (a : Option Addr) (tx ty : TypeId) (x : Value) (news : List UInt8) (hs : Src Tryz.prog 1 tx x news.length (bcells news) w) (hm : news.length ≤ 100000) :
    ∃ a' cap' w', (Builtin.append_ #[42, tx] ty #[.slice a 0 0, x]).run Tryz.prog w = .ok (.slice a' news.length cap') w' ∧ news.length ≤ cap' ∧ Byt w' a' news ∧ Kp [] w w' := by
  obtain ⟨i0, hi0, hz0, hz1, hz2⟩ := info_parts Tryz.info5
  have hs' : Src Tryz.prog i0.size tx x news.length (bcells news) w := by rw [hz1]; exact hs
  by_cases hp : 0 < news.length
  · have hge := grownCap_ge w (0 + news.length) 0 5
    have hfit : Builtin.nextslicecap (0 + news.length) 0 * i0.bytes ≤ 281474976710656 := growslice_fits (by omega) (by rw [hz2]; omega)
    have hfc : (Builtin.firstCells i0.size 0 (.slice a 0 0)).run Tryz.prog w.drew = .ok ([] : List Value).toArray w.drew := by
      cases a with
      | none => exact run_firstCells_none w.drew i0.size 0 0 0
      | some ad => exact run_firstCells_some w.drew i0.size 0 ad 0 0 [] (by simp) (by simp)
    have hr := run_append_grow_src (P := Tryz.prog) w 42 tx ty 5 i0 _ Tryz.underlying42 hi0 hz0 a 0 0 [] hfc x news.length (bcells news) hs' (by omega) (by omega) hfit
    rw [List.nil_append, Nat.zero_add] at hr
    refine ⟨_, _, _, hr, by rw [Nat.zero_add] at hge; exact hge, ?_, ((Kp.refl [] w).drew.alloc _)⟩
    exact (grown_row (Kp.refl [] w) news _ (by rw [Nat.zero_add] at hge; exact hge) (grownCap_le_maxLen w _ _ _ (by unfold maxLen; omega)) _ (by rw [size_zeroCells]; simp [Value.cells])).byt
  · have e : news = [] := List.eq_nil_of_length_eq_zero (by omega)
    subst e
    have hr := run_append_nothing (P := Tryz.prog) w 42 tx ty 5 i0 Tryz.underlying42 hi0 a 0 0 (Nat.le_refl _) x hs'
    exact ⟨a, 0, w, hr, by simp, byt_nil _ _, Kp.refl _ _⟩

theorem wpList_app0 {ops : Array Oper} {rest : List Oper} {o : Oper} {ac : Act} {w : World} {Q : Exit → Act → World → Prop} (hw : Region.wanted o (yielded ops ac.tmps) = true) (s x : Operand) (tx : TypeId)
    (ho : o.op = .call { callee := .builtin .append, args := #[s, x], argTypes := #[42, tx] }) (a : Option Addr) (xv : Value) (news : List UInt8)
    (hs : ac.eval s = .slice a 0 0) (hx : ac.eval x = xv) (hsrc : Src Tryz.prog 1 tx xv news.length (bcells news) w) (hm : news.length ≤ 100000)
    (k : ∀ a' cap' n' w', Hid (n' = news.length) → Hid (n' ≤ cap') → Hid (Byt w' a' news) → Hid (Kp [] w w') → wpList Tryz.prog ops Q rest (ac.put o.dst (.slice a' n' cap')) w') : wpList Tryz.prog ops Q (o :: rest) ac w := by
  obtain ⟨a', cap', w', hr, h1, h2, h3⟩ := run_app_zero w a tx o.type xv news hsrc hm
  refine wpList_step fun K hK => ?_
  rw [if_pos hw]
  unfold Oper.wp execOp
  simp only [ho, resolve, invoke, builtin, Sem.run_bind, Sem.run_pure, Result.andThen_ok, List.map_toArray, List.map_cons, List.map_nil, hs, hx, hr]
  exact hK _ _ (k a' cap' _ w' rfl h1 h2 h3)
end
/- Rows of one-cell elements (pointers) of which a part may have been cut off: append onto them, and their first ones. -/
section
open Go.RowKit

section
variable {e : TypeId} {B : Nat} {w w' : World} {a : Option Addr} {n cap : Nat} {xs : List Value}
end

end
/- Encode, by its contract. -/
section
open Go.RowKit
attribute [local go_sem ↓] Go.wp_at_zero Go.wp_at_succ

theorem pf_str {a : Int} {ps : List Ver} (h : pf a ps = 0) : ∀ k, k < ps.length → (vb ps k).size ≤ 12 := by
  induction ps generalizing a with
  | nil => intro k hk; simp at hk
  | cons p r ih =>
    obtain ⟨_, _, _, h4, h5⟩ := pf_cons h
    intro k hk
    cases k with
    | zero => simpa [vb] using (chk_zero h4).1
    | succ k => have := ih h5 k (by simpa using hk); simpa [vb] using this

theorem take_succ_ver {ps : List Ver} {k : Nat} (h : k < ps.length) : ps.take (k + 1) = ps.take k ++ [⟨va ps k, vt ps k, vb ps k⟩] := by
  have e : (⟨va ps k, vt ps k, vb ps k⟩ : Ver) = ps[k] := by simp [va, vt, vb, List.getD_eq_getElem?_getD, List.getElem?_eq_getElem h]
  rw [e, List.take_succ_eq_append_getElem h]
theorem pbs_take_succ {ps : List Ver} {k : Nat} (h : k < ps.length) : pbs (ps.take (k + 1)) = pbs (ps.take k) ++ pb ⟨va ps k, vt ps k, vb ps k⟩ := by
  rw [take_succ_ver h, pbs_append]
  simp [pbs]
theorem pbs_take_le (ps : List Ver) (k : Nat) : (pbs (ps.take k)).length ≤ (pbs ps).length := by
  have := congrArg (fun l => (pbs l).length) (List.take_append_drop k ps)
  simp only [pbs_append, List.length_append] at this
  omega

theorem Row.head {w0 w : World} {g cap : Nat} {u : UInt8} {bs : List UInt8} (h : Row w0 w g cap (u :: bs)) : w.cell? ⟨g, 0, none⟩ = some (.int .u8 u.toNat) ∧ w.frozen? ⟨g, 0, none⟩ = false := by
  refine ⟨by simpa [ub] using h.slu 0 (by simp), ?_⟩
  rcases h.own.2 with ⟨e, _⟩ | ⟨g2, c2, cur, e, q1, q2, q3, q4, q5, q6⟩
  · simp at e
  · simp only [Value.slice.injEq, Option.some.injEq, Addr.mk.injEq, and_true, true_and] at e
    obtain ⟨rfl, rfl⟩ := e
    exact frozen_of_block _ q2
theorem Row.set0 {w0 w : World} {g cap : Nat} {u : UInt8} {bs : List UInt8} (h : Row w0 w g cap (u :: bs)) (v : UInt8) (x : Int) (hx : x = (v.toNat : Int)) : Row w0 (w.setCell ⟨g, 0, none⟩ (.int .u8 x)) g cap (v :: bs) := by
  subst hx
  have hlt := h.lt
  refine ⟨⟨by simp [bcells_length], ?_⟩, h.kp.setCell (.inr hlt.1) _⟩
  rcases h.own.2 with ⟨e, _⟩ | ⟨g2, c2, cur, e, q1, q2, q3, q4, q5, q6⟩
  · simp at e
  · simp only [Value.slice.injEq, Option.some.injEq, Addr.mk.injEq, and_true, true_and] at e
    obtain ⟨rfl, rfl⟩ := e
    refine .inr ⟨g, cap, _, by simp, q1, heap_setCell_at 0 _ q2, by simpa using q3, q4, by simpa using q5, ?_⟩
    simp only [Nat.mul_one, List.length_cons] at q6 ⊢
    rw [Array.toList_setIfInBounds, List.take_set, q6]
    simp [bcells]

/-- At the head of a round: the bytes of the first k pairs, behind others. -/
structure EnI (w : World) (hd : List UInt8) (ps : List Ver) (k g cap n : Nat) (wr : World) : Prop where
  len : n = (hd ++ pbs (ps.take k)).length
  row : Row w wr g cap (hd ++ pbs (ps.take k))
theorem EnI.next {w wr : World} {hd : List UInt8} {ps : List Ver} {k g cap n : Nat} (hk : k < ps.length) (hn : n = (hd ++ pbs (ps.take k) ++ pb ⟨va ps k, vt ps k, vb ps k⟩).length) (hr : Row w wr g cap (hd ++ pbs (ps.take k) ++ pb ⟨va ps k, vt ps k, vb ps k⟩)) : EnI w hd ps (k + 1) g cap n wr := by
  rw [List.append_assoc, ← pbs_take_succ hk] at hn hr
  exact ⟨hn, hr⟩
theorem EnI.last {w wr : World} {hd : List UInt8} {ps : List Ver} {g cap n : Nat} (h : EnI w hd ps ps.length g cap n wr) : n = (hd ++ pbs ps).length ∧ Row w wr g cap (hd ++ pbs ps) := by
  obtain ⟨h1, h2⟩ := h
  rw [List.take_length] at h1 h2
  exact ⟨h1, h2⟩
theorem enI_start (w W : World) (hk : Kp [] w W) (ps : List Ver) (hd : List UInt8) (cs : Array Value) (hc : cs.toList = bcells hd) (hm : hd.length ≤ 1000) (g c : Nat) (hg : g = W.heap.size) (h2 : c = hd.length) : EnI w hd ps 0 g c c (W.alloc (.cells cs 5)) := by
  subst hg
  subst h2
  have := row_lit w W hk hd cs hc hm
  exact ⟨by simp [pbs], by simpa [pbs] using this⟩

def EncEnd (ps : List Ver) (w : World) (e : Ending) (w' : World) : Prop := ∃ g cap n, e = .returned (.tuple #[.slice (some ⟨g, 0, none⟩) n cap, .int .i64 0]) ∧ n = (enc ps).length ∧ Row w w' g cap (enc ps)
theorem encEnd_mk {ps : List Ver} {w W : World} {g cap n : Nat} {x : Int} (hx : x = (n : Int) % 256) (hr : n = ([0, b8 ps.length] ++ pbs ps).length ∧ Row w W g cap ([0, b8 ps.length] ++ pbs ps)) :
    EncEnd ps w (.returned (.tuple #[.slice (some ⟨g, 0, none⟩) n cap, .int .i64 0])) (W.setCell ⟨g, 0, none⟩ (.int .u8 x)) := by
  obtain ⟨h1, h2⟩ := hr
  refine ⟨g, cap, n, rfl, by rw [h1]; simp [enc], h2.set0 (b8 ((pbs ps).length + 2 : Nat)) x ?_⟩
  rw [hx, ← mod_b8, h1]
  simp; omega

set_option maxHeartbeats 1000000 in
theorem encode_ok (a : Option Addr) (c : Nat) (ps : List Ver) (w : World) (h : Prs w a ps) (hp : pf (-1) ps = 0) :
    Calls Tryz.prog 192 #[.slice a ps.length c] w fun e w' => EncEnd ps w e w' := by
  have h8 := pf_len8 hp
  have h112 := pbs_len112 hp
  have HP := hide h
  have HS := hide (pf_str hp)
  have HPF := hide hp
  clear h hp
  go_enter Tryz.func192, Tryz.ntmps192
  go_wp2_with fail
  refine (tcheck36 a c ps w (unhide HP) (by omega)).mono ?_
  rintro e w1 ⟨rfl, hk1⟩
  have HK1 := hide hk1
  clear hk1
  rw [unhide HPF]
  go_wp2_with fail
  go_loopw [5, 19] (fun b i wr => ∃ k g cap n : Nat, k ≤ ps.length ∧ b = .slice (some ⟨g, 0, none⟩) n cap ∧ i = .int .i64 k ∧ Hid (EnI w [0, b8 ps.length] ps k g cap n wr)) (fun _ i _ => ps.length - (intOf i).toNat)
  case atStart => exact ⟨0, w1.heap.size, 2, 2, by omega, rfl, rfl, enI_start w w1 (unhide HK1) ps [0, b8 ps.length] _ (by simp [bcells, ← mod_b8]; omega) (by simp) _ _ rfl rfl⟩
  case round =>
    obtain ⟨k, g, cap, n, hk, rfl, rfl, HE⟩ := hrel
    by_cases hlt : k < ps.length
    · obtain ⟨ga, o, rfl, hs⟩ := (unhide HP).mem (by omega)
      have hs2 := hs.kp (unhide HE).row.kp (by simp)
      have q0 := hs2.at0 k hlt
      have q1 := hs2.at1 k hlt
      have q2 := hs2.at2 k hlt
      have i0 : (0 : Int) ≤ (k : Int) := by omega
      have i1 : (k : Int) < (ps.length : Int) := by omega
      clear hs hs2
      go_wp2_with fail
      refine (appendPair17 (va ps k) (vt ps k) (vb ps k) ((unhide HE).row.kp0 ((Kp.refl [] _).alloc _)) (unhide HE).len (by have := pbs_take_le ps k; simp; omega) (by have := unhide HS k hlt; omega)).mono ?_
      rintro e w2 ⟨g2, c2, n2, rfl, hn2, hr2⟩
      have HE2 := hide (EnI.next hlt hn2 hr2)
      clear hn2 hr2
      go_wp2_with fail
      exact ⟨⟨k + 1, g2, c2, n2, by omega, rfl, by go_num, HE2⟩, by simp [intOf]; omega⟩
    · have e : k = ps.length := by omega
      subst e
      have hl := (unhide HE).last
      obtain ⟨y0, y1⟩ := Row.head hl.2
      have HLL := hide hl
      have hn0 : 0 < n := by rw [hl.1]; simp
      clear hl
      go_wp2_with fail
      go_ret2
      exact encEnd_mk rfl (unhide HLL)

theorem encode_bad (a : Option Addr) (c : Nat) (ps : List Ver) (w : World) (h : Prs w a ps) (hm : ps.length ≤ 1000) (hp : pf (-1) ps ≠ 0) :
    Calls Tryz.prog 192 #[.slice a ps.length c] w fun e w' => e = .returned (.tuple #[.slice none 0 0, .int .i64 (pf (-1) ps)]) ∧ Kp [] w w' := by
  have hc := tcheck36 a c ps w h (by omega)
  generalize pf (-1) ps = q at *
  have HC := hide hc
  clear h hc
  go_enter Tryz.func192, Tryz.ntmps192
  go_wp2_with fail
  refine (unhide HC).mono ?_
  rintro e w1 ⟨rfl, hk1⟩
  have HK1 := hide hk1
  clear hk1
  go_wp2_with fail
  go_ret2
  exact ⟨rfl, unhide HK1⟩
end
/- Parts of bytes, and as a string; readPair, by its contract. -/
section
open Go.RowKit
attribute [local go_sem ↓] Go.wp_at_zero Go.wp_at_succ

theorem elem_u8 : Tryz.prog.elem 42 = 5 := by simp [Program.elem, Tryz.underlying42]
theorem size_u8 (W : World) : (sizeOf 5).run Tryz.prog W = .ok 1 W := by
  obtain ⟨i0, hi0, hz0, hz1, hz2⟩ := info_parts Tryz.info5
  simp [sizeOf, typeInfo, hi0, hz1]
theorem under_u8 : Tryz.prog.underlying 42 = some (.slice (Tryz.prog.elem 42)) := by rw [elem_u8]; exact Tryz.underlying42

/-- The bytes of a part lie where the part does. -/
theorem sliced_byt {w : World} {a : Option Addr} {bs : List UInt8} (h : Byt w a bs) {l k c : Nat} (hlk : l ≤ k) (hk : k ≤ bs.length) (hc : bs.length ≤ c) : Byt w (if c = l then a else a.map (·.add (l * 1))) ((bs.take k).drop l) := by
  intro hp
  have hp' : l < k := by simp at hp; omega
  rw [if_neg (by omega)]
  obtain ⟨g, o, rfl, hs⟩ := h (by omega)
  exact ⟨g, o + l, by simp [addr_add], (hs.take k).drop l⟩

/-- 'b[l:k]'. -/
theorem part_lh {w : World} {a : Option Addr} {bs : List UInt8} (h : Byt w a bs) (l k c n : Nat) (hlk : l ≤ k) (hk : k ≤ bs.length) (hc : bs.length ≤ c) (x y : Int) (hx : x = l) (hy : y = k) :
    ∃ a', (∀ W, (Instr.slice 42 (.slice a n c) (some (.int .i64 x)) (some (.int .i64 y)) none).run Tryz.prog W = .ok (.slice a' (k - l) (c - l)) W) ∧ Byt w a' ((bs.take k).drop l) := by
  refine ⟨_, fun W => ?_, sliced_byt h hlk hk hc⟩
  subst hx hy
  rw [run_slice_lh W 42 a n c under_u8 .i64 .i64 _ _ (by omega) (by omega) (by omega), elem_u8, size_u8]
  simp [Result.andThen, sliced]
/-- 'b[l:]'. -/
theorem part_l {w : World} {a : Option Addr} {bs : List UInt8} (h : Byt w a bs) (l c n : Nat) (hn : n = bs.length) (hl : l ≤ bs.length) (hc : bs.length ≤ c) (x : Int) (hx : x = l) :
    ∃ a', (∀ W, (Instr.slice 42 (.slice a n c) (some (.int .i64 x)) none none).run Tryz.prog W = .ok (.slice a' (n - l) (c - l)) W) ∧ Byt w a' (bs.drop l) := by
  refine ⟨_, fun W => ?_, by have := sliced_byt h hl (Nat.le_refl _) hc; rwa [List.take_length] at this⟩
  subst hx
  rw [run_slice_l W 42 a n c under_u8 .i64 _ (by omega) (by omega), elem_u8, size_u8]
  simp [Result.andThen, sliced]
/-- 'string(b)'. -/
theorem str_of {w : World} {a : Option Addr} {bs : List UInt8} (h : Byt w a bs) (n c : Nat) (hn : n = bs.length) (W : World) (hk : Kp [] w W) : (convert 42 9 (.slice a n c)).run Tryz.prog W = .ok (.string ⟨bs.toArray⟩) W := by
  subst hn
  have hb := h.kp0 hk
  cases a with
  | none =>
    have e : bs = [] := by
      rcases Nat.eq_zero_or_pos bs.length with e | e
      · exact List.eq_nil_of_length_eq_zero e
      · obtain ⟨g, o, e2, _⟩ := h e
        cases e2
    subst e
    show (convert 42 9 (.slice none 0 c)).run Tryz.prog W = _
    rw [run_convert_bytes_string W 42 9 5 none 0 c Tryz.underlying42 Tryz.underlying5 Tryz.underlying9]
    rfl
  | some ad =>
    refine run_convert_bytes_back W 42 9 5 ad c bs Tryz.underlying42 Tryz.underlying5 Tryz.underlying9 (fun j hj => ?_)
    obtain ⟨g, o, e, hs⟩ := hb (by omega)
    cases e
    rw [addr_add, hs j hj]
    simp [ub, List.getD_eq_getElem?_getD, List.getElem?_eq_getElem hj]

/-- What readPair tells: the pair, how many bytes, whether it is one. -/
def rd1 (bs : List UInt8) : Ver × Nat × Bool :=
  if bs.length < 2 then (dv, 0, false)
  else if ub bs 1 = 255 then (⟨ub bs 0, false, ByteArray.empty⟩, 2, true)
  else if bs.length < 2 + ub bs 1 then (dv, 0, false)
  else (⟨ub bs 0, true, ⟨((bs.take (2 + ub bs 1)).drop 2).toArray⟩⟩, 2 + ub bs 1, true)

theorem kp_set3 {w W : World} {u0 u1 u2 : Value} (h : Kp [] w W) : Kp [] w (((W.setCell ⟨w.heap.size, 0, none⟩ u0).setCell ⟨w.heap.size, 1, none⟩ u1).setCell ⟨w.heap.size, 2, none⟩ u2) :=
  ((h.setCell (.inr (Nat.le_refl _)) _).setCell (.inr (Nat.le_refl _)) _).setCell (.inr (Nat.le_refl _)) _
def Rd1End (R : Ver × Nat × Bool) (w : World) (e : Ending) (w' : World) : Prop :=
  e = .returned (.tuple #[.agg #[.int .i64 R.1.a, .bool R.1.t, .string R.1.s], .int .i64 R.2.1, .bool R.2.2]) ∧ Kp [] w w'

set_option maxHeartbeats 1000000 in
theorem readPair23 (a : Option Addr) (n c : Nat) (bs : List UInt8) (w : World) (h : Byt w a bs) (hn : n = bs.length) (hc : n ≤ c) (hm : bs.length ≤ 10000) :
    Calls Tryz.prog 189 #[.slice a n c] w fun e w' => Rd1End (rd1 bs) w e w' := by
  by_cases h2 : bs.length < 2
  · have e1 : rd1 bs = (dv, 0, false) := by unfold rd1; rw [if_pos h2]
    rw [e1]
    have hn2 : n < 2 := by omega
    clear h e1 hn
    go_enter Tryz.func189, Tryz.ntmps189
    go_wp2_with fail
    exact bodyPost_ret (v := .tuple #[.agg #[.int .i64 0, .bool false, .string ByteArray.empty], .int .i64 0, .bool false]) (by simp [results, Tryz.results189, go_sem]; rfl) rfl ⟨rfl, (Kp.refl [] w).alloc _⟩
  · obtain ⟨g, o, rfl, hs⟩ := h (by omega)
    have q0 := hs 0 (by omega)
    have q1 := hs 1 (by omega)
    have hg : g < w.heap.size := World.block_lt_of_cell? w _ q0
    have u0 := ub_lt bs 0
    have u1 := ub_lt bs 1
    have HB := hide h
    have hn2 : ¬ n < 2 := by omega
    have i0 : (0 : Int) < (n : Int) := by omega
    have i1 : (1 : Int) < (n : Int) := by omega
    have j0 : 0 < n := by omega
    have j1 : 1 < n := by omega
    have HN := hide hn
    have HC := hide hc
    simp only [Nat.add_zero] at q0
    clear h hs hn hc
    by_cases h255 : ub bs 1 = 255
    · have e1 : rd1 bs = (⟨ub bs 0, false, ByteArray.empty⟩, 2, true) := by unfold rd1; rw [if_neg h2, if_pos h255]
      rw [e1]
      rw [h255] at q1
      clear e1 h255 u1
      generalize ub bs 0 = x at *
      go_enter Tryz.func189, Tryz.ntmps189
      go_wp2_with fail
      go_quiet (fail)
      go_wp2_with fail
      exact bodyPost_ret (v := .tuple #[.agg #[.int .i64 x, .bool false, .string ByteArray.empty], .int .i64 2, .bool true]) (by simp [results, Tryz.results189, go_sem]; rfl) rfl ⟨rfl, kp_set3 (((Kp.refl [] w).alloc _).drewN _)⟩
    · by_cases hl : bs.length < 2 + ub bs 1
      · have e1 : rd1 bs = (dv, 0, false) := by unfold rd1; rw [if_neg h2, if_neg h255, if_pos hl]
        rw [e1]
        have k0 : (n : Int) < 2 + (ub bs 1 : Nat) := by have := unhide HN; omega
        have k1 : ¬ ((ub bs 1 : Nat) : Int) = 255 := by omega
        clear e1 h255 hl
        generalize ub bs 0 = x at *
        generalize ub bs 1 = l at *
        go_enter Tryz.func189, Tryz.ntmps189
        go_wp2_with fail
        go_quiet (fail)
        go_wp2_with fail
        exact bodyPost_ret (v := .tuple #[.agg #[.int .i64 0, .bool false, .string ByteArray.empty], .int .i64 0, .bool false]) (by simp [results, Tryz.results189, go_sem]; rfl) rfl ⟨rfl, kp_set3 (((Kp.refl [] w).alloc _).drewN _)⟩
      · have e1 : rd1 bs = (⟨ub bs 0, true, ⟨((bs.take (2 + ub bs 1)).drop 2).toArray⟩⟩, 2 + ub bs 1, true) := by unfold rd1; rw [if_neg h2, if_neg h255, if_neg hl]
        rw [e1]
        have k0 : ¬ (n : Int) < 2 + (ub bs 1 : Nat) := by have := unhide HN; omega
        have k1 : ¬ ((ub bs 1 : Nat) : Int) = 255 := by omega
        have k2 : 2 + ub bs 1 ≤ c := by have := unhide HN; have := unhide HC; omega
        obtain ⟨a2, hsl, hb2⟩ := part_lh (unhide HB) 2 (2 + ub bs 1) c n (by omega) (by omega) (by have := unhide HN; have := unhide HC; omega) 2 (2 + (ub bs 1 : Nat)) rfl (by omega)
        have e2 : 2 + ub bs 1 - 2 = ub bs 1 := by omega
        rw [e2] at hsl
        have hl2 : ub bs 1 = ((bs.take (2 + ub bs 1)).drop 2).length := by simp; omega
        have hcv := fun m => str_of hb2 (ub bs 1) (c - 2) hl2 ((w.alloc (.cells #[.int .i64 0, .bool false, .string ⟨#[]⟩] 106)).drewN m) (((Kp.refl [] w).alloc _).drewN m)
        clear e1 e2 h255 hl hl2 hb2
        generalize (bs.take (2 + ub bs 1)).drop 2 = sb at *
        generalize ub bs 0 = x at *
        generalize ub bs 1 = l at *
        go_enter Tryz.func189, Tryz.ntmps189
        go_wp2_with fail
        go_quiet (fail)
        go_wp2_with fail
        exact bodyPost_ret (v := .tuple #[.agg #[.int .i64 x, .bool true, .string ⟨sb.toArray⟩], .int .i64 (2 + l : Nat), .bool true]) (by simp [results, Tryz.results189, go_sem]) rfl ⟨rfl, (kp_set3 (((Kp.refl [] w).alloc _).drewN _)).alloc _⟩
end
/- A log's memory; New, Len, Mend and Bytes of a log, by their contracts. -/
section
open Go.RowKit
attribute [local go_sem ↓] Go.wp_at_zero Go.wp_at_succ

/-- A log's memory: the box gb holds its bytes, how many of them are whole commits, and how many commits; F: all blocks that are the log's own. -/
structure LgL (B : Nat) (w : World) (gb : Nat) (F : List Nat) (a : Option Addr) (cap : Nat) (cs : List (List Ver)) (torn : List UInt8) : Prop where
  box : w.heap[gb]? = some (.cells #[.slice a (lb cs ++ torn).length cap, .int .i64 (lb cs).length, .int .i64 cs.length] 144 (0, 0))
  own : OwnU B w a cap (lb cs ++ torn)
  ne : gb ∉ ob a
  gF : gb ∈ F
  aF : ∀ x, x ∈ ob a → x ∈ F
  lo : ∀ x, x ∈ F → B ≤ x ∧ x < w.heap.size
  inv : LInv cs
  tl : torn.length ≤ 114
  hB : B ≤ w.heap.size
def Lg (B : Nat) (w : World) (gb : Nat) (F : List Nat) (cs : List (List Ver)) (torn : List UInt8) : Prop := ∃ a cap, LgL B w gb F a cap cs torn

section
variable {B : Nat} {w w' : World} {gb : Nat} {F S : List Nat} {a : Option Addr} {cap : Nat} {cs : List (List Ver)} {torn : List UInt8}
theorem LgL.kp (h : LgL B w gb F a cap cs torn) (hk : Kp S w w') (hS : ∀ x, x ∈ F → x ∉ S) : LgL B w' gb F a cap cs torn :=
  ⟨by rw [hk.block gb (h.lo gb h.gF).2 (hS _ h.gF)]; exact h.box, h.own.kp hk (fun x hx => hS x (h.aF x hx)), h.ne, h.gF, h.aF, fun x hx => ⟨(h.lo x hx).1, Nat.lt_of_lt_of_le (h.lo x hx).2 hk.size⟩, h.inv, h.tl, Nat.le_trans h.hB hk.size⟩
theorem Lg.kp (h : Lg B w gb F cs torn) (hk : Kp S w w') (hS : ∀ x, x ∈ F → x ∉ S) : Lg B w' gb F cs torn := by
  obtain ⟨a, cap, h⟩ := h
  exact ⟨a, cap, h.kp hk hS⟩
theorem Lg.kp0 (h : Lg B w gb F cs torn) (hk : Kp [] w w') : Lg B w' gb F cs torn := h.kp hk (fun _ _ => by simp)
theorem Lg.lo (h : Lg B w gb F cs torn) : ∀ x, x ∈ F → B ≤ x ∧ x < w.heap.size := by
  obtain ⟨a, cap, h⟩ := h
  exact h.lo
theorem Lg.inv (h : Lg B w gb F cs torn) : LInv cs := by
  obtain ⟨a, cap, h⟩ := h
  exact h.inv
theorem Lg.base {C : Nat} (h : Lg B w gb F cs torn) (hC : C ≤ B) : Lg C w gb F cs torn := by
  obtain ⟨a, cap, h⟩ := h
  exact ⟨a, cap, h.box, h.own.base hC, h.ne, h.gF, h.aF, fun x hx => ⟨Nat.le_trans hC (h.lo x hx).1, (h.lo x hx).2⟩, h.inv, h.tl, Nat.le_trans hC h.hB⟩
theorem LgL.c0 (h : LgL B w gb F a cap cs torn) : w.cell? ⟨gb, 0, none⟩ = some (.slice a (lb cs ++ torn).length cap) := cell_of_block h.box rfl
theorem LgL.c1 (h : LgL B w gb F a cap cs torn) : w.cell? ⟨gb, 1, none⟩ = some (.int .i64 (lb cs).length) := cell_of_block h.box rfl
theorem LgL.c2 (h : LgL B w gb F a cap cs torn) : w.cell? ⟨gb, 2, none⟩ = some (.int .i64 cs.length) := cell_of_block h.box rfl
theorem LgL.fz (h : LgL B w gb F a cap cs torn) (i : Nat) : w.frozen? ⟨gb, i, none⟩ = false := frozen_of_block i h.box
end

set_option maxHeartbeats 400000 in
theorem lnew (w : World) : Calls Tryz.prog 42 #[] w fun e w' => e = .returned (.pointer (some ⟨w.heap.size, 0, none⟩)) ∧ Lg w.heap.size w' w.heap.size [w.heap.size] [] [] ∧ Kp [] w w' := by
  go_enter Tryz.func42, Tryz.ntmps42
  go_wp2
  go_ret
  refine ⟨rfl, ⟨none, 0, ?_, ownU_nil _ _, by simp [ob], by simp, by simp [ob], fun x hx => ?_, linv_nil, by simp, by simp⟩, (Kp.refl [] w).alloc _⟩
  · exact heap_alloc_new w _
  · simp at hx; subst hx; simp

/-- 'b[:k]' of a row begins where it begins. -/
theorem own_part {B : Nat} {w : World} {a : Option Addr} {cap : Nat} {bs : List UInt8} (h : OwnU B w a cap bs) (k n : Nat) (hk : k ≤ bs.length) (x : Int) (hx : x = k) (W : World) :
    (Instr.slice 42 (.slice a n cap) none (some (.int .i64 x)) none).run Tryz.prog W = .ok (.slice a k cap) W := by
  subst hx
  have hc := h.le
  rw [run_slice_h W 42 a n cap under_u8 .i64 _ (by omega) (by omega), elem_u8, size_u8]
  rcases h.cases with ⟨rfl, rfl, rfl⟩ | ⟨g, rfl, _⟩
  · simp [Result.andThen, sliced]
  · simp [Result.andThen, sliced, addr_add]

theorem LgL.mend {B : Nat} {w : World} {gb : Nat} {F : List Nat} {a : Option Addr} {cap : Nat} {cs : List (List Ver)} {torn : List UInt8} (h : LgL B w gb F a cap cs torn) :
    LgL B (w.setCell ⟨gb, 0, none⟩ (.slice a (lb cs).length cap)) gb F a cap cs [] ∧ Kp F w (w.setCell ⟨gb, 0, none⟩ (.slice a (lb cs).length cap)) := by
  have hk : Kp [gb] w (w.setCell ⟨gb, 0, none⟩ (.slice a (lb cs).length cap)) := (Kp.refl [gb] w).setCell (.inl (by simp)) _
  refine ⟨⟨?_, ?_, h.ne, h.gF, h.aF, fun x hx => ⟨(h.lo x hx).1, Nat.lt_of_lt_of_le (h.lo x hx).2 hk.size⟩, h.inv, by simp, Nat.le_trans h.hB hk.size⟩, hk.mono (fun x hx => .inl (by rw [List.mem_singleton.1 hx]; exact h.gF))⟩
  · rw [heap_setCell_at 0 _ h.box, List.append_nil]
    rfl
  · have := (h.own.take (lb cs).length (by simp)).kp hk (fun x hx e => h.ne (by rw [← List.mem_singleton.1 e]; exact hx))
    rw [List.take_left] at this
    rw [List.append_nil]
    exact this

set_option maxHeartbeats 400000 in
theorem lmend {B gb : Nat} {F : List Nat} {cs : List (List Ver)} {torn : List UInt8} (w : World) (h : Lg B w gb F cs torn) :
    Calls Tryz.prog 126 #[.pointer (some ⟨gb, 0, none⟩)] w fun e w' => e = .returned (.int .i64 torn.length) ∧ Lg B w' gb F cs [] ∧ Kp F w w' := by
  obtain ⟨a, cap, h⟩ := h
  have q0 := h.c0
  have q1 := h.c1
  have f0 := h.fz 0
  have hsl := own_part h.own (lb cs).length (lb cs ++ torn).length (by simp) _ rfl
  have hb := h.inv.b3000
  have ht := h.tl
  have hl : (lb cs ++ torn).length = (lb cs).length + torn.length := by simp
  have HM : Hid (∀ W, Kp [] w W → Lg B (W.setCell ⟨gb, 0, none⟩ (.slice a (lb cs).length cap)) gb F cs [] ∧ Kp F w (W.setCell ⟨gb, 0, none⟩ (.slice a (lb cs).length cap))) := fun W hW => by
    obtain ⟨h1, h2⟩ := (h.kp hW (fun _ _ => by simp)).mend
    exact ⟨⟨a, cap, h1⟩, (hW.mono (fun x hx => by simp at hx)).trans h2 (fun x hx => .inl hx)⟩
  rw [hl] at q0 hsl
  clear h hl
  generalize (lb cs).length = n at *
  generalize hT : torn.length = t at *
  clear hT
  go_enter Tryz.func126, Tryz.ntmps126
  go_wp2_with fail
  go_quiet (fail)
  go_wp2_with fail
  go_region
  go_wp2_with fail
  go_ret
  obtain ⟨h1, h2⟩ := unhide HM _ ((Kp.refl [] w).drewN _).drew
  exact ⟨ret_int (by omega), h1, h2⟩

/-- A copy of bytes. -/
def BtEnd (bs : List UInt8) (w : World) (e : Ending) (w' : World) : Prop := ∃ a n cap, e = .returned (.slice a n cap) ∧ n = bs.length ∧ n ≤ cap ∧ Byt w' a bs ∧ Kp [] w w'

set_option maxHeartbeats 400000 in
theorem clone45 {B : Nat} {a : Option Addr} {cap : Nat} {bs : List UInt8} (w : World) (h : OwnU B w a cap bs) (hm : bs.length ≤ 10000) :
    Calls Tryz.prog 163 #[.slice a bs.length cap] w fun e w' => BtEnd bs w e w' := by
  have hnil := fun wx a n c n' c' => Lib.run_eql_slice_nil (P := Tryz.prog) wx 42 5 a n c n' c' Tryz.underlying42
  rcases h.cases with ⟨rfl, rfl, rfl⟩ | ⟨g, rfl, _, _, _⟩
  · clear h
    go_enter Tryz.func163, Tryz.ntmps163
    go_wp2
    go_ret
    exact ⟨none, 0, 0, rfl, rfl, by simp, byt_nil _ _, Kp.refl _ _⟩
  · have HB := hide (h.byt.kp0 ((Kp.refl [] w).alloc (.cells #[] 5)))
    clear h
    go_enter Tryz.func163, Tryz.ntmps163
    go_wp2_with (at_builtin; refine wpList_app0 (by rfl) (.tmp 5) (.tmp 6) 42 rfl _ (.slice (some ⟨g, 0, none⟩) bs.length cap) bs rfl rfl ((unhide HB).src cap) (by omega) ?_; intro a2 c2 n2 w2 hn2 hc2 hb2 hk2)
    go_ret
    exact ⟨a2, n2, c2, rfl, unhide hn2, unhide hc2, unhide hb2, ((Kp.refl [] w).alloc _).trans0 (unhide hk2)⟩

set_option maxHeartbeats 400000 in
theorem lbytes {B gb : Nat} {F : List Nat} {cs : List (List Ver)} {torn : List UInt8} (w : World) (h : Lg B w gb F cs torn) :
    Calls Tryz.prog 128 #[.pointer (some ⟨gb, 0, none⟩)] w fun e w' => BtEnd (lb cs ++ torn) w e w' := by
  obtain ⟨a, cap, h⟩ := h
  have q0 := h.c0
  have hl : (lb cs ++ torn).length ≤ 10000 := by have := h.inv.b3000; have := h.tl; simp; omega
  have HC := hide (clone45 w h.own hl)
  clear h
  generalize lb cs ++ torn = bs at *
  go_enter Tryz.func128, Tryz.ntmps128
  go_wp2_with fail
  refine (unhide HC).mono ?_
  rintro e w2 ⟨a2, n2, c2, rfl, hn2, hc2, hb2, hk2⟩
  have HE : Hid (BtEnd bs w (.returned (.slice a2 n2 c2)) w2) := ⟨a2, n2, c2, rfl, hn2, hc2, hb2, hk2⟩
  clear hn2 hc2 hb2 hk2
  go_wp2
  go_ret
  exact HE
end
/- The document's bytes of a commit, by their contract. -/
section
open Go.RowKit
attribute [local go_sem ↓] Go.wp_at_zero Go.wp_at_succ

theorem at12 {w w2 : World} {ga o k : Nat} {ps : List Ver} {t : Bool} (hs : SlA w ga o ps) (hk : Kp [] w w2) (hlt : k < ps.length) (ht : vt ps k = t) :
    w2.cell? ⟨ga, o + k * 3 + 1, none⟩ = some (.bool t) ∧ w2.cell? ⟨ga, o + k * 3 + 1 + 1, none⟩ = some (.string (vb ps k)) := by
  have h := hs.kp hk (by simp)
  subst ht
  exact ⟨h.at1 k hlt, h.at2 k hlt⟩
theorem Row.src {w0 w : World} {g cap n : Nat} {bs : List UInt8} (h : Row w0 w g cap bs) (hn : n = bs.length) : Src Tryz.prog 1 42 (.slice (some ⟨g, 0, none⟩) n cap) bs.length (bcells bs) w := by
  subst hn
  exact h.byt.src cap

/-- '[]byte(s)': the new row's bytes. -/
theorem conv_byt (w : World) (s : ByteArray) (cap : Nat) (fr : Nat × Nat) : Byt (w.drew.alloc (.cells (bytesRow s cap) 5 fr)) (some ⟨w.heap.size, 0, none⟩) s.data.toList := fun _ => by
  refine ⟨w.heap.size, 0, rfl, fun j hj => ?_⟩
  have hj' : j < s.data.size := by simpa using hj
  have := World.cell?_alloc_mark w.drew (bytesRow s cap) 5 fr j
  rw [bytesRow_at s cap j hj'] at this
  rw [Nat.zero_add]
  have e : s.data[j]? = some s.data[j] := Array.getElem?_eq_getElem hj'
  simpa [ub, List.getD_eq_getElem?_getD, e] using this
theorem conv_src (w : World) (s : ByteArray) (n cap c : Nat) (fr : Nat × Nat) (hn : n = s.size) : Src Tryz.prog 1 42 (.slice (some ⟨w.heap.size, 0, none⟩) n c) s.data.toList.length (bcells s.data.toList) (w.drew.alloc (.cells (bytesRow s cap) 5 fr)) := by
  subst hn
  have := (conv_byt w s cap fr).src c
  rw [bytes_size] at this ⊢
  exact this

set_option maxHeartbeats 1000000 in
theorem bytesOf11 (a : Option Addr) (c : Nat) (ps : List Ver) (w : World) (h : Prs w a ps) (hp : pf (-1) ps = 0) :
    Calls Tryz.prog 109 #[.slice a ps.length c] w fun e w' => ApEnd w (enc ps) e w' := by
  have hcv := fun (W : World) (s : ByteArray) => run_bytes_of_string (P := Tryz.prog) W 9 42 5 s Tryz.underlying9 Tryz.underlying42 Tryz.underlying5
  have h8 := pf_len8 hp
  have h112 := pbs_len112 hp
  have HP := hide h
  have HS := hide (pf_str hp)
  have HPF := hide hp
  clear h hp
  go_enter Tryz.func109, Tryz.ntmps109
  go_wp2_with fail
  go_loopw [3, 4] (fun b i wr => ∃ k g cap n : Nat, k ≤ ps.length ∧ b = .slice (some ⟨g, 0, none⟩) n cap ∧ i = .int .i64 k ∧ Hid (EnI w [b8 ps.length] ps k g cap n wr)) (fun _ i _ => ps.length - (intOf i).toNat)
  case atStart => exact ⟨0, w.heap.size, 1, 1, by omega, rfl, rfl, enI_start w w (Kp.refl _ _) ps [b8 ps.length] _ (by simp [bcells, ← mod_b8]; omega) (by simp) _ _ rfl rfl⟩
  case round =>
    obtain ⟨k, g, cap, n, hk, rfl, rfl, HE⟩ := hrel
    by_cases hlt : k < ps.length
    · obtain ⟨ga, o, rfl, hs⟩ := (unhide HP).mem (by omega)
      have hs2 := hs.kp (unhide HE).row.kp (by simp)
      have q0 := hs2.at0 k hlt
      have hbl : (vb ps k).size ≤ 12 := unhide HS k hlt
      have htl : (pbs (ps.take k)).length ≤ 112 := by have := pbs_take_le ps k; omega
      have i0 : (0 : Int) ≤ (k : Int) := by omega
      have i1 : (k : Int) < (ps.length : Int) := by omega
      have HS1 := hide hs
      clear hs hs2
      cases ht : vt ps k with
      | false =>
        have HT := hide ht
        clear ht
        go_wp2_with (first | (at_builtin; refine wpList_app (by rfl) (.tmp 15) (.tmp 22) 42 rfl ((unhide HE).row.kp0 ((Kp.refl [] _).alloc _)) n (unhide HE).len (.slice (some ⟨wr.heap.size, 0, none⟩) 1 1) [b8 (va ps k)] rfl rfl (one_src _ rfl (b8 (va ps k)) _ (mod_b8 (va ps k))) (by simp; omega) ?_; intro g2 c2 n2 w2 hn2 hr2 hk2 hg2; obtain ⟨r1, r2⟩ := at12 (unhide HS1) (unhide hr2).kp hlt (unhide HT)) | (at_builtin; refine wpList_app (by rfl) (.tmp 50) (.tmp 51) 42 rfl ((unhide hr2).kp0 ((Kp.refl [] _).alloc _)) n2 (unhide hn2) (.slice (some ⟨w2.heap.size, 0, none⟩) 1 1) [255] rfl rfl (one_src _ rfl 255 _ rfl) (by simp; omega) ?_; intro g3 c3 n3 w3 hn3 hr3 hk3 hg3; clear r1 r2))
        refine ⟨⟨k + 1, g3, c3, n3, by omega, rfl, by go_num, EnI.next hlt ?_ ?_⟩, by simp [intOf]; omega⟩
        · rw [unhide hn3]; simp [pb, unhide HT]
        · have := unhide hr3; simpa [pb, unhide HT] using this
      | true =>
        have HT := hide ht
        clear ht
        go_wp2_with (first | (at_builtin; refine wpList_app (by rfl) (.tmp 15) (.tmp 22) 42 rfl ((unhide HE).row.kp0 ((Kp.refl [] _).alloc _)) n (unhide HE).len (.slice (some ⟨wr.heap.size, 0, none⟩) 1 1) [b8 (va ps k)] rfl rfl (one_src _ rfl (b8 (va ps k)) _ (mod_b8 (va ps k))) (by simp; omega) ?_; intro g2 c2 n2 w2 hn2 hr2 hk2 hg2; obtain ⟨r1, r2⟩ := at12 (unhide HS1) (unhide hr2).kp hlt (unhide HT)) | (at_builtin; refine wpList_app (by rfl) (.tmp 30) (.tmp 39) 42 rfl ((unhide hr2).kp0 ((Kp.refl [] _).alloc _)) n2 (unhide hn2) (.slice (some ⟨w2.heap.size, 0, none⟩) 1 1) [b8 (vb ps k).size] rfl rfl (one_src _ rfl (b8 (vb ps k).size) _ (by rw [← mod_b8]; omega)) (by simp; omega) ?_; intro g3 c3 n3 w3 hn3 hr3 hk3 hg3; clear r1 r2; obtain ⟨_, r3⟩ := at12 (unhide HS1) (unhide hr3).kp hlt (unhide HT)) | (at_builtin; refine wpList_app (by rfl) (.tmp 41) (.tmp 48) 42 rfl ((unhide hr3).kp0 ((Kp.refl [] _).drew.alloc _)) n3 (unhide hn3) (.slice (some ⟨w3.heap.size, 0, none⟩) (vb ps k).size _) (vb ps k).data.toList rfl rfl (conv_src w3 (vb ps k) _ _ _ _ rfl) (by simp; omega) ?_; intro g4 c4 n4 w4 hn4 hr4 hk4 hg4; clear r3))
        refine ⟨⟨k + 1, g4, c4, n4, by omega, rfl, by go_num, EnI.next hlt ?_ ?_⟩, by simp [intOf]; omega⟩
        · rw [unhide hn4]; simp [pb, unhide HT]
        · have := unhide hr4; simpa [pb, unhide HT] using this
    · have e : k = ps.length := by omega
      subst e
      have hl := (unhide HE).last
      have hn0 : n ≤ 200 := by rw [hl.1]; simp; omega
      have HLL := hide hl
      clear hl
      go_wp2_with (at_builtin; refine wpList_app (by rfl) (.tmp 57) (.tmp 58) 42 rfl (row_lit w wr (unhide HLL).2.kp [b8 ((n : Int) + 1)] _ (by simp [bcells, ← mod_b8]; try omega) (by simp)) 1 rfl (.slice (some ⟨g, 0, none⟩) n cap) ([b8 ps.length] ++ pbs ps) rfl rfl (((unhide HLL).2.kp0 ((Kp.refl [] _).alloc _)).src (unhide HLL).1) (by simp; omega) ?_; intro g5 c5 n5 w5 hn5 hr5 hk5 hg5)
      go_ret
      have en : b8 ((n : Int) + 1) = b8 ((pbs ps).length + 2 : Nat) := by
        rw [(unhide HLL).1]; congr 1
      refine apEnd_mk ?_ ?_
      · rw [unhide hn5]; simp [enc]
      · have := unhide hr5
        rw [en] at this
        exact this
end
/- The document's roll of commits: its memory; Mend and Bytes, by their contracts. -/
section
open Go.RowKit
attribute [local go_sem ↓] Go.wp_at_zero Go.wp_at_succ

/-- A commit in memory: where its pairs lie, the room there, the pairs. -/
structure El where
  a : Option Addr
  c : Nat
  ps : List Ver
def eat (xs : List El) (k : Nat) : El := xs.getD k ⟨none, 0, []⟩
def ecells (xs : List El) : List Value := xs.map fun e => .slice e.a e.ps.length e.c
def cps (xs : List El) : List (List Ver) := xs.map El.ps
theorem ecells_length (xs : List El) : (ecells xs).length = xs.length := by simp [ecells]
theorem ecells_append (xs ys : List El) : ecells (xs ++ ys) = ecells xs ++ ecells ys := by simp [ecells]
theorem cps_length (xs : List El) : (cps xs).length = xs.length := by simp [cps]
theorem cps_append (xs ys : List El) : cps (xs ++ ys) = cps xs ++ cps ys := by simp [cps]
theorem ecells_at {xs : List El} {k : Nat} (h : k < xs.length) : (ecells xs)[k]? = some (.slice (eat xs k).a (eat xs k).ps.length (eat xs k).c) := by
  simp [ecells, eat, List.getD_eq_getElem?_getD, List.getElem?_eq_getElem h]
theorem eat_mem {xs : List El} {k : Nat} (h : k < xs.length) : eat xs k ∈ xs := by
  simp only [eat, List.getD_eq_getElem?_getD, List.getElem?_eq_getElem h, Option.getD_some]
  exact List.getElem_mem h
theorem cps_at {xs : List El} {k : Nat} (h : k < xs.length) : (cps xs).getD k [] = (eat xs k).ps := by
  simp [cps, eat, List.getD_eq_getElem?_getD, List.getElem?_eq_getElem h]

/-- A row of commits that a call owns since B. -/
def OwnE (B : Nat) (w : World) (a : Option Addr) (cap : Nat) (xs : List El) : Prop := w.ownsRow B 100 1 (.slice a xs.length cap) xs.length (ecells xs)
section
variable {B : Nat} {w w' : World} {a : Option Addr} {cap : Nat} {xs : List El}
theorem ownE_nil (B : Nat) (w : World) : OwnE B w none 0 [] := World.ownsRow_nil _ _ _ _
theorem OwnE.cases (h : OwnE B w a cap xs) : (a = none ∧ cap = 0 ∧ xs = []) ∨ ∃ g, a = some ⟨g, 0, none⟩ ∧ B ≤ g ∧ g < w.heap.size ∧ xs.length ≤ cap := by
  rcases h.2 with ⟨e, _⟩ | ⟨g, c, cur, e, h1, h2, h3, _⟩
  · simp only [Value.slice.injEq] at e
    exact .inl ⟨e.1, e.2.2, List.eq_nil_of_length_eq_zero e.2.1⟩
  · simp only [Value.slice.injEq, true_and] at e
    obtain ⟨rfl, rfl⟩ := e
    exact .inr ⟨g, rfl, h1, lt_of_block h2, h3⟩
theorem OwnE.lo (h : OwnE B w a cap xs) : ∀ x ∈ ob a, B ≤ x ∧ x < w.heap.size := by
  intro x hx
  rcases h.cases with ⟨rfl, _⟩ | ⟨g, rfl, h1, h2, _⟩
  · simp [ob] at hx
  · simp [ob] at hx; omega
theorem OwnE.own_block (h : OwnE B w a cap xs) {n : Nat} : ∀ g, (Value.slice a n cap).ownBlock = some g → g ∈ ob a := by
  intro g hg
  rcases h.cases with ⟨rfl, _⟩ | ⟨g', rfl, _⟩
  · simp [Value.ownBlock] at hg
  · have : g' = g := by simpa [Value.ownBlock] using hg
    subst this
    simp [ob]
theorem OwnE.kp {S : List Nat} (h : OwnE B w a cap xs) (hk : Kp S w w') (hS : ∀ x ∈ ob a, x ∉ S) : OwnE B w' a cap xs := own_kp h hk (fun g hg => hS g (h.own_block g hg))
theorem OwnE.kp0 (h : OwnE B w a cap xs) (hk : Kp [] w w') : OwnE B w' a cap xs := h.kp hk (fun _ _ => by simp)
theorem OwnE.base {C : Nat} (h : OwnE B w a cap xs) (hC : C ≤ B) : OwnE C w a cap xs := own_base h hC
theorem OwnE.le (h : OwnE B w a cap xs) : xs.length ≤ cap := by
  rcases h.cases with ⟨_, rfl, rfl⟩ | ⟨_, _, _, _, h⟩
  · simp
  · exact h
theorem OwnE.cell (h : OwnE B w a cap xs) {k : Nat} (hk : k < xs.length) : ∃ g, a = some ⟨g, 0, none⟩ ∧ w.cell? ⟨g, k, none⟩ = some (.slice (eat xs k).a (eat xs k).ps.length (eat xs k).c) := by
  rcases h.cases with ⟨_, _, rfl⟩ | ⟨g, rfl, _⟩
  · simp at hk
  · refine ⟨g, rfl, ?_⟩
    have := World.ownsRow.cellAt h k (by omega)
    rw [this, ecells_at hk]
theorem OwnE.take (h : OwnE B w a cap xs) (k : Nat) (hk : k ≤ xs.length) : OwnE B w a cap (xs.take k) := by
  have hl : (xs.take k).length = k := by simp; omega
  refine ⟨by rw [ecells_length]; omega, ?_⟩
  rcases h.2 with ⟨e, e2⟩ | ⟨g, c, cur, e, h1, h2, h3, h4, h5, h6⟩
  · have : k = 0 := by omega
    subst this
    simp only [Value.slice.injEq] at e
    exact .inl ⟨by simp [e.1, e.2.2], by simp⟩
  · simp only [Value.slice.injEq, true_and] at e
    obtain ⟨rfl, rfl⟩ := e
    refine .inr ⟨g, cap, cur, rfl, h1, h2, by omega, h4, h5, ?_⟩
    simp only [Nat.mul_one] at h6 ⊢
    have e2 : cur.toList.take k = (cur.toList.take xs.length).take k := by rw [List.take_take, Nat.min_eq_left hk]
    rw [hl, e2, h6]
    simp [ecells, List.map_take]
end

theorem slo_prs {w : World} {a : Option Addr} {ps : List Ver} (h : SlO w a ps) (hp : pf (-1) ps = 0) : Prs w a ps :=
  ⟨by have := pf_len8 hp; unfold maxLen; omega, fun k hk => by have := pf_str hp k hk; unfold maxLen; omega, h⟩
theorem SlO.kp {S : List Nat} {w w' : World} {a : Option Addr} {vs : List Ver} (h : SlO w a vs) (hk : Kp S w w') (hS : ∀ x ∈ ob a, x ∉ S) : SlO w' a vs := fun hp => by
  obtain ⟨g, o, rfl, hs⟩ := h hp
  exact ⟨g, o, rfl, hs.kp hk (hS g (by simp [ob]))⟩

section
variable {B : Nat} {w w' : World} {rb : Nat} {G S : List Nat} {aL : Option Addr} {capL : Nat} {xs : List El} {aT : Option Addr} {cT : Nat} {torn : List UInt8} {cs : List (List Ver)}
theorem Byt.kpo {bs : List UInt8} {a : Option Addr} (h : Byt w a bs) (hk : Kp S w w') (hS : ∀ x ∈ ob a, x ∉ S) : Byt w' a bs := h.kp hk (fun g o e => hS g (by subst e; simp [ob]))
end

/-- At the head of a round of Bytes: the bytes of the first k commits. -/
structure RbI (w : World) (cs : List (List Ver)) (k : Nat) (a : Option Addr) (cap n : Nat) (wr : World) : Prop where
  len : n = (lb (cs.take k)).length
  own : OwnU w.heap.size wr a cap (lb (cs.take k))
  kp : Kp [] w wr
theorem RbI.next {w wr w2 w3 : World} {cs : List (List Ver)} {k : Nat} {a a3 : Option Addr} {cap n cap3 n3 : Nat} (h : RbI w cs k a cap n wr) (hk : k < cs.length) (hk2 : Kp [] wr w2) (hn : n3 = (lb (cs.take k) ++ enc (cs.getD k [])).length) (ho : OwnU w.heap.size w3 a3 cap3 (lb (cs.take k) ++ enc (cs.getD k [])))
    (hk3 : Kp (ob a) w2 w3) : RbI w cs (k + 1) a3 cap3 n3 w3 := by
  rw [← lb_take_succ hk] at hn ho
  exact ⟨hn, ho, (h.kp.trans0 hk2).trans hk3 (fun x hx => .inr (h.own.lo x hx).1)⟩

end
/- Put and Tear of the document's roll, by their contracts. -/
section
open Go.RowKit
attribute [local go_sem ↓] Go.wp_at_zero Go.wp_at_succ

theorem Tryz.info100 : (Tryz.prog.info? 100).map (fun i => (i.zero, i.size, i.bytes)) = some (some (.slice none 0 0), 1, 24) := by kernel_rfl

/-- 'append(own, w...)' of no pairs and pairs. -/
theorem run_pairs_nil {w : World} {a2 : Option Addr} {ps : List Ver} (h : SlO w a2 ps) (hm : ps.length ≤ 1000) (c2 : Nat) (ty : TypeId) :
    ∃ a' c' w', (Builtin.append_ #[100, 100] ty #[.slice none 0 0, .slice a2 ps.length c2]).run Tryz.prog w = .ok (.slice a' ps.length c') w' ∧ SlO w' a' ps ∧ (∀ x ∈ ob a', w.heap.size ≤ x ∧ x < w'.heap.size) ∧ Kp [] w w' := by
  obtain ⟨i0, hi0, hz0, hz1, hz2⟩ := info_parts Tryz.info106
  by_cases hp : 0 < ps.length
  · obtain ⟨g, o, rfl, hs⟩ := h hp
    obtain ⟨g', cap', w', hr, h2, h3, h4, h5⟩ := run_append_lies (P := Tryz.prog) w 100 ty w.heap.size 106 i0 _ 3 32 Tryz.underlying100 hi0 hz0 hz1 hz2 rfl (by omega) (.slice none 0 0) 0 [] (World.ownsRow_nil _ _ _ _) ⟨g, o, none⟩ ps.length c2 (vcells ps) (vcells_length ps) hs.news (vcells_one ps) hp (by unfold maxLen; omega) (by omega) (Nat.le_refl _) _ rfl
    rw [Nat.zero_add] at hr
    rw [Nat.zero_add, List.nil_append] at h2
    refine ⟨_, _, w', hr, slo_own h2 rfl, fun x hx => ?_, (Kp.refl [] w).grown h3 (fun k hk => by simp [Value.ownBlock] at hk)⟩
    have e : x = g' := by simpa [ob] using hx
    subst e
    exact h2.lt x rfl
  · have e : ps = [] := List.eq_nil_of_length_eq_zero (by omega)
    subst e
    have hsrc : Src Tryz.prog i0.size 100 (.slice a2 0 c2) 0 [] w := by
      cases a2 with
      | none => exact Src.ofNil w Tryz.underlying100 c2
      | some ad => exact Src.ofSlice w Tryz.underlying100 ad 0 c2 [] (by simp) (by simp) (by simp)
    have hr := run_append_nothing (P := Tryz.prog) w 100 100 ty 106 i0 Tryz.underlying100 hi0 none 0 0 (Nat.le_refl _) (.slice a2 0 c2) hsrc
    exact ⟨none, 0, w, hr, fun h => by simp at h, by simp [ob], Kp.refl _ _⟩

theorem step_pairs_nil {ops : Array Oper} {o : Oper} {ac : Act} {w : World} {K : Act → World → Prop} {Q : Exit → Act → World → Prop} {E : Prop} (hgd : o.guard = none) (s x : Operand)
    (ho : o.op = .call { callee := .builtin .append, args := #[s, x], argTypes := #[100, 100] }) {a2 : Option Addr} {ps : List Ver} (c2 : Nat) (h : SlO w a2 ps) (hm : ps.length ≤ 1000)
    (hs : ac.eval s = .slice none 0 0) (hx : ac.eval x = .slice a2 ps.length c2)
    (k : ∀ a' c' w', Hid (SlO w' a' ps) → Hid (∀ x ∈ ob a', w.heap.size ≤ x ∧ x < w'.heap.size) → Hid (Kp [] w w') → K (ac.put o.dst (.slice a' ps.length c')) w') :
    if Region.wanted o (yielded ops ac.tmps) = true then Oper.wp Tryz.prog o ac w K Q else E := by
  have hw : Region.wanted o (yielded ops ac.tmps) = true := by simp [Region.wanted, hgd]
  obtain ⟨a', c', w', hr, h1, h2, h3⟩ := run_pairs_nil h hm c2 o.type
  rw [if_pos hw]
  unfold Oper.wp execOp
  simp only [ho, resolve, invoke, builtin, Sem.run_bind, Sem.run_pure, Result.andThen_ok, List.map_toArray, List.map_cons, List.map_nil, hs, hx, hr]
  exact k a' c' w' h1 h2 h3

/-- 'append(r.L, l)'. -/
theorem run_appe {B : Nat} {w : World} {a : Option Addr} {cap : Nat} {xs : List El} (h : OwnE B w a cap xs) (hB : B ≤ w.heap.size) (e : El) (b : Nat) (hb : w.heap[b]? = some (.cells #[.slice e.a e.ps.length e.c] 100 (0, 0))) (hm : xs.length ≤ 1000) (ty : TypeId) :
    ∃ a' cap' w', (Builtin.append_ #[62, 62] ty #[.slice a xs.length cap, .slice (some ⟨b, 0, none⟩) 1 1]).run Tryz.prog w = .ok (.slice a' (xs.length + 1) cap') w' ∧
      OwnE B w' a' cap' (xs ++ [e]) ∧ Kp (ob a) w w' ∧ (∀ x ∈ ob a', x ∈ ob a ∨ w.heap.size ≤ x) := by
  obtain ⟨i0, hi0, hz0, hz1, hz2⟩ := info_parts Tryz.info100
  obtain ⟨g', cap', w', hr, h2, h3, h4, h5⟩ := run_append_lies (P := Tryz.prog) w 62 ty B 100 i0 _ 1 24 Tryz.underlying62 hi0 hz0 hz1 hz2 rfl (by omega) (.slice a xs.length cap) xs.length (ecells xs) h ⟨b, 0, none⟩ 1 1 [.slice e.a e.ps.length e.c] rfl (World.news_of_block hb) (by simp [Value.oneCell']) (by omega) (by unfold maxLen; omega) (by omega) hB _ rfl
  refine ⟨_, _, w', hr, ?_, (Kp.refl (ob a) w).grown h3 (fun k hk => .inl (h.own_block k hk)), fun x hx => ?_⟩
  · unfold OwnE
    rw [ecells_append, List.length_append]
    exact h2
  · have e2 : x = g' := by simpa [ob] using hx
    subst e2
    rcases h4 with q | q
    · exact .inl (h.own_block x q)
    · exact .inr (by omega)
theorem step_appe {ops : Array Oper} {o : Oper} {ac : Act} {w : World} {K : Act → World → Prop} {Q : Exit → Act → World → Prop} {E : Prop} (hgd : o.guard = none) (s x : Operand)
    (ho : o.op = .call { callee := .builtin .append, args := #[s, x], argTypes := #[62, 62] }) {B : Nat} {a : Option Addr} {cap : Nat} {xs : List El} (h : OwnE B w a cap xs) (hB : B ≤ w.heap.size) (e : El) (b : Nat) (hb : w.heap[b]? = some (.cells #[.slice e.a e.ps.length e.c] 100 (0, 0))) (hm : xs.length ≤ 1000)
    (hs : ac.eval s = .slice a xs.length cap) (hx : ac.eval x = .slice (some ⟨b, 0, none⟩) 1 1)
    (k : ∀ a' cap' w', Hid (OwnE B w' a' cap' (xs ++ [e])) → Hid (Kp (ob a) w w') → Hid (∀ x ∈ ob a', x ∈ ob a ∨ w.heap.size ≤ x) → K (ac.put o.dst (.slice a' (xs.length + 1) cap')) w') :
    if Region.wanted o (yielded ops ac.tmps) = true then Oper.wp Tryz.prog o ac w K Q else E := by
  have hw : Region.wanted o (yielded ops ac.tmps) = true := by simp [Region.wanted, hgd]
  obtain ⟨a', c', w', hr, h1, h2, h3⟩ := run_appe h hB e b hb hm o.type
  rw [if_pos hw]
  unfold Oper.wp execOp
  simp only [ho, resolve, invoke, builtin, Sem.run_bind, Sem.run_pure, Result.andThen_ok, List.map_toArray, List.map_cons, List.map_nil, hs, hx, hr]
  exact k a' c' w' h1 h2 h3

section
variable {B : Nat} {w W w4 : World} {rb : Nat} {G : List Nat} {aL a' : Option Addr} {capL cap' : Nat} {xs : List El} {aT : Option Addr} {cT : Nat}
end

end
/- Tear and Put of a log, by their contracts. -/
section
open Go.RowKit
attribute [local go_sem ↓] Go.wp_at_zero Go.wp_at_succ

/-- What a call that changes a log leaves. -/
def LgTo (B : Nat) (w : World) (gb : Nat) (F : List Nat) (cs : List (List Ver)) (torn : List UInt8) (w' : World) : Prop := ∃ F', Lg B w' gb F' cs torn ∧ Kp F w w' ∧ ∀ x, x ∈ F' → x ∈ F ∨ w.heap.size ≤ x
theorem lgTo_same {B : Nat} {w w' : World} {gb : Nat} {F : List Nat} {cs : List (List Ver)} {torn : List UInt8} (h : Lg B w gb F cs torn) (hk : Kp [] w w') : LgTo B w gb F cs torn w' :=
  ⟨F, h.kp0 hk, hk.mono (fun x hx => by simp at hx), fun x hx => .inl hx⟩

section
variable {B : Nat} {w W w2 : World} {gb : Nat} {F : List Nat} {a a' : Option Addr} {cap cap' N : Nat} {cs : List (List Ver)} {bs : List UInt8}
theorem LgL.far (h : LgL B w gb F a cap cs []) (hW : Kp [] w W) (hk : Kp (ob a) W w2) :
    w2.heap[gb]? = some (.cells #[.slice a (lb cs ++ []).length cap, .int .i64 (lb cs).length, .int .i64 cs.length] 144 (0, 0)) := by
  rw [hk.block gb (Nat.lt_of_lt_of_le (h.lo gb h.gF).2 hW.size) h.ne, hW.block gb (h.lo gb h.gF).2 (by simp)]
  exact h.box
theorem LgL.far_cells (h : LgL B w gb F a cap cs []) (hW : Kp [] w W) (hk : Kp (ob a) W w2) :
    w2.cell? ⟨gb, 0, none⟩ = some (.slice a (lb cs).length cap) ∧ w2.frozen? ⟨gb, 0, none⟩ = false ∧ w2.cell? ⟨gb, 1, none⟩ = some (.int .i64 (lb cs).length) ∧ w2.frozen? ⟨gb, 1, none⟩ = false ∧ w2.cell? ⟨gb, 2, none⟩ = some (.int .i64 cs.length) ∧ w2.frozen? ⟨gb, 2, none⟩ = false := by
  have hb := h.far hW hk
  rw [List.append_nil] at hb
  exact ⟨cell_of_block hb rfl, frozen_of_block _ hb, cell_of_block hb rfl, frozen_of_block _ hb, cell_of_block hb rfl, frozen_of_block _ hb⟩

/-- The box with other cells: a log again. -/
theorem LgL.turn (h : LgL B w gb F a cap cs []) (hW : Kp [] w W) (hk : Kp (ob a) W w2) (ho : OwnU B w2 a' cap' bs) (hn : ∀ x ∈ ob a', x ∈ ob a ∨ W.heap.size ≤ x)
    {W3 : World} (hk3 : Kp [gb] w2 W3) {cs' : List (List Ver)} {torn : List UInt8} (hbs : bs = lb cs' ++ torn) (hb : W3.heap[gb]? = some (.cells #[.slice a' bs.length cap', .int .i64 (lb cs').length, .int .i64 cs'.length] 144 (0, 0)))
    (hi : LInv cs') (ht : torn.length ≤ 114) : LgTo B w gb F cs' torn W3 := by
  subst hbs
  have hgl := (h.lo gb h.gF).2
  have hne : gb ∉ ob a' := fun hm => by
    rcases hn gb hm with e | e
    · exact h.ne e
    · have := hW.size; omega
  have hKF : Kp F w W3 := by
    have k1 : Kp F w w2 := (hW.mono (fun x hx => by simp at hx)).trans hk (fun x hx => .inl (h.aF x hx))
    exact k1.trans hk3 (fun x hx => .inl (by rw [List.mem_singleton.1 hx]; exact h.gF))
  have ho3 : OwnU B W3 a' cap' (lb cs' ++ torn) := ho.kp hk3 (fun x hx e => hne (by rw [← List.mem_singleton.1 e]; exact hx))
  refine ⟨F ++ ob a', ⟨a', cap', hb, ho3, hne, by simp [h.gF], fun x hx => by simp [hx], fun x hx => ?_, hi, ht, Nat.le_trans h.hB hKF.size⟩, hKF, fun x hx => ?_⟩
  · rcases List.mem_append.1 hx with e | e
    · exact ⟨(h.lo x e).1, Nat.lt_of_lt_of_le (h.lo x e).2 hKF.size⟩
    · exact ho3.lo x e
  · rcases List.mem_append.1 hx with e | e
    · exact .inl e
    · rcases hn x e with e2 | e2
      · exact .inl (h.aF x e2)
      · exact .inr (Nat.le_trans hW.size e2)

theorem LgL.tear_cut (h : LgL B w gb F a cap cs []) (hW : Kp [] w W) (hk : Kp (ob a) W w2) {t : List UInt8} (ho : OwnU B w2 a' cap' (lb cs ++ t)) (hn : ∀ x ∈ ob a', x ∈ ob a ∨ W.heap.size ≤ x) (hN : N = (lb cs ++ t).length) (ht : t.length ≤ 114) :
    LgTo B w gb F cs t (w2.setCell ⟨gb, 0, none⟩ (.slice a' N cap')) := by
  subst hN
  refine h.turn hW hk ho hn ((Kp.refl [gb] w2).setCell (.inl (by simp)) _) rfl ?_ h.inv ht
  rw [heap_setCell_at 0 _ (h.far hW hk)]
  rfl
theorem LgL.tear_all (h : LgL B w gb F a cap cs []) (hW : Kp [] w W) (hk : Kp (ob a) W w2) {ps : List Ver} (hc : lcode cs ps = 0) (ho : OwnU B w2 a' cap' (lb cs ++ enc ps)) (hn : ∀ x ∈ ob a', x ∈ ob a ∨ W.heap.size ≤ x) (hN : N = (lb cs ++ enc ps).length)
    {x y : Int} (hx : x = ((lb cs).length + (enc ps).length : Nat)) (hy : y = (cs.length + 1 : Nat)) :
    LgTo B w gb F (cs ++ [ps]) [] (((w2.setCell ⟨gb, 0, none⟩ (.slice a' N cap')).setCell ⟨gb, 1, none⟩ (.int .i64 x)).setCell ⟨gb, 2, none⟩ (.int .i64 y)) := by
  subst hN hx hy
  refine h.turn hW hk ho hn ((((Kp.refl [gb] w2).setCell (.inl (by simp)) _).setCell (.inl (by simp)) _).setCell (.inl (by simp)) _) (cs' := cs ++ [ps]) (torn := []) (by rw [lb_snoc, List.append_nil]) ?_ (h.inv.snoc hc) (by simp)
  rw [heap_setCell_at 2 _ (heap_setCell_at 1 _ (heap_setCell_at 0 _ (h.far hW hk)))]
  rw [lb_snoc]
  simp
end

theorem byt_srcn {w : World} {a : Option Addr} {bs : List UInt8} (h : Byt w a bs) {n c : Nat} (hn : n = bs.length) : Src Tryz.prog 1 42 (.slice a n c) bs.length (bcells bs) w := by
  subst hn
  exact h.src c

set_option maxHeartbeats 2000000 in
theorem ltear30 {B gb : Nat} {F : List Nat} {cs : List (List Ver)} (a2 : Option Addr) (c : Nat) (ps : List Ver) (keep : Int) (w : World) (h : Lg B w gb F cs []) (hp : Prs w a2 ps) (hm : ps.length ≤ 1000) :
    Calls Tryz.prog 188 #[.pointer (some ⟨gb, 0, none⟩), .slice a2 ps.length c, .int .i64 keep] w fun e w' => e = .returned (.int .i64 (lcode cs ps)) ∧ LgTo B w gb F (ltear cs ps keep) (ltorn cs ps keep) w' := by
  have hinv := h.inv
  have hn40 := hinv.n40
  have hb3000 := hinv.b3000
  have HS := hide (fun w' (hk : Kp [] w w') => lgTo_same h hk)
  obtain ⟨a, cap, h⟩ := h
  by_cases hpf : pf (-1) ps = 0
  · have hel := enc_le hpf
    have HE := hide (encode_ok a2 c ps w hp hpf)
    by_cases hf : 40 ≤ cs.length ∨ 3000 < (lb cs).length + (enc ps).length
    · have hc := lcode_full hpf hf
      obtain ⟨e1, e2⟩ := ltear_code (cs := cs) (ps := ps) keep (by rw [hc]; simp)
      rw [hc, e1, e2]
      have HB := hide h
      clear h hp hpf hc e1 e2
      by_cases h40 : 40 ≤ cs.length
      · clear hf
        go_enter Tryz.func188, Tryz.ntmps188
        go_wp2_with fail
        refine (unhide HE).mono ?_
        rintro e w1 ⟨gx, cx, nx, rfl, hn, hr⟩
        have r2 : w1.cell? ⟨gb, 2, none⟩ = some (.int .i64 cs.length) := hr.kp.cell (by simp) (unhide HB).c2
        have HK := hide hr.kp
        clear hn hr
        generalize cs.length = C at *
        go_wp2_with fail
        go_ret
        exact ⟨rfl, unhide HS _ (unhide HK)⟩
      · have hfull : 3000 < (lb cs).length + (enc ps).length := hf.resolve_left h40
        clear hf
        go_enter Tryz.func188, Tryz.ntmps188
        go_wp2_with fail
        refine (unhide HE).mono ?_
        rintro e w1 ⟨gx, cx, nx, rfl, hn, hr⟩
        have r2 : w1.cell? ⟨gb, 2, none⟩ = some (.int .i64 cs.length) := hr.kp.cell (by simp) (unhide HB).c2
        have r1 : w1.cell? ⟨gb, 1, none⟩ = some (.int .i64 (lb cs).length) := hr.kp.cell (by simp) (unhide HB).c1
        have HK := hide hr.kp
        rw [← hn] at hfull hel
        clear hn hr
        have HC := hide HB
        clear HB
        have HS2 : Hid (LgTo B w gb F cs [] w1) := unhide HS _ (unhide HK)
        clear HS HC
        generalize cs.length = C at *
        generalize (lb cs).length = L at *
        have f1 : ¬ (40 : Int) ≤ (C : Int) := by omega
        have f2 : (3000 : Int) < (L : Int) + (nx : Int) := by omega
        go_wp2_with fail
        go_ret
        exact ⟨rfl, HS2⟩
    · have hc := lcode_ok hpf hf
      rw [hc]
      have h40 : ¬ 40 ≤ cs.length := fun q => hf (.inl q)
      have hroom : ¬ 3000 < (lb cs).length + (enc ps).length := fun q => hf (.inr q)
      have HC := hide hc
      have HB := hide h
      by_cases hk : ((enc ps).length : Int) ≤ keep
      · obtain ⟨e1, e2⟩ := ltear_all hc hk
        rw [e1, e2]
        clear h hp hpf hc e1 e2 hf
        go_enter Tryz.func188, Tryz.ntmps188
        go_wp2_with fail
        refine (unhide HE).mono ?_
        rintro e w1 ⟨gx, cx, nx, rfl, hn, hr⟩
        have r0 : w1.cell? ⟨gb, 0, none⟩ = some (.slice a (lb cs).length cap) := hr.kp.cell (by simp) (by have := (unhide HB).c0; rwa [List.append_nil] at this)
        have r1 : w1.cell? ⟨gb, 1, none⟩ = some (.int .i64 (lb cs).length) := hr.kp.cell (by simp) (unhide HB).c1
        have r2 : w1.cell? ⟨gb, 2, none⟩ = some (.int .i64 cs.length) := hr.kp.cell (by simp) (unhide HB).c2
        have hO : OwnU B w1 a cap (lb cs) := by have := (unhide HB).own.kp0 hr.kp; rwa [List.append_nil] at this
        have hsl := own_part hO (lb cs).length (lb cs).length (Nat.le_refl _) _ rfl
        have hsx := own_part hr.ownU nx nx (by omega) _ rfl
        have HO := hide hO
        have HR := hide hr
        have HK := hide hr.kp
        rw [← hn] at hroom hel hk
        have HN := hide hn
        have hB1 : B ≤ w1.heap.size := Nat.le_trans (unhide HB).hB hr.kp.size
        clear hn hr hO
        obtain ⟨C, hC⟩ : ∃ C, cs.length = C := ⟨_, rfl⟩
        obtain ⟨L, hL⟩ : ∃ L, (lb cs).length = L := ⟨_, rfl⟩
        rw [hC] at hn40 h40 r2
        rw [hL] at hb3000 hroom r0 r1 hsl
        have f1 : ¬ (40 : Int) ≤ (C : Int) := by omega
        have f2 : ¬ (3000 : Int) < (L : Int) + (nx : Int) := by omega
        have m0 : ¬ keep < 0 := by omega
        have HCC := hide hC
        have HLL := hide hL
        clear hC hL
        rcases Int.lt_or_eq_of_le hk with hk2 | hk2
        case' inr => subst hk2
        all_goals
         go_wp2_with fail
         go_region_law (refine step_appx (by rfl) (.tmp 47) (.tmp 50) 42 (by rfl) ((unhide HO).kp0 (Kp.refl [] _).drew) (by simpa using hB1) L (unhide HLL).symm (.slice (some ⟨gx, 0, none⟩) nx cx) (enc ps) (by rfl) (by rfl) (byt_srcn ((unhide HR).byt.kp0 (Kp.refl [] _).drew) (unhide HN)) (by have := unhide HLL; have := unhide HN; omega) ?_; intro a3 c3 n3 w3 hn3 ho3 hk3 hx3; obtain ⟨s0, s1, s2, s3, s4, s5⟩ := (unhide HB).far_cells ((unhide HK).trans0 (Kp.refl [] _).drew) (unhide hk3); rw [unhide HLL] at s0 s2; rw [unhide HCC] at s4)
         all_goals
          go_wp2_with fail
          go_ret
          exact ⟨rfl, (unhide HB).tear_all ((unhide HK).trans0 (Kp.refl [] _).drew) (unhide hk3) (unhide HC) (unhide ho3) (unhide hx3) (unhide hn3) (by have := unhide HLL; have := unhide HN; omega) (by have := unhide HCC; omega)⟩
      · obtain ⟨e1, e2⟩ := ltear_cut hc hk
        rw [e1, e2]
        clear h hp hpf hc e1 e2 hf
        by_cases hneg : keep < 0
        · rw [show keep.toNat = 0 by omega]
          go_enter Tryz.func188, Tryz.ntmps188
          go_wp2_with fail
          refine (unhide HE).mono ?_
          rintro e w1 ⟨gx, cx, nx, rfl, hn, hr⟩
          have r0 : w1.cell? ⟨gb, 0, none⟩ = some (.slice a (lb cs).length cap) := hr.kp.cell (by simp) (by have := (unhide HB).c0; rwa [List.append_nil] at this)
          have r1 : w1.cell? ⟨gb, 1, none⟩ = some (.int .i64 (lb cs).length) := hr.kp.cell (by simp) (unhide HB).c1
          have r2 : w1.cell? ⟨gb, 2, none⟩ = some (.int .i64 cs.length) := hr.kp.cell (by simp) (unhide HB).c2
          have hO : OwnU B w1 a cap (lb cs) := by have := (unhide HB).own.kp0 hr.kp; rwa [List.append_nil] at this
          have hsl := own_part hO (lb cs).length (lb cs).length (Nat.le_refl _) _ rfl
          have hsx := own_part hr.ownU 0 nx (by omega) (0) (by omega)
          have HO := hide hO
          have HR := hide ((hr.ownU.take 0 (by omega)).byt)
          have HK := hide hr.kp
          have hlt : ((enc ps).take 0).length = 0 := by simp
          rw [← hn] at hroom hel hk
          have HT := hide hlt
          have hB1 : B ≤ w1.heap.size := Nat.le_trans (unhide HB).hB hr.kp.size
          clear hn hr hO hlt
          obtain ⟨C, hC⟩ : ∃ C, cs.length = C := ⟨_, rfl⟩
          obtain ⟨L, hL⟩ : ∃ L, (lb cs).length = L := ⟨_, rfl⟩
          rw [hC] at hn40 h40 r2
          rw [hL] at hb3000 hroom r0 r1 hsl
          have f1 : ¬ (40 : Int) ≤ (C : Int) := by omega
          have f2 : ¬ (3000 : Int) < (L : Int) + (nx : Int) := by omega
          have m1 : ¬ (nx : Int) < 0 := by omega
          have m2 : ¬ (0 : Int) = (nx : Int) := by omega
          have HCC := hide hC
          have HLL := hide hL
          clear hC hL
          go_wp2_with fail
          go_region_law (refine step_appx (by rfl) (.tmp 47) (.tmp 50) 42 (by rfl) ((unhide HO).kp0 (Kp.refl [] _).drew) (by simpa using hB1) L (unhide HLL).symm (.slice (some ⟨gx, 0, none⟩) 0 cx) ((enc ps).take 0) (by rfl) (by rfl) (byt_srcn ((unhide HR).kp0 (Kp.refl [] _).drew) (unhide HT).symm) (by have := unhide HLL; have := unhide HT; omega) ?_; intro a3 c3 n3 w3 hn3 ho3 hk3 hx3; obtain ⟨s0, s1, s2, s3, s4, s5⟩ := (unhide HB).far_cells ((unhide HK).trans0 (Kp.refl [] _).drew) (unhide hk3); rw [unhide HLL] at s0 s2; rw [unhide HCC] at s4)
          all_goals
           go_wp2_with fail
           go_ret
           exact ⟨rfl, (unhide HB).tear_cut ((unhide HK).trans0 (Kp.refl [] _).drew) (unhide hk3) (unhide ho3) (unhide hx3) (unhide hn3) (by have := unhide HT; omega)⟩
        · obtain ⟨k, rfl⟩ : ∃ k : Nat, keep = (k : Int) := ⟨keep.toNat, by omega⟩
          rw [Int.toNat_natCast]
          go_enter Tryz.func188, Tryz.ntmps188
          go_wp2_with fail
          refine (unhide HE).mono ?_
          rintro e w1 ⟨gx, cx, nx, rfl, hn, hr⟩
          have r0 : w1.cell? ⟨gb, 0, none⟩ = some (.slice a (lb cs).length cap) := hr.kp.cell (by simp) (by have := (unhide HB).c0; rwa [List.append_nil] at this)
          have r1 : w1.cell? ⟨gb, 1, none⟩ = some (.int .i64 (lb cs).length) := hr.kp.cell (by simp) (unhide HB).c1
          have r2 : w1.cell? ⟨gb, 2, none⟩ = some (.int .i64 cs.length) := hr.kp.cell (by simp) (unhide HB).c2
          have hO : OwnU B w1 a cap (lb cs) := by have := (unhide HB).own.kp0 hr.kp; rwa [List.append_nil] at this
          have hsl := own_part hO (lb cs).length (lb cs).length (Nat.le_refl _) _ rfl
          have hsx := own_part hr.ownU k nx (by omega) ((k : Int)) (by omega)
          have HO := hide hO
          have HR := hide ((hr.ownU.take k (by omega)).byt)
          have HK := hide hr.kp
          have hlt : ((enc ps).take k).length = k := by simp; omega
          rw [← hn] at hroom hel hk
          have HT := hide hlt
          have hB1 : B ≤ w1.heap.size := Nat.le_trans (unhide HB).hB hr.kp.size
          clear hn hr hO hlt
          obtain ⟨C, hC⟩ : ∃ C, cs.length = C := ⟨_, rfl⟩
          obtain ⟨L, hL⟩ : ∃ L, (lb cs).length = L := ⟨_, rfl⟩
          rw [hC] at hn40 h40 r2
          rw [hL] at hb3000 hroom r0 r1 hsl
          have f1 : ¬ (40 : Int) ≤ (C : Int) := by omega
          have f2 : ¬ (3000 : Int) < (L : Int) + (nx : Int) := by omega
          have m1 : ¬ (nx : Int) < (k : Int) := by omega
          have m2 : ¬ ((k : Int) : Int) = (nx : Int) := by omega
          have HCC := hide hC
          have HLL := hide hL
          clear hC hL
          go_wp2_with fail
          go_region_law (refine step_appx (by rfl) (.tmp 47) (.tmp 50) 42 (by rfl) ((unhide HO).kp0 (Kp.refl [] _).drew) (by simpa using hB1) L (unhide HLL).symm (.slice (some ⟨gx, 0, none⟩) k cx) ((enc ps).take k) (by rfl) (by rfl) (byt_srcn ((unhide HR).kp0 (Kp.refl [] _).drew) (unhide HT).symm) (by have := unhide HLL; have := unhide HT; omega) ?_; intro a3 c3 n3 w3 hn3 ho3 hk3 hx3; obtain ⟨s0, s1, s2, s3, s4, s5⟩ := (unhide HB).far_cells ((unhide HK).trans0 (Kp.refl [] _).drew) (unhide hk3); rw [unhide HLL] at s0 s2; rw [unhide HCC] at s4)
          all_goals
           go_wp2_with fail
           go_ret
           exact ⟨rfl, (unhide HB).tear_cut ((unhide HK).trans0 (Kp.refl [] _).drew) (unhide hk3) (unhide ho3) (unhide hx3) (unhide hn3) (by have := unhide HT; omega)⟩
  · have hc := lcode_bad (cs := cs) hpf
    obtain ⟨e1, e2⟩ := ltear_code (cs := cs) (ps := ps) keep (by rw [hc]; exact hpf)
    rw [hc, e1, e2]
    have HE := hide (encode_bad a2 c ps w hp hm hpf)
    clear h hp hc e1 e2
    generalize pf (-1) ps = z at *
    go_enter Tryz.func188, Tryz.ntmps188
    go_wp2_with fail
    refine (unhide HE).mono ?_
    rintro e w1 ⟨rfl, hk1⟩
    have HK := hide (unhide HS _ hk1)
    clear hk1 HS HE
    go_wp2_with fail
    go_ret
    exact ⟨rfl, unhide HK⟩

set_option maxHeartbeats 400000 in
theorem lput31 {B gb : Nat} {F : List Nat} {cs : List (List Ver)} (a2 : Option Addr) (c : Nat) (ps : List Ver) (w : World) (h : Lg B w gb F cs []) (hp : Prs w a2 ps) (hm : ps.length ≤ 1000) :
    Calls Tryz.prog 170 #[.pointer (some ⟨gb, 0, none⟩), .slice a2 ps.length c] w fun e w' => e = .returned (.int .i64 (lcode cs ps)) ∧ LgTo B w gb F (lput cs ps) [] w' := by
  have ht := ltear30 a2 c ps 9223372036854775807 w h hp hm
  rw [lput_is.1, lput_is.2] at ht
  have HT := hide ht
  clear h hp ht
  generalize lput cs ps = cs' at *
  generalize lcode cs ps = z at *
  go_enter Tryz.func170, Tryz.ntmps170
  go_wp2_with fail
  refine (unhide HT).mono ?_
  rintro e w1 ⟨rfl, h1⟩
  have H1 := hide h1
  clear h1
  go_wp2_with fail
  go_ret
  exact ⟨rfl, unhide H1⟩
end
/- Tear of the document's roll, by its contract. -/
section
open Go.RowKit
attribute [local go_sem ↓] Go.wp_at_zero Go.wp_at_succ

theorem LInv.take {cs : List (List Ver)} (h : LInv cs) (k : Nat) : LInv (cs.take k) :=
  ⟨fun c hc => h.pf c (List.mem_of_mem_take hc), by have := h.n40; simp; omega, by have := h.b3000; have := lb_take_le cs k; omega⟩
theorem cps_take (xs : List El) (k : Nat) : cps (xs.take k) = (cps xs).take k := by simp [cps, List.map_take]

theorem elem_sl : Tryz.prog.elem 62 = 100 := by simp [Program.elem, Tryz.underlying62]
theorem size_sl (W : World) : (sizeOf 100).run Tryz.prog W = .ok 1 W := by
  obtain ⟨i0, hi0, hz0, hz1, hz2⟩ := info_parts Tryz.info100
  simp [sizeOf, typeInfo, hi0, hz1]
theorem under_sl : Tryz.prog.underlying 62 = some (.slice (Tryz.prog.elem 62)) := by rw [elem_sl]; exact Tryz.underlying62
theorem own_partE {B : Nat} {w : World} {a : Option Addr} {cap : Nat} {xs : List El} (h : OwnE B w a cap xs) (k n : Nat) (hk : k ≤ xs.length) (x : Int) (hx : x = k) (W : World) :
    (Instr.slice 62 (.slice a n cap) none (some (.int .i64 x)) none).run Tryz.prog W = .ok (.slice a k cap) W := by
  subst hx
  have hc := h.le
  rw [run_slice_h W 62 a n cap under_sl .i64 _ (by omega) (by omega), elem_sl, size_sl]
  rcases h.cases with ⟨rfl, rfl, rfl⟩ | ⟨g, rfl, _⟩
  · simp [Result.andThen, sliced]
  · simp [Result.andThen, sliced, addr_add]

theorem Prs.kpG {S : List Nat} {w w' : World} {a : Option Addr} {ps : List Ver} (h : Prs w a ps) (hk : Kp S w w') (hS : 0 < ps.length → ∀ g o, a = some ⟨g, o, none⟩ → g ∉ S) : Prs w' a ps :=
  ⟨h.len, h.str, fun hp => by
    obtain ⟨g, o, e, hs⟩ := h.mem hp
    exact ⟨g, o, e, hs.kp hk (hS hp g o e)⟩⟩

section
variable {B : Nat} {w W w4 : World} {rb : Nat} {G : List Nat} {aL a' : Option Addr} {capL cap' : Nat} {xs : List El} {aT : Option Addr} {cT : Nat}
end

end
/- The document's roll of commits, at a place of a greater box: its memory; Mend and Bytes, by their contracts. -/
section
open Go.RowKit
attribute [local go_sem ↓] Go.wp_at_zero Go.wp_at_succ

/-- A roll's memory: the box rb holds, from place o on, the commits and what is torn; bx: all its cells; G: all blocks that are the roll's own, the box among them. -/
structure RxL (B : Nat) (w : World) (rb o : Nat) (bx : Array Value) (T : TypeId) (G : List Nat) (aL : Option Addr) (capL : Nat) (xs : List El) (aT : Option Addr) (cT : Nat) (torn : List UInt8) : Prop where
  box : w.heap[rb]? = some (.cells bx T (0, 0))
  b0 : bx[o]? = some (.slice aL xs.length capL)
  b1 : bx[o + 1]? = some (.slice aT torn.length cT)
  own : OwnE B w aL capL xs
  els : ∀ e ∈ xs, SlO w e.a e.ps ∧ ∀ x ∈ ob e.a, x ∈ G ∧ x ≠ rb ∧ x ∉ ob aL
  tb : Byt w aT torn
  tn : torn = [] → aT = none ∧ cT = 0
  tG : ∀ x ∈ ob aT, x ∈ G ∧ x ≠ rb
  ne : rb ∉ ob aL
  rG : rb ∈ G
  aG : ∀ x ∈ ob aL, x ∈ G
  lo : ∀ x ∈ G, B ≤ x ∧ x < w.heap.size
  inv : LInv (cps xs)
  tl : torn.length ≤ 114
  hB : B ≤ w.heap.size
def Rx (B : Nat) (w : World) (rb o : Nat) (bx : Array Value) (T : TypeId) (G : List Nat) (cs : List (List Ver)) (torn : List UInt8) : Prop := ∃ aL capL xs aT cT, RxL B w rb o bx T G aL capL xs aT cT torn ∧ cs = cps xs
/-- All cells but the two at o are as they were. -/
def SameB (o : Nat) (bx bx' : Array Value) : Prop := bx'.size = bx.size ∧ ∀ i, i ≠ o → i ≠ o + 1 → bx'[i]? = bx[i]?
theorem sameB_refl (o : Nat) (bx : Array Value) : SameB o bx bx := ⟨rfl, fun _ _ _ => rfl⟩
theorem SameB.trans {o : Nat} {a b c : Array Value} (h : SameB o a b) (k : SameB o b c) : SameB o a c := ⟨k.1.trans h.1, fun i h1 h2 => (k.2 i h1 h2).trans (h.2 i h1 h2)⟩
theorem sameB_set (o : Nat) (bx : Array Value) (i : Nat) (v : Value) (hi : i = o ∨ i = o + 1) : SameB o bx (bx.setIfInBounds i v) := ⟨by simp, fun j h1 h2 => by rw [Array.getElem?_setIfInBounds_ne (by omega)]⟩
theorem set_here {bx : Array Value} {i : Nat} {u : Value} (h : bx[i]? = some u) (v : Value) : (bx.setIfInBounds i v)[i]? = some v := by
  have hl : i < bx.size := (Array.getElem?_eq_some_iff.1 h).1
  simp [hl]
theorem set_there {bx : Array Value} {i j : Nat} {u : Value} (h : bx[j]? = some u) (hn : i ≠ j) (v : Value) : (bx.setIfInBounds i v)[j]? = some u := by
  rw [Array.getElem?_setIfInBounds_ne hn]; exact h

section
variable {B : Nat} {w w' : World} {rb o : Nat} {bx : Array Value} {T : TypeId} {G S : List Nat} {aL : Option Addr} {capL : Nat} {xs : List El} {aT : Option Addr} {cT : Nat} {torn : List UInt8} {cs : List (List Ver)}
theorem RxL.kp (h : RxL B w rb o bx T G aL capL xs aT cT torn) (hk : Kp S w w') (hS : ∀ x, x ∈ G → x ∉ S) : RxL B w' rb o bx T G aL capL xs aT cT torn :=
  ⟨by rw [hk.block rb (h.lo rb h.rG).2 (hS _ h.rG)]; exact h.box, h.b0, h.b1, h.own.kp hk (fun x hx => hS x (h.aG x hx)), fun e he => ⟨(h.els e he).1.kp hk (fun x hx => hS x ((h.els e he).2 x hx).1), (h.els e he).2⟩, h.tb.kpo hk (fun x hx => hS x (h.tG x hx).1), h.tn, h.tG, h.ne, h.rG, h.aG, fun x hx => ⟨(h.lo x hx).1, Nat.lt_of_lt_of_le (h.lo x hx).2 hk.size⟩, h.inv, h.tl, Nat.le_trans h.hB hk.size⟩
theorem Rx.kp (h : Rx B w rb o bx T G cs torn) (hk : Kp S w w') (hS : ∀ x, x ∈ G → x ∉ S) : Rx B w' rb o bx T G cs torn := by
  obtain ⟨aL, capL, xs, aT, cT, h, e⟩ := h
  exact ⟨aL, capL, xs, aT, cT, h.kp hk hS, e⟩
theorem Rx.kp0 (h : Rx B w rb o bx T G cs torn) (hk : Kp [] w w') : Rx B w' rb o bx T G cs torn := h.kp hk (fun _ _ => by simp)
theorem Rx.lo (h : Rx B w rb o bx T G cs torn) : ∀ x, x ∈ G → B ≤ x ∧ x < w.heap.size := by
  obtain ⟨aL, capL, xs, aT, cT, h, e⟩ := h
  exact h.lo
theorem Rx.inv (h : Rx B w rb o bx T G cs torn) : LInv cs := by
  obtain ⟨aL, capL, xs, aT, cT, h, e⟩ := h
  subst e
  exact h.inv
theorem Rx.base {C : Nat} (h : Rx B w rb o bx T G cs torn) (hC : C ≤ B) : Rx C w rb o bx T G cs torn := by
  obtain ⟨aL, capL, xs, aT, cT, h, e⟩ := h
  exact ⟨aL, capL, xs, aT, cT, ⟨h.box, h.b0, h.b1, h.own.base hC, h.els, h.tb, h.tn, h.tG, h.ne, h.rG, h.aG, fun x hx => ⟨Nat.le_trans hC (h.lo x hx).1, (h.lo x hx).2⟩, h.inv, h.tl, Nat.le_trans hC h.hB⟩, e⟩
theorem RxL.c0 (h : RxL B w rb o bx T G aL capL xs aT cT torn) : w.cell? ⟨rb, o, none⟩ = some (.slice aL xs.length capL) := cell_of_block h.box h.b0
theorem RxL.c1 (h : RxL B w rb o bx T G aL capL xs aT cT torn) : w.cell? ⟨rb, o + 1, none⟩ = some (.slice aT torn.length cT) := cell_of_block h.box h.b1
theorem RxL.fz (h : RxL B w rb o bx T G aL capL xs aT cT torn) (i : Nat) : w.frozen? ⟨rb, i, none⟩ = false := frozen_of_block i h.box
end

/-- What a call that changes a roll leaves. -/
def RxTo (B : Nat) (w : World) (rb o : Nat) (bx : Array Value) (T : TypeId) (G : List Nat) (cs : List (List Ver)) (torn : List UInt8) (w' : World) : Prop := ∃ G' bx', Rx B w' rb o bx' T G' cs torn ∧ SameB o bx bx' ∧ Kp G w w' ∧ ∀ x, x ∈ G' → x ∈ G ∨ w.heap.size ≤ x
theorem rxTo_same {B : Nat} {w w' : World} {rb o : Nat} {bx : Array Value} {T : TypeId} {G : List Nat} {cs : List (List Ver)} {torn : List UInt8} (h : Rx B w rb o bx T G cs torn) (hk : Kp [] w w') : RxTo B w rb o bx T G cs torn w' :=
  ⟨G, bx, h.kp0 hk, sameB_refl _ _, hk.mono (fun x hx => by simp at hx), fun x hx => .inl hx⟩
theorem RxTo.trans_at {B : Nat} {w w1 w2 : World} {rb o : Nat} {bx bx1 : Array Value} {T : TypeId} {G G1 : List Nat} {cs' : List (List Ver)} {torn' : List UInt8} (hb : SameB o bx bx1) (h2 : Kp G w w1) (h3 : ∀ x, x ∈ G1 → x ∈ G ∨ w.heap.size ≤ x) (k : RxTo B w1 rb o bx1 T G1 cs' torn' w2) : RxTo B w rb o bx T G cs' torn' w2 := by
  obtain ⟨G2, bx2, k1, kb, k2, k3⟩ := k
  refine ⟨G2, bx2, k1, hb.trans kb, h2.trans k2 h3, fun x hx => ?_⟩
  rcases k3 x hx with e | e
  · exact h3 x e
  · exact .inr (Nat.le_trans h2.size e)

theorem RxL.mend {B : Nat} {w : World} {rb o : Nat} {bx : Array Value} {T : TypeId} {G : List Nat} {aL : Option Addr} {capL : Nat} {xs : List El} {aT : Option Addr} {cT : Nat} {torn : List UInt8} (h : RxL B w rb o bx T G aL capL xs aT cT torn) :
    RxTo B w rb o bx T G (cps xs) [] (w.setCell ⟨rb, o + 1, none⟩ (.slice none 0 0)) := by
  have hk : Kp [rb] w (w.setCell ⟨rb, o + 1, none⟩ (.slice none 0 0)) := (Kp.refl [rb] w).setCell (.inl (by simp)) _
  refine ⟨G, bx.setIfInBounds (o + 1) (.slice none 0 0), ⟨aL, capL, xs, none, 0, ⟨?_, set_there h.b0 (by omega) _, set_here h.b1 _, ?_, fun e he => ⟨?_, (h.els e he).2⟩, byt_nil _ _, fun _ => ⟨rfl, rfl⟩, by simp [ob], h.ne, h.rG, h.aG, fun x hx => ⟨(h.lo x hx).1, Nat.lt_of_lt_of_le (h.lo x hx).2 hk.size⟩, h.inv, by simp, Nat.le_trans h.hB hk.size⟩, rfl⟩, sameB_set _ _ _ _ (.inr rfl), hk.mono (fun x hx => .inl (by rw [List.mem_singleton.1 hx]; exact h.rG)), fun x hx => .inl hx⟩
  · exact heap_setCell_at (o + 1) _ h.box
  · exact h.own.kp hk (fun x hx e => h.ne (by rw [← List.mem_singleton.1 e]; exact hx))
  · exact (h.els e he).1.kp hk (fun x hx e2 => ((h.els e he).2 x hx).2.1 (List.mem_singleton.1 e2))

set_option maxHeartbeats 400000 in
theorem rxmend {B rb o : Nat} {bx : Array Value} {T : TypeId} {G : List Nat} {cs : List (List Ver)} {torn : List UInt8} (w : World) (h : Rx B w rb o bx T G cs torn) :
    Calls Tryz.prog 100 #[.pointer (some ⟨rb, o, none⟩)] w fun e w' => e = .returned (.int .i64 torn.length) ∧ RxTo B w rb o bx T G cs [] w' := by
  obtain ⟨aL, capL, xs, aT, cT, h, e⟩ := h
  have q1 := h.c1
  have f1 := h.fz (o + 1)
  have HM := hide h.mend
  have hT := h.tl
  have HE := hide e
  clear h e
  generalize torn.length = t at *
  go_enter Tryz.func100, Tryz.ntmps100
  go_wp2_with fail
  go_ret
  exact ⟨rfl, by rw [unhide HE]; exact unhide HM⟩


set_option maxHeartbeats 1000000 in
theorem rxbytes {B rb o : Nat} {bx : Array Value} {T : TypeId} {G : List Nat} {cs : List (List Ver)} {torn : List UInt8} (w : World) (h : Rx B w rb o bx T G cs torn) :
    Calls Tryz.prog 145 #[.pointer (some ⟨rb, o, none⟩)] w fun e w' => BtEnd (lb cs ++ torn) w e w' := by
  obtain ⟨aL, capL, xs, aT, cT, h, e⟩ := h
  have hlen : cs.length = xs.length := by rw [e, cps_length]
  have hn40 := h.inv.n40
  have hb3 := h.inv.b3000
  rw [← e] at hn40 hb3
  have htl := h.tl
  have HI := hide h.inv
  rw [← e] at HI
  have HE := hide e
  have HL := hide h
  have hx40 : xs.length ≤ 40 := by omega
  clear h e
  go_enter Tryz.func145, Tryz.ntmps145
  go_wp2_with fail
  go_loopw [3, 4] (fun o i wr => ∃ (k : Nat) (a : Option Addr) (cap n : Nat), k ≤ xs.length ∧ o = .slice a n cap ∧ i = .int .i64 k ∧ Hid (RbI w cs k a cap n wr)) (fun _ i _ => xs.length - (intOf i).toNat)
  case atStart => exact ⟨0, none, 0, 0, by omega, rfl, rfl, ⟨by simp [lb], by simpa [lb] using ownU_nil _ _, Kp.refl _ _⟩⟩
  case round =>
    obtain ⟨k, a, cap, n, hk, rfl, rfl, HR⟩ := hrel
    have q0 : wr.cell? ⟨rb, o, none⟩ = some (.slice aL xs.length capL) := (unhide HR).kp.cell (by simp) (unhide HL).c0
    by_cases hlt : k < xs.length
    · obtain ⟨gL, rfl, hc⟩ := (unhide HL).own.cell hlt
      have q1 : wr.cell? ⟨gL, k, none⟩ = some (.slice (eat xs k).a (eat xs k).ps.length (eat xs k).c) := (unhide HR).kp.cell (by simp) hc
      have q1' : wr.cell? ⟨gL, 0 + k, none⟩ = some (.slice (eat xs k).a (eat xs k).ps.length (eat xs k).c) := by rw [Nat.zero_add]; exact q1
      have i0 : (0 : Int) ≤ (k : Int) := by omega
      have i1 : (k : Int) < (xs.length : Int) := by omega
      have hcs : cs.getD k [] = (eat xs k).ps := by rw [unhide HE, cps_at hlt]
      have hpf : pf (-1) (eat xs k).ps = 0 := by rw [← hcs]; exact (unhide HI).at_ (by omega)
      have hpr := slo_prs (((unhide HL).els _ (eat_mem hlt)).1.kp0 (unhide HR).kp) hpf
      have HB := hide (bytesOf11 (eat xs k).a (eat xs k).c (eat xs k).ps wr hpr hpf)
      have hel := enc_le hpf
      have HC := hide hcs
      have htk := lb_take_le cs k
      clear hc hcs hpf hpr
      go_wp2_with fail
      refine (unhide HB).mono ?_
      rintro e w2 ⟨g2, c2, n2, rfl, hn2, hr2⟩
      have HN2 := hide hn2
      have HR2 := hide hr2
      clear hn2 hr2 q0 q1 q1' HB
      go_wp2_with (at_builtin; refine wpList_appx (by rfl) (.tmp 14) (.tmp 22) 42 rfl ((unhide HR).own.kp0 (unhide HR2).kp) (Nat.le_trans (unhide HR).kp.size (unhide HR2).kp.size) n (unhide HR).len (.slice (some ⟨g2, 0, none⟩) n2 c2) (enc (eat xs k).ps) rfl rfl ((unhide HR2).src (unhide HN2)) (by omega) ?_; intro a3 c3 n3 w3 hn3 ho3 hk3 hx3)
      rw [← unhide HC] at hn3 ho3
      exact ⟨⟨k + 1, a3, c3, n3, by omega, rfl, by go_num, (unhide HR).next (by omega) (unhide HR2).kp (unhide hn3) (unhide ho3) (unhide hk3)⟩, by simp [intOf]; omega⟩
    · have e : k = cs.length := by omega
      have r1 : wr.cell? ⟨rb, o + 1, none⟩ = some (.slice aT torn.length cT) := (unhide HR).kp.cell (by simp) (unhide HL).c1
      have hA : n = (lb cs).length ∧ OwnU w.heap.size wr a cap (lb cs) := by
        have h1 := (unhide HR).len
        have h2 := (unhide HR).own
        rw [e, List.take_length] at h1 h2
        exact ⟨h1, h2⟩
      have HA := hide hA
      clear hA e
      go_wp2_with (at_builtin; refine wpList_appx (by rfl) (.tmp 24) (.tmp 28) 42 rfl (unhide HA).2 (unhide HR).kp.size n (unhide HA).1 (.slice aT torn.length cT) torn rfl rfl (((unhide HL).tb.kp0 (unhide HR).kp).src cT) (by omega) ?_; intro a3 c3 n3 w3 hn3 ho3 hk3 hx3)
      go_ret
      exact ⟨a3, n3, c3, rfl, unhide hn3, by rw [unhide hn3]; exact (unhide ho3).le, (unhide ho3).byt, (unhide HR).kp.trans (unhide hk3) (fun x hx => .inr ((unhide HA).2.lo x hx).1)⟩
end
/- Put of the document's roll at a place of a greater box, by its contract. -/
section
open Go.RowKit
attribute [local go_sem ↓] Go.wp_at_zero Go.wp_at_succ

section
variable {B : Nat} {w W w4 : World} {rb o : Nat} {bx : Array Value} {T : TypeId} {G : List Nat} {aL a' : Option Addr} {capL cap' : Nat} {xs : List El} {aT : Option Addr} {cT : Nat}
theorem RxL.far (h : RxL B w rb o bx T G aL capL xs aT cT []) (hW : Kp [] w W) (hk : Kp (ob aL) W w4) :
    w4.heap[rb]? = some (.cells bx T (0, 0)) := by
  rw [hk.block rb (Nat.lt_of_lt_of_le (h.lo rb h.rG).2 hW.size) h.ne, hW.block rb (h.lo rb h.rG).2 (by simp)]
  exact h.box
theorem RxL.far_cells (h : RxL B w rb o bx T G aL capL xs aT cT []) (hW : Kp [] w W) (hk : Kp (ob aL) W w4) : w4.cell? ⟨rb, o, none⟩ = some (.slice aL xs.length capL) ∧ w4.frozen? ⟨rb, o, none⟩ = false ∧ rb < w4.heap.size := by
  have hb := h.far hW hk
  exact ⟨cell_of_block hb h.b0, frozen_of_block _ hb, lt_of_block hb⟩

theorem RxL.put (h : RxL B w rb o bx T G aL capL xs aT cT []) (hW : Kp [] w W) (e : El) (he : SlO W e.a e.ps) (hen : ∀ x ∈ ob e.a, w.heap.size ≤ x ∧ x < W.heap.size) (hk : Kp (ob aL) W w4) (ho : OwnE B w4 a' cap' (xs ++ [e])) (hn : ∀ x ∈ ob a', x ∈ ob aL ∨ W.heap.size ≤ x)
    (hc : lcode (cps xs) e.ps = 0) : RxTo B w rb o bx T G (cps xs ++ [e.ps]) [] (w4.setCell ⟨rb, o, none⟩ (.slice a' (xs.length + 1) cap')) := by
  obtain ⟨rfl, rfl⟩ := h.tn rfl
  have hgl := (h.lo rb h.rG).2
  have hWs := hW.size
  have hk3 : Kp [rb] w4 (w4.setCell ⟨rb, o, none⟩ (.slice a' (xs.length + 1) cap')) := (Kp.refl [rb] w4).setCell (.inl (by simp)) _
  have hne : rb ∉ ob a' := fun hm => by
    rcases hn rb hm with q | q
    · exact h.ne q
    · omega
  have hKG : Kp G w (w4.setCell ⟨rb, o, none⟩ (.slice a' (xs.length + 1) cap')) := by
    have k1 : Kp G w w4 := (hW.mono (fun x hx => by simp at hx)).trans hk (fun x hx => .inl (h.aG x hx))
    exact k1.trans hk3 (fun x hx => .inl (by rw [List.mem_singleton.1 hx]; exact h.rG))
  refine ⟨G ++ ob e.a ++ ob a', bx.setIfInBounds o (.slice a' (xs.length + 1) cap'), ⟨a', cap', xs ++ [e], none, 0, ⟨?_, by rw [set_here h.b0]; simp, set_there h.b1 (by omega) _, ?_, fun e0 he0 => ?_, byt_nil _ _, fun _ => ⟨rfl, rfl⟩, by simp [ob], hne, by simp [h.rG], fun x hx => by simp [hx], fun x hx => ?_, ?_, by simp, Nat.le_trans h.hB hKG.size⟩, ?_⟩, sameB_set _ _ _ _ (.inl rfl), hKG, fun x hx => ?_⟩
  · exact heap_setCell_at o _ (h.far hW hk)
  · exact ho.kp hk3 (fun x hx q => hne (by rw [← List.mem_singleton.1 q]; exact hx))
  · rcases List.mem_append.1 he0 with q | q
    · obtain ⟨s1, s2⟩ := h.els e0 q
      refine ⟨((s1.kp0 hW).kp hk (fun x hx => (s2 x hx).2.2)).kp hk3 (fun x hx q2 => (s2 x hx).2.1 (List.mem_singleton.1 q2)), fun x hx => ⟨by simp [(s2 x hx).1], (s2 x hx).2.1, fun q2 => ?_⟩⟩
      rcases hn x q2 with q3 | q3
      · exact (s2 x hx).2.2 q3
      · have := (h.lo x (s2 x hx).1).2; omega
    · rw [List.mem_singleton.1 q]
      have haL : ∀ x ∈ ob e.a, x ∉ ob aL := fun x hx q2 => by
        have h1 := (hen x hx).1
        have h2 := (h.lo x (h.aG x q2)).2
        omega
      have hrb : ∀ x ∈ ob e.a, x ≠ rb := fun x hx q2 => by
        have h1 := (hen x hx).1
        omega
      refine ⟨(he.kp hk haL).kp hk3 (fun x hx q2 => hrb x hx (List.mem_singleton.1 q2)), fun x hx => ⟨by simp [hx], hrb x hx, fun q2 => ?_⟩⟩
      rcases hn x q2 with q3 | q3
      · exact haL x hx q3
      · have := (hen x hx).2; omega
  · have hs4 : W.heap.size ≤ (w4.setCell ⟨rb, o, none⟩ (.slice a' (xs.length + 1) cap')).heap.size := Nat.le_trans hk.size hk3.size
    rcases List.mem_append.1 hx with q | q
    · rcases List.mem_append.1 q with q | q
      · exact ⟨(h.lo x q).1, Nat.lt_of_lt_of_le (h.lo x q).2 hKG.size⟩
      · have h1 := hen x q
        have := h.hB
        exact ⟨by omega, by omega⟩
    · have h1 := ho.lo x q
      exact ⟨h1.1, Nat.lt_of_lt_of_le h1.2 hk3.size⟩
  · rw [cps_append]
    exact h.inv.snoc hc
  · rw [cps_append]; rfl
  · rcases List.mem_append.1 hx with q | q
    · rcases List.mem_append.1 q with q | q
      · exact .inl q
      · exact .inr (hen x q).1
    · rcases hn x q with q3 | q3
      · exact .inl (h.aG x q3)
      · exact .inr (by omega)
end

set_option maxHeartbeats 2000000 in
theorem rxput {B rb o : Nat} {bx : Array Value} {T : TypeId} {G : List Nat} {cs : List (List Ver)} (a2 : Option Addr) (c : Nat) (ps : List Ver) (w : World) (h : Rx B w rb o bx T G cs []) (hp : Prs w a2 ps) (hm : ps.length ≤ 1000) :
    Calls Tryz.prog 106 #[.pointer (some ⟨rb, o, none⟩), .slice a2 ps.length c] w fun e w' => e = .returned (.int .i64 (lcode cs ps)) ∧ RxTo B w rb o bx T G (lput cs ps) [] w' := by
  have hinv := h.inv
  have hn40 := hinv.n40
  have hb3000 := hinv.b3000
  have HS := hide (fun w' (hk : Kp [] w w') => rxTo_same h hk)
  have HBY := hide (fun w' (hk : Kp [] w w') => rxbytes w' (h.kp0 hk))
  obtain ⟨aL, capL, xs, aT, cT, h, e⟩ := h
  have hlen : cs.length = xs.length := by rw [e, cps_length]
  have HP := hide hp
  have HF := hide (pfault37 a2 c ps w hp hm)
  have HB := hide h
  have HE := hide e
  clear h hp e hinv
  by_cases hpf : pf (-1) ps = 0
  · have hel := enc_le hpf
    have HBO := hide (fun w' (hk : Kp [] w w') => bytesOf11 a2 c ps w' ((unhide HP).kp0 hk) hpf)
    have HPF := hide hpf
    by_cases h40 : 40 ≤ cs.length
    · have hc := lcode_full (cs := cs) hpf (.inl h40)
      rw [hc, show lput cs ps = cs by unfold lput; rw [hc]; simp]
      rw [hlen] at h40
      clear hc hpf
      go_enter Tryz.func106, Tryz.ntmps106
      go_wp2_with fail
      refine (unhide HF).mono ?_
      rintro e w1 ⟨rfl, hk1⟩
      rw [unhide HPF]
      have r0 : w1.cell? ⟨rb, o, none⟩ = some (.slice aL xs.length capL) := hk1.cell (by simp) (unhide HB).c0
      have HK := hide hk1
      clear hk1
      generalize xs.length = C at *
      go_wp2_with fail
      go_ret
      exact ⟨rfl, unhide HS _ (unhide HK)⟩
    · by_cases hfull : 3000 < (lb cs).length + (enc ps).length
      · have hc := lcode_full (cs := cs) hpf (.inr hfull)
        rw [hc, show lput cs ps = cs by unfold lput; rw [hc]; simp]
        rw [hlen] at h40
        clear hc hpf
        go_enter Tryz.func106, Tryz.ntmps106
        go_wp2_with fail
        refine (unhide HF).mono ?_
        rintro e w1 ⟨rfl, hk1⟩
        rw [unhide HPF]
        have r0 : w1.cell? ⟨rb, o, none⟩ = some (.slice aL xs.length capL) := hk1.cell (by simp) (unhide HB).c0
        have HK := hide hk1
        clear hk1
        generalize xs.length = C at *
        have f1 : ¬ (40 : Int) ≤ (C : Int) := by omega
        go_wp2_with fail
        refine (unhide HBY _ (unhide HK)).mono ?_
        rintro e w2 ⟨a3, n3, c3, rfl, hn3, hc3, hb3, hk3⟩
        have HK2 := hide ((unhide HK).trans0 hk3)
        rw [List.append_nil] at hn3
        rw [← hn3] at hfull hb3000
        clear hn3 hc3 hb3 hk3
        go_wp2_with fail
        refine (unhide HBO _ (unhide HK2)).mono ?_
        rintro e w3 ⟨g4, c4, n4, rfl, hn4, hr4⟩
        have HK3 := hide ((unhide HK2).trans0 hr4.kp)
        rw [← hn4] at hfull hel
        clear hn4 hr4
        have f2 : (3000 : Int) < (n3 : Int) + (n4 : Int) := by omega
        go_wp2_with fail
        go_ret
        exact ⟨rfl, unhide HS _ (unhide HK3)⟩
      · have hc := lcode_ok (cs := cs) hpf (fun q => q.elim h40 hfull)
        rw [hc, show lput cs ps = cs ++ [ps] by unfold lput; rw [hc]; simp]
        rw [hlen] at h40
        have HC := hide hc
        clear hc hpf
        go_enter Tryz.func106, Tryz.ntmps106
        go_wp2_with fail
        refine (unhide HF).mono ?_
        rintro e w1 ⟨rfl, hk1⟩
        rw [unhide HPF]
        have r0 : w1.cell? ⟨rb, o, none⟩ = some (.slice aL xs.length capL) := hk1.cell (by simp) (unhide HB).c0
        have HK := hide hk1
        clear hk1
        obtain ⟨C, hC⟩ : ∃ C, xs.length = C := ⟨_, rfl⟩
        rw [hC] at h40 r0
        have f1 : ¬ (40 : Int) ≤ (C : Int) := by omega
        have HCC := hide hC
        clear hC hlen
        go_wp2_with fail
        refine (unhide HBY _ (unhide HK)).mono ?_
        rintro e w2 ⟨a3, n3, c3, rfl, hn3, hc3, hb3, hk3⟩
        have HK2 := hide ((unhide HK).trans0 hk3)
        rw [List.append_nil] at hn3
        rw [← hn3] at hfull hb3000
        clear hn3 hc3 hb3 hk3
        go_wp2_with fail
        refine (unhide HBO _ (unhide HK2)).mono ?_
        rintro e w3 ⟨g4, c4, n4, rfl, hn4, hr4⟩
        have HK3 := hide ((unhide HK2).trans0 hr4.kp)
        rw [← hn4] at hfull hel
        clear hn4 hr4 r0
        have f2 : ¬ (3000 : Int) < (n3 : Int) + (n4 : Int) := by omega
        have r0 : w3.cell? ⟨rb, o, none⟩ = some (.slice aL C capL) := by rw [← unhide HCC]; exact (unhide HK3).cell (by simp) (unhide HB).c0
        have hB3 : B ≤ w3.heap.size := Nat.le_trans (unhide HB).hB (unhide HK3).size
        go_wp2_with fail
        go_region_law (first | (refine step_pairs_nil (by rfl) (.tmp 33) (.tmp 34) (by rfl) c (((unhide HP).kp0 (unhide HK3)).kp0 (Kp.refl [] _).drew).mem (by omega) (by rfl) (by rfl) ?_; intro a5 c5 w5 hs5 hx5 hk5; obtain ⟨t0, t1, t2⟩ := (unhide HB).far_cells (((unhide HK3).drew).trans0 (unhide hk5)) (Kp.refl _ _); rw [unhide HCC] at t0) | (refine step_appe (by rfl) (.tmp 32) (.tmp 36) (by rfl) (xs := xs) (((((unhide HB).own.kp0 (unhide HK3)).kp0 (Kp.refl [] _).drew).kp0 (unhide hk5)).kp0 ((Kp.refl [] _).alloc _)) (by have := (unhide hk5).size; simp at this; simp; omega) ⟨a5, c5, ps⟩ w5.heap.size (heap_alloc_new w5 _) (by have := unhide HCC; omega) (by rw [unhide HCC]; rfl) (by rfl) ?_; intro a6 c6 w6 ho6 hk6 hx6; obtain ⟨u0, u1, u2⟩ := (unhide HB).far_cells ((((unhide HK3).drew).trans0 (unhide hk5)).alloc _) (unhide hk6); rw [unhide HCC] at u0; rw [unhide HCC]))
        all_goals
          go_wp2_with fail
          go_ret
          refine ⟨rfl, ?_⟩
          have hput := (unhide HB).put ((((unhide HK3).drew).trans0 (unhide hk5)).alloc _) ⟨a5, c5, ps⟩ ((unhide hs5).kp0 ((Kp.refl [] _).alloc _)) (fun x hx => by have h1 := unhide hx5 x hx; have h2 := (unhide HK3).size; simp at h1; simp; omega) (unhide hk6) (unhide ho6) (unhide hx6) (by rw [← unhide HE]; exact unhide HC)
          rw [← unhide HE, unhide HCC] at hput
          exact hput
  · have hc := lcode_bad (cs := cs) hpf
    rw [hc, show lput cs ps = cs by unfold lput; rw [hc, if_neg hpf]]
    clear hc HB HE hlen HBY HP
    generalize pf (-1) ps = z at *
    go_enter Tryz.func106, Tryz.ntmps106
    go_wp2_with fail
    refine (unhide HF).mono ?_
    rintro e w1 ⟨rfl, hk1⟩
    have HK := hide (unhide HS _ hk1)
    clear hk1 HS HF
    go_wp2_with fail
    go_ret
    exact ⟨rfl, unhide HK⟩
end
/- Tear of the document's roll at a place of a greater box, by its contract. -/
section
open Go.RowKit
attribute [local go_sem ↓] Go.wp_at_zero Go.wp_at_succ

section
variable {B : Nat} {w W w4 : World} {rb o : Nat} {bx : Array Value} {T : TypeId} {G : List Nat} {aL a' : Option Addr} {capL cap' : Nat} {xs : List El} {aT : Option Addr} {cT : Nat}
theorem RxL.pop (h : RxL B w rb o bx T G aL capL xs aT cT []) (hW : Kp [] w W) (k : Nat) (hk : k ≤ xs.length) : RxTo B w rb o bx T G (cps (xs.take k)) [] (W.setCell ⟨rb, o, none⟩ (.slice aL k capL)) := by
  obtain ⟨rfl, rfl⟩ := h.tn rfl
  have hW1 := h.kp hW (fun _ _ => by simp)
  have hk3 : Kp [rb] W (W.setCell ⟨rb, o, none⟩ (.slice aL k capL)) := (Kp.refl [rb] W).setCell (.inl (by simp)) _
  have hKG : Kp G w (W.setCell ⟨rb, o, none⟩ (.slice aL k capL)) := (hW.mono (fun x hx => by simp at hx)).trans hk3 (fun x hx => .inl (by rw [List.mem_singleton.1 hx]; exact h.rG))
  have hl : (xs.take k).length = k := by simp; omega
  refine ⟨G, bx.setIfInBounds o (.slice aL k capL), ⟨aL, capL, xs.take k, none, 0, ⟨?_, by rw [set_here h.b0, hl], set_there h.b1 (by omega) _, ?_, fun e he => ?_, byt_nil _ _, fun _ => ⟨rfl, rfl⟩, by simp [ob], h.ne, h.rG, h.aG, fun x hx => ⟨(h.lo x hx).1, Nat.lt_of_lt_of_le (h.lo x hx).2 hKG.size⟩, ?_, by simp, Nat.le_trans h.hB hKG.size⟩, rfl⟩, sameB_set _ _ _ _ (.inl rfl), hKG, fun x hx => .inl hx⟩
  · exact heap_setCell_at o _ hW1.box
  · exact (hW1.own.take k hk).kp hk3 (fun x hx q => h.ne (by rw [← List.mem_singleton.1 q]; exact hx))
  · have he2 := List.mem_of_mem_take he
    exact ⟨(hW1.els e he2).1.kp hk3 (fun x hx q => ((h.els e he2).2 x hx).2.1 (List.mem_singleton.1 q)), (h.els e he2).2⟩
  · rw [cps_take]; exact h.inv.take k

theorem RxL.torn (h : RxL B w rb o bx T G aL capL xs aT cT []) (hW : Kp [] w W) (hk : Kp [] W w4) {a3 : Option Addr} {c3 N : Nat} {t : List UInt8} (ho : OwnU B w4 a3 c3 t) (hn : ∀ x ∈ ob a3, W.heap.size ≤ x) (hN : N = t.length) (ht : t ≠ []) (htl : t.length ≤ 114) :
    RxTo B w rb o bx T G (cps xs) t (w4.setCell ⟨rb, o + 1, none⟩ (.slice a3 N c3)) := by
  subst hN
  have hWs := hW.size
  have hW1 := (h.kp hW (fun _ _ => by simp)).kp hk (fun _ _ => by simp)
  have hk3 : Kp [rb] w4 (w4.setCell ⟨rb, o + 1, none⟩ (.slice a3 t.length c3)) := (Kp.refl [rb] w4).setCell (.inl (by simp)) _
  have hKG : Kp G w (w4.setCell ⟨rb, o + 1, none⟩ (.slice a3 t.length c3)) := ((hW.trans0 hk).mono (fun x hx => by simp at hx)).trans hk3 (fun x hx => .inl (by rw [List.mem_singleton.1 hx]; exact h.rG))
  have hrb : ∀ x ∈ ob a3, x ≠ rb := fun x hx q => by
    have h1 := hn x hx
    have h2 := (h.lo rb h.rG).2
    omega
  refine ⟨G ++ ob a3, bx.setIfInBounds (o + 1) (.slice a3 t.length c3), ⟨aL, capL, xs, a3, c3, ⟨?_, set_there h.b0 (by omega) _, set_here h.b1 _, ?_, fun e he => ?_, ?_, fun q => absurd q ht, fun x hx => ⟨by simp [hx], hrb x hx⟩, h.ne, by simp [h.rG], fun x hx => by simp [h.aG x hx], fun x hx => ?_, h.inv, htl, Nat.le_trans h.hB hKG.size⟩, rfl⟩, sameB_set _ _ _ _ (.inr rfl), hKG, fun x hx => ?_⟩
  · exact heap_setCell_at (o + 1) _ hW1.box
  · exact hW1.own.kp hk3 (fun x hx q => h.ne (by rw [← List.mem_singleton.1 q]; exact hx))
  · exact ⟨(hW1.els e he).1.kp hk3 (fun x hx q => ((h.els e he).2 x hx).2.1 (List.mem_singleton.1 q)), fun x hx => ⟨by simp [((h.els e he).2 x hx).1], ((h.els e he).2 x hx).2⟩⟩
  · exact ho.byt.kpo hk3 (fun x hx q => hrb x hx (List.mem_singleton.1 q))
  · rcases List.mem_append.1 hx with q | q
    · exact ⟨(h.lo x q).1, Nat.lt_of_lt_of_le (h.lo x q).2 hKG.size⟩
    · exact ⟨(ho.lo x q).1, Nat.lt_of_lt_of_le (ho.lo x q).2 hk3.size⟩
  · rcases List.mem_append.1 hx with q | q
    · exact .inl q
    · exact .inr (Nat.le_trans hWs (hn x q))
end

set_option maxHeartbeats 2000000 in
theorem rxtear {B rb o : Nat} {bx : Array Value} {T : TypeId} {G : List Nat} {cs : List (List Ver)} (a2 : Option Addr) (c : Nat) (ps : List Ver) (keep : Int) (w : World) (h : Rx B w rb o bx T G cs []) (hp : Prs w a2 ps) (hpG : 0 < ps.length → ∀ g o, a2 = some ⟨g, o, none⟩ → g ∉ G) (hm : ps.length ≤ 1000) :
    Calls Tryz.prog 74 #[.pointer (some ⟨rb, o, none⟩), .slice a2 ps.length c, .int .i64 keep] w fun e w' => e = .returned (.int .i64 (lcode cs ps)) ∧ RxTo B w rb o bx T G (ltear cs ps keep) (ltorn cs ps keep) w' := by
  have HU := hide (rxput a2 c ps w h hp hm)
  have hn40 := h.inv.n40
  have HG := hide (fun w' (hk : Kp G w w') => hp.kpG hk hpG)
  clear h hp hpG
  by_cases hc : lcode cs ps = 0
  · obtain ⟨hpf, hc40, hroom⟩ := lcode_zero hc
    have hel := enc_le hpf
    have HC := hide hc
    have HPF := hide hpf
    rw [show lput cs ps = cs ++ [ps] by unfold lput; rw [hc]; simp] at HU
    by_cases hk : ((enc ps).length : Int) ≤ keep
    · obtain ⟨e1, e2⟩ := ltear_all hc hk
      rw [e1, e2]
      rw [hc] at HU ⊢
      clear e1 e2 hpf
      go_enter Tryz.func74, Tryz.ntmps74
      go_wp2_with fail
      refine (unhide HU).mono ?_
      rintro e w1 ⟨rfl, h1⟩
      have H1 := hide h1
      obtain ⟨G1, bx1, hR1, hsb, hkG, hG1⟩ := h1
      have HPR := hide (unhide HG _ hkG)
      have HSB := hide hsb
      have HKG := hide hkG
      have HG1 := hide hG1
      have HR1 := hide hR1
      clear hkG hsb hG1 hR1
      go_wp2_with fail
      refine (bytesOf11 a2 c ps w1 (unhide HPR) (unhide HPF)).mono ?_
      rintro e w2 ⟨gx, cx, nx, rfl, hn, hr⟩
      rw [← hn] at hk hel
      have HK := hide hr.kp
      clear hn hr
      go_wp2_with fail
      go_ret
      exact ⟨rfl, RxTo.trans_at (unhide HSB) (unhide HKG) (unhide HG1) (rxTo_same (unhide HR1) (unhide HK))⟩
    · obtain ⟨e1, e2⟩ := ltear_cut hc hk
      rw [e1, e2]
      rw [hc] at HU ⊢
      clear e1 e2 hpf
      by_cases hk0 : keep ≤ 0
      · rw [show keep.toNat = 0 by omega]
        go_enter Tryz.func74, Tryz.ntmps74
        go_wp2_with fail
        refine (unhide HU).mono ?_
        rintro e w1 ⟨rfl, h1⟩
        have H1 := hide h1
        obtain ⟨G1, bx1, hR1, hsb, hkG, hG1⟩ := h1
        have HSB := hide hsb
        clear hsb
        have HPR := hide (unhide HG _ hkG)
        have HKG := hide hkG
        have HG1 := hide hG1
        obtain ⟨aL, capL, xs, aT, cT, hL, he⟩ := hR1
        have HE := hide he
        have HL := hide hL
        obtain ⟨C, hC⟩ : ∃ C, xs.length = C + 1 := ⟨cs.length, by have := congrArg List.length he; rw [cps_length] at this; simp at this; omega⟩
        have hC2 : C = cs.length := by have := congrArg List.length he; rw [cps_length] at this; simp at this; omega
        have HC1 := hide hC
        have HC2 := hide hC2
        have hC40 : C ≤ 40 := by omega
        clear hkG hG1 he hL
        go_wp2_with fail
        refine (bytesOf11 a2 c ps w1 (unhide HPR) (unhide HPF)).mono ?_
        rintro e w2 ⟨gx, cx, nx, rfl, hn, hr⟩
        rw [← hn] at hk hel
        have HK := hide hr.kp
        have r0 : w2.cell? ⟨rb, o, none⟩ = some (.slice aL (C + 1) capL) := by rw [← hC]; exact hr.kp.cell (by simp) (unhide HL).c0
        have r1 : w2.frozen? ⟨rb, o, none⟩ = false := by rw [hr.kp.frozen ((unhide HL).lo rb (unhide HL).rG).2 (by simp)]; exact (unhide HL).fz o
        have hsl := own_partE (unhide HL).own C (C + 1) (by omega) (C : Int) rfl
        have hk' : ¬ keep > 0 := by omega
        clear hn hr hC hC2
        go_wp2_with fail
        go_region
        all_goals
          go_wp2_with fail
          go_ret
          refine ⟨rfl, RxTo.trans_at (unhide HSB) (unhide HKG) (unhide HG1) ?_⟩
          have := (unhide HL).pop ((unhide HK).drew) C (by have := unhide HC1; omega)
          rw [cps_take, ← unhide HE, unhide HC2, List.take_left] at this
          rw [List.take_zero, unhide HC2]
          exact this
      · obtain ⟨k, rfl⟩ : ∃ k : Nat, keep = (k : Int) := ⟨keep.toNat, by omega⟩
        rw [Int.toNat_natCast]
        go_enter Tryz.func74, Tryz.ntmps74
        go_wp2_with fail
        refine (unhide HU).mono ?_
        rintro e w1 ⟨rfl, h1⟩
        have H1 := hide h1
        obtain ⟨G1, bx1, hR1, hsb, hkG, hG1⟩ := h1
        have HSB := hide hsb
        clear hsb
        have HPR := hide (unhide HG _ hkG)
        have HKG := hide hkG
        have HG1 := hide hG1
        obtain ⟨aL, capL, xs, aT, cT, hL, he⟩ := hR1
        have HE := hide he
        have HT := hide (hL.tn rfl)
        have HL := hide hL
        obtain ⟨C, hC⟩ : ∃ C, xs.length = C + 1 := ⟨cs.length, by have := congrArg List.length he; rw [cps_length] at this; simp at this; omega⟩
        have hC2 : C = cs.length := by have := congrArg List.length he; rw [cps_length] at this; simp at this; omega
        have HC1 := hide hC
        have HC2 := hide hC2
        have hC40 : C ≤ 40 := by omega
        clear hkG hG1 he hL
        go_wp2_with fail
        refine (bytesOf11 a2 c ps w1 (unhide HPR) (unhide HPF)).mono ?_
        rintro e w2 ⟨gx, cx, nx, rfl, hn, hr⟩
        rw [← hn] at hk hel
        have HK := hide hr.kp
        have r0 : w2.cell? ⟨rb, o, none⟩ = some (.slice aL (C + 1) capL) := by rw [← hC]; exact hr.kp.cell (by simp) (unhide HL).c0
        have r1 : w2.frozen? ⟨rb, o, none⟩ = false := by rw [hr.kp.frozen ((unhide HL).lo rb (unhide HL).rG).2 (by simp)]; exact (unhide HL).fz o
        have hsl := own_partE (unhide HL).own C (C + 1) (by omega) (C : Int) rfl
        have hkn : k < nx := by omega
        have hkp : 0 < k := by omega
        have s0 : w2.cell? ⟨rb, o + 1, none⟩ = some (.slice none 0 0) := by have h1 := (unhide HL).c1; rw [(unhide HT).1, (unhide HT).2] at h1; exact hr.kp.cell (by simp) h1
        have s1 : w2.frozen? ⟨rb, o + 1, none⟩ = false := by rw [hr.kp.frozen ((unhide HL).lo rb (unhide HL).rG).2 (by simp)]; exact (unhide HL).fz (o + 1)
        have hsx := own_part hr.ownU k nx (by omega) (k : Int) rfl
        have HX := hide ((hr.ownU.take k (by omega)).byt)
        have hlt : ((enc ps).take k).length = k := by simp; omega
        have HLT := hide hlt
        have hgx : rb ≠ gx := by have h1 := hr.lt; have h2 := ((unhide HL).lo rb (unhide HL).rG).2; omega
        clear hlt
        clear hn hr hC hC2
        go_wp2_with fail
        go_region
        all_goals
          go_wp2_with fail
          obtain ⟨W7, hW8⟩ : ∃ W7, (w2.setCell ⟨rb, o, none⟩ (.slice aL C capL)).drew = W7 := ⟨_, rfl⟩
          have hW7 : w2.drew.setCell ⟨rb, o, none⟩ (.slice aL C capL) = W7 := hW8
          have H7 := hide ((unhide HL).pop ((unhide HK).drew) C (by have := unhide HC1; omega))
          have HX7 : Hid (Byt W7 (some ⟨gx, 0, none⟩) ((enc ps).take k)) := by
            rw [← hW7]
            exact (unhide HX).kpo ((Kp.refl [rb] w2).drew.setCell (.inl (by simp)) _) (fun x hx q => hgx (by simp [ob] at hx q; omega))
          have hcs7 : cps (xs.take C) = cs := by rw [cps_take, ← unhide HE, unhide HC2, List.take_left]
          rw [hcs7, hW7] at H7
          rw [hW8]
          obtain ⟨G7, bx7, hR7, hsb7, hkG7, hG7⟩ := unhide H7
          obtain ⟨aL7, capL7, xs7, aT7, cT7, hL7, he7⟩ := hR7
          obtain ⟨rfl, rfl⟩ := hL7.tn rfl
          have y0 : W7.cell? ⟨rb, o + 1, none⟩ = some (.slice none 0 0) := hL7.c1
          have y1 := hL7.fz (o + 1)
          have hB7 := hL7.hB
          have HKG7 := hide hkG7
          have HSB7 := hide hsb7
          have HG7 := hide hG7
          have HL7 := hide hL7
          have HE7 := hide he7
          clear hsb7 hcs7 hW7 hW8 hkG7 hG7 hL7 he7 H7 r0 r1 s0 s1 hsl
          go_region_law (refine step_appx (by rfl) (.tmp 41) (.tmp 44) 42 (by rfl) (ownU_nil B _) (by simpa using hB7) 0 rfl (.slice (some ⟨gx, 0, none⟩) k cx) ((enc ps).take k) (by rfl) (by rfl) (byt_srcn ((unhide HX7).kp0 (Kp.refl [] _).drew) (unhide HLT).symm) (by have := unhide HLT; simp only [List.length_nil]; omega) ?_; intro a3 c3 n3 w3 hn3 ho3 hk3 hx3; have z0 : w3.cell? ⟨rb, o + 1, none⟩ = some (.slice none 0 0) := (((Kp.refl [] W7).drew).trans0 (unhide hk3)).cell (by simp) y0; have z1 : w3.frozen? ⟨rb, o + 1, none⟩ = false := (by rw [(((Kp.refl [] W7).drew).trans0 (unhide hk3)).frozen ((unhide HL7).lo rb (unhide HL7).rG).2 (by simp)]; exact y1))
          all_goals
            go_wp2_with fail
            go_ret
            refine ⟨rfl, RxTo.trans_at (unhide HSB) (unhide HKG) (unhide HG1) (RxTo.trans_at (unhide HSB7) (unhide HKG7) (unhide HG7) ?_)⟩
            rw [unhide HE7]
            exact (unhide HL7).torn (Kp.refl [] W7).drew (unhide hk3) (unhide ho3) (fun x hx => (unhide hx3 x hx).resolve_left (by simp [ob])) (unhide hn3) (fun q => by have h1 := unhide HLT; rw [q] at h1; simp at h1; omega) (by have := unhide HLT; omega)
  · obtain ⟨e1, e2⟩ := ltear_code keep hc
    rw [e1, e2]
    rw [show lput cs ps = cs by unfold lput; rw [if_neg hc]] at HU
    generalize lcode cs ps = z at *
    clear e1 e2
    go_enter Tryz.func74, Tryz.ntmps74
    go_wp2_with fail
    refine (unhide HU).mono ?_
    rintro e w1 ⟨rfl, h1⟩
    have H1 := hide h1
    clear h1 HU HG
    go_wp2_with fail
    go_ret
    exact ⟨rfl, unhide H1⟩
end
/- readPairs, by its contract. -/
section
open Go.RowKit
attribute [local go_sem ↓] Go.wp_at_zero Go.wp_at_succ

theorem rp_step (m : Nat) (bs : List UInt8) : rp (m + 1) bs = if (rd1 bs).2.2 = true then (rp m (bs.drop (rd1 bs).2.1)).map ((rd1 bs).1 :: ·) else none := by
  match bs with
  | [] => simp [rp, rd1]
  | [x] => simp [rp, rd1]
  | k :: l :: r =>
    have e0 : ub (k :: l :: r) 0 = k.toNat := rfl
    have e1 : ub (k :: l :: r) 1 = l.toNat := rfl
    have h2 : ¬ (k :: l :: r).length < 2 := by simp
    have hlen : (k :: l :: r).length = r.length + 2 := rfl
    by_cases hl : l = 255
    · subst hl
      have er : rd1 (k :: 255 :: r) = (⟨k.toNat, false, ByteArray.empty⟩, 2, true) := by unfold rd1; rw [if_neg h2, e0, e1, if_pos (show UInt8.toNat 255 = 255 from rfl)]
      rw [er]
      simp [rp]
    · have hl' : ¬ l.toNat = 255 := fun e => hl (UInt8.toNat_inj.1 (by rw [e]; rfl))
      by_cases hr : r.length < l.toNat
      · have er : rd1 (k :: l :: r) = (dv, 0, false) := by unfold rd1; rw [if_neg h2, e1, if_neg hl', if_pos (by omega)]
        rw [er]
        simp [rp, hl, hr]
      · have ed : (k :: l :: r).drop (2 + l.toNat) = r.drop l.toNat := by rw [show 2 + l.toNat = l.toNat + 1 + 1 by omega]; rfl
        have et : ((k :: l :: r).take (2 + l.toNat)).drop 2 = r.take l.toNat := by rw [show 2 + l.toNat = l.toNat + 1 + 1 by omega]; rfl
        have er : rd1 (k :: l :: r) = (⟨k.toNat, true, ⟨(r.take l.toNat).toArray⟩⟩, 2 + l.toNat, true) := by unfold rd1; rw [if_neg h2, e0, e1, if_neg hl', if_neg (by omega), et]
        rw [er]
        simp only [rp, if_neg hl, if_neg hr, ed]
        simp
theorem rd1_le {bs : List UInt8} (h : (rd1 bs).2.2 = true) : (rd1 bs).2.1 ≤ bs.length := by
  unfold rd1 at h ⊢
  split at h
  · simp at h
  · rename_i h1
    rw [if_neg h1]
    split at h
    · rename_i h3
      rw [if_pos h3]
      simp; omega
    · rename_i h3
      rw [if_neg h3]
      split at h
      · simp at h
      · rename_i h4
        rw [if_neg h4]
        simp; omega

/-- At the head of a round of readPairs. -/
structure RpI (R : Option (List Ver)) (w : World) (m : Nat) (acc : List Ver) (a : Option Addr) (cap : Nat) (ab : Option Addr) (nb cb : Nat) (bs : List UInt8) (wr : World) : Prop where
  goes : (rp m bs).map (acc ++ ·) = R
  own : wr.ownsRow w.heap.size 106 3 (.slice a acc.length cap) acc.length (vcells acc)
  kp : Kp [] w wr
  byt : Byt w ab bs
  len : nb = bs.length
  cap : nb ≤ cb
  small : bs.length ≤ 10000

theorem RpI.fail {R : Option (List Ver)} {w : World} {m : Nat} {acc : List Ver} {a : Option Addr} {cap : Nat} {ab : Option Addr} {nb cb : Nat} {bs : List UInt8} {wr : World} (h : RpI R w (m + 1) acc a cap ab nb cb bs wr) (hr : (rd1 bs).2.2 = false) : R = none := by
  have := h.goes
  rw [rp_step, if_neg (by rw [hr]; decide)] at this
  rw [← this]; rfl
theorem RpI.next {R : Option (List Ver)} {w : World} {m : Nat} {acc : List Ver} {a : Option Addr} {cap : Nat} {ab : Option Addr} {nb cb : Nat} {bs : List UInt8} {wr W w2 : World} (h : RpI R w (m + 1) acc a cap ab nb cb bs wr) (hr : (rd1 bs).2.2 = true) {v : Ver} {sz : Nat} (hv : (rd1 bs).1 = v) (hs : (rd1 bs).2.1 = sz)
    (hw : Kp [] wr W) {g2 cap2 : Nat} (hown : w2.ownsRow w.heap.size 106 3 (.slice (some ⟨g2, 0, none⟩) (acc.length + 1) cap2) (acc.length + 1) (vcells acc ++ [.int .i64 v.a, .bool v.t, .string v.s]))
    (hgrow : W.grownBy w2 (Value.slice a acc.length cap).ownBlock) {ab' : Option Addr} (hb : Byt w ab' (bs.drop sz)) : RpI R w m (acc ++ [v]) (some ⟨g2, 0, none⟩) cap2 ab' (nb - sz) (cb - sz) (bs.drop sz) w2 := by
  subst hv hs
  refine ⟨?_, ?_, (h.kp.trans0 hw).grown hgrow (fun g hg => .inr (own_ge h.own hg)), hb, by rw [h.len]; simp, by have := h.cap; omega, by have := h.small; simp; omega⟩
  · rw [← h.goes, rp_step, if_pos hr, Option.map_map]
    congr 1
    funext x
    simp
  · have hv : vcells acc ++ [.int .i64 (rd1 bs).1.a, .bool (rd1 bs).1.t, .string (rd1 bs).1.s] = vcells (acc ++ [(rd1 bs).1]) := by rw [vcells_append]; rfl
    rw [hv] at hown
    simpa using hown

def RpsEnd (R : Option (List Ver)) (w : World) (e : Ending) (w' : World) : Prop :=
  ∃ a n cap, ∃ q : Bool, e = .returned (.tuple #[.slice a n cap, .bool q]) ∧ (q = true → ∃ ws, R = some ws ∧ n = ws.length ∧ w'.ownsRow w.heap.size 106 3 (.slice a n cap) n (vcells ws)) ∧ (q = false → R = none) ∧ Kp [] w w'
theorem rpsEnd_none {R : Option (List Ver)} {w w' : World} (h : R = none) (hk : Kp [] w w') : RpsEnd R w (.returned (.tuple #[.slice none 0 0, .bool false])) w' := ⟨none, 0, 0, false, rfl, (fun h => by simp at h), fun _ => h, hk⟩
theorem RpI.last {R : Option (List Ver)} {w : World} {acc : List Ver} {a : Option Addr} {cap : Nat} {ab : Option Addr} {nb cb : Nat} {bs : List UInt8} {wr : World} (h : RpI R w 0 acc a cap ab nb cb bs wr) (q : Bool) (hq : q = decide (nb = 0)) : RpsEnd R w (.returned (.tuple #[.slice a acc.length cap, .bool q])) wr := by
  have hg := h.goes
  have hl := h.len
  refine ⟨a, acc.length, cap, q, rfl, fun e => ⟨acc, ?_, rfl, h.own⟩, fun e => ?_, h.kp⟩
  · have e2 : nb = 0 := by subst hq; simpa using e
    have e3 : bs = [] := List.eq_nil_of_length_eq_zero (by omega)
    subst e3
    rw [← hg]; simp [rp]
  · have e2 : ¬ nb = 0 := by subst hq; simpa using e
    have e3 : ¬ bs = [] := fun e => by subst e; simp at hl; omega
    rw [← hg]; simp [rp, e3]

theorem beq0 (n : Nat) : ((n : Int) == 0) = decide (n = 0) := by rw [Bool.eq_iff_iff]; simp

set_option maxHeartbeats 2000000 in
theorem readPairs20 (ab : Option Addr) (n c : Nat) (bs : List UInt8) (m : Nat) (w : World) (h : Byt w ab bs) (hn : n = bs.length) (hc : n ≤ c) (hm : bs.length ≤ 10000) (hm2 : m ≤ 255) :
    Calls Tryz.prog 182 #[.slice ab n c, .int .i64 m] w fun e w' => RpsEnd (rp m bs) w e w' := by
  obtain ⟨i0, hi0, hz0, hz1, hz2⟩ := info_parts Tryz.info106
  have H0 : Hid (RpI (rp m bs) w m [] none 0 ab n c bs w) := ⟨by simp, World.ownsRow_nil _ _ _ _, Kp.refl _ _, h, hn, hc, hm⟩
  generalize rp m bs = R at *
  clear h hn hc hm
  go_enter Tryz.func182, Tryz.ntmps182
  go_wp2_with fail
  go_loopw [0, 6, 11] (fun b s i wr => ∃ (k : Nat) (acc : List Ver) (a : Option Addr) (cap : Nat) (ab : Option Addr) (nb cb : Nat) (bs : List UInt8), k ≤ m ∧ acc.length ≤ k ∧ b = .slice ab nb cb ∧ s = .slice a acc.length cap ∧ i = .int .i64 k ∧ Hid (RpI R w (m - k) acc a cap ab nb cb bs wr)) (fun _ _ i _ => m - (intOf i).toNat)
  case atStart => exact ⟨0, [], none, 0, ab, n, c, bs, by omega, by simp, rfl, rfl, rfl, H0⟩
  case round =>
    clear H0
    obtain ⟨k, acc, a, cap, ab, nb, cb, bs, hk, hal, rfl, rfl, rfl, HE⟩ := hrel
    by_cases hlt : k < m
    · have i1 : (k : Int) < (m : Int) := by omega
      rw [show m - k = (m - (k + 1)) + 1 by omega] at HE
      go_wp2_with fail
      refine (readPair23 ab nb cb bs wr ((unhide HE).byt.kp0 (unhide HE).kp) (unhide HE).len (unhide HE).cap (unhide HE).small).mono ?_
      rintro e w1 ⟨rfl, hk1⟩
      have HK1 := hide hk1
      clear hk1
      cases hr : (rd1 bs).2.2 with
      | false =>
        have HR := hide ((unhide HE).fail hr)
        clear hr
        have HK2 := hide ((((unhide HE).kp.trans0 (unhide HK1)).alloc (.cells #[.int .i64 (rd1 bs).1.a, .bool (rd1 bs).1.t, .string (rd1 bs).1.s] 106)))
        generalize (rd1 bs).1 = v at *
        generalize (rd1 bs).2.1 = sz at *
        go_wp2_with fail
        go_ret2
        exact rpsEnd_none (unhide HR) (unhide HK2)
      | true =>
        have hle := rd1_le hr
        obtain ⟨ab', hsl, hb'⟩ := part_l (unhide HE).byt (rd1 bs).2.1 cb nb (unhide HE).len hle (by have := (unhide HE).len; have := (unhide HE).cap; omega) (rd1 bs).2.1 rfl
        obtain ⟨v, hv⟩ : ∃ v, (rd1 bs).1 = v := ⟨_, rfl⟩
        obtain ⟨sz, hz⟩ : ∃ sz, (rd1 bs).2.1 = sz := ⟨_, rfl⟩
        rw [hv, hz]
        rw [hz] at hsl hb'
        have HR := hide hr
        have HV := hide hv
        have HZ := hide hz
        have HB := hide hb'
        clear hr hv hz hb' hle
        have hwl := ((unhide HE).kp.trans0 (unhide HK1)).size
        have hOW := hide (own_kp0 (unhide HE).own (((unhide HK1).alloc (.cells #[.int .i64 v.a, .bool v.t, .string v.s] 106)).alloc (.cells #[.int .i64 v.a, .bool v.t, .string v.s] 106)))
        go_wp2_with (at_builtin; refine wpList_append_lies _ rfl _ _ 100 rfl w.heap.size 106 i0 _ 3 32 Tryz.underlying100 hi0 hz0 hz1 hz2 rfl (by omega) (.slice a acc.length cap) acc.length (vcells acc) rfl (unhide hOW) ⟨w1.heap.size + 1, 0, none⟩ 1 1 [.int .i64 v.a, .bool v.t, .string v.s] (by rfl) (by rfl) (World.news_of_block (cs := #[.int .i64 v.a, .bool v.t, .string v.s]) (t := 106) (fr := (0, 0)) (by have := heap_alloc_new (w1.alloc (.cells #[.int .i64 v.a, .bool v.t, .string v.s] 106)) (.cells #[.int .i64 v.a, .bool v.t, .string v.s] 106); simpa using this)) (by simp [Value.oneCell']) (by omega) (by unfold maxLen; omega) (by omega) (by simp; omega) _ rfl ?_; intro g2 cap2 w2 hown hgrow hat hlt2; have HE2 := hide ((unhide HE).next (unhide HR) (unhide HV) (unhide HZ) (((unhide HK1).alloc _).alloc _) hown hgrow (unhide HB)); clear hown hgrow hat)
        exact ⟨⟨k + 1, _, _, _, _, _, _, _, by omega, by simp; omega, rfl, by simp, by go_num, HE2⟩, by simp [intOf]; omega⟩
    · have e : k = m := by omega
      subst e
      rw [Nat.sub_self] at HE
      go_wp2_with fail
      go_ret2
      exact (unhide HE).last _ (beq0 nb)
end
/- Decode, by its contract. -/
section
open Go.RowKit
attribute [local go_sem ↓] Go.wp_at_zero Go.wp_at_succ

/-- What Decode leaves: the pairs lie in memory of their own. -/
def DecEnd (D : List Ver × Nat × Int) (w : World) (e : Ending) (w' : World) : Prop :=
  ∃ a n cap, e = .returned (.tuple #[.slice a n cap, .int .i64 (D.2.1 : Nat), .int .i64 D.2.2]) ∧ n = D.1.length ∧ w'.ownsRow w.heap.size 106 3 (.slice a n cap) n (vcells D.1) ∧ Kp [] w w'
theorem decEnd_code {D : List Ver × Nat × Int} {w w' : World} (c : Int) (h : D = ([], 0, c)) (hk : Kp [] w w') : DecEnd D w (.returned (.tuple #[.slice none 0 0, .int .i64 0, .int .i64 c])) w' := by
  subst h
  exact ⟨none, 0, 0, rfl, rfl, World.ownsRow_nil _ _ _ _, hk⟩
theorem decEnd_mk {D : List Ver × Nat × Int} {w w' : World} (ws : List Ver) (z : Nat) (h : D = (ws, z, 0)) (a : Option Addr) (n cap : Nat) (hn : n = ws.length) (ho : w'.ownsRow w.heap.size 106 3 (.slice a n cap) n (vcells ws)) (hk : Kp [] w w') :
    DecEnd D w (.returned (.tuple #[.slice a n cap, .int .i64 z, .int .i64 0])) w' := by
  subst h
  exact ⟨a, n, cap, rfl, hn, ho, hk⟩

theorem dec_short0 {bs : List UInt8} (h : bs.length = 0) : dec bs = ([], 0, 6) := by unfold dec; rw [if_pos (.inl h)]
theorem dec_short {bs : List UInt8} (h : bs.length < ub bs 0) : dec bs = ([], 0, 6) := by unfold dec; rw [if_pos (.inr h)]
theorem dec_form {bs : List UInt8} (h0 : bs.length ≠ 0) (h : ¬ bs.length < ub bs 0) (h2 : ub bs 0 < 2) : dec bs = ([], 0, 4) := by
  unfold dec
  rw [if_neg (fun q => q.elim h0 h)]
  exact if_pos h2
theorem dec_pairs {bs : List UInt8} (h0 : bs.length ≠ 0) (h : ¬ bs.length < ub bs 0) (h2 : ¬ ub bs 0 < 2) : dec bs = match rp (ub bs 1) ((bs.take (ub bs 0)).drop 2) with
    | none => ([], 0, 4)
    | some ws => if pf (-1) ws = 0 then (ws, ub bs 0, 0) else ([], 0, pf (-1) ws) := by
  unfold dec
  rw [if_neg (fun q => q.elim h0 h)]
  exact if_neg h2

/-- Pairs that readPairs made may be checked. -/
theorem own_prs {B n : Nat} {w : World} {a : Option Addr} {cap : Nat} {ws : List Ver} (h : w.ownsRow B 106 3 (.slice a n cap) n (vcells ws)) (hn : n = ws.length) (hl : ws.length ≤ 1000) (hs : ∀ p ∈ ws, p.s.size ≤ 255) : Prs w a ws := by
  refine ⟨by unfold maxLen; omega, fun k hk => ?_, slo_own h hn⟩
  have : (vb ws k).size ≤ 255 := by
    simp only [vb, List.getD_eq_getElem?_getD, List.getElem?_eq_getElem hk, Option.getD_some]
    exact hs _ (List.getElem_mem hk)
  unfold maxLen; omega

set_option maxHeartbeats 2000000 in
theorem decode12 (a : Option Addr) (n c : Nat) (bs : List UInt8) (w : World) (h : Byt w a bs) (hn : n = bs.length) (hc : n ≤ c) (hm : bs.length ≤ 10000) :
    Calls Tryz.prog 161 #[.slice a n c] w fun e w' => DecEnd (dec bs) w e w' := by
  by_cases h0 : bs.length = 0
  · have hd := dec_short0 h0
    generalize dec bs = D at *
    have HD := hide hd
    have hn0 : n = 0 := by omega
    subst hn0
    clear h hd hn h0
    go_enter Tryz.func161, Tryz.ntmps161
    go_wp2_with fail
    go_ret3
    exact decEnd_code 6 (unhide HD) (Kp.refl _ _)
  · obtain ⟨g, o, rfl, hs⟩ := h (by omega)
    have q0 := hs 0 (by omega)
    have u0 := ub_lt bs 0
    have HB := hide h
    have i0 : (0 : Int) < (n : Int) := by omega
    have j0 : 0 < n := by omega
    have j0' : ¬ n = 0 := by omega
    have j0'' : ¬ (n : Int) = 0 := by omega
    simp only [Nat.add_zero] at q0
    by_cases h1 : bs.length < ub bs 0
    · have hd := dec_short h1
      have k0 : (n : Int) < (ub bs 0 : Nat) := by omega
      generalize dec bs = D at *
      have HD := hide hd
      clear h hd hn h0 h1 hs
      generalize ub bs 0 = x at *
      go_enter Tryz.func161, Tryz.ntmps161
      go_wp2_with fail
      go_ret3
      exact decEnd_code 6 (unhide HD) (Kp.refl _ _)
    · have k0 : ¬ (n : Int) < (ub bs 0 : Nat) := by omega
      by_cases h2 : ub bs 0 < 2
      · have hd := dec_form h0 h1 h2
        generalize dec bs = D at *
        have HD := hide hd
        clear h hd hn h0 h1 hs
        generalize ub bs 0 = x at *
        go_enter Tryz.func161, Tryz.ntmps161
        go_wp2_with fail
        go_ret3
        exact decEnd_code 4 (unhide HD) (Kp.refl _ _)
      · have hd := dec_pairs h0 h1 h2
        have q1 := hs 1 (by omega)
        have u1 := ub_lt bs 1
        have hwr : IntKind.i64.wrap ((ub bs 1 : Nat) : Int) = ((ub bs 1 : Nat) : Int) := wrap_i64_id _ (by omega) (by omega)
        have i1 : (1 : Int) < (n : Int) := by omega
        have j1 : 1 < n := by omega
        have k2 : ub bs 0 ≤ c := by omega
        obtain ⟨a2, hsl, hb2⟩ := part_lh (unhide HB) 2 (ub bs 0) c n (by omega) (by omega) (by omega) 2 (ub bs 0 : Nat) rfl rfl
        have hl2 : ub bs 0 - 2 = ((bs.take (ub bs 0)).drop 2).length := by simp; omega
        have hrp := fun W (hk : Kp [] w W) => readPairs20 a2 (ub bs 0 - 2) (c - 2) ((bs.take (ub bs 0)).drop 2) (ub bs 1) W (hb2.kp0 hk) hl2 (by omega) (by omega) (by omega)
        generalize dec bs = D at *
        generalize hR : rp (ub bs 1) ((bs.take (ub bs 0)).drop 2) = R at *
        have HR := hide hR
        have HD := hide hd
        have HRP := hide hrp
        clear h hd hn h0 h1 hs hb2 hl2 hrp hR
        generalize ub bs 0 = x at *
        generalize ub bs 1 = y at *
        go_enter Tryz.func161, Tryz.ntmps161
        go_wp2_with fail
        go_region_with (go_at_call 182; refine (unhide HRP w.drew (Kp.refl [] w).drew).mono ?_; rintro e w1 ⟨ar, nr, cr, q, rfl, hq1, hq2, hk1⟩; have HQ1 := hide hq1; have HQ2 := hide hq2; have HK1 := hide ((Kp.refl [] w).drew.trans0 hk1); clear hq1 hq2 hk1)
        cases q with
        | false =>
          have hd := unhide HD
          rw [unhide HQ2 rfl] at hd
          have HD2 := hide hd
          clear hd
          go_wp2_with fail
          go_ret3
          exact decEnd_code 4 (unhide HD2) (unhide HK1)
        | true =>
          obtain ⟨ws, hR, hnr, hown⟩ := unhide HQ1 rfl
          have hd := unhide HD
          rw [hR] at hd
          simp only at hd
          obtain ⟨hw1, _, hw3⟩ := rp_back ((unhide HR).trans hR)
          subst hnr
          have hwl : ws.length ≤ 1000 := by omega
          have HO := hide (own_base hown (Nat.le_refl w.heap.size))
          have hpr := own_prs hown rfl hwl hw3
          have hch := tcheck36 ar cr ws w1 hpr hwl
          have HCH := hide hch
          have HD2 := hide hd
          clear hd hR hown hw1 hw3 hpr hch HQ1 HQ2 HR HD HRP
          by_cases hp : pf (-1) ws = 0
          · have hd := unhide HD2
            rw [if_pos hp] at hd
            have HD3 := hide hd
            have HP := hide hp
            clear hd hp HD2
            go_wp2_with fail
            refine (unhide HCH).mono ?_
            rintro e w2 ⟨rfl, hk2⟩
            have HK2 := hide hk2
            clear hk2
            rw [unhide HP]
            go_wp2_with fail
            go_ret3
            exact decEnd_mk ws x (unhide HD3) ar _ cr rfl (own_kp0 (unhide HO) (unhide HK2)) ((unhide HK1).trans0 (unhide HK2))
          · have hd := unhide HD2
            rw [if_neg hp] at hd
            have HD3 := hide hd
            clear hd HD2
            go_wp2_with fail
            refine (unhide HCH).mono ?_
            rintro e w2 ⟨rfl, hk2⟩
            have HK2 := hide ((unhide HK1).trans0 hk2)
            clear hk2 HCH
            generalize pf (-1) ws = z at *
            go_wp2_with fail
            go_ret3
            exact decEnd_code z (unhide HD3) (unhide HK2)
end
/- The table of bytes, by its contract. -/
section
open Go.RowKit
attribute [local go_sem ↓] Go.wp_at_zero Go.wp_at_succ

/-- At the head of a round: the commits xs are read. -/
structure TaI (w : World) (bs : List UInt8) (D : List (List Ver)) (tb : Nat) (xs : List (List Ver)) (wr : World) : Prop where
  tbl : ∃ F, Tbl w.heap.size wr tb F (wal0 xs) xs.length
  kp : Kp [] w wr
  n40 : xs.length ≤ 40
  goes : xs ++ dcs (40 - xs.length) (bs.drop (lb xs).length) = D
  ple : (lb xs).length ≤ bs.length

theorem TaI.stop {w : World} {bs : List UInt8} {D xs : List (List Ver)} {tb : Nat} {wr : World} (h : TaI w bs D tb xs wr) (hc : (dec (bs.drop (lb xs).length)).2.2 ≠ 0) : xs = D := by
  have hg := h.goes
  rcases Nat.eq_zero_or_pos (40 - xs.length) with e | e
  · rw [e] at hg; simpa [dcs] using hg
  · obtain ⟨m, hm⟩ := Nat.exists_eq_succ_of_ne_zero (Nat.pos_iff_ne_zero.1 e)
    rw [hm] at hg
    simp only [dcs] at hg
    rw [if_neg hc] at hg
    simpa using hg
theorem TaI.full {w : World} {bs : List UInt8} {D xs : List (List Ver)} {tb : Nat} {wr : World} (h : TaI w bs D tb xs wr) (hc : 40 ≤ xs.length) : xs = D := by
  have hg := h.goes
  rw [show 40 - xs.length = 0 by omega] at hg
  simpa [dcs] using hg
theorem TaI.next {w : World} {bs : List UInt8} {D xs : List (List Ver)} {tb : Nat} {wr w' : World} (h : TaI w bs D tb xs wr) (hc : (dec (bs.drop (lb xs).length)).2.2 = 0) (hn : xs.length < 40)
    (ht : ∃ F, Tbl w.heap.size w' tb F (wst (wal0 xs) xs.length (dec (bs.drop (lb xs).length)).1) (wn xs.length (dec (bs.drop (lb xs).length)).1)) (hk : Kp [] w w') :
    TaI w bs D tb (xs ++ [(dec (bs.drop (lb xs).length)).1]) w' ∧ (lb (xs ++ [(dec (bs.drop (lb xs).length)).1])).length = (lb xs).length + (dec (bs.drop (lb xs).length)).2.1 ∧ 2 ≤ (dec (bs.drop (lb xs).length)).2.1 := by
  obtain ⟨h1, h2, h3, h4⟩ := dec_ok hc
  have hl : (lb (xs ++ [(dec (bs.drop (lb xs).length)).1])).length = (lb xs).length + (dec (bs.drop (lb xs).length)).2.1 := by rw [lb_snoc, List.length_append, ← h4]
  refine ⟨⟨?_, hk, by simp; omega, ?_, ?_⟩, hl, by rw [h4]; exact (enc_le h1).1⟩
  · rw [(wcode_ok h1 hn).2, ← wal0_snoc] at ht
    simpa using ht
  · have hg := h.goes
    rw [show 40 - xs.length = (40 - (xs.length + 1)) + 1 by omega] at hg
    simp only [dcs] at hg
    rw [if_pos hc, List.drop_drop] at hg
    rw [hl, List.length_append, List.append_assoc]
    exact hg
  · rw [hl]
    have := h.ple
    simp only [List.length_drop] at h2
    omega

def TaEnd (D : List (List Ver)) (w : World) (e : Ending) (w' : World) : Prop := ∃ tb F p, e = .returned (.tuple #[.pointer (some ⟨tb, 0, none⟩), .int .i64 (p : Nat)]) ∧ p = (lb D).length ∧ Tbl w.heap.size w' tb F (wal0 D) D.length ∧ Kp [] w w'
theorem TaEnd_mk {D xs : List (List Ver)} {w : World} {tb : Nat} {bs : List UInt8} {wr w' : World} (h : TaI w bs D tb xs wr) (hx : xs = D) (hk : Kp [] wr w') {p : Nat} (hp : p = (lb xs).length) : TaEnd D w (.returned (.tuple #[.pointer (some ⟨tb, 0, none⟩), .int .i64 p])) w' := by
  subst hx
  obtain ⟨F, ht⟩ := h.tbl
  exact ⟨tb, F, p, rfl, hp, ht.kp0 hk, h.kp.trans0 hk⟩

/-- Write of pairs that lie in memory of their own. -/
theorem ta_write {w : World} {bs : List UInt8} {D xs : List (List Ver)} {tb : Nat} {wr W : World} (h : TaI w bs D tb xs wr) (hW : Kp [] wr W) (a : Option Addr) (n c : Nat) (ps : List Ver) (hn : n = ps.length) (ho : W.ownsRow wr.heap.size 106 3 (.slice a n c) n (vcells ps)) (hl : ps.length ≤ 1000) (hs : ∀ p ∈ ps, p.s.size ≤ 255) :
    Calls Tryz.prog 162 #[.pointer (some ⟨tb, 0, none⟩), .slice a n c] W fun e w' => e = .returned (.tuple #[.int .i64 (wnum xs.length ps), .int .i64 (wcode xs.length ps)]) ∧
      (∃ F, Tbl w.heap.size w' tb F (wst (wal0 xs) xs.length ps) (wn xs.length ps)) ∧ Kp [] w w' := by
  obtain ⟨F, ht⟩ := h.tbl
  have hpr := own_prs ho hn hl hs
  subst hn
  refine (twrite45 a c ps W (ht.kp0 hW) hpr (fun _ g o e hg => ?_) hl).mono ?_
  · have h1 := own_ge (g := g) ho (by subst e; rfl)
    have h2 := (ht.lo g hg).2
    omega
  · rintro e w' ⟨rfl, F', k1, k2, k3⟩
    exact ⟨rfl, ⟨F', k1⟩, (h.kp.trans0 hW).trans k2 (fun x hx => .inr (ht.lo x hx).1)⟩

set_option maxHeartbeats 2000000 in
theorem ltable25 (a : Option Addr) (n c : Nat) (bs : List UInt8) (w : World) (h : Byt w a bs) (hn : n = bs.length) (hc : n ≤ c) (hm : bs.length ≤ 10000) :
    Calls Tryz.prog 127 #[.slice a n c] w fun e w' => TaEnd (dcs 40 bs) w e w' := by
  have HB := hide h
  have HN := hide hn
  have hn' : n ≤ 10000 := by omega
  have HG : Hid (dcs 40 bs = dcs 40 bs) := rfl
  generalize hD : dcs 40 bs = D at *
  have HD := hide hD
  clear h hD HG hn
  go_enter Tryz.func127, Tryz.ntmps127
  go_wp2_with fail
  refine (tnew47 w).mono ?_
  rintro e w1 ⟨rfl, ht, hk⟩
  have H0 : Hid (TaI w bs D w.heap.size [] w1) := ⟨ht, hk, by simp, by simpa [lb] using unhide HD, by simp [lb]⟩
  clear ht hk HD
  generalize w.heap.size = tb at *
  go_wp2_with fail
  go_loopw [5] (fun i wr => ∃ (p : Nat) (xs : List (List Ver)), i = .int .i64 p ∧ p ≤ n ∧ Hid (p = (lb xs).length) ∧ Hid (TaI w bs D tb xs wr)) (fun i _ => n - (intOf i).toNat)
  case atStart => exact ⟨0, [], rfl, by omega, rfl, H0⟩
  case round =>
    clear H0
    obtain ⟨p, xs, rfl, hp, HP, HI⟩ := hrel
    obtain ⟨a2, hsl, hb2⟩ := part_l ((unhide HB).kp0 (unhide HI).kp) p c n (unhide HN) (by have := unhide HN; omega) (by have := unhide HN; omega) p rfl
    have hd := decode12 a2 (n - p) (c - p) (bs.drop p) wr hb2 (by rw [List.length_drop]; have := unhide HN; omega) (by omega) (by simp; omega)
    have HDD := hide hd
    have ip : (p : Int) ≤ (n : Int) := by omega
    clear hb2 hd
    by_cases hcode : (dec (bs.drop p)).2.2 = 0
    · have hok := dec_ok hcode
      have hl8 := @dec_len (bs.drop p)
      have hst := @dec_str (bs.drop p)
      have hle2 : (dec (bs.drop p)).2.1 ≤ n - p := by have := hok.2.1; rw [List.length_drop] at this; have := unhide HN; omega
      by_cases h40 : 40 ≤ xs.length
      · have hw9 := wcode_full hok.1 h40
        have HX := hide ((unhide HI).full h40)
        have HW := hide (fun W hW a n c hn ho => ta_write (unhide HI) (W := W) hW a n c _ hn ho (by omega) hst)
        rw [hw9] at HW
        have hD2 : ∃ z, (dec (bs.drop p)).2.1 = z := ⟨_, rfl⟩
        obtain ⟨z, hz⟩ := hD2
        clear hok hl8 hst hw9
        go_wp2_with fail
        refine (unhide HDD).mono ?_
        rintro e w2 ⟨a3, n3, c3, rfl, hn3, ho3, hk3⟩
        rw [hcode, hz]
        have HWW := hide (unhide HW w2 hk3 a3 n3 c3 hn3 ho3)
        clear hn3 ho3 hk3 HW HDD hsl
        generalize wnum xs.length (dec (bs.drop p)).1 = y at *
        go_wp2_with fail
        refine (unhide HWW).mono ?_
        rintro e w3 ⟨rfl, ⟨F3, ht3⟩, hk3⟩
        have HE : Hid (TaEnd D w (.returned (.tuple #[.pointer (some ⟨tb, 0, none⟩), .int .i64 p])) w3) := by
          have hx := unhide HX
          have e9 : wst (wal0 xs) xs.length (dec (bs.drop p)).1 = wal0 xs ∧ wn xs.length (dec (bs.drop p)).1 = xs.length := by
            have := wcode_full (dec_ok hcode).1 h40
            unfold wst wn
            rw [this]
            simp
          rw [e9.1, e9.2, hx] at ht3
          exact ⟨tb, F3, p, rfl, by rw [← hx]; exact unhide HP, ht3, hk3⟩
        clear ht3 hk3 HWW
        go_wp2_with fail
        go_ret2
        exact unhide HE
      · have hw0 := (wcode_ok hok.1 (by omega : xs.length < 40)).1
        have HW := hide (fun W hW a n c hn ho => ta_write (unhide HI) (W := W) hW a n c _ hn ho (by omega) hst)
        rw [hw0] at HW
        have hD2 : ∃ z, (dec (bs.drop p)).2.1 = z := ⟨_, rfl⟩
        obtain ⟨z, hz⟩ := hD2
        rw [hz] at hle2
        clear hok hl8 hst hw0
        go_wp2_with fail
        refine (unhide HDD).mono ?_
        rintro e w2 ⟨a3, n3, c3, rfl, hn3, ho3, hk3⟩
        rw [hcode, hz]
        have HWW := hide (unhide HW w2 hk3 a3 n3 c3 hn3 ho3)
        clear hn3 ho3 hk3 HW HDD hsl
        generalize wnum xs.length (dec (bs.drop p)).1 = y at *
        go_wp2_with fail
        refine (unhide HWW).mono ?_
        rintro e w3 ⟨rfl, ht3, hk3⟩
        have hpx := unhide HP
        subst hpx
        obtain ⟨j1, j2, j3⟩ := (unhide HI).next hcode (by omega) ht3 hk3
        rw [hz] at j2 j3
        have J1 := hide j1
        have J2 := hide j2
        clear ht3 hk3 HWW j1 j2
        go_wp2_with fail
        exact ⟨⟨_, _, by go_num, by omega, (unhide J2).symm, J1⟩, by simp [intOf]; omega⟩
    · have HX := hide ((unhide HI).stop (by rw [← unhide HP]; exact hcode))
      generalize dec (bs.drop p) = Dd at *
      obtain ⟨d1, d2, d3⟩ := Dd
      simp only at hcode
      go_wp2_with fail
      refine (unhide HDD).mono ?_
      rintro e w2 ⟨a3, n3, c3, rfl, hn3, ho3, hk3⟩
      have HE := hide (TaEnd_mk (unhide HI) (unhide HX) hk3 (unhide HP))
      clear hn3 ho3 hk3 HDD hsl
      go_wp2_with fail
      go_ret2
      exact unhide HE
end
/- Put and List of a deed, by their contracts. -/
section
open Go.RowKit
attribute [local go_sem ↓] Go.wp_at_zero Go.wp_at_succ

theorem Tbl.kp1 {B : Nat} {w w' : World} {tb db : Nat} {F : List Nat} {f : Nat → List Ver} {n : Nat} (h : Tbl B w tb F f n) (hk : Kp [db] w w') (hF : db ∉ F) : Tbl B w' tb F f n :=
  h.kp hk (fun x hx hm => hF (by have e : x = db := by simpa using hm
                                 rw [← e]; exact hx))

theorem dpw_not {md : Int} {ws : List Ver} {k : Int} {t : Bool} {s : ByteArray} (h : ¬ dpc md k t s = 0) : dpw md ws k t s = ws := by unfold dpw; rw [if_neg h]
theorem dpw_yes {md : Int} {ws : List Ver} {k : Int} {t : Bool} {s : ByteArray} (h : dpc md k t s = 0) : dpw md ws k t s = ws ++ [⟨k, t, s⟩] := by unfold dpw; rw [if_pos h]

set_option maxHeartbeats 1000000 in
theorem dput57 {db : Nat} {md y : Int} {rs : List Int} {ws : List Ver} (k : Int) (t : Bool) (s : ByteArray) (w : World) (h : Ded w db md y rs ws) (hs : s.size ≤ maxLen) :
    Calls Tryz.prog 134 #[.pointer (some ⟨db, 0, none⟩), .int .i64 k, .agg #[.bool t, .string s]] w fun e w' => e = .returned (.int .i64 (dpc md k t s)) ∧ Ded w' db md y rs (dpw md ws k t s) ∧ Kp [db] w w' := by
  have HD := hide h
  have hlt := h.lt
  have qm := h.mcell
  clear h
  by_cases hk : keyB k = true
  · by_cases hm : md = 3
    · have hc : dpc md k t s = 3 := by unfold dpc; rw [if_pos hk, if_pos hm]
      rw [dpw_not (by rw [hc]; decide), hc]
      clear hc
      subst hm
      go_enter Tryz.func134, Tryz.ntmps134
      go_wp2_with fail
      refine (key11 _ _).mono ?_
      rintro e w' ⟨rfl, rfl⟩
      rw [hk]
      clear hk
      go_wp2_with fail
      go_ret
      exact ⟨rfl, (unhide HD).kp0 ((Kp.refl [] w).alloc _), ((Kp.refl [] w).alloc _).mono (by simp)⟩
    · have hc : dpc md k t s = chk t s := by unfold dpc; rw [if_pos hk, if_neg hm]
      have em : (md == 3) = false := beq_eq_false_iff_ne.2 hm
      by_cases h0 : chk t s = 0
      · obtain ⟨j, hj, rfl⟩ := keyB_nat hk
        rw [dpw_yes (by rw [hc]; exact h0), hc, h0]
        have H0 := hide h0
        have i0 : (0 : Int) ≤ (j : Int) := by omega
        have i1 : (j : Int) < 8 := by omega
        clear hc h0 hm
        go_enter Tryz.func134, Tryz.ntmps134
        go_wp2_with fail
        refine (key11 _ _).mono ?_
        rintro e w' ⟨rfl, rfl⟩
        rw [hk]
        clear hk
        go_wp2_with fail
        refine (check13 t s _ hs).mono ?_
        rintro e w1 ⟨rfl, hkp⟩
        rw [unhide H0]
        have b0 : w1.cell? ⟨w.heap.size, 0, none⟩ = some (.bool t) := hkp.cell (by simp) (by simp)
        have b1 : w1.cell? ⟨w.heap.size, 1, none⟩ = some (.string s) := hkp.cell (by simp) (by simp)
        have hkp1 := ((Kp.refl [] w).alloc (.cells #[.bool t, .string s] 99)).trans0 hkp
        have hd1 := (unhide HD).kp0 hkp1
        have c1 := hd1.ncell1 hj
        have c2 := hd1.ncell2 hj
        have c3 := hd1.ncell3 hj
        have f1 := hd1.frozen (2 + j * 4 + 1)
        have f2 := hd1.frozen (2 + j * 4 + 2)
        have f3 := hd1.frozen (2 + j * 4 + 2 + 1)
        have hne : db ≠ w.heap.size := by omega
        have HD1 := hide hd1
        have HK1 := hide hkp1
        clear hd1 hkp hkp1 qm em
        go_wp2_with fail
        go_region
        all_goals
          go_wp2_with fail
          go_ret
          refine ⟨rfl, ((unhide HD1).kp0 (Kp.refl [] w1).drew).write hj t s, ?_⟩
          exact ((((unhide HK1).mono (T := [db]) (by simp)).drew.setCell (.inl (by simp)) _).setCell (.inl (by simp)) _).setCell (.inl (by simp)) _
      · rw [dpw_not (by rw [hc]; exact h0), hc]
        clear hc hm
        go_enter Tryz.func134, Tryz.ntmps134
        go_wp2_with fail
        refine (key11 _ _).mono ?_
        rintro e w' ⟨rfl, rfl⟩
        rw [hk]
        clear hk
        go_wp2_with fail
        refine (check13 t s _ hs).mono ?_
        rintro e w1 ⟨rfl, hkp⟩
        have hkp1 := ((Kp.refl [] w).alloc (.cells #[.bool t, .string s] 99)).trans0 hkp
        have HK1 := hide hkp1
        clear hkp hkp1 qm em
        generalize hcc : chk t s = c at *
        have HCC := hide hcc
        clear hcc
        go_wp2_with fail
        go_ret
        exact ⟨ret_int (unhide HCC).symm, (unhide HD).kp0 (unhide HK1), (unhide HK1).mono (by simp)⟩
  · have hk2 : keyB k = false := by simpa using hk
    have hc : dpc md k t s = 1 := by unfold dpc; rw [if_neg hk]
    rw [dpw_not (by rw [hc]; decide), hc]
    clear hc hk
    go_enter Tryz.func134, Tryz.ntmps134
    go_wp2_with fail
    refine (key11 _ _).mono ?_
    rintro e w' ⟨rfl, rfl⟩
    rw [hk2]
    clear hk2
    go_wp2_with fail
    go_ret
    exact ⟨rfl, (unhide HD).kp0 ((Kp.refl [] w).alloc _), ((Kp.refl [] w).alloc _).mono (by simp)⟩

/-- What List tells, and what it leaves. -/
def DlEnd (L : List Ver × Int × List Int) (w : World) (db : Nat) (md y : Int) (ws : List Ver) (e : Ending) (w' : World) : Prop :=
  ∃ a cap, e = .returned (.tuple #[.slice a L.1.length cap, .int .i64 L.2.1]) ∧ w'.ownsRow w.heap.size 106 3 (.slice a L.1.length cap) L.1.length (vcells L.1) ∧ Ded w' db md y L.2.2 ws ∧ Kp [db] w w'
theorem dlEnd_mk {L : List Ver × Int × List Int} {w w' : World} {db : Nat} {md y : Int} {ws : List Ver} (acc : List Ver) (code : Int) (rs : List Int) (a : Option Addr) (cap : Nat) (h : L = (acc, code, rs)) (ho : w'.ownsRow w.heap.size 106 3 (.slice a acc.length cap) acc.length (vcells acc))
    (hd : Ded w' db md y rs ws) (hk : Kp [db] w w') : DlEnd L w db md y ws (.returned (.tuple #[.slice a acc.length cap, .int .i64 code])) w' := by
  subst h; exact ⟨a, cap, rfl, ho, hd, hk⟩

/-- What stands at the head of a round of List. -/
structure DlI (R : List Ver × Int × List Int) (w : World) (db : Nat) (md y : Int) (f : Nat → List Ver) (n : Nat) (ws : List Ver) (t k : Nat) (acc : List Ver) (rs : List Int) (a : Option Addr) (cap : Nat) (wr : World) : Prop where
  goes : dgo f n y ws k (t + 1 - k) acc rs = R
  own : wr.ownsRow w.heap.size 106 3 (.slice a acc.length cap) acc.length (vcells acc)
  ded : Ded wr db md y rs ws
  kp : Kp [db] w wr
  len : acc.length ≤ k
  lt : db < w.heap.size

section
variable {R : List Ver × Int × List Int} {w wr w1 W w2 : World} {db : Nat} {md y : Int} {f : Nat → List Ver} {n : Nat} {ws : List Ver} {t k : Nat} {acc : List Ver} {rs : List Int} {a : Option Addr} {cap : Nat}
theorem DlI.own1 (h : DlI R w db md y f n ws t k acc rs a cap wr) (hk : Kp [db] wr w1) : w1.ownsRow w.heap.size 106 3 (.slice a acc.length cap) acc.length (vcells acc) :=
  own_kp h.own hk (fun g hg => by have := own_ge h.own hg; have := h.lt; simp; omega)
theorem DlI.skip (h : DlI R w db md y f n ws t k acc rs a cap wr) (hk : k ≤ t) (hw : Kp [db] wr w1) (hd : Ded w1 db md y (dr f n y rs ws k) ws)
    (h0 : (dg f n y ws k).a = 0) (ht : ¬ (dg f n y ws k).t = true) : DlI R w db md y f n ws t (k + 1) acc (dr f n y rs ws k) a cap w1 :=
  ⟨by have := h.goes; rw [show t + 1 - k = (t + 1 - (k + 1)) + 1 by omega] at this; exact dgo_skip this h0 ht, h.own1 hw, hd, h.kp.trans hw (by simp), by have := h.len; omega, h.lt⟩
theorem DlI.more (h : DlI R w db md y f n ws t k acc rs a cap wr) (hk : k ≤ t) (hw : Kp [db] wr W) (hd : Ded W db md y (dr f n y rs ws k) ws)
    (h0 : (dg f n y ws k).a = 0) (ht : (dg f n y ws k).t = true) {g2 cap2 : Nat} (hown : w2.ownsRow w.heap.size 106 3 (.slice (some ⟨g2, 0, none⟩) (acc.length + 1) cap2) (acc.length + 1) (vcells acc ++ [.int .i64 k, .bool true, .string (dg f n y ws k).s]))
    (hgrow : W.grownBy w2 (Value.slice a acc.length cap).ownBlock) : DlI R w db md y f n ws t (k + 1) (acc ++ [⟨k, (dg f n y ws k).t, (dg f n y ws k).s⟩]) (dr f n y rs ws k) (some ⟨g2, 0, none⟩) cap2 w2 := by
  have hkp : Kp [db] w w2 := (h.kp.trans hw (by simp)).grown hgrow (fun g hg => .inr (own_ge h.own hg))
  refine ⟨by have := h.goes; rw [show t + 1 - k = (t + 1 - (k + 1)) + 1 by omega] at this; exact dgo_more this h0 ht, ?_, ?_, hkp, by have := h.len; simp; omega, h.lt⟩
  · have hv : vcells acc ++ [.int .i64 k, .bool true, .string (dg f n y ws k).s] = vcells (acc ++ [⟨k, (dg f n y ws k).t, (dg f n y ws k).s⟩]) := by rw [vcells_append, ht]; rfl
    rw [hv] at hown
    simpa using hown
  · unfold Ded at hd ⊢
    rw [hgrow.block db (lt_of_block hd) (fun e => by have := own_ge h.own e.symm; have := h.lt; omega)]
    exact hd
end

theorem dls_in {f : Nat → List Ver} {n : Nat} {y : Int} {ws : List Ver} {rs : List Int} {p t : Nat} (hf : keyB p = true) (ht : keyB t = true) : dls f n y ws rs p t = dgo f n y ws p (t + 1 - p) [] rs := by
  unfold dls
  rw [if_pos ⟨hf, ht⟩, Int.toNat_natCast]
  congr 1
  omega
theorem dls_out {f : Nat → List Ver} {n : Nat} {y : Int} {ws : List Ver} {rs : List Int} {p t : Int} (h : ¬ (keyB p = true ∧ keyB t = true)) : dls f n y ws rs p t = ([], 1, rs) := by
  unfold dls
  rw [if_neg h]

set_option maxHeartbeats 2000000 in
theorem dlist59 {B tb n db : Nat} {F : List Nat} {f : Nat → List Ver} {md y : Int} {rs : List Int} {ws : List Ver} (fr to_ : Int) (w : World) (h : Tbl B w tb F f n) (hd : Ded w db md y rs ws) (hF : db ∉ F) :
    Calls Tryz.prog 135 #[.pointer (some ⟨db, 0, none⟩), .pointer (some ⟨tb, 0, none⟩), .int .i64 fr, .int .i64 to_] w fun e w' => DlEnd (dls f n y ws rs fr to_) w db md y ws e w' := by
  obtain ⟨in0, hi0, hz0, hz1, hz2⟩ := info_parts Tryz.info106
  have HT := hide h
  have HD := hide hd
  have HF := hide hF
  clear h hd hF
  by_cases hf : keyB fr = true
  · by_cases ht : keyB to_ = true
    · obtain ⟨p, hp, rfl⟩ := keyB_nat hf
      obtain ⟨t, ht8, rfl⟩ := keyB_nat ht
      have H0 : Hid (DlI (dls f n y ws rs p t) w db md y f n ws t p [] rs none 0 w) := ⟨(dls_in hf ht).symm, World.ownsRow_nil _ _ _ _, unhide HD, Kp.refl _ _, by simp, (unhide HD).lt⟩
      generalize dls f n y ws rs p t = R at *
      go_enter Tryz.func135, Tryz.ntmps135
      go_wp2_with fail
      refine (key11 _ _).mono ?_
      rintro e w' ⟨rfl, hw'⟩
      subst w'
      rw [hf]
      go_wp2_with fail
      refine (key11 _ _).mono ?_
      rintro e w' ⟨rfl, hw'⟩
      subst w'
      rw [ht]
      clear hf ht
      go_wp2_with fail
      go_loopw [10, 11] (fun s i wr => ∃ (k : Nat) (acc : List Ver) (rk : List Int) (a : Option Addr) (cap : Nat), k ≤ 8 ∧ s = .slice a acc.length cap ∧ i = .int .i64 k ∧ Hid (DlI R w db md y f n ws t k acc rk a cap wr)) (fun _ i _ => 8 - (intOf i).toNat)
      case atStart => exact ⟨p, [], rs, none, 0, by omega, rfl, rfl, H0⟩
      case round =>
        obtain ⟨k, acc, rk, a, cap, hk, rfl, rfl, HL⟩ := hrel
        by_cases hlt : k ≤ t
        · have j0 : (k : Int) ≤ (t : Int) := by omega
          go_wp2_with fail
          refine (dget55 k _ ((unhide HT).kp1 (unhide HL).kp (unhide HF)) (unhide HL).ded).mono ?_
          rintro e w1 ⟨rfl, hd1, hk1⟩
          have HK1 := hide hk1
          have HD1 := hide hd1
          clear hk1 hd1
          by_cases h0 : (dg f n y ws k).a = 0
          · have H00 := hide h0
            rw [h0]
            clear h0
            by_cases h1 : (dg f n y ws k).t = true
            · have H1 := hide h1
              rw [h1]
              have hOW := hide ((unhide HL).own1 (((unhide HK1).alloc (.cells #[.bool true, .string (dg f n y ws k).s] 99)).alloc (.cells #[.int .i64 k, .bool true, .string (dg f n y ws k).s] 106)))
              have hal := (unhide HL).len
              have hwl := ((unhide HL).kp.trans (unhide HK1) (by simp)).size
              go_wp2_with (at_builtin; refine wpList_append_lies _ rfl _ _ 100 rfl w.heap.size 106 in0 _ 3 32 Tryz.underlying100 hi0 hz0 hz1 hz2 rfl (by omega) (.slice a acc.length cap) acc.length (vcells acc) rfl (unhide hOW) ⟨w1.heap.size + 1, 0, none⟩ 1 1 [.int .i64 k, .bool true, .string (dg f n y ws k).s] (by rfl) (by rfl) (World.news_of_block (cs := #[.int .i64 k, .bool true, .string (dg f n y ws k).s]) (t := 106) (fr := (0, 0)) (by have := heap_alloc_new (w1.alloc (.cells #[.bool true, .string (dg f n y ws k).s] 99)) (.cells #[.int .i64 k, .bool true, .string (dg f n y ws k).s] 106); simpa using this)) (by simp [Value.oneCell']) (by omega) (by unfold maxLen; omega) (by omega) (by simp; omega) _ rfl ?_; intro g2 cap2 w2 hown hgrow hat hlt2)
              have HL2 := hide ((unhide HL).more hlt (((unhide HK1).alloc _).alloc _) ((unhide HD1).kp0 (((Kp.refl [] w1).alloc _).alloc _)) (unhide H00) (unhide H1) hown hgrow)
              clear hown hgrow hat
              go_wp2_with fail
              exact ⟨⟨k + 1, _, _, _, _, by omega, by simp, by go_num, HL2⟩, by simp [intOf]; omega⟩
            · have HL2 := hide ((unhide HL).skip hlt ((unhide HK1).alloc (.cells #[.bool (dg f n y ws k).t, .string (dg f n y ws k).s] 99)) ((unhide HD1).kp0 ((Kp.refl [] w1).alloc _)) (unhide H00) h1)
              have h1' : (dg f n y ws k).t = false := by simpa using h1
              rw [h1'] at HL2 ⊢
              clear h1 h1'
              go_wp2_with fail
              exact ⟨⟨k + 1, acc, _, a, cap, by omega, rfl, by go_num, HL2⟩, by simp [intOf]; omega⟩
          · have hg := (unhide HL).goes
            rw [show t + 1 - k = (t - k) + 1 by omega] at hg
            have hst := dgo_stop hg h0
            clear hg
            have HST := hide hst
            have HK2 := hide (((unhide HL).kp.trans (unhide HK1) (by simp)).alloc (.cells #[.bool (dg f n y ws k).t, .string (dg f n y ws k).s] 99))
            have HD2 := hide ((unhide HD1).kp0 ((Kp.refl [] w1).alloc (.cells #[.bool (dg f n y ws k).t, .string (dg f n y ws k).s] 99)))
            clear hst
            generalize (dg f n y ws k).a = q at *
            generalize (dg f n y ws k).t = qt at *
            generalize (dg f n y ws k).s = qs at *
            go_wp2_with fail
            go_ret2
            exact dlEnd_mk [] _ _ none 0 (unhide HST) (World.ownsRow_nil _ _ _ _) (unhide HD2) (unhide HK2)
        · have j0 : ¬ (k : Int) ≤ (t : Int) := by omega
          have hst := dgo_end (unhide HL).goes (by omega)
          have HST := hide hst
          clear hst
          go_wp2_with fail
          go_ret2
          exact dlEnd_mk acc 0 _ a cap (unhide HST) (unhide HL).own (unhide HL).ded (unhide HL).kp
    · have HE1 := hide (dls_out (f := f) (n := n) (y := y) (ws := ws) (rs := rs) (p := fr) (t := to_) (fun h => ht h.2))
      have ht2 : keyB to_ = false := by simpa using ht
      clear ht
      go_enter Tryz.func135, Tryz.ntmps135
      go_wp2_with fail
      refine (key11 _ _).mono ?_
      rintro e w' ⟨rfl, rfl⟩
      rw [hf]
      go_wp2_with fail
      refine (key11 _ _).mono ?_
      rintro e w' ⟨rfl, rfl⟩
      rw [ht2]
      go_wp2_with fail
      go_ret2
      exact dlEnd_mk [] 1 _ none 0 (unhide HE1) (World.ownsRow_nil _ _ _ _) (unhide HD) (Kp.refl _ _)
  · have HE1 := hide (dls_out (f := f) (n := n) (y := y) (ws := ws) (rs := rs) (p := fr) (t := to_) (fun h => hf h.1))
    have hf2 : keyB fr = false := by simpa using hf
    clear hf
    go_enter Tryz.func135, Tryz.ntmps135
    go_wp2_with fail
    refine (key11 _ _).mono ?_
    rintro e w' ⟨rfl, rfl⟩
    rw [hf2]
    go_wp2_with fail
    go_ret2
    exact dlEnd_mk [] 1 _ none 0 (unhide HE1) (World.ownsRow_nil _ _ _ _) (unhide HD) (Kp.refl _ _)
end
/- The document's own deed: its memory; In, SameInts and last, by their contracts. -/
section
open Go.RowKit
attribute [local go_sem ↓] Go.wp_at_zero Go.wp_at_succ

def ig (l : List Int) (k : Nat) : Int := l.getD k 0
/-- The numbers lie behind the slice's address. -/
def SlI (w : World) (a : Option Addr) (l : List Int) : Prop := 0 < l.length → ∃ g o, a = some ⟨g, o, none⟩ ∧ ∀ j, j < l.length → w.cell? ⟨g, o + j, none⟩ = some (.int .i64 (ig l j))
theorem SlI.kp0 {w w' : World} {a : Option Addr} {l : List Int} (h : SlI w a l) (hk : Kp [] w w') : SlI w' a l := fun hp => by
  obtain ⟨g, o, e, hs⟩ := h hp
  exact ⟨g, o, e, fun j hj => hk.cell (p := ⟨g, o + j, none⟩) (by simp) (hs j hj)⟩
theorem icells_at {l : List Int} {j : Nat} (h : j < l.length) : (icells l)[j]? = some (.int .i64 (ig l j)) := by
  simp [icells, ig, List.getD_eq_getElem?_getD, h]
theorem sli_own {B n : Nat} {w : World} {a : Option Addr} {cap : Nat} {l : List Int} (h : w.ownsRow B 3 1 (.slice a n cap) n (icells l)) (hn : n = l.length) : SlI w a l := by
  intro hp
  rcases h.2 with ⟨e, _⟩ | ⟨g, c, cur, e, _⟩
  · simp only [Value.slice.injEq] at e; omega
  · simp only [Value.slice.injEq] at e
    obtain ⟨rfl, _, _⟩ := e
    refine ⟨g, 0, rfl, fun j hj => ?_⟩
    subst hn
    have := h.cellAt j (by omega)
    rw [Nat.zero_add, this]; exact icells_at hj

theorem mem_ig {l : List Int} {x : Int} : x ∈ l ↔ ∃ j, j < l.length ∧ ig l j = x := by
  constructor
  · intro h
    obtain ⟨j, hj, e⟩ := List.mem_iff_getElem.1 h
    exact ⟨j, hj, by simp [ig, List.getD_eq_getElem?_getD, hj, e]⟩
  · rintro ⟨j, hj, e⟩
    refine List.mem_iff_getElem.2 ⟨j, hj, ?_⟩
    simpa [ig, List.getD_eq_getElem?_getD, hj] using e

/-- The document's deed: the box wb holds the mode, the commit, what was read and what was written; H: all blocks that are its own. -/
structure WrkL (B : Nat) (w : World) (wb : Nat) (H : List Nat) (ra : Option Addr) (rc : Nat) (wa : Option Addr) (wc : Nat) (md y : Int) (rs : List Int) (ws : List Ver) : Prop where
  box : w.heap[wb]? = some (.cells #[.int .i64 md, .int .i64 y, .slice ra rs.length rc, .slice wa ws.length wc] 127 (0, 0))
  ro : w.ownsRow B 3 1 (.slice ra rs.length rc) rs.length (icells rs)
  wo : w.ownsRow B 106 3 (.slice wa ws.length wc) ws.length (vcells ws)
  rb : ∀ g, (Value.slice ra rs.length rc).ownBlock = some g → g ≠ wb ∧ g ∈ H
  ab : ∀ g, (Value.slice wa ws.length wc).ownBlock = some g → g ≠ wb ∧ g ∈ H
  rw : ∀ g g', (Value.slice ra rs.length rc).ownBlock = some g → (Value.slice wa ws.length wc).ownBlock = some g' → g ≠ g'
  bH : wb ∈ H
  lo : ∀ x, x ∈ H → B ≤ x ∧ x < w.heap.size
def Wrk (B : Nat) (w : World) (wb : Nat) (H : List Nat) (md y : Int) (rs : List Int) (ws : List Ver) : Prop := ∃ ra rc wa wc, WrkL B w wb H ra rc wa wc md y rs ws

section
variable {B : Nat} {w w' : World} {wb : Nat} {H : List Nat} {ra : Option Addr} {rc : Nat} {wa : Option Addr} {wc : Nat} {md y : Int} {rs : List Int} {ws : List Ver}
theorem WrkL.kp {S : List Nat} (h : WrkL B w wb H ra rc wa wc md y rs ws) (hk : Kp S w w') (hS : ∀ x, x ∈ H → x ∉ S) : WrkL B w' wb H ra rc wa wc md y rs ws :=
  ⟨by rw [hk.block wb (lt_of_block h.box) (hS _ h.bH)]; exact h.box, own_kp h.ro hk (fun g hg => hS g (h.rb g hg).2), own_kp h.wo hk (fun g hg => hS g (h.ab g hg).2), h.rb, h.ab, h.rw, h.bH, fun x hx => ⟨(h.lo x hx).1, Nat.lt_of_lt_of_le (h.lo x hx).2 hk.size⟩⟩
theorem WrkL.kp0 (h : WrkL B w wb H ra rc wa wc md y rs ws) (hk : Kp [] w w') : WrkL B w' wb H ra rc wa wc md y rs ws := h.kp hk (fun _ _ => by simp)
theorem Wrk.kp {S : List Nat} (h : Wrk B w wb H md y rs ws) (hk : Kp S w w') (hS : ∀ x, x ∈ H → x ∉ S) : Wrk B w' wb H md y rs ws := by
  obtain ⟨ra, rc, wa, wc, h⟩ := h
  exact ⟨ra, rc, wa, wc, h.kp hk hS⟩
theorem Wrk.kp0 (h : Wrk B w wb H md y rs ws) (hk : Kp [] w w') : Wrk B w' wb H md y rs ws := h.kp hk (fun _ _ => by simp)
theorem Wrk.lo (h : Wrk B w wb H md y rs ws) : ∀ x, x ∈ H → B ≤ x ∧ x < w.heap.size := by
  obtain ⟨ra, rc, wa, wc, h⟩ := h
  exact h.lo
theorem WrkL.c0 (h : WrkL B w wb H ra rc wa wc md y rs ws) : w.cell? ⟨wb, 0, none⟩ = some (.int .i64 md) := cell_of_block h.box rfl
theorem WrkL.c1 (h : WrkL B w wb H ra rc wa wc md y rs ws) : w.cell? ⟨wb, 1, none⟩ = some (.int .i64 y) := cell_of_block h.box rfl
theorem WrkL.c2 (h : WrkL B w wb H ra rc wa wc md y rs ws) : w.cell? ⟨wb, 2, none⟩ = some (.slice ra rs.length rc) := cell_of_block h.box rfl
theorem WrkL.c3 (h : WrkL B w wb H ra rc wa wc md y rs ws) : w.cell? ⟨wb, 3, none⟩ = some (.slice wa ws.length wc) := cell_of_block h.box rfl
theorem WrkL.rsl (h : WrkL B w wb H ra rc wa wc md y rs ws) : SlI w ra rs := sli_own h.ro rfl
theorem WrkL.wsl (h : WrkL B w wb H ra rc wa wc md y rs ws) : SlO w wa ws := slo_own h.wo rfl
end

theorem lw_here {ws : List Ver} {k : Int} {i : Nat} (h : va ws i = k) : lw ws k (i + 1) = some ⟨k, vt ws i, vb ws i⟩ := by simp only [lw]; rw [if_pos h]
theorem lw_past {ws : List Ver} {k : Int} {i : Nat} (h : ¬ va ws i = k) : lw ws k (i + 1) = lw ws k i := by simp only [lw]; rw [if_neg h]

set_option maxHeartbeats 1000000 in
theorem wlast81 {B wb : Nat} {H : List Nat} {md y : Int} {rs : List Int} {ws : List Ver} (k : Int) (w : World) (h : Wrk B w wb H md y rs ws) (hm : ws.length ≤ 1000) :
    Calls Tryz.prog 103 #[.pointer (some ⟨wb, 0, none⟩), .int .i64 k] w fun e w' => e = .returned (.tuple #[.agg #[.bool ((lwr ws k).getD dv).t, .string ((lwr ws k).getD dv).s], .bool (lwr ws k).isSome]) ∧ Kp [] w w' := by
  obtain ⟨ra, rc, wa, wc, h⟩ := h
  have hlt := lt_of_block h.box
  have q3 := h.c3
  have HS := hide h.wsl
  clear h
  go_enter Tryz.func103, Tryz.ntmps103
  go_wp2_with fail
  go_loop [6] (fun i => ∃ d : Nat, d ≤ ws.length ∧ i = .int .i64 ((d : Int) - 1) ∧ Hid (lw ws k d = lwr ws k)) (fun i => (intOf i + 1).toNat)
  case atStart => exact ⟨ws.length, Nat.le_refl _, rfl, rfl⟩
  case round =>
    obtain ⟨d, hd, rfl, HE⟩ := hrel
    by_cases hd0 : 0 < d
    · obtain ⟨c, rfl⟩ : ∃ c, d = c + 1 := ⟨d - 1, by omega⟩
      have hc1 : ((c + 1 : Nat) : Int) - 1 = (c : Int) := by omega
      rw [hc1]
      obtain ⟨g, o, rfl, hs⟩ := unhide HS (by omega)
      have p0 := hs.at0 c (by omega)
      have p1 := hs.at1 c (by omega)
      have p2 : w.cell? ⟨g, o + c * 3 + 1 + 1, none⟩ = some (.string (vb ws c)) := hs.at2 c (by omega)
      have hgl := hs.lt (by omega)
      have i0 : (0 : Int) ≤ (c : Int) := by omega
      have i1 : (c : Int) < (ws.length : Int) := by omega
      clear hs
      by_cases hx : va ws c = k
      · have HV := hide ((unhide HE).symm.trans (lw_here hx))
        rw [hx] at p0
        clear hx
        go_wp2
        refine bodyPost_ret (v := .tuple #[.agg #[.bool (vt ws c), .string (vb ws c)], .bool true]) (by simp [results, Tryz.results103, go_sem]) rfl ⟨by rw [unhide HV]; rfl, ?_⟩
        exact (Kp.refl [] w).alloc _
      · have HE2 := hide ((lw_past hx).symm.trans (unhide HE))
        have ex : (va ws c == k) = false := beq_eq_false_iff_ne.2 hx
        clear hx
        go_wp2
        exact ⟨⟨c, by omega, by go_num, HE2⟩, by simp [intOf]⟩
    · have e : d = 0 := by omega
      subst e
      have HV : Hid (lwr ws k = none) := (unhide HE).symm
      go_wp2
      refine bodyPost_ret (v := .tuple #[.agg #[.bool false, .string ByteArray.empty], .bool false]) (by simp [results, Tryz.results103, go_sem]; rfl) rfl ⟨by rw [unhide HV]; rfl, ?_⟩
      exact (Kp.refl [] w).alloc _
end
/- Get and Put of the document's deed, by their contracts. -/
section
open Go.RowKit
attribute [local go_sem ↓] Go.wp_at_zero Go.wp_at_succ

section
variable {B : Nat} {W w2 : World} {wb : Nat} {H : List Nat} {ra : Option Addr} {rc : Nat} {wa : Option Addr} {wc : Nat} {md y : Int} {rs : List Int} {ws : List Ver} {g2 cap2 : Nat}
theorem wrk_read {k : Int} (h : WrkL B W wb H ra rc wa wc md y rs ws) (hown : w2.ownsRow B 3 1 (.slice (some ⟨g2, 0, none⟩) (rs.length + 1) cap2) (rs.length + 1) (icells rs ++ [.int .i64 k]))
    (hg : W.grownBy w2 (Value.slice ra rs.length rc).ownBlock) (hat : (Value.slice ra rs.length rc).ownBlock = some g2 ∨ g2 = W.heap.size) (hlt : g2 < w2.heap.size) :
    WrkL B (w2.setCell ⟨wb, 2, none⟩ (.slice (some ⟨g2, 0, none⟩) (rs.length + 1) cap2)) wb (g2 :: H) (some ⟨g2, 0, none⟩) cap2 wa wc md y (rs ++ [k]) ws ∧ Kp H W (w2.setCell ⟨wb, 2, none⟩ (.slice (some ⟨g2, 0, none⟩) (rs.length + 1) cap2)) ∧ (g2 ∈ H ∨ g2 = W.heap.size) := by
  have hwl := lt_of_block h.box
  have hwB := h.lo wb h.bH
  have hne : g2 ≠ wb := by
    rcases hat with e | e
    · exact (h.rb g2 e).1
    · omega
  have hin : g2 ∈ H ∨ g2 = W.heap.size := by
    rcases hat with e | e
    · exact .inl (h.rb g2 e).2
    · exact .inr e
  have hbox : w2.heap[wb]? = some (.cells #[.int .i64 md, .int .i64 y, .slice ra rs.length rc, .slice wa ws.length wc] 127 (0, 0)) := by
    rw [hg.block wb hwl (fun e => (h.rb wb e.symm).1 rfl)]; exact h.box
  have hkH : Kp H W w2 := (Kp.refl H W).grown hg (fun x hx => .inl (h.rb x hx).2)
  have hks : Kp [wb] w2 (w2.setCell ⟨wb, 2, none⟩ (.slice (some ⟨g2, 0, none⟩) (rs.length + 1) cap2)) := (Kp.refl _ _).setCell (.inl (by simp)) _
  have hsz := hks.size
  have hsz2 := hg.size
  refine ⟨⟨?_, ?_, ?_, ?_, fun g hg2 => ⟨(h.ab g hg2).1, List.mem_cons_of_mem _ (h.ab g hg2).2⟩, ?_, List.mem_cons_of_mem _ h.bH, fun x hx => ?_⟩, hkH.trans hks (by simp; exact .inl h.bH), hin⟩
  · rw [heap_setCell_at 2 _ hbox, List.length_append]; rfl
  · rw [List.length_append]
    have e : icells rs ++ [.int .i64 k] = icells (rs ++ [k]) := by rw [icells_append]; rfl
    rw [e] at hown
    refine own_kp hown hks (fun g hg2 => ?_)
    have : g2 = g := by simpa [Value.ownBlock] using hg2
    simp; omega
  · refine own_kp (own_kp h.wo (S := (Value.slice ra rs.length rc).ownBlock.toList) ((Kp.refl _ W).grown hg (fun x hx => .inl (by simp [hx]))) (fun g hg2 hm => ?_)) hks (fun g hg2 => by have := (h.ab g hg2).1; simp; omega)
    exact h.rw g g (by simpa using hm) hg2 rfl
  · intro g hg2
    have : g2 = g := by simpa [Value.ownBlock] using hg2
    subst this
    exact ⟨hne, by simp⟩
  · intro g g' hg2 hg3
    have : g2 = g := by simpa [Value.ownBlock] using hg2
    subst this
    rcases hat with e | e
    · exact h.rw _ _ e hg3
    · have := (h.lo g' (h.ab g' hg3).2).2; omega
  · rcases List.mem_cons.1 hx with e | e
    · subst e
      refine ⟨?_, by omega⟩
      rcases hin with q | q
      · exact (h.lo _ q).1
      · omega
    · have := h.lo x e; omega

theorem wrk_write {k : Int} {t : Bool} {s : ByteArray} (h : WrkL B W wb H ra rc wa wc md y rs ws) (hown : w2.ownsRow B 106 3 (.slice (some ⟨g2, 0, none⟩) (ws.length + 1) cap2) (ws.length + 1) (vcells ws ++ [.int .i64 k, .bool t, .string s]))
    (hg : W.grownBy w2 (Value.slice wa ws.length wc).ownBlock) (hat : (Value.slice wa ws.length wc).ownBlock = some g2 ∨ g2 = W.heap.size) (hlt : g2 < w2.heap.size) :
    WrkL B (w2.setCell ⟨wb, 3, none⟩ (.slice (some ⟨g2, 0, none⟩) (ws.length + 1) cap2)) wb (g2 :: H) ra rc (some ⟨g2, 0, none⟩) cap2 md y rs (ws ++ [⟨k, t, s⟩]) ∧ Kp H W (w2.setCell ⟨wb, 3, none⟩ (.slice (some ⟨g2, 0, none⟩) (ws.length + 1) cap2)) ∧ (g2 ∈ H ∨ g2 = W.heap.size) := by
  have hwl := lt_of_block h.box
  have hwB := h.lo wb h.bH
  have hne : g2 ≠ wb := by
    rcases hat with e | e
    · exact (h.ab g2 e).1
    · omega
  have hin : g2 ∈ H ∨ g2 = W.heap.size := by
    rcases hat with e | e
    · exact .inl (h.ab g2 e).2
    · exact .inr e
  have hbox : w2.heap[wb]? = some (.cells #[.int .i64 md, .int .i64 y, .slice ra rs.length rc, .slice wa ws.length wc] 127 (0, 0)) := by
    rw [hg.block wb hwl (fun e => (h.ab wb e.symm).1 rfl)]; exact h.box
  have hkH : Kp H W w2 := (Kp.refl H W).grown hg (fun x hx => .inl (h.ab x hx).2)
  have hks : Kp [wb] w2 (w2.setCell ⟨wb, 3, none⟩ (.slice (some ⟨g2, 0, none⟩) (ws.length + 1) cap2)) := (Kp.refl _ _).setCell (.inl (by simp)) _
  have hsz := hks.size
  have hsz2 := hg.size
  refine ⟨⟨?_, ?_, ?_, fun g hg2 => ⟨(h.rb g hg2).1, List.mem_cons_of_mem _ (h.rb g hg2).2⟩, ?_, ?_, List.mem_cons_of_mem _ h.bH, fun x hx => ?_⟩, hkH.trans hks (by simp; exact .inl h.bH), hin⟩
  · rw [heap_setCell_at 3 _ hbox, List.length_append]; rfl
  · refine own_kp (own_kp h.ro (S := (Value.slice wa ws.length wc).ownBlock.toList) ((Kp.refl _ W).grown hg (fun x hx => .inl (by simp [hx]))) (fun g hg2 hm => ?_)) hks (fun g hg2 => by have := (h.rb g hg2).1; simp; omega)
    exact h.rw g g hg2 (by simpa using hm) rfl
  · rw [List.length_append]
    have e : vcells ws ++ [.int .i64 k, .bool t, .string s] = vcells (ws ++ [⟨k, t, s⟩]) := by rw [vcells_append]; rfl
    rw [e] at hown
    refine own_kp hown hks (fun g hg2 => ?_)
    have : g2 = g := by simpa [Value.ownBlock] using hg2
    simp; omega
  · intro g hg2
    have : g2 = g := by simpa [Value.ownBlock] using hg2
    subst this
    exact ⟨hne, by simp⟩
  · intro g g' hg2 hg3
    have : g2 = g' := by simpa [Value.ownBlock] using hg3
    subst this
    rcases hat with e | e
    · exact h.rw _ _ hg2 e
    · have := (h.lo g (h.rb g hg2).2).2; omega
  · rcases List.mem_cons.1 hx with e | e
    · subst e
      refine ⟨?_, by omega⟩
      rcases hin with q | q
      · exact (h.lo _ q).1
      · omega
    · have := h.lo x e; omega
end

/-- What Get of the document's deed tells and leaves. -/
def WgEnd (B : Nat) (w : World) (wb : Nat) (H : List Nat) (md y : Int) (rs : List Int) (ws : List Ver) (v : Value) (e : Ending) (w' : World) : Prop :=
  e = .returned v ∧ ∃ H', Wrk B w' wb H' md y rs ws ∧ Kp H w w' ∧ ∀ x, x ∈ H' → x ∈ H ∨ w.heap.size ≤ x
theorem wgEnd_kp {B : Nat} {w w' : World} {wb : Nat} {H : List Nat} {md y : Int} {rs : List Int} {ws : List Ver} {v : Value} {e : Ending} (he : e = .returned v) (h : Wrk B w wb H md y rs ws) (hk : Kp [] w w') : WgEnd B w wb H md y rs ws v e w' :=
  ⟨he, H, h.kp0 hk, hk.mono (by simp), fun _ hx => .inl hx⟩

/-- A variable of two cells: a value. -/
def Two (w : World) (p : Nat) (t : Bool) (s : ByteArray) : Prop := w.heap[p]? = some (.cells #[.bool t, .string s] 99 (0, 0))
section
variable {w w' : World} {p : Nat} {t : Bool} {s : ByteArray}
theorem Two.kp {S : List Nat} (h : Two w p t s) (hk : Kp S w w') (hS : p ∉ S) : Two w' p t s := by
  unfold Two at h ⊢
  rw [hk.block p (lt_of_block h) hS]; exact h
theorem Two.kp0 (h : Two w p t s) (hk : Kp [] w w') : Two w' p t s := h.kp hk (by simp)
theorem Two.c0 (h : Two w p t s) : w.cell? ⟨p, 0, none⟩ = some (.bool t) := cell_of_block h rfl
theorem Two.c1 (h : Two w p t s) : w.cell? ⟨p, 1, none⟩ = some (.string s) := cell_of_block h rfl
theorem Two.f0 (h : Two w p t s) : w.frozen? ⟨p, 0, none⟩ = false := frozen_of_block 0 h
theorem Two.f1 (h : Two w p t s) : w.frozen? ⟨p, 1, none⟩ = false := frozen_of_block 1 h
theorem Two.lt (h : Two w p t s) : p < w.heap.size := lt_of_block h
theorem Two.grown {ob : Option Nat} (h : Two w p t s) (hg : w.grownBy w' ob) (hne : some p ≠ ob) : Two w' p t s := by
  unfold Two at h ⊢
  rw [hg.block p (lt_of_block h) hne]; exact h
end
theorem two_new (w : World) (t : Bool) (s : ByteArray) : Two (w.alloc (.cells #[.bool t, .string s] 99)) w.heap.size t s := heap_alloc_new w _

/-- Behind the append of Get: what it stores to, and what it loads. -/
theorem get_far {B : Nat} {w2 w3 : World} {wb : Nat} {H : List Nat} {ra : Option Addr} {rc : Nat} {wa : Option Addr} {wc : Nat} {md y : Int} {rs : List Int} {ws : List Ver} {R : Nat} {t : Bool} {s : ByteArray} {o : Obj}
    (h : WrkL B w2 wb H ra rc wa wc md y rs ws) (hR : Two w2 R false ⟨#[]⟩) (hRH : R ∉ H) (hg : ((w2.alloc (.cells #[.bool t, .string s] 99)).alloc o).grownBy w3 (Value.slice ra rs.length rc).ownBlock) :
    w3.cell? ⟨wb, 2, none⟩ = some (.slice ra rs.length rc) ∧ w3.frozen? ⟨wb, 2, none⟩ = false ∧ w3.cell? ⟨w2.heap.size, 0, none⟩ = some (.bool t) ∧ w3.cell? ⟨w2.heap.size, 1, none⟩ = some (.string s) ∧
      w3.cell? ⟨R, 0, none⟩ = some (.bool false) ∧ w3.cell? ⟨R, 1, none⟩ = some (.string ⟨#[]⟩) ∧ w3.frozen? ⟨R, 0, none⟩ = false ∧ w3.frozen? ⟨R, 1, none⟩ = false := by
  have hk : Kp [] w2 ((w2.alloc (.cells #[.bool t, .string s] 99)).alloc o) := ((Kp.refl [] w2).alloc _).alloc _
  have h' := h.kp0 hk
  have hbox : w3.heap[wb]? = some (.cells #[.int .i64 md, .int .i64 y, .slice ra rs.length rc, .slice wa ws.length wc] 127 (0, 0)) := by
    rw [hg.block wb (lt_of_block h'.box) (fun e => (h.rb wb e.symm).1 rfl)]; exact h'.box
  have hv : Two w3 w2.heap.size t s := ((two_new w2 t s).kp0 ((Kp.refl [] _).alloc o)).grown hg (fun e => by have := (h.lo _ (h.rb _ e.symm).2).2; omega)
  have hr : Two w3 R false ⟨#[]⟩ := (hR.kp0 hk).grown hg (fun e => hRH (h.rb _ e.symm).2)
  exact ⟨cell_of_block hbox rfl, frozen_of_block 2 hbox, hv.c0, hv.c1, hr.c0, hr.c1, hr.f0, hr.f1⟩

theorem wget_end {B : Nat} {w w2 w3 : World} {wb : Nat} {H : List Nat} {ra : Option Addr} {rc : Nat} {wa : Option Addr} {wc : Nat} {md y : Int} {rs : List Int} {ws : List Ver} {t : Bool} {s : ByteArray} {k : Int} {o : Obj} {g2 cap2 : Nat} {v : Value} {e : Ending} (he : e = .returned v)
    (h : WrkL B w2 wb H ra rc wa wc md y rs ws) (hH : ∀ x, x ∈ H → x < w.heap.size) (hkw : Kp [] w w2) (hlt : w.heap.size < w2.heap.size)
    (hown : w3.ownsRow B 3 1 (.slice (some ⟨g2, 0, none⟩) (rs.length + 1) cap2) (rs.length + 1) (icells rs ++ [.int .i64 k]))
    (hg : ((w2.alloc (.cells #[.bool t, .string s] 99)).alloc o).grownBy w3 (Value.slice ra rs.length rc).ownBlock) (hat : (Value.slice ra rs.length rc).ownBlock = some g2 ∨ g2 = ((w2.alloc (.cells #[.bool t, .string s] 99)).alloc o).heap.size) (hl3 : g2 < w3.heap.size) :
    WgEnd B w wb H md y (rs ++ [k]) ws v e (((w3.setCell ⟨wb, 2, none⟩ (.slice (some ⟨g2, 0, none⟩) (rs.length + 1) cap2)).setCell ⟨w.heap.size, 0, none⟩ (.bool t)).setCell ⟨w.heap.size, 1, none⟩ (.string s)) := by
  have hk : Kp [] w2 ((w2.alloc (.cells #[.bool t, .string s] 99)).alloc o) := ((Kp.refl [] w2).alloc _).alloc _
  obtain ⟨z1, z2, z3⟩ := wrk_read (h.kp0 hk) hown hg hat hl3
  have hsz : w2.heap.size ≤ ((w2.alloc (.cells #[.bool t, .string s] 99)).alloc o).heap.size := hk.size
  have hin : ∀ x, x ∈ g2 :: H → x ∈ H ∨ w.heap.size < x := by
    intro x hx
    rcases List.mem_cons.1 hx with e | e
    · subst e
      rcases z3 with q | q
      · exact .inl q
      · right; omega
    · exact .inl e
  refine ⟨he, g2 :: H, ⟨_, _, _, _, z1.kp (S := [w.heap.size]) (((Kp.refl _ _).setCell (.inl (by simp)) _).setCell (.inl (by simp)) _) (fun x hx => ?_)⟩, ?_, fun x hx => ?_⟩
  · rcases hin x hx with q | q
    · have := hH x q; simp; omega
    · simp; omega
  · exact ((((hkw.trans0 hk).mono (T := H) (by simp)).trans z2 (fun x hx => .inl hx)).setCell (.inr (Nat.le_refl _)) _).setCell (.inr (Nat.le_refl _)) _
  · rcases hin x hx with q | q
    · exact .inl q
    · right; omega

end
/- Put, Reads and Writes of the document's deed, by their contracts. -/
section
open Go.RowKit
attribute [local go_sem ↓] Go.wp_at_zero Go.wp_at_succ

theorem far_drew {W w2 : World} {o : Obj} {ob : Option Nat} {b i : Nat} {v : Value} (hg : (W.alloc o).drew.grownBy w2 ob) (hne : some b ≠ ob)
    (q0 : W.cell? ⟨b, i, none⟩ = some v) (q1 : W.frozen? ⟨b, i, none⟩ = false) : w2.cell? ⟨b, i, none⟩ = some v ∧ w2.frozen? ⟨b, i, none⟩ = false := by
  have hb := World.block_lt_of_cell? W _ q0
  refine ⟨?_, ?_⟩
  · rw [hg.cell_far _ (by simp; exact Nat.lt_succ_of_lt hb) hne]
    simp only [World.cell?_drew]
    rw [World.cell?_alloc_lt _ _ _ hb]; exact q0
  · rw [hg.frozen_far _ (by simp; exact Nat.lt_succ_of_lt hb) hne]
    simp only [World.frozen?_drew]
    rw [World.frozen?_alloc_old _ _ _ (Nat.ne_of_lt hb)]; exact q1

set_option maxHeartbeats 2000000 in
theorem wput58 {B wb : Nat} {H : List Nat} {md y : Int} {rs : List Int} {ws : List Ver} (k : Int) (t : Bool) (s : ByteArray) (w : World) (hw : Wrk B w wb H md y rs ws) (hs : s.size ≤ maxLen) (hwl : ws.length ≤ 900) :
    Calls Tryz.prog 69 #[.pointer (some ⟨wb, 0, none⟩), .int .i64 k, .agg #[.bool t, .string s]] w fun e w' => WgEnd B w wb H md y rs (dpw md ws k t s) (.int .i64 (dpc md k t s)) e w' := by
  obtain ⟨in0, hi0, hz0, hz1, hz2⟩ := info_parts Tryz.info106
  have HW := hide hw
  obtain ⟨ra, rc, wa, wc, h⟩ := hw
  have hlt := lt_of_block h.box
  have qm := h.c0
  have HL := hide h
  clear h
  by_cases hk : keyB k = true
  · by_cases hm : md = 3
    · have hc : dpc md k t s = 3 := by unfold dpc; rw [if_pos hk, if_pos hm]
      rw [dpw_not (by rw [hc]; decide), hc]
      clear hc
      subst hm
      go_enter Tryz.func69, Tryz.ntmps69
      go_wp2_with fail
      refine (key12 _ _).mono ?_
      rintro e w' ⟨rfl, rfl⟩
      rw [hk]
      clear hk
      go_wp2_with fail
      go_ret
      exact wgEnd_kp rfl (unhide HW) ((Kp.refl [] w).alloc _)
    · have hc : dpc md k t s = chk t s := by unfold dpc; rw [if_pos hk, if_neg hm]
      have em : (md == 3) = false := beq_eq_false_iff_ne.2 hm
      by_cases h0 : chk t s = 0
      · rw [dpw_yes (by rw [hc]; exact h0), hc, h0]
        have H0 := hide h0
        clear hc h0 hm
        go_enter Tryz.func69, Tryz.ntmps69
        go_wp2_with fail
        refine (key12 _ _).mono ?_
        rintro e w' ⟨rfl, rfl⟩
        rw [hk]
        clear hk
        go_wp2_with fail
        refine (fault14 t s _ hs).mono ?_
        rintro e w1 ⟨rfl, hkp⟩
        rw [unhide H0]
        have b0 : w1.cell? ⟨w.heap.size, 0, none⟩ = some (.bool t) := hkp.cell (by simp) (by simp)
        have b1 : w1.cell? ⟨w.heap.size, 1, none⟩ = some (.string s) := hkp.cell (by simp) (by simp)
        have hkp1 := ((Kp.refl [] w).alloc (.cells #[.bool t, .string s] 99)).trans0 hkp
        have h1 := (unhide HL).kp0 hkp1
        have c3 := h1.c3
        have f3 : w1.frozen? ⟨wb, 3, none⟩ = false := frozen_of_block 3 h1.box
        have hl1 := lt_of_block h1.box
        have hBb := (h1.lo wb h1.bH).1
        have hRl : w.heap.size < w1.heap.size := by have := hkp.size; simp at this; omega
        have HO := hide (own_kp0 h1.wo (((Kp.refl [] w1).alloc (.cells #[.int .i64 k, .bool t, .string s] 106)).drew))
        have HL1 := hide h1
        have HK1 := hide hkp1
        clear h1 hkp hkp1 qm em
        go_wp2_with fail
        go_region_law (refine step_append_lies _ (by rfl) _ _ 100 (by rfl) B 106 in0 _ 3 32 Tryz.underlying100 hi0 hz0 hz1 hz2 rfl (by omega) (.slice wa ws.length wc) ws.length (vcells ws) (by rfl) (unhide HO) ⟨w1.heap.size, 0, none⟩ 1 1 [.int .i64 k, .bool t, .string s] (by rfl) (by rfl) (World.news_of_block (cs := #[.int .i64 k, .bool t, .string s]) (t := 106) (fr := (0, 0)) (heap_alloc_new w1 _)) (by simp [Value.oneCell']) (by omega) (by unfold maxLen; omega) (by omega) (by simp; omega) (w1.heap.size + 1) (by simp) ?_; intro gg cap2 w2 hown1 hgrow hat hlt2; obtain ⟨r0, r1⟩ := far_drew hgrow (fun e => ((unhide HL1).ab wb e.symm).1 rfl) c3 f3; have HO1 := hide hown1; have HG1 := hide hgrow; have HA1 := hide hat; clear hown1 hgrow hat)
        all_goals
          go_wp2
          go_ret
          obtain ⟨z1, z2, z3⟩ := wrk_write ((unhide HL1).kp0 (((Kp.refl [] w1).alloc (.cells #[.int .i64 k, .bool t, .string s] 106)).drew)) (unhide HO1) (unhide HG1) (by rcases unhide HA1 with e | e; exact .inl e; exact .inr (by simpa using e)) hlt2
          have hkw := (((unhide HK1).alloc (.cells #[.int .i64 k, .bool t, .string s] 106)).drew)
          refine ⟨rfl, gg :: H, ⟨_, _, _, _, z1⟩, (hkw.mono (T := H) (by simp)).trans z2 (fun x hx => .inl hx), fun x hx => ?_⟩
          have hsz := hkw.size
          rcases List.mem_cons.1 hx with e | e
          · subst e
            rcases z3 with q | q
            · exact .inl q
            · right; omega
          · exact .inl e
      · rw [dpw_not (by rw [hc]; exact h0), hc]
        clear hc hm
        go_enter Tryz.func69, Tryz.ntmps69
        go_wp2_with fail
        refine (key12 _ _).mono ?_
        rintro e w' ⟨rfl, rfl⟩
        rw [hk]
        clear hk
        go_wp2_with fail
        refine (fault14 t s _ hs).mono ?_
        rintro e w1 ⟨rfl, hkp⟩
        have HK1 := hide (((Kp.refl [] w).alloc (.cells #[.bool t, .string s] 99)).trans0 hkp)
        clear hkp qm em
        generalize hcc : chk t s = c at *
        have HCC := hide hcc
        clear hcc
        go_wp2_with fail
        go_ret
        exact wgEnd_kp (ret_int (unhide HCC).symm) (unhide HW) (unhide HK1)
  · have hk2 : keyB k = false := by simpa using hk
    have hc : dpc md k t s = 1 := by unfold dpc; rw [if_neg hk]
    rw [dpw_not (by rw [hc]; decide), hc]
    clear hc hk
    go_enter Tryz.func69, Tryz.ntmps69
    go_wp2_with fail
    refine (key12 _ _).mono ?_
    rintro e w' ⟨rfl, rfl⟩
    rw [hk2]
    clear hk2
    go_wp2_with fail
    go_ret
    exact wgEnd_kp rfl (unhide HW) ((Kp.refl [] w).alloc _)

set_option maxHeartbeats 1000000 in
theorem wwrites67 {B wb : Nat} {H : List Nat} {md y : Int} {rs : List Int} {ws : List Ver} (w : World) (h : Wrk B w wb H md y rs ws) (hwl : ws.length ≤ 900) : Calls Tryz.prog 73 #[.pointer (some ⟨wb, 0, none⟩)] w fun e w' => PrsEnd (wk ws 8) w e w' := by
  obtain ⟨in0, hi0, hz0, hz1, hz2⟩ := info_parts Tryz.info106
  have HW := hide h
  have H0 : Hid (WrtI w (wk ws 0) none 0 w) := ⟨World.ownsRow_nil _ _ _ _, Kp.refl _ _⟩
  clear h
  go_enter Tryz.func73, Tryz.ntmps73
  go_wp2_with fail
  go_loopw [3, 4] (fun s i wr => ∃ (k : Nat) (a : Option Addr) (cap : Nat), k ≤ 8 ∧ s = .slice a (wk ws k).length cap ∧ i = .int .i64 k ∧ Hid (WrtI w (wk ws k) a cap wr)) (fun _ i _ => 8 - (intOf i).toNat)
  case atStart => exact ⟨0, none, 0, by omega, rfl, rfl, H0⟩
  case round =>
    obtain ⟨k, a, cap, hk, rfl, rfl, HL⟩ := hrel
    by_cases hlt8 : k < 8
    · have i1 : (k : Int) < 8 := by omega
      have hal := wk_len ws k
      go_wp2_with fail
      refine (wlast81 k _ ((unhide HW).kp0 (unhide HL).kp) (by omega)).mono ?_
      rintro e w1 ⟨rfl, hkp⟩
      have HK1 := hide hkp
      clear hkp
      cases hv : lwr ws k with
      | some v =>
        have HN := hide (wk_yes hv)
        simp only [Option.isSome_some, Option.getD_some]
        clear hv
        generalize wk ws k = L at *
        have hOW := hide (own_kp0 (unhide HL).own (((unhide HK1).alloc (.cells #[.bool v.t, .string v.s] 99)).alloc (.cells #[.int .i64 k, .bool v.t, .string v.s] 106)))
        have hwl := ((unhide HL).kp.trans0 (unhide HK1)).size
        go_wp2_with (at_builtin; refine wpList_append_lies _ rfl _ _ 100 rfl w.heap.size 106 in0 _ 3 32 Tryz.underlying100 hi0 hz0 hz1 hz2 rfl (by omega) (.slice a L.length cap) L.length (vcells L) rfl (unhide hOW) ⟨w1.heap.size + 1, 0, none⟩ 1 1 [.int .i64 k, .bool v.t, .string v.s] (by rfl) (by rfl) (World.news_of_block (cs := #[.int .i64 k, .bool v.t, .string v.s]) (t := 106) (fr := (0, 0)) (by have := heap_alloc_new (w1.alloc (.cells #[.bool v.t, .string v.s] 99)) (.cells #[.int .i64 k, .bool v.t, .string v.s] 106); simpa using this)) (by simp [Value.oneCell']) (by omega) (by unfold maxLen; omega) (by omega) (by simp; omega) _ rfl ?_; intro g2 cap2 w2 hown hgrow hat hlt2)
        have HL2 := hide ((unhide HL).more (((unhide HK1).alloc _).alloc _) hown hgrow)
        clear hown hgrow hat
        go_wp2_with fail
        exact ⟨⟨k + 1, some ⟨g2, 0, none⟩, cap2, by omega, by rw [unhide HN]; simp, by go_num, by rw [unhide HN]; exact HL2⟩, by simp [intOf]; omega⟩
      | none =>
        have HN := hide (wk_no hv)
        simp only [Option.isSome_none, Option.getD_none]
        clear hv
        have HL2 := hide ((unhide HL).skip ((unhide HK1).alloc (.cells #[.bool dv.t, .string dv.s] 99)))
        go_wp2_with fail
        exact ⟨⟨k + 1, a, cap, by omega, by rw [unhide HN], by go_num, by rw [unhide HN]; exact HL2⟩, by simp [intOf]; omega⟩
    · have e : k = 8 := by omega
      subst e
      go_wp2_with fail
      go_ret
      exact ⟨a, cap, rfl, (unhide HL).own, (unhide HL).kp⟩
end
end Go.Proofs.YtldkeaeohceckadGreatDoor
