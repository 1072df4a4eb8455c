/- Sq, Sg, An, Sh, Sb, Sc, Sd, Se, Sf, Vb, Lz, V3, Si, Sj, Ha, Sk, Sl, Hb, Hc, Hd, Hi: bound together for a claim. -/
import Derived.Test.YtliopckocegknacM2
import Derived.Deep.MidRow
import Derived.BigRegion
import Derived.Deep.RegionHeld3
import Derived.Deep.RegionWith
/- Plain words for what was done: a book of a hall's steps; what is so of it. -/
namespace Go.Proofs.Ytliopckocegknac
open Go.RowKit Srt
set_option maxRecDepth 20000

/-- A book: the seats' deeds that go on, the deeds that were done. -/
structure Bk where
  op : Nat → Option Dn
  dn : List Dn
def bk0 : Bk := ⟨fun _ => none, []⟩
def bat5 (b : Bk) (s : Int) : Option Dn := if 0 ≤ s ∧ s < 5 then b.op s.toNat else none
/-- What is noted of a step that a deed goes on by. -/
def nact (x : HStep) (e : Ev) : Ac :=
  if x.d = 2 then ⟨2, x.key, 0, e.t, e.s, []⟩ else if x.d = 3 then ⟨3, x.key, 0, true, x.b, []⟩ else if x.d = 4 then ⟨4, x.key, 0, false, ⟨#[]⟩, []⟩ else ⟨5, x.key, x.to_, false, ⟨#[]⟩, e.l⟩
def isd (x : HStep) (e : Ev) : Bool := if x.d = 6 then decide (e.c = 0) else if x.d = 10 then decide (e.n ≠ 0) else false
def bnote (b : Bk) (x : HStep) (e : Ev) (last : Int) : Bk :=
  if x.d = 1 then (if e.c = 0 ∧ 0 ≤ x.s ∧ x.s < 5 then ⟨upd b.op x.s.toNat (some ⟨0, if x.md = 3 then x.at_ else last, x.md, []⟩), b.dn⟩ else b)
  else if 2 ≤ x.d ∧ x.d ≤ 5 then (match bat5 b x.s with
    | none => b
    | some d => if e.c = 0 then ⟨upd b.op x.s.toNat (some { d with acts := d.acts ++ [nact x e] }), b.dn⟩ else b)
  else if x.d = 6 ∨ x.d = 7 ∨ x.d = 10 then (match bat5 b x.s with
    | none => b
    | some d => ⟨if x.d = 10 then (fun _ => none) else upd b.op x.s.toNat none, if isd x e = true then b.dn ++ [{ d with n := e.n }] else b.dn⟩)
  else if x.d = 9 then ⟨fun _ => none, b.dn⟩
  else b
/-- A hall and its book, step by step. -/
def nrun : HSt → Bk → List HStep → HSt × Bk
  | h, b, [] => (h, b)
  | h, b, x :: r => nrun (hdo h x) (bnote b x (hev h x) h.n) r
def hst0 : HSt := ⟨fun _ => [dv], 0, [], fun _ => none⟩
def ntd (l : List HStep) : List Dn := (nrun hst0 bk0 l).2.dn

/-- Two worlds are the same. -/
def Sm (v u : Nat → Ver) : Prop := ∀ k, k < 8 → (v k).t = (u k).t ∧ (v k).s = (u k).s
theorem Sm.refl (v : Nat → Ver) : Sm v v := fun _ _ => ⟨rfl, rfl⟩
theorem Sm.symm {v u : Nat → Ver} (h : Sm v u) : Sm u v := fun k hk => ⟨(h k hk).1.symm, (h k hk).2.symm⟩
theorem Sm.trans {v u z : Nat → Ver} (h : Sm v u) (g : Sm u z) : Sm v z := fun k hk => ⟨(h k hk).1.trans (g k hk).1, (h k hk).2.trans (g k hk).2⟩
theorem sm_wagg {v u : Nat → Ver} (h : wagg v = wagg u) : Sm v u := fun k hk => by
  have h1 := wagg_at0 v hk
  have h2 := wagg_at1 v hk
  rw [h, wagg_at0 u hk] at h1
  rw [h, wagg_at1 u hk] at h2
  simp only [Option.some.injEq, Value.bool.injEq, Value.string.injEq] at h1 h2
  exact ⟨h1.symm, h2.symm⟩
theorem Sm.upd {v u : Nat → Ver} (h : Sm v u) (j : Nat) (x : Ver) : Sm (Ytliopckocegknac.upd v j x) (Ytliopckocegknac.upd u j x) := fun k hk => by
  by_cases e : k = j
  · subst e; rw [upd_same, upd_same]; exact ⟨rfl, rfl⟩
  · rw [upd_other _ _ _ e, upd_other _ _ _ e]; exact h k hk
theorem sm_wvs : ∀ (ps : List Ver) {v u : Nat → Ver}, Sm v u → Sm (wvs v ps) (wvs u ps) := by
  intro ps
  induction ps with
  | nil => intro v u h; exact h
  | cons p r ih => intro v u h; exact ih (h.upd _ _)
theorem Sm.wvs {v u : Nat → Ver} (h : Sm v u) (ps : List Ver) : Sm (Ytliopckocegknac.wvs v ps) (Ytliopckocegknac.wvs u ps) := sm_wvs ps h
theorem wl_congr2 {v u : Nat → Ver} {a b : Int} : ∀ m, (∀ k : Nat, k < m → a ≤ (k : Int) → (k : Int) ≤ b → (v k).t = (u k).t ∧ (v k).s = (u k).s) → wl v a b m = wl u a b m := by
  intro m
  induction m with
  | zero => intro _; rfl
  | succ m ih =>
    intro h
    simp only [wl]
    rw [ih (fun k hk => h k (by omega))]
    by_cases c : a ≤ (m : Int) ∧ (m : Int) ≤ b
    · rw [(h m (by omega) c.1 c.2).1, (h m (by omega) c.1 c.2).2]
    · rw [if_neg (fun q => c ⟨q.1, q.2.1⟩), if_neg (fun q => c ⟨q.1, q.2.1⟩)]
theorem aso_congr {v u : Nat → Ver} (h : Sm v u) {a : Ac} (hk : keyB a.key = true) : aso v a = aso u a := by
  simp only [keyB, decide_eq_true_eq] at hk
  unfold aso
  rw [(h a.key.toNat (by omega)).1, (h a.key.toNat (by omega)).2, wl_congr2 8 (fun k hk _ _ => h k hk)]
theorem Sm.ado {v u : Nat → Ver} (h : Sm v u) (a : Ac) : Sm (Ytliopckocegknac.ado v a) (Ytliopckocegknac.ado u a) := by
  unfold Ytliopckocegknac.ado
  split
  · exact h.upd _ _
  · exact h
theorem rpl_congr : ∀ (l : List Ac) {v u : Nat → Ver} (ok : Bool), Sm v u → Sm (rpl v ok l).1 (rpl u ok l).1 ∧ (rpl v ok l).2 = (rpl u ok l).2 := by
  intro l
  induction l with
  | nil => intro v u ok h; exact ⟨h, rfl⟩
  | cons a r ih =>
    intro v u ok h
    simp only [rpl]
    by_cases c : keyB a.key = true
    · rw [if_pos c, if_pos c, aso_congr h c]
      exact ih _ (h.ado a)
    · rw [if_neg c, if_neg c]
      exact ⟨h, rfl⟩
theorem Sm.rpw {v u : Nat → Ver} (h : Sm v u) (l : List Ac) : Sm (Ytliopckocegknac.rpw v l) (Ytliopckocegknac.rpw u l) := (rpl_congr l true h).1
theorem rpo_congr {v u : Nat → Ver} (h : Sm v u) (l : List Ac) : rpo v l = rpo u l := (rpl_congr l true h).2

/-- What all keys have behind commits. -/
def wc (cs : List (List Ver)) : Nat → Ver := cs.foldl wvs (fun _ => dv)
theorem wc_snoc (cs : List (List Ver)) (c : List Ver) : wc (cs ++ [c]) = wvs (wc cs) c := by unfold wc; rw [List.foldl_append]; rfl
theorem wc_shw0 {cs : List (List Ver)} (hl : LInv cs) : ∀ m, m ≤ cs.length → ∀ y : Nat, y ≤ m → Sm (shw (wal0 (cs.take m)) m y 8) (wc (cs.take y)) := by
  intro m
  induction m with
  | zero =>
    intro _ y hy k hk
    have : y = 0 := by omega
    subst this
    rcases lt8 hk with rfl | rfl | rfl | rfl | rfl | rfl | rfl | rfl <;> exact ⟨rfl, rfl⟩
  | succ m ih =>
    intro hm y hy
    have hcm : cs[m]? = some cs[m] := List.getElem?_eq_getElem (by omega)
    have htk : cs.take (m + 1) = cs.take m ++ [cs[m]] := by rw [List.take_add_one, hcm]; rfl
    have hlt : LInv (cs.take m) := hl.take m
    have hlen : (cs.take m).length = m := by rw [List.length_take]; omega
    have hiv := inv_wal0 hlt
    rw [hlen] at hiv
    obtain ⟨w1, w2⟩ := wcode_ok (n := m) (hl.pf cs[m] (List.getElem_mem (by omega))) (by have := hl.n40; omega)
    have e1 : wal0 (cs.take (m + 1)) = wst (wal0 (cs.take m)) m cs[m] := by rw [htk, wal0_snoc, hlen]
    by_cases c : y = m + 1
    · subst c
      have h1 := shots_now' hiv w1
      rw [← e1] at h1
      have h2 := (ih (by omega) m (Nat.le_refl _)).wvs cs[m]
      rw [htk, wc_snoc, ← htk]
      exact (sm_wagg h1).symm.trans h2
    · have h2 := ih (by omega) y (by omega)
      have h3 : shw (wal0 (cs.take (m + 1))) (m + 1) y 8 = shw (wal0 (cs.take m)) m y 8 := by
        rw [e1]
        exact shw_congr (Nat.le_refl _) (fun j hj => by have := tr_later hiv cs[m] (y := y) (by omega) hj; rw [w2] at this; exact this)
      rw [h3]
      exact h2
/-- What is read behind a commit of which all is known is what the commits up to it wrote. -/
theorem wc_shw {h : HSt} (hi : HInv h) {y : Nat} (h1 : fmx h.f 8 ≤ (y : Int)) (h2 : y ≤ h.n) : Sm (shw h.f h.n y 8) (wc (h.cs.take y)) := by
  have h3 := wc_shw0 hi.li h.cs.length (Nat.le_refl _) y (by rw [← hi.vi.len]; exact h2)
  rw [List.take_length, ← hi.vi.len, crash_shw hi.vi hi.li h1] at h3
  exact h3

/-- A deed that goes on, and what is noted of it. -/
structure SeatOk (base : Nat → Ver) (d : Dp) (o : Dn) : Prop where
  n : o.n = 0
  y : o.at_ = d.y
  md : o.md = d.md
  keys : ∀ a, a ∈ o.acts → keyB a.key = true
  wr : ∀ v, rpw v o.acts = lay v d.ws
  rd : ∀ v : Nat → Ver, (∀ k : Nat, k < 8 → (k : Int) ∈ d.rs → (v k).t = (base k).t ∧ (v k).s = (base k).s) → rpo v o.acts = true
  wrote : (o.acts.any (fun a => decide (a.kd = 3) || decide (a.kd = 4))) = decide (d.ws ≠ [])
theorem rp_snoc {l : List Ac} {a : Ac} (hl : ∀ b, b ∈ l → keyB b.key = true) (ha : keyB a.key = true) (v : Nat → Ver) : rpw v (l ++ [a]) = ado (rpw v l) a ∧ rpo v (l ++ [a]) = (rpo v l && aso (rpw v l) a) := by
  have h := rpl_join l [a] v hl
  have h1 : rpl (rpw v l) true [a] = (ado (rpw v l) a, true && aso (rpw v l) a) := by simp only [rpl]; rw [if_pos ha]
  unfold rpw rpo at *
  rw [h]
  rw [h1]
  simp
theorem SeatOk.begin (base : Nat → Ver) (md y : Int) : SeatOk base ⟨md, y, [], []⟩ ⟨0, y, md, []⟩ :=
  ⟨rfl, rfl, rfl, fun a h => by simp at h, fun v => by rw [lay_nil]; rfl, fun _ _ => rfl, rfl⟩
theorem SeatOk.wrote_ {base : Nat → Ver} {d : Dp} {o : Dn} (h : SeatOk base d o) {j : Nat} (hj : j < 8) {kd : Int} (hk : kd = 3 ∨ kd = 4) (to_ : Int) (t : Bool) (s : ByteArray) (l : List Ver) : SeatOk base { d with ws := d.ws ++ [⟨(j : Int), t, s⟩] } { o with acts := o.acts ++ [⟨kd, j, to_, t, s, l⟩] } := by
  have hkb : keyB ((j : Nat) : Int) = true := by simp [keyB]; omega
  refine ⟨h.n, h.y, h.md, fun a ha => ?_, fun v => ?_, fun v hv => ?_, ?_⟩
  · rcases List.mem_append.1 ha with q | q
    · exact h.keys a q
    · rw [List.mem_singleton.1 q]; exact hkb
  · show rpw v (o.acts ++ [_]) = lay v (d.ws ++ [_])
    rw [(rp_snoc h.keys (a := ⟨kd, j, to_, t, s, l⟩) hkb v).1, lay_put, h.wr]
    unfold ado
    rw [if_pos hk, Int.toNat_natCast]
  · show rpo v (o.acts ++ [_]) = true
    rw [(rp_snoc h.keys (a := ⟨kd, j, to_, t, s, l⟩) hkb v).2, h.rd v hv]
    unfold aso
    rw [if_neg (by show ¬ kd = 2; omega), if_neg (by show ¬ kd = 5; omega)]
    rfl
  · show (o.acts ++ [_]).any _ = _
    rw [List.any_append]
    rcases hk with rfl | rfl <;> simp
theorem SeatOk.got {base : Nat → Ver} {d : Dp} {o : Dn} (h : SeatOk base d o) {j : Nat} (hj : j < 8) {f : Nat → List Ver} {n : Nat} (ha : (tr f n j d.y).a = 0) : SeatOk base { d with rs := dr f n d.y d.rs d.ws j } { o with acts := o.acts ++ [⟨2, j, 0, (lay base d.ws j).t, (lay base d.ws j).s, []⟩] } := by
  have hkb : keyB ((j : Nat) : Int) = true := by simp [keyB]; omega
  have hmem : ∀ k : Int, k ∈ d.rs → k ∈ dr f n d.y d.rs d.ws j := fun k hk => by unfold dr; split <;> simp [hk]
  refine ⟨h.n, h.y, h.md, fun a ha => ?_, fun v => ?_, fun v hv => ?_, ?_⟩
  · rcases List.mem_append.1 ha with q | q
    · exact h.keys a q
    · rw [List.mem_singleton.1 q]; exact hkb
  · show rpw v (o.acts ++ [_]) = lay v d.ws
    rw [(rp_snoc h.keys (a := ⟨2, j, 0, (lay base d.ws j).t, (lay base d.ws j).s, []⟩) hkb v).1, h.wr]
    rfl
  · show rpo v (o.acts ++ [_]) = true
    rw [(rp_snoc h.keys (a := ⟨2, j, 0, (lay base d.ws j).t, (lay base d.ws j).s, []⟩) hkb v).2, h.rd v (fun k hk hm => hv k hk (hmem _ hm)), h.wr]
    unfold aso
    rw [if_pos rfl]
    simp only [Int.toNat_natCast, Bool.true_and, decide_eq_true_eq]
    unfold lay
    cases hl : lwr d.ws j with
    | some u => exact ⟨rfl, rfl⟩
    | none =>
      have : (j : Int) ∈ dr f n d.y d.rs d.ws j := by unfold dr; rw [if_pos ⟨hkb, hl, ha⟩]; simp
      have := hv j hj this
      exact ⟨this.1.symm, this.2.symm⟩
  · show (o.acts ++ [_]).any _ = _
    rw [List.any_append, h.wrote]
    simp
/-- The keys of a list are read. -/
theorem dgo_rsS {f : Nat → List Ver} {n : Nat} {y : Int} {ws : List Ver} (h0 : ∀ k : Nat, k < 8 → (dg f n y ws k).a = 0) (ht : ∀ k : Nat, k < 8 → (tr f n k y).a = 0) : ∀ (m k : Nat) (acc : List Ver) (rs : List Int), k + m ≤ 8 →
    (∀ x, x ∈ rs → x ∈ (dgo f n y ws k m acc rs).2.2) ∧ ∀ j : Nat, k ≤ j → j < k + m → lwr ws j = none → (j : Int) ∈ (dgo f n y ws k m acc rs).2.2 := by
  intro m
  induction m with
  | zero => intro k acc rs _; exact ⟨fun x hx => hx, fun j h1 h2 => by omega⟩
  | succ m ih =>
    intro k acc rs hk
    have hmem : ∀ x : Int, x ∈ rs → x ∈ dr f n y rs ws k := fun x hx => by unfold dr; split <;> simp [hx]
    have hkb : keyB ((k : Nat) : Int) = true := by simp [keyB]; omega
    have hat : lwr ws k = none → (k : Int) ∈ dr f n y rs ws k := fun hl => by unfold dr; rw [if_pos ⟨hkb, hl, ht k (by omega)⟩]; simp
    simp only [dgo]
    rw [if_pos (h0 k (by omega))]
    split
    · obtain ⟨g1, g2⟩ := ih (k + 1) (acc ++ [⟨k, (dg f n y ws k).t, (dg f n y ws k).s⟩]) (dr f n y rs ws k) (by omega)
      refine ⟨fun x hx => g1 x (hmem x hx), fun j h1 h2 h3 => ?_⟩
      by_cases e : j = k
      · subst e; exact g1 _ (hat h3)
      · exact g2 j (by omega) (by omega) h3
    · obtain ⟨g1, g2⟩ := ih (k + 1) acc (dr f n y rs ws k) (by omega)
      refine ⟨fun x hx => g1 x (hmem x hx), fun j h1 h2 h3 => ?_⟩
      by_cases e : j = k
      · subst e; exact g1 _ (hat h3)
      · exact g2 j (by omega) (by omega) h3
theorem dls_rsS {f : Nat → List Ver} {n : Nat} {y : Int} {ws : List Ver} {rs : List Int} {a b : Int} (h0 : ∀ k : Nat, k < 8 → (dg f n y ws k).a = 0) (ht : ∀ k : Nat, k < 8 → (tr f n k y).a = 0) (hc : (dls f n y ws rs a b).2.1 = 0) :
    keyB a = true ∧ (∀ x, x ∈ rs → x ∈ (dls f n y ws rs a b).2.2) ∧ ∀ j : Nat, a ≤ (j : Int) → (j : Int) ≤ b → lwr ws j = none → (j : Int) ∈ (dls f n y ws rs a b).2.2 := by
  unfold dls at hc ⊢
  split
  · rename_i hk
    refine ⟨hk.1, ?_⟩
    have h1 := hk.1
    have h2 := hk.2
    simp only [keyB, decide_eq_true_eq] at h1 h2
    obtain ⟨p, rfl⟩ : ∃ p : Nat, a = (p : Int) := ⟨a.toNat, by omega⟩
    obtain ⟨t, rfl⟩ : ∃ t : Nat, b = (t : Int) := ⟨b.toNat, by omega⟩
    rw [Int.toNat_natCast, show ((t : Int) + 1 - (p : Int)).toNat = t + 1 - p by omega]
    by_cases hpt : p ≤ t + 1
    · obtain ⟨g1, g2⟩ := dgo_rsS h0 ht (t + 1 - p) p [] rs (by omega)
      exact ⟨g1, fun j k1 k2 k3 => g2 j (by omega) (by omega) k3⟩
    · rw [show t + 1 - p = 0 by omega]
      exact ⟨fun x hx => hx, fun j k1 k2 => by omega⟩
  · rename_i hk
    rw [if_neg hk] at hc
    exact absurd hc (by simp)
theorem SeatOk.listed {base : Nat → Ver} {d : Dp} {o : Dn} (h : SeatOk base d o) {rs' : List Int} {a b : Int} (ha : keyB a = true) (h1 : ∀ x, x ∈ d.rs → x ∈ rs') (h2 : ∀ j : Nat, a ≤ (j : Int) → (j : Int) ≤ b → lwr d.ws j = none → (j : Int) ∈ rs') :
    SeatOk base { d with rs := rs' } { o with acts := o.acts ++ [⟨5, a, b, false, ⟨#[]⟩, wl (lay base d.ws) a b 8⟩] } := by
  refine ⟨h.n, h.y, h.md, fun x hx => ?_, fun v => ?_, fun v hv => ?_, ?_⟩
  · rcases List.mem_append.1 hx with q | q
    · exact h.keys x q
    · rw [List.mem_singleton.1 q]; exact ha
  · show rpw v (o.acts ++ [_]) = lay v d.ws
    rw [(rp_snoc h.keys (a := ⟨5, a, b, false, ⟨#[]⟩, wl (lay base d.ws) a b 8⟩) ha v).1, h.wr]
    rfl
  · show rpo v (o.acts ++ [_]) = true
    rw [(rp_snoc h.keys (a := ⟨5, a, b, false, ⟨#[]⟩, wl (lay base d.ws) a b 8⟩) ha v).2, h.rd v (fun k hk hm => hv k hk (h1 _ hm)), h.wr]
    unfold aso
    rw [if_neg (by show ¬ (5 : Int) = 2; omega), if_pos rfl]
    simp only [Bool.true_and, decide_eq_true_eq]
    refine wl_congr2 8 (fun k hk k1 k2 => ?_)
    unfold lay
    cases hl : lwr d.ws k with
    | some u => exact ⟨rfl, rfl⟩
    | none =>
      have := hv k hk (h2 k k1 k2 hl)
      exact ⟨this.1.symm, this.2.symm⟩
  · show (o.acts ++ [_]).any _ = _
    rw [List.any_append, h.wrote]
    simp

/-- A deed that was done. -/
structure DoneOk (cs : List (List Ver)) (d : Dn) : Prop where
  keys : ∀ a, a ∈ d.acts → keyB a.key = true
  lo : 0 ≤ d.n
  hi : d.n ≤ cs.length
  at0 : 0 ≤ d.at_
  com : 0 < d.n → d.at_ < d.n ∧ (∀ v, Sm (rpw v d.acts) (wvs v (cs.getD (d.n - 1).toNat []))) ∧ (d.md = 2 → rpo (wc (cs.take (d.n - 1).toNat)) d.acts = true)
  look : d.n = 0 → d.at_ ≤ cs.length ∧ rpo (wc (cs.take d.at_.toNat)) d.acts = true
  wrote : (d.acts.any (fun a => decide (a.kd = 3) || decide (a.kd = 4))) = decide (0 < d.n)
theorem DoneOk.more {cs : List (List Ver)} {d : Dn} (h : DoneOk cs d) (c : List Ver) : DoneOk (cs ++ [c]) d := by
  have hh := h.hi
  have hl := h.lo
  refine ⟨h.keys, h.lo, by simp only [List.length_append, List.length_cons, List.length_nil]; omega, h.at0, fun hp => ?_, fun h0 => ?_, h.wrote⟩
  · obtain ⟨k1, k2, k3⟩ := h.com hp
    refine ⟨k1, fun v => ?_, fun hm => ?_⟩
    · have e : (cs ++ [c]).getD (d.n - 1).toNat [] = cs.getD (d.n - 1).toNat [] := by
        simp only [List.getD_eq_getElem?_getD]
        rw [List.getElem?_append_left (by omega)]
      rw [e]
      exact k2 v
    · rw [List.take_append_of_le_length (by omega)]
      exact k3 hm
  · obtain ⟨k1, k2⟩ := h.look h0
    have ha := h.at0
    refine ⟨by simp only [List.length_append, List.length_cons, List.length_nil]; omega, ?_⟩
    rw [List.take_append_of_le_length (by omega)]
    exact k2
/-- The deeds that were done, as they were. -/
structure DI (cs : List (List Ver)) (ds : List Dn) : Prop where
  ok : ∀ d, d ∈ ds → DoneOk cs d
  num : (cms ds).map Dn.n = (List.range' 1 cs.length).map (fun i => ((i : Nat) : Int))
theorem di_nil : DI [] [] := ⟨fun d h => by simp at h, rfl⟩
theorem DI.look {cs : List (List Ver)} {ds : List Dn} (h : DI cs ds) {d : Dn} (hd : DoneOk cs d) (h0 : d.n = 0) : DI cs (ds ++ [d]) := by
  refine ⟨fun x hx => ?_, ?_⟩
  · rcases List.mem_append.1 hx with q | q
    · exact h.ok x q
    · rw [List.mem_singleton.1 q]; exact hd
  · unfold cms
    rw [List.filter_append, List.filter_cons_of_neg (by simp [h0]), List.filter_nil, List.append_nil]
    exact h.num
theorem DI.com {cs : List (List Ver)} {ds : List Dn} (h : DI cs ds) {c : List Ver} {d : Dn} (hd : DoneOk (cs ++ [c]) d) (h0 : d.n = (cs.length : Int) + 1) : DI (cs ++ [c]) (ds ++ [d]) := by
  refine ⟨fun x hx => ?_, ?_⟩
  · rcases List.mem_append.1 hx with q | q
    · exact (h.ok x q).more c
    · rw [List.mem_singleton.1 q]; exact hd
  · have hn := h.num
    unfold cms at hn ⊢
    have hf : List.filter (fun d : Dn => decide (0 < d.n)) [d] = [d] := List.filter_cons_of_pos (decide_eq_true (by omega))
    rw [List.filter_append, hf, List.map_append, hn]
    rw [List.length_append, List.length_cons, List.length_nil, Nat.zero_add, List.range'_1_concat, List.map_append]
    simp [h0]
    try omega

/-- What is so of a hall and its book. -/
structure NI (h : HSt) (b : Bk) : Prop where
  hi : HInv h
  some_ : ∀ s d, h.seat s = some d → ∃ o, b.op s = some o ∧ SeatOk (shw h.f h.n d.y 8) d o
  none_ : ∀ s, h.seat s = none → b.op s = none
  dn : DI h.cs b.dn
theorem ni_new : NI hst0 bk0 := ⟨hinv_new, fun _ _ h => (by cases h), fun _ _ => rfl, di_nil⟩
/-- What was read is still so, where a sure deed may be done. -/
theorem tr_since {f : Nat → List Ver} {n : Nat} {y : Int} (hi : Inv f n) (h1 : fmx f 8 ≤ y) (h2 : y ≤ n) {k : Nat} (hk : k < 8) (hs : snc f k ≤ y) : tr f n k y = tr f n k n := by
  have hp := hi.pos k hk
  have hr := hi.rise k hk
  have h3 := fmx_ge f 8 k hk
  have h4 := (fmx_le hi 8 (Nat.le_refl _)).1
  have hkb : keyB ((k : Nat) : Int) = true := by simp [keyB]; omega
  have hlast : va (f k) ((f k).length - 1) ≤ y := by
    unfold snc at hs
    rw [Int.toNat_natCast] at hs
    simpa [hkb] using hs
  rw [tr_last hi hk]
  unfold tr
  rw [if_pos ⟨hkb, h2⟩, Int.toNat_natCast]
  unfold rd3
  rw [if_neg (by omega), if_neg (by omega), cntf_all hr hp hlast]
theorem stl_not {f : Nat → List Ver} {y : Int} {rs : List Int} : ∀ m, stl f y rs m = false → ∀ k : Nat, k < m → (k : Int) ∈ rs → snc f k ≤ y := by
  intro m
  induction m with
  | zero => intro _ k hk; omega
  | succ m ih =>
    intro h k hk hm
    simp only [stl] at h
    split at h
    · cases h
    · rename_i q
      by_cases e : k = m
      · subst e
        by_cases c : y < snc f k
        · exact absurd ⟨hm, c⟩ q
        · omega
      · exact ih h k (by omega) hm
theorem wk_ne : ∀ (ws : List Ver), WOk ws → ((wk ws 8).length ≠ 0 ↔ ws ≠ []) := by
  intro ws hw
  constructor
  · intro h e
    subst e
    exact h (by simp [wk, lwr_nil])
  · intro h e
    have hn : wk ws 8 = [] := List.eq_nil_of_length_eq_zero e
    obtain ⟨p, hp⟩ := List.exists_mem_of_ne_nil ws h
    obtain ⟨h1, h2, _⟩ := hw p hp
    have hl : ∀ i, (∃ j, j < i ∧ va ws j = p.a) → (lw ws p.a i).isSome = true := by
      intro i
      induction i with
      | zero => rintro ⟨j, q, _⟩; omega
      | succ i ih =>
        rintro ⟨j, q1, q2⟩
        simp only [lw]
        split
        · rfl
        · rename_i q
          have : j ≠ i := fun e => q (by rw [← e]; exact q2)
          exact ih ⟨j, by omega, q2⟩
    have h3 := fnd_wk ws 8 (k := p.a.toNat) (by omega)
    rw [hn] at h3
    obtain ⟨i, hi, e⟩ := va_mem ⟨p, hp, rfl⟩
    have h4 : (lwr ws (p.a.toNat : Int)).isSome = true := by
      rw [show ((p.a.toNat : Nat) : Int) = p.a by omega]
      exact hl ws.length ⟨i, hi, e⟩
    cases hc : lwr ws (p.a.toNat : Int) with
    | none => rw [hc] at h4; cases h4
    | some u => rw [hc] at h3; simp [fnd] at h3
/-- A deed that may be done: it is done. -/
theorem NI.done {h : HSt} {b : Bk} (ni : NI h b) {s : Nat} {d : Dp} (hs : h.seat s = some d) {o : Dn} (ho : SeatOk (shw h.f h.n d.y 8) d o) (hm : dm h.f d.md d.y d.rs d.ws = 0) :
    ((wk d.ws 8).length = 0 → DoneOk h.cs { o with n := 0 }) ∧ (¬ (wk d.ws 8).length = 0 → lcode h.cs (wk d.ws 8) = 0 → DoneOk (h.cs ++ [wk d.ws 8]) { o with n := (h.n : Int) + 1 }) := by
  have hi := ni.hi
  obtain ⟨k1, k2⟩ := hi.known s d hs
  have hw := hi.ok s d hs
  have hlen := hi.vi.len
  have h0 := (fmx_le hi.inv 8 (Nat.le_refl _)).1
  obtain ⟨y, hy⟩ : ∃ y : Nat, d.y = (y : Int) := ⟨d.y.toNat, by omega⟩
  have hwn := wk_ne d.ws hw
  rw [hy] at k1 k2
  have hsm := wc_shw hi k1 (by omega)
  refine ⟨fun hz => ?_, fun hz hl => ?_⟩
  · have hn : d.ws = [] := Classical.byContradiction fun q => hwn.2 q hz
    refine ⟨ho.keys, Int.le_refl _, by show (0 : Int) ≤ _; omega, by show 0 ≤ o.at_; rw [ho.y, hy]; omega, fun q => absurd q (by show ¬ (0 : Int) < 0; omega), fun _ => ⟨by show o.at_ ≤ _; rw [ho.y, hy]; omega, ?_⟩, by show o.acts.any _ = _; rw [ho.wrote, hn]; rfl⟩
    show rpo (wc (h.cs.take o.at_.toNat)) o.acts = true
    rw [ho.y, hy, Int.toNat_natCast]
    refine ho.rd _ (fun k hk _ => ?_)
    rw [hy]
    exact ⟨(hsm k hk).1.symm, (hsm k hk).2.symm⟩
  · have hn : d.ws ≠ [] := hwn.1 hz
    have e1 : ((h.n : Int) + 1 - 1).toNat = h.n := by omega
    refine ⟨ho.keys, by show (0 : Int) ≤ (h.n : Int) + 1; omega, by show (h.n : Int) + 1 ≤ _; simp; omega, by show 0 ≤ o.at_; rw [ho.y, hy]; omega, fun _ => ⟨by show o.at_ < (h.n : Int) + 1; rw [ho.y, hy]; omega, fun v => ?_, fun hmd => ?_⟩, fun q => absurd q (by show ¬ (h.n : Int) + 1 = 0; omega), ?_⟩
    · show Sm (rpw v o.acts) (wvs v ((h.cs ++ [wk d.ws 8]).getD ((h.n : Int) + 1 - 1).toNat []))
      have e2 : (h.cs ++ [wk d.ws 8]).getD h.n [] = wk d.ws 8 := by
        rw [List.getD_eq_getElem?_getD, hlen, List.getElem?_concat_length]; rfl
      rw [e1, e2, ho.wr]
      exact (sm_wagg (lay_wvs hw v)).symm
    · show rpo (wc ((h.cs ++ [wk d.ws 8]).take ((h.n : Int) + 1 - 1).toNat)) o.acts = true
      rw [e1, hlen, List.take_left]
      refine ho.rd _ (fun k hk hrs => ?_)
      have hn2 : h.n ≤ h.n := Nat.le_refl _
      have hsl := wc_shw hi (y := h.n) (fmx_le hi.inv 8 (Nat.le_refl _)).2 hn2
      rw [hlen, List.take_length] at hsl
      rw [hy]
      have hst : stl h.f d.y d.rs 8 = false := by
        have hmd' : d.md = 2 := by rw [← ho.md]; exact hmd
        unfold dm at hm
        split at hm
        · simp at hm
        · split at hm
          · simp at hm
          · rename_i q
            cases hq : stl h.f d.y d.rs 8 with
            | false => rfl
            | true => exact absurd ⟨hmd', hq⟩ q
      have hsn := stl_not 8 hst k hk hrs
      rw [hy] at hsn
      have ht := tr_since hi.inv k1 k2 hk hsn
      have e3 : shw h.f h.n y 8 k = shw h.f h.n h.n 8 k := by unfold shw; rw [if_pos hk, if_pos hk, ht]
      rw [e3, hlen]
      exact ⟨(hsl k hk).1.symm, (hsl k hk).2.symm⟩
    · show o.acts.any _ = _
      rw [ho.wrote]
      have : decide (0 < (h.n : Int) + 1) = true := decide_eq_true (by omega)
      rw [this]
      simpa using hn
end Go.Proofs.Ytliopckocegknac

/- Values of keys and lists of them: equal lists, what a world has, by their contracts. -/
namespace Go.Proofs.Ytliopckocegknac
open Go.RowKit
set_option maxRecDepth 20000
attribute [local go_sem ↓] Go.wp_at_zero Go.wp_at_succ

set_option maxHeartbeats 1000000 in
theorem sleq {vs us : List Ver} (a a' : Option Addr) (cap cap' : Nat) (w : World) (h : SlO w a vs) (h' : SlO w a' us) (hm : vs.length ≤ 1000) :
    Calls Try.prog 98 #[.slice a vs.length cap, .slice a' us.length cap'] w fun e w' => SmEnd vs us w e w' := by
  have HS := hide h
  have HS' := hide h'
  clear h h'
  by_cases hl : vs.length = us.length
  · have HL := hide hl
    have hl' : (vs.length : Int) = (us.length : Int) := by omega
    go_enter Try.func98, Try.ntmps98
    rw [← hl]
    clear hl hl'
    go_wp2_with fail
    go_loopw [5, 13] (fun _ i wr => ∃ d m : Nat, d ≤ vs.length ∧ i = .int .i64 d ∧ wr = w.drewN m ∧ Hid (∀ k, k < d → va vs k = va us k ∧ vt vs k = vt us k ∧ vb vs k = vb us k)) (fun _ i _ => vs.length - (intOf i).toNat)
    case atStart => exact ⟨0, 0, Nat.zero_le _, rfl, rfl, fun k hk => by omega⟩
    case round =>
      obtain ⟨d, m, hd, rfl, rfl, HK⟩ := hrel
      by_cases hlt : d < vs.length
      · obtain ⟨g, o, rfl, hs⟩ := unhide HS (by omega)
        obtain ⟨g', o', rfl, hs'⟩ := unhide HS' (by have := unhide HL; omega)
        have q0 := hs.at0 d hlt
        have q1 := hs.at1 d hlt
        have q2 : w.cell? ⟨g, o + d * 3 + 1 + 1, none⟩ = some (.string (vb vs d)) := hs.at2 d hlt
        have p0 := hs'.at0 d (by have := unhide HL; omega)
        have p1 := hs'.at1 d (by have := unhide HL; omega)
        have p2 : w.cell? ⟨g', o' + d * 3 + 1 + 1, none⟩ = some (.string (vb us d)) := hs'.at2 d (by have := unhide HL; omega)
        have i0 : (0 : Int) ≤ (d : Int) := by omega
        have i1 : (d : Int) < (vs.length : Int) := by omega
        clear hs hs'
        by_cases e0 : va vs d = va us d ∧ vt vs d = vt us d ∧ vb vs d = vb us d
        · have HE : Hid (∀ k, k < d + 1 → va vs k = va us k ∧ vt vs k = vt us k ∧ vb vs k = vb us k) := fun k hk => by
            rcases Nat.lt_or_ge k d with e | e
            · exact unhide HK k e
            · have : k = d := by omega
              subst this; exact e0
          rw [← e0.1] at p0
          rw [← e0.2.1] at p1
          rw [← e0.2.2] at p2
          clear e0
          go_wp2_with fail
          go_quiet (fail)
          go_wp2
          exact ⟨⟨d + 1, m + nq, by omega, by go_num, rfl, HE⟩, by simp [intOf]; omega⟩
        · have HNE : Hid (¬ vs = us) := fun e => e0 (by rw [e]; exact ⟨rfl, rfl, rfl⟩)
          have hne := fun W => neqPair _ _ _ _ _ _ e0 W
          clear e0
          generalize va vs d = x at *
          generalize va us d = x' at *
          generalize vt vs d = t at *
          generalize vt us d = t' at *
          generalize vb vs d = s at *
          generalize vb us d = s' at *
          go_wp2_with fail
          go_quiet (fail)
          go_wp2
          go_ret
          exact ⟨false, rfl, ⟨fun h => by simp at h, fun h => absurd h (unhide HNE)⟩, m + nq, by simp⟩
      · go_wp2
        go_ret
        refine smEnd_mk _ _ ⟨fun _ => vers_same (unhide HL) (fun k hk => unhide HK k (by omega)), fun _ => rfl⟩
  · have hl' : ¬ (vs.length : Int) = (us.length : Int) := by omega
    have HL := hide hl
    go_enter Try.func98, Try.ntmps98
    go_wp2_with fail
    go_ret
    exact smEnd_mk false 0 ⟨fun h => by simp at h, fun h => absurd (by rw [h]) (unhide HL)⟩

theorem Try.size97 : (Try.prog.info? 97).map (·.size) = some 16 := by kernel_rfl
def VoEnd (l : List Ver) (w : World) (e : Ending) (w' : World) : Prop := ∃ a cap, e = .returned (.slice a l.length cap) ∧ SlO w' a l ∧ Kp [] w w'
theorem slo_krow {B : Nat} {w : World} {a : Option Addr} {n cap : Nat} {vs : List Ver} (h : KRow 79 3 B w a n cap (vcells vs)) : SlO w a vs := by
  intro hp
  have hl : 0 < (vcells vs).length := by rw [vcells_length]; omega
  obtain ⟨g, e, _⟩ := h.cell (List.getElem?_eq_getElem hl)
  refine ⟨g, 0, e, fun j u hu => ?_⟩
  obtain ⟨g', e', hc⟩ := h.cell hu
  rw [e] at e'
  simp only [Option.some.injEq, Addr.mk.injEq, and_true] at e'
  rw [Nat.zero_add, e']
  exact hc
theorem wl_stop {v : Nat → Ver} {j : Nat} {t : Int} {k : Nat} (hk : k ≤ 8) (h : t < (k : Int) ∨ k = 8) : wl v j t k = wl v j t 8 := by
  rcases h with h | h
  · have := wl_hi (v := v) (a := (j : Int)) (b := t) (m := k) h (8 - k)
    rw [show k + (8 - k) = 8 by omega] at this
    exact this.symm
  · rw [h]
theorem wl_one {v : Nat → Ver} {j : Nat} {t : Int} {k : Nat} (h1 : j ≤ k) (h2 : (k : Int) ≤ t) : wl v j t (k + 1) = if (v k).t = true then wl v j t k ++ [⟨(k : Int), (v k).t, (v k).s⟩] else wl v j t k := by
  simp only [wl]
  by_cases c : (v k).t = true
  · rw [if_pos ⟨by omega, h2, c⟩, if_pos c]
  · rw [if_neg (fun q => c q.2.2), if_neg c]
set_option maxHeartbeats 1000000 in
theorem valuesof (v : Nat → Ver) (j : Nat) (t : Int) (w : World) (hj : j < 8) :
    Calls Try.prog 99 #[.agg (wagg v), .int .i64 j, .int .i64 t] w fun e w' => VoEnd (wl v j t 8) w e w' := by
  have hu := Try.underlying32
  have H0 := hide (kw_nil 79 3 ((zoo_nil (Kp.refl [] w)).box (wagg v) 97))
  go_enter Try.func99, Try.ntmps99
  go_wp2_with fail
  generalize hq : w.heap.size = q at *
  go_loopw [7, 8] (fun x y wr => ∃ (k : Nat) (a : Option Addr) (cap n : Nat), j ≤ k ∧ k ≤ 8 ∧ x = .slice a n cap ∧ y = .int .i64 k ∧ Hid (n = (wl v j t k).length) ∧ Hid (Zoo w wr [KwT 79 3 a n cap (vcells (wl v j t k)), BoxT q (wagg v) 97])) (fun _ y _ => 8 - (intOf y).toNat)
  case atStart => exact ⟨j, none, 0, 0, Nat.le_refl _, by omega, rfl, rfl, by rw [wl_lo (Int.le_refl _)]; rfl, by rw [wl_lo (Int.le_refl _)]; exact unhide H0⟩
  case round =>
    obtain ⟨k, a, cap, n, hk1, hk2, rfl, rfl, HN, HZ⟩ := hrel
    have stop : (t < (k : Int) ∨ k = 8) → VoEnd (wl v j t 8) w (.returned (.slice a n cap)) wr := fun q => by
      rw [← wl_stop hk2 q]
      have hz := unhide HZ
      refine ⟨a, cap, by rw [unhide HN], slo_krow (kw_row (l1 := []) hz), hz.kp⟩
    have HST := hide stop
    clear stop
    by_cases ht : 7 < t
    · by_cases hlt : k ≤ 7
      · have i1 : (k : Int) ≤ 7 := by omega
        have i0 : (0 : Int) ≤ (k : Int) := by omega
        have i8 : (k : Int) < 8 := by omega
        have k8 : k < 8 := by omega
        have hkt : (k : Int) ≤ t := by omega
        have hn8 : n ≤ 8 := by have := unhide HN; have := wl_len v j t k; omega
        have hbx := Zoo.var (unhide HZ).tail
        have c0 := cell_of_block hbx (wagg_at0 v k8)
        have c1 := cell_of_block hbx (wagg_at1 v k8)
        have hql := lt_of_block hbx
        have HW1 := hide (wl_one (v := v) hk1 hkt)
        have hBw := Zoo.base (unhide HZ)
        clear hbx
        cases hvt : (v k).t with
        | true =>
          rw [hvt] at c0
          have HV := hide hvt
          clear hvt
          generalize hvs : (v k).s = sv at *
          clear hvs
          have HZA := hide ((unhide HZ).box #[.int .i64 k, .bool true, .string sv] 79)
          have HBX := hide (Zoo.var (unhide HZA))
          go_wp2_with (at_builtin; refine wpList_krow (by rfl) (.tmp 20) (.tmp 26) 32 (by rfl) hu Try.info79 rfl (by omega) (kw_row (l1 := [BoxT wr.heap.size #[.int .i64 k, .bool true, .string sv] 79]) (unhide HZA)) (by simp; omega) (.slice (some ⟨wr.heap.size, 0, none⟩) 1 1) [.int .i64 k, .bool true, .string sv] 1 (by rfl) (by rfl) (src_built hu (unhide HBX) rfl (by simp [Value.oneCell'])) (by omega) (n + 1) rfl ?_; intro a2 cap2 w2 g1 g2 g3)
          have HZ2 := hide (Zoo.tail (kw_app (l1 := [BoxT wr.heap.size #[.int .i64 k, .bool true, .string sv] 79]) (unhide HZA) (unhide g1) (unhide g2) (unhide g3)))
          have hwn : wl v j t (k + 1) = wl v j t k ++ [⟨(k : Int), true, sv⟩] := by rw [unhide HW1, if_pos (unhide HV), unhide HV]
          exact ⟨⟨k + 1, a2, cap2, n + 1, by omega, by omega, rfl, by go_num, by rw [hwn, List.length_append, unhide HN]; rfl, by rw [hwn, vcells_append]; exact unhide HZ2⟩, by simp [intOf]; omega⟩
        | false =>
          rw [hvt] at c0
          have HV := hide hvt
          clear hvt
          go_wp2_with fail
          have hwn : wl v j t (k + 1) = wl v j t k := by rw [unhide HW1, if_neg (by rw [unhide HV]; simp)]
          exact ⟨⟨k + 1, a, cap, n, by omega, by omega, rfl, by go_num, by rw [hwn]; exact unhide HN, by rw [hwn]; exact unhide HZ⟩, by simp [intOf]; omega⟩
      · have i1 : ¬ (k : Int) ≤ 7 := by omega
        go_wp2_with fail
        go_ret
        exact unhide HST (.inr (by omega))
    · by_cases hlt : (k : Int) ≤ t
      · skip
        have i0 : (0 : Int) ≤ (k : Int) := by omega
        have i8 : (k : Int) < 8 := by omega
        have k8 : k < 8 := by omega
        have hkt : (k : Int) ≤ t := by omega
        have hn8 : n ≤ 8 := by have := unhide HN; have := wl_len v j t k; omega
        have hbx := Zoo.var (unhide HZ).tail
        have c0 := cell_of_block hbx (wagg_at0 v k8)
        have c1 := cell_of_block hbx (wagg_at1 v k8)
        have hql := lt_of_block hbx
        have HW1 := hide (wl_one (v := v) hk1 hkt)
        have hBw := Zoo.base (unhide HZ)
        clear hbx
        cases hvt : (v k).t with
        | true =>
          rw [hvt] at c0
          have HV := hide hvt
          clear hvt
          generalize hvs : (v k).s = sv at *
          clear hvs
          have HZA := hide ((unhide HZ).box #[.int .i64 k, .bool true, .string sv] 79)
          have HBX := hide (Zoo.var (unhide HZA))
          go_wp2_with (at_builtin; refine wpList_krow (by rfl) (.tmp 20) (.tmp 26) 32 (by rfl) hu Try.info79 rfl (by omega) (kw_row (l1 := [BoxT wr.heap.size #[.int .i64 k, .bool true, .string sv] 79]) (unhide HZA)) (by simp; omega) (.slice (some ⟨wr.heap.size, 0, none⟩) 1 1) [.int .i64 k, .bool true, .string sv] 1 (by rfl) (by rfl) (src_built hu (unhide HBX) rfl (by simp [Value.oneCell'])) (by omega) (n + 1) rfl ?_; intro a2 cap2 w2 g1 g2 g3)
          have HZ2 := hide (Zoo.tail (kw_app (l1 := [BoxT wr.heap.size #[.int .i64 k, .bool true, .string sv] 79]) (unhide HZA) (unhide g1) (unhide g2) (unhide g3)))
          have hwn : wl v j t (k + 1) = wl v j t k ++ [⟨(k : Int), true, sv⟩] := by rw [unhide HW1, if_pos (unhide HV), unhide HV]
          exact ⟨⟨k + 1, a2, cap2, n + 1, by omega, by omega, rfl, by go_num, by rw [hwn, List.length_append, unhide HN]; rfl, by rw [hwn, vcells_append]; exact unhide HZ2⟩, by simp [intOf]; omega⟩
        | false =>
          rw [hvt] at c0
          have HV := hide hvt
          clear hvt
          go_wp2_with fail
          have hwn : wl v j t (k + 1) = wl v j t k := by rw [unhide HW1, if_neg (by rw [unhide HV]; simp)]
          exact ⟨⟨k + 1, a, cap, n, by omega, by omega, rfl, by go_num, by rw [hwn]; exact unhide HN, by rw [hwn]; exact unhide HZ⟩, by simp [intOf]; omega⟩
      · go_wp2_with fail
        go_ret
        exact unhide HST (.inl (by omega))
end Go.Proofs.Ytliopckocegknac

/- A region that draws its order, walked in an order of the prover's own. -/
namespace Go.Proofs.Ytliopckocegknac
open Go.RowKit
set_option maxRecDepth 20000

theorem drop_at {l rest : List Oper} {i : Nat} {o : Oper} (h : l.drop i = o :: rest) : l.toArray[i]? = some o := by
  have := congrArg List.head? h
  rw [List.head?_drop] at this
  simpa using this
theorem wpAnyH_tk {P : Program} {md : Region.Mode} {l rest : List Oper} {Q : Exit → Act → World → Prop} {S : World → Prop} {i : Nat} {oi : Oper} {v : Value} {fuel : Nat} {listed : Array Bool} {a : Act} {w : World} (hi : l.drop i = oi :: rest)
    (hs : Region.noSelect l.toArray = true) (hf : Region.free md l.toArray listed i = true) (hr : (Region.ready md l.toArray listed).contains i = true)
    (hQ : ∀ c a w, Q (.panic c) (a.put oi.dst v) w → Q (.panic c) a w) (hy : YieldsIf P l.toArray S oi v a) (hS : S w)
    (h : wpAnyH P md l.toArray Q S fuel (listed.setIfInBounds i true) (a.put oi.dst v) w) : wpAnyH P md l.toArray Q S (fuel + 1) listed a w := wpAnyH_take (drop_at hi) hs hf hr hQ hy hS h
theorem wpAnyH_only {P : Program} {md : Region.Mode} {l rest : List Oper} {Q : Exit → Act → World → Prop} {S : World → Prop} {i : Nat} {o : Oper} {fuel : Nat} {listed : Array Bool} {a : Act} {w : World} (hi : l.drop i = o :: rest) (hr : Region.ready md l.toArray listed = [i])
    (h : ∀ K' : Act → World → Prop, Shut (∀ a w, S w → (S w → wpAnyH P md l.toArray Q S fuel (listed.setIfInBounds i true) a w) → K' a w) → if Region.wanted o (yielded l.toArray a.tmps) = true then Oper.wp P o a w K' Q else K' (a.put o.dst undef) w) :
    wpAnyH P md l.toArray Q S (fuel + 1) listed a w := wpAnyH_ready hr (by simp) (AllReadyH.cons (drop_at hi) h AllReadyH.nil)
end Go.Proofs.Ytliopckocegknac

/- Acts in memory; Replay, by its contract. -/
namespace Go.Proofs.Ytliopckocegknac
open Go.RowKit
set_option maxRecDepth 20000
attribute [local go_sem ↓] Go.wp_at_zero Go.wp_at_succ

/-- An act lies in block b from o on. -/
structure AcAt (w : World) (b o : Nat) (x : Ac) : Prop where
  c0 : w.cell? ⟨b, o, none⟩ = some (.int .i64 x.kd)
  c1 : w.cell? ⟨b, o + 1, none⟩ = some (.int .i64 x.key)
  c2 : w.cell? ⟨b, o + 2, none⟩ = some (.int .i64 x.to_)
  c3 : w.cell? ⟨b, o + 3, none⟩ = some (.bool x.t)
  c4 : w.cell? ⟨b, o + 4, none⟩ = some (.string x.s)
  ls : ∃ la lc, w.cell? ⟨b, o + 5, none⟩ = some (.slice la x.l.length lc) ∧ SlO w la x.l
theorem AcAt.kp0 {w w' : World} {b o : Nat} {x : Ac} (h : AcAt w b o x) (hk : Kp [] w w') : AcAt w' b o x := by
  obtain ⟨la, lc, h1, h2⟩ := h.ls
  exact ⟨hk.cell (by simp) h.c0, hk.cell (by simp) h.c1, hk.cell (by simp) h.c2, hk.cell (by simp) h.c3, hk.cell (by simp) h.c4, la, lc, hk.cell (by simp) h1, h2.kp0 hk⟩
/-- Acts lie behind a slice's address. -/
def ActsIn (w : World) (a : Option Addr) (l : List Ac) : Prop := 0 < l.length → ∃ b o, a = some ⟨b, o, none⟩ ∧ ∀ i x, l[i]? = some x → AcAt w b (o + i * 6) x
theorem ActsIn.kp0 {w w' : World} {a : Option Addr} {l : List Ac} (h : ActsIn w a l) (hk : Kp [] w w') : ActsIn w' a l := fun hp => by
  obtain ⟨b, o, e, h1⟩ := h hp
  exact ⟨b, o, e, fun i x hx => (h1 i x hx).kp0 hk⟩
theorem ActsIn.drop {w : World} {b o : Nat} {l : List Ac} (h : ∀ i x, l[i]? = some x → AcAt w b (o + i * 6) x) (k : Nat) : ∀ i x, (l.drop k)[i]? = some x → AcAt w b (o + k * 6 + i * 6) x := fun i x hx => by
  rw [List.getElem?_drop] at hx
  have := h _ _ hx
  rwa [show o + (k + i) * 6 = o + k * 6 + i * 6 by omega] at this
/-- No act's list is great. -/
def ActsOk (l : List Ac) : Prop := l.length ≤ 1000 ∧ ∀ x, x ∈ l → x.l.length ≤ 1000
theorem eqVal (t t' : Bool) (s s' : ByteArray) (W : World) :
    (binOp .eql 31 (.agg #[.bool t, .string s]) (.agg #[.bool t', .string s'])).run Try.prog W = .ok (.bool (decide (t = t' ∧ s = s'))) W := by
  by_cases h : t = t' ∧ s = s'
  · obtain ⟨rfl, rfl⟩ := h
    simp only [binOp]
    simp [Op.equal, Op.maxDepth, eq24 9998]
  · have hu : Try.prog.underlying 31 = some (.struct (Try.prog.fieldsOf 31)) := by simp [Program.fieldsOf, Try.underlying31]
    have he : (Op.equalIn 10000 31 (.agg #[.bool t, .string s]) (.agg #[.bool t', .string s'])).run Try.prog W = .ok false W := by
      rw [show (10000 : Nat) = 9999 + 1 from rfl, run_equalIn_struct W 9999 31 _ _ hu Try.held31]
      simp [Program.fieldsOf, Try.underlying31, Op.eqFields, go_sem, Try.underlying4, Try.underlying9]
      intro e1 e2
      exact h ⟨e1, toList_inj e2⟩
    rw [decide_eq_false h]
    simp only [binOp]
    simp [Op.equal, Op.maxDepth, he]
theorem neqVal (t t' : Bool) (s s' : ByteArray) (W : World) :
    (binOp .neq 31 (.agg #[.bool t, .string s]) (.agg #[.bool t', .string s'])).run Try.prog W = .ok (.bool (!decide (t = t' ∧ s = s'))) W := by
  by_cases h : t = t' ∧ s = s'
  · obtain ⟨rfl, rfl⟩ := h
    simp only [binOp]
    simp [Op.equal, Op.maxDepth, eq24 9998]
  · have hu : Try.prog.underlying 31 = some (.struct (Try.prog.fieldsOf 31)) := by simp [Program.fieldsOf, Try.underlying31]
    have he : (Op.equalIn 10000 31 (.agg #[.bool t, .string s]) (.agg #[.bool t', .string s'])).run Try.prog W = .ok false W := by
      rw [show (10000 : Nat) = 9999 + 1 from rfl, run_equalIn_struct W 9999 31 _ _ hu Try.held31]
      simp [Program.fieldsOf, Try.underlying31, Op.eqFields, go_sem, Try.underlying4, Try.underlying9]
      intro e1 e2
      exact h ⟨e1, toList_inj e2⟩
    rw [decide_eq_false h]
    simp only [binOp]
    simp [Op.equal, Op.maxDepth, he]

def RyEnd (v : Nat → Ver) (l : List Ac) (w : World) (e : Ending) (w' : World) : Prop := e = .returned (.tuple #[.agg (wagg (rpw v l)), .bool (rpo v l)]) ∧ Kp [] w w'
/-- The two variables of Replay: what is told (p), and the world (q). -/
structure RyI (T : TypeId) (w : World) (p q : Nat) (v : Nat → Ver) (wr : World) : Prop where
  kp : Kp [] w wr
  res : wr.heap[p]? = some (.cells (wagg (fun _ => dv)) T (0, 0))
  var : wr.heap[q]? = some (.cells (wagg v) T (0, 0))
  ne : p ≠ q
  hp : w.heap.size ≤ p
  hq : w.heap.size ≤ q
section
variable {T : TypeId} {w wr W : World} {p q : Nat} {v : Nat → Ver}
theorem RyI.kp0 (h : RyI T w p q v wr) (hk : Kp [] wr W) : RyI T w p q v W :=
  ⟨h.kp.trans0 hk, by rw [hk.block p (lt_of_block h.res) (by simp)]; exact h.res, by rw [hk.block q (lt_of_block h.var) (by simp)]; exact h.var, h.ne, h.hp, h.hq⟩
theorem RyI.set (h : RyI T w p q v wr) {k : Nat} (hk : k < 8) (t : Bool) (s : ByteArray) : RyI T w p q (upd v k ⟨0, t, s⟩) ((wr.setCell ⟨q, k * 2, none⟩ (.bool t)).setCell ⟨q, k * 2 + 1, none⟩ (.string s)) := by
  have k1 : Kp [q] wr ((wr.setCell ⟨q, k * 2, none⟩ (.bool t)).setCell ⟨q, k * 2 + 1, none⟩ (.string s)) := ((Kp.refl [q] wr).setCell (.inl (by simp)) _).setCell (.inl (by simp)) _
  refine ⟨h.kp.trans k1 (fun x hx => .inr (by have : x = q := by simpa using hx
                                              rw [this]; exact h.hq)), ?_, ?_, h.ne, h.hp, h.hq⟩
  · rw [k1.block p (lt_of_block h.res) (by simp; exact h.ne)]; exact h.res
  · rw [heap_setCell_at _ _ (heap_setCell_at _ _ h.var), wagg_set v hk ⟨0, t, s⟩]
theorem RyI.cells (h : RyI T w p q v wr) {k : Nat} (hk : k < 8) : wr.cell? ⟨q, k * 2, none⟩ = some (.bool (v k).t) ∧ wr.cell? ⟨q, k * 2 + 1, none⟩ = some (.string (v k).s) ∧ wr.frozen? ⟨q, k * 2, none⟩ = false ∧ wr.frozen? ⟨q, k * 2 + 1, none⟩ = false :=
  ⟨cell_of_block h.var (wagg_at0 v hk), cell_of_block h.var (wagg_at1 v hk), frozen_of_block _ h.var, frozen_of_block _ h.var⟩
theorem RyI.range (h : RyI T w p q v wr) : wr.rangeAt q 0 (wagg v).toList := fun j u hu => by
  rw [Nat.zero_add]
  exact cell_of_block h.var (by simpa using hu)
theorem RyI.fin (h : RyI T w p q v wr) : (wr.setRow p (wagg v)).heap[p]? = some (.cells (wagg v) T (0, 0)) ∧ Kp [] w (wr.setRow p (wagg v)) := by
  obtain ⟨z1, z2⟩ := setRow_kp (cs := wagg v) h.res
  exact ⟨z1, h.kp.trans z2 (fun x hx => .inr (by have : x = p := by simpa using hx
                                                 rw [this]; exact h.hp))⟩
end
theorem ry_start (T : TypeId) (v : Nat → Ver) (w : World) : RyI T w (w.heap.size + 1) w.heap.size v ((w.alloc (.cells (wagg v) T)).alloc (.cells (wagg (fun _ => dv)) T)) := by
  have h1 := heap_alloc_new w (.cells (wagg v) T)
  have h2 := heap_alloc_new (w.alloc (.cells (wagg v) T)) (.cells (wagg (fun _ => dv)) T)
  refine ⟨((Kp.refl [] w).alloc _).alloc _, ?_, ?_, by omega, by omega, by omega⟩
  · simpa using h2
  · rw [heap_alloc_old _ _ (by simp)]; exact h1
theorem wload_s {w : World} {p : Nat} {v : Nat → Ver} (h : w.heap[p]? = some (.cells (wagg v) 97 (0, 0))) : (loadVar 97 ⟨p, 0, none⟩).run Try.prog w = .ok (.agg (wagg v)) w :=
  run_loadVar_row w p 97 97 (wagg v) (0, 0) _ h Try.underlying97 rfl Try.size97
theorem yields_s {ops : Array Oper} {S : World → Prop} {op : Oper} {a : Act} (hw : Region.wanted op (yielded ops a.tmps) = true) (x : Operand) (ho : op.op = .load 97 x) (b o : Nat) (hx : a.eval x = .pointer (some ⟨b, o, none⟩)) (u : Nat → Ver) (hS : ∀ w, S w → w.rangeAt b o (wagg u).toList) : YieldsIf Try.prog ops S op (.agg (wagg u)) a := by
  have h := yieldsIf_load_mid (P := Try.prog) hw 97 x ho b o hx (wagg u).toList _ hS Try.underlying97 rfl Try.size97
  rw [Array.toArray_toList] at h
  exact h
theorem r4_kp {w w' : World} {p0 p1 p2 : Addr} {x0 x1 x2 : Value} {q : Nat} {cs : List Value} (h : w.cell? p0 = some x0 ∧ w.cell? p1 = some x1 ∧ w.cell? p2 = some x2 ∧ w.rangeAt q 0 cs) (hk : Kp [] w w') : w'.cell? p0 = some x0 ∧ w'.cell? p1 = some x1 ∧ w'.cell? p2 = some x2 ∧ w'.rangeAt q 0 cs :=
  ⟨hk.cell (by simp) h.1, hk.cell (by simp) h.2.1, hk.cell (by simp) h.2.2.1, fun j u hu => hk.cell (by simp) (h.2.2.2 j u hu)⟩
set_option maxHeartbeats 2000000 in
theorem replay (v : Nat → Ver) (a : Option Addr) (c : Nat) (l : List Ac) (w : World) (h : ActsIn w a l) (hok : ActsOk l) :
    Calls Try.prog 49 #[.agg (wagg v), .slice a l.length c] w fun e w' => RyEnd v l w e w' := by
  have HA := hide h
  have HO := hide hok
  have hm := hok.1
  have H0 := hide (ry_start 97 v w)
  clear h hok
  go_enter Try.func49, Try.ntmps49
  go_wp2_with fail
  generalize w.heap.size + 1 = p at *
  generalize w.heap.size = q at *
  obtain ⟨n, hn⟩ : ∃ n, l.length = n := ⟨_, rfl⟩
  rw [hn]
  rw [hn] at hm
  have HN := hide hn
  clear hn
  go_loopw [6, 8, 11] (fun x _ y wr => ∃ (k : Nat) (ok : Bool), k ≤ n ∧ x = .bool ok ∧ y = .int .i64 k ∧ Hid (∃ vk, RyI 97 w p q vk wr ∧ rpl vk ok (l.drop k) = (rpw v l, rpo v l))) (fun _ _ y _ => n - (intOf y).toNat)
  case atStart => exact ⟨0, true, Nat.zero_le _, rfl, rfl, v, unhide H0, rfl⟩
  case round =>
    obtain ⟨k, ok, hk, rfl, rfl, HI⟩ := hrel
    obtain ⟨vk, hry, hrp⟩ := unhide HI
    have HR := hide hry
    have HP := hide hrp
    clear hry hrp HI
    by_cases hlt : k < n
    · have i1 : (k : Int) < (n : Int) := by omega
      have i0 : (0 : Int) ≤ (k : Int) := by omega
      have hln : k < l.length := by have := unhide HN; omega
      obtain ⟨b, o, rfl, hb⟩ := (unhide HA).kp0 (unhide HR).kp (by omega)
      obtain ⟨x, hx⟩ : ∃ x, l[k]? = some x := ⟨_, List.getElem?_eq_getElem hln⟩
      have HX := hide hx
      have hxl : x.l.length ≤ 1000 := (unhide HO).2 x (List.mem_of_getElem? hx)
      have hat := hb k x hx
      obtain ⟨la, lc, z5, hls⟩ := hat.ls
      have q0 := hat.c0
      have q1 := hat.c1
      have q2 : wr.cell? ⟨b, o + k * 6 + 1 + 1, none⟩ = _ := hat.c2
      have q3 : wr.cell? ⟨b, o + k * 6 + 1 + 1 + 1, none⟩ = _ := hat.c3
      have q4 : wr.cell? ⟨b, o + k * 6 + 1 + 1 + 1 + 1, none⟩ = _ := hat.c4
      have q5 : wr.cell? ⟨b, o + k * 6 + 1 + 1 + 1 + 1 + 1, none⟩ = _ := z5
      have HLS := hide hls
      clear hat hb hx hls z5
      obtain ⟨kd, key, to_, xt, xs, xl⟩ := x
      dsimp only at q0 q1 q2 q3 q4 q5 hxl HLS
      obtain ⟨ln, hlen⟩ : ∃ ln, xl.length = ln := ⟨_, rfl⟩
      rw [hlen] at q5
      have HLN := hide hlen
      clear hlen
      have HR1 := hide ((unhide HR).kp0 ((Kp.refl [] wr).alloc (.cells #[.int .i64 kd, .int .i64 key, .int .i64 to_, .bool xt, .string xs, .slice la ln lc] 101)))
      have HL1 := hide ((unhide HLS).kp0 ((Kp.refl [] wr).alloc (.cells #[.int .i64 kd, .int .i64 key, .int .i64 to_, .bool xt, .string xs, .slice la ln lc] 101)))
      have HB1 := hide (heap_alloc_new wr (.cells #[.int .i64 kd, .int .i64 key, .int .i64 to_, .bool xt, .string xs, .slice la ln lc] 101))
      go_wp2_with fail
      generalize wr.alloc (.cells #[.int .i64 kd, .int .i64 key, .int .i64 to_, .bool xt, .string xs, .slice la ln lc] 101) = W at *
      generalize wr.heap.size = g at *
      refine (key11 key W).mono ?_
      rintro e w2 ⟨rfl, hw2⟩
      subst w2
      have b0 : W.cell? ⟨g, 0, none⟩ = some (.int .i64 kd) := cell_of_block (unhide HB1) rfl
      have b1 : W.cell? ⟨g, 1, none⟩ = some (.int .i64 key) := cell_of_block (unhide HB1) rfl
      have b2 : W.cell? ⟨g, 2, none⟩ = some (.int .i64 to_) := cell_of_block (unhide HB1) rfl
      have b3 : W.cell? ⟨g, 3, none⟩ = some (.bool xt) := cell_of_block (unhide HB1) rfl
      have b4 : W.cell? ⟨g, 4, none⟩ = some (.string xs) := cell_of_block (unhide HB1) rfl
      have b5 : W.cell? ⟨g, 5, none⟩ = some (.slice la ln lc) := cell_of_block (unhide HB1) rfl
      clear q0 q1 q2 q3 q4 q5 HR HLS HB1 HA
      by_cases hkb : keyB key = true
      · rw [hkb]
        have HNX := hide ((rpl_at (unhide HX) vk ok hkb).symm.trans (unhide HP))
        simp only [keyB, decide_eq_true_eq] at hkb
        obtain ⟨j, rfl⟩ : ∃ j : Nat, key = (j : Int) := ⟨key.toNat, by omega⟩
        have j8 : j < 8 := by omega
        have j0 : (0 : Int) ≤ (j : Int) := by omega
        have j8' : (j : Int) < 8 := by omega
        clear hkb
        obtain ⟨r0, r1, f0, f1⟩ := (unhide HR1).cells j8
        by_cases k3 : kd = 3
        · subst k3
          have HR2 := hide ((unhide HR1).set j8 xt xs)
          go_wp2_with fail
          refine ⟨⟨k + 1, ok, by omega, rfl, by go_num, _, unhide HR2, ?_⟩, by simp [intOf]; omega⟩
          have z := unhide HNX
          simp only [ado, aso] at z
          simpa using z
        by_cases k4 : kd = 4
        · subst k4
          have HR2 := hide ((unhide HR1).set j8 xt xs)
          go_wp2_with fail
          refine ⟨⟨k + 1, ok, by omega, rfl, by go_num, _, unhide HR2, ?_⟩, by simp [intOf]; omega⟩
          have z := unhide HNX
          simp only [ado, aso] at z
          simpa using z
        by_cases k2 : kd = 2
        · subst k2
          have heq := eqVal xt (vk j).t xs (vk j).s
          have hz : rpl vk (ok && decide (xt = (vk j).t ∧ xs = (vk j).s)) (l.drop (k + 1)) = (rpw v l, rpo v l) := by
            have z := unhide HNX
            simp only [ado, aso, Int.toNat_natCast] at z
            simpa using z
          have HZ := hide hz
          clear hz HNX
          generalize hbb : decide (xt = (vk j).t ∧ xs = (vk j).s) = bb at *
          generalize (vk j).t = vt at *
          generalize (vk j).s = vs at *
          clear hbb
          cases ok with
          | true =>
            go_wp2_with fail
            go_quiet (fail)
            go_wp2_with fail
            refine ⟨⟨k + 1, bb, by omega, rfl, by go_num, _, (unhide HR1).kp0 ((Kp.refl [] W).drewN _), ?_⟩, by simp [intOf]; omega⟩
            have z := unhide HZ
            simpa using z
          | false =>
            go_wp2_with fail
            go_quiet (fail)
            go_wp2_with fail
            refine ⟨⟨k + 1, false, by omega, rfl, by go_num, _, (unhide HR1).kp0 ((Kp.refl [] W).drewN _), ?_⟩, by simp [intOf]; omega⟩
            have z := unhide HZ
            simpa using z
        by_cases k5 : kd = 5
        · subst k5
          have hz : rpl vk (ok && decide (xl = wl vk j to_ 8)) (l.drop (k + 1)) = (rpw v l, rpo v l) := by
            have z := unhide HNX
            simp only [ado, aso] at z
            simpa using z
          have HZ := hide hz
          clear hz HNX
          cases ok with
          | false =>
            go_wp2_with fail
            go_quiet (fail)
            go_wp2_with fail
            refine ⟨⟨k + 1, false, by omega, rfl, by go_num, _, (unhide HR1).kp0 ((Kp.refl [] W).drewN _), ?_⟩, by simp [intOf]; omega⟩
            have z := unhide HZ
            simpa using z
          | true =>
            go_wp2_with fail
            have HG := hide (And.intro b1 (And.intro b2 (And.intro b5 (unhide HR1).range)))
            refine wp_region_held_drew (S := fun w' => w'.cell? ⟨g, 1, none⟩ = some (.int .i64 (j : Int)) ∧ w'.cell? ⟨g, 2, none⟩ = some (.int .i64 to_) ∧ w'.cell? ⟨g, 5, none⟩ = some (.slice la ln lc) ∧ w'.rangeAt q 0 (wagg vk).toList) (by kernel_rfl) (r4_kp (unhide HG) (Kp.refl [] W).drew) (fun hHeld => ?_)
            refine wpAnyH_tk (i := 0) (v := ?_) rfl (by kernel_rfl) (by kernel_rfl) (by kernel_rfl) (fun _ _ _ h => h) (Or.inl ⟨by rfl, ?_⟩) hHeld ?_
            rotate_left
            · intro w hSw
              try dsimp only at hSw
              go_simp
              try with_reducible rfl
            try simp only [Act.put, List.setIfInBounds_toArray, List.set_cons_zero, List.set_cons_succ]
            refine wpAnyH_tk (i := 1) (v := ?_) rfl (by kernel_rfl) (by kernel_rfl) (by kernel_rfl) (fun _ _ _ h => h) (Or.inl ⟨by rfl, ?_⟩) hHeld ?_
            rotate_left
            · intro w hSw
              try dsimp only at hSw
              go_simp
              try with_reducible rfl
            try simp only [Act.put, List.setIfInBounds_toArray, List.set_cons_zero, List.set_cons_succ]
            refine wpAnyH_tk (i := 2) (v := ?_) rfl (by kernel_rfl) (by kernel_rfl) (by kernel_rfl) (fun _ _ _ h => h) (Or.inl ⟨by rfl, ?_⟩) hHeld ?_
            rotate_left
            · intro w hSw
              try dsimp only at hSw
              go_simp
              try with_reducible rfl
            try simp only [Act.put, List.setIfInBounds_toArray, List.set_cons_zero, List.set_cons_succ]
            refine wpAnyH_tk (i := 3) (v := ?_) rfl (by kernel_rfl) (by kernel_rfl) (by kernel_rfl) (fun _ _ _ h => h) (Or.inl ⟨by rfl, ?_⟩) hHeld ?_
            rotate_left
            · intro w hSw
              try dsimp only at hSw
              go_simp
              try with_reducible rfl
            try simp only [Act.put, List.setIfInBounds_toArray, List.set_cons_zero, List.set_cons_succ]
            refine wpAnyH_tk (i := 4) rfl (by kernel_rfl) (by kernel_rfl) (by kernel_rfl) (fun _ _ _ h => h) (yields_s (by rfl) _ rfl q 0 rfl vk (fun _ h => h.2.2.2)) hHeld ?_
            try simp only [Act.put, List.setIfInBounds_toArray, List.set_cons_zero, List.set_cons_succ]
            refine wpAnyH_tk (i := 5) (v := ?_) rfl (by kernel_rfl) (by kernel_rfl) (by kernel_rfl) (fun _ _ _ h => h) (Or.inl ⟨by rfl, ?_⟩) hHeld ?_
            rotate_left
            · intro w hSw
              try dsimp only at hSw
              go_simp
              try with_reducible rfl
            try simp only [Act.put, List.setIfInBounds_toArray, List.set_cons_zero, List.set_cons_succ]
            refine wpAnyH_tk (i := 6) (v := ?_) rfl (by kernel_rfl) (by kernel_rfl) (by kernel_rfl) (fun _ _ _ h => h) (Or.inl ⟨by rfl, ?_⟩) hHeld ?_
            rotate_left
            · intro w hSw
              try dsimp only at hSw
              go_simp
              try with_reducible rfl
            try simp only [Act.put, List.setIfInBounds_toArray, List.set_cons_zero, List.set_cons_succ]
            refine wpAnyH_tk (i := 7) (v := ?_) rfl (by kernel_rfl) (by kernel_rfl) (by kernel_rfl) (fun _ _ _ h => h) (Or.inl ⟨by rfl, ?_⟩) hHeld ?_
            rotate_left
            · intro w hSw
              try dsimp only at hSw
              go_simp
              try with_reducible rfl
            try simp only [Act.put, List.setIfInBounds_toArray, List.set_cons_zero, List.set_cons_succ]
            refine wpAnyH_tk (i := 8) (v := ?_) rfl (by kernel_rfl) (by kernel_rfl) (by kernel_rfl) (fun _ _ _ h => h) (Or.inl ⟨by rfl, ?_⟩) hHeld ?_
            rotate_left
            · intro w hSw
              try dsimp only at hSw
              go_simp
              try with_reducible rfl
            try simp only [Act.put, List.setIfInBounds_toArray, List.set_cons_zero, List.set_cons_succ]
            refine wpAnyH_only (i := 9) rfl (by kernel_rfl) (fun K hK => ?_)
            go_simp
            refine (valuesof vk j to_ _ j8).mono ?_
            rintro e w3 ⟨a3, c3, rfl, hs3, hk3⟩
            have HS3 := hide hs3
            have HK3 := hide ((Kp.refl [] W).drew.trans0 hk3)
            clear hs3 hk3
            go_wp2_with fail
            refine hK.out _ _ (r4_kp (unhide HG) (unhide HK3)) (fun hHeld2 => ?_)
            clear hK K hHeld
            have hHeld := hHeld2
            clear hHeld2
            try simp only [Act.put, List.setIfInBounds_toArray, List.set_cons_zero, List.set_cons_succ]
            refine wpAnyH_only (i := 10) rfl (by kernel_rfl) (fun K hK => ?_)
            go_simp
            rw [← unhide HLN]
            refine (sleq (vs := xl) (us := wl vk j to_ 8) la a3 lc c3 w3 ((unhide HL1).kp0 (unhide HK3)) (unhide HS3) hxl).mono ?_
            rintro e w4 ⟨bb, rfl, hbb, m4, hw4⟩
            subst w4
            have HBB := hide hbb
            clear hbb
            rw [unhide HLN]
            go_wp2_with fail
            refine hK.out _ _ (r4_kp (unhide HG) ((unhide HK3).drewN m4)) (fun hHeld2 => ?_)
            clear hK K hHeld
            have hHeld := hHeld2
            clear hHeld2
            try simp only [Act.put, List.setIfInBounds_toArray, List.set_cons_zero, List.set_cons_succ]
            refine wpAnyH_tk (i := 11) (v := ?_) rfl (by kernel_rfl) (by kernel_rfl) (by kernel_rfl) (fun _ _ _ h => h) (Or.inl ⟨by rfl, ?_⟩) hHeld ?_
            rotate_left
            · intro w hSw
              try dsimp only at hSw
              go_simp
              try with_reducible rfl
            try simp only [Act.put, List.setIfInBounds_toArray, List.set_cons_zero, List.set_cons_succ]
            refine wpAnyH_tk (i := 12) (v := ?_) rfl (by kernel_rfl) (by kernel_rfl) (by kernel_rfl) (fun _ _ _ h => h) (Or.inl ⟨by rfl, ?_⟩) hHeld ?_
            rotate_left
            · intro w hSw
              try dsimp only at hSw
              go_simp
              try with_reducible rfl
            try simp only [Act.put, List.setIfInBounds_toArray, List.set_cons_zero, List.set_cons_succ]
            refine wpAnyH_done (by kernel_rfl) ?_ _
            go_wp2_with fail
            refine ⟨⟨k + 1, bb, by omega, rfl, by go_num, _, (unhide HR1).kp0 ((unhide HK3).drewN m4), ?_⟩, by simp [intOf]; omega⟩
            have z := unhide HZ
            have e : decide (xl = wl vk j to_ 8) = bb := by
              cases hb : bb with
              | true => exact decide_eq_true ((unhide HBB).1 hb)
              | false => exact decide_eq_false (fun q => by have := (unhide HBB).2 q; rw [hb] at this; cases this)
            rw [e] at z
            simpa using z
        · go_wp2_with fail
          refine ⟨⟨k + 1, ok, by omega, rfl, by go_num, _, unhide HR1, ?_⟩, by simp [intOf]; omega⟩
          have z := unhide HNX
          simp only [ado, aso] at z
          simpa [k2, k3, k4, k5] using z
      · have hkf : keyB key = false := by simpa using hkb
        rw [hkf]
        have HNX := hide ((rpl_bad (unhide HX) vk ok hkb).symm.trans (unhide HP))
        clear hkb hkf
        go_wp2_with (first | (refine wpList_load_row rfl 97 _ rfl q rfl 97 _ (0, 0) _ (unhide HR1).var Try.underlying97 rfl Try.size97 ?_) | (refine wpList_store_row rfl 97 _ _ rfl p (wagg vk) rfl rfl 97 _ (unhide HR1).res Try.size97 rfl (wagg_one _) ?_))
        obtain ⟨z1, z2⟩ := (unhide HR1).fin
        have hld := wload_s z1
        refine bodyPost_ret (v := .tuple #[.agg (wagg vk), .bool false]) (by rw [results_cell_tmp Try.results49]; simp [asAddr, Result.andThen, hld]) rfl ?_
        have z := unhide HNX
        simp only [Prod.mk.injEq] at z
        exact ⟨by rw [← z.1, ← z.2], z2⟩
    · have i1 : ¬ (k : Int) < (n : Int) := by omega
      go_wp2_with (first | (refine wpList_load_row rfl 97 _ rfl q rfl 97 _ (0, 0) _ (unhide HR).var Try.underlying97 rfl Try.size97 ?_) | (refine wpList_store_row rfl 97 _ _ rfl p (wagg vk) rfl rfl 97 _ (unhide HR).res Try.size97 rfl (wagg_one _) ?_))
      obtain ⟨z1, z2⟩ := (unhide HR).fin
      have hld := wload_s z1
      refine bodyPost_ret (v := .tuple #[.agg (wagg vk), .bool ok]) (by rw [results_cell_tmp Try.results49]; simp [asAddr, Result.andThen, hld]) rfl ?_
      have z := unhide HP
      rw [List.drop_eq_nil_of_le (by have := unhide HN; omega)] at z
      simp only [rpl, Prod.mk.injEq] at z
      exact ⟨by rw [← z.1, ← z.2], z2⟩
end Go.Proofs.Ytliopckocegknac

/- The library's stable sort, by contracts: insertion sort. -/
namespace Go.Proofs.Ytliopckocegknac
open Go.RowKit Srt
set_option maxRecDepth 20000
attribute [local go_sem ↓] Go.wp_at_zero Go.wp_at_succ

/-- A closure that compares two by a key. -/
structure Cmp (f : Nat) (key : Dx → Int) : Prop where
  enters : ∀ args w, (callFunc f args).run Try.prog w = .ok (.enter f args) w
  calls : ∀ x y w, Calls Try.prog f #[dxv x, dxv y] w fun e w' => e = .returned (.int .i64 (cmpI (key x) (key y))) ∧ Kp [] w w'
/-- What a sort from lo to hi leaves. -/
def SoEnd (key : Dx → Int) (a : Option Addr) (n lo hi : Nat) (d : Nat → Dx) (w : World) (e : Ending) (w' : World) : Prop := e = .returned (.tuple #[]) ∧ ∃ d', SlD w' a n d' ∧ Kp (obd a) w w' ∧ Stb key lo hi d d' ∧ SrtOn key d' lo hi
/-- One more is put in its place, from the place j on. -/
structure Ins (key : Dx → Int) (a : Option Addr) (n lo k : Nat) (dk : Nat → Dx) (w wr : World) (j : Nat) : Prop where
  row : SlD wr a n (rot dk j k (k + 1))
  kp : Kp (obd a) w wr
  lo : lo ≤ j
  hi : j ≤ k
  up : ∀ x, j ≤ x → x < k → key (dk k) < key (dk x)
section
variable {key : Dx → Int} {a : Option Addr} {n lo hi k g p j : Nat} {d dk : Nat → Dx} {w wr W : World}
theorem rot_at (dk : Nat → Dx) {j k : Nat} : rot dk j k (k + 1) j = dk k := by rw [rot_lo (by omega)]; congr 1; omega
theorem Ins.next (h : Ins key (some ⟨g, 0, none⟩) n lo k dk w wr j) (hp : j = p + 1) (hlo : lo < j) {x y : Int} (hx : key (rot dk j k (k + 1) j) = x) (hy : key (rot dk j k (k + 1) p) = y) (hless : x < y) (hrow : DRow W g n (rot dk p k (k + 1))) (hkp : Kp [g] wr W) : Ins key (some ⟨g, 0, none⟩) n lo k dk w W p := by
  subst hp
  have hh := h.hi
  rw [rot_at] at hx
  rw [rot_out (by omega) (by omega) (by omega)] at hy
  refine ⟨fun _ => ⟨g, rfl, hrow⟩, h.kp.trans hkp (fun x hx => .inl (by simpa [obd] using hx)), by omega, by omega, fun z h1 h2 => ?_⟩
  by_cases e : z = p
  · subst e; omega
  · exact h.up z (by omega) h2
theorem Ins.done (h : Ins key a n lo k dk w wr j) (hq : Stb key lo k d dk ∧ SrtOn key dk lo k) (hst : lo < j → ∃ p, j = p + 1 ∧ ¬ key (rot dk j k (k + 1) j) < key (rot dk j k (k + 1) p)) (hkp : Kp [] wr W) (hk : k < hi) :
    ∃ dk', SlD W a n dk' ∧ Kp (obd a) w W ∧ (k + 1 ≤ hi → Stb key lo (k + 1) d dk' ∧ SrtOn key dk' lo (k + 1)) ∧ (hi < k + 1 → dk' = d) := by
  have h1 := h.lo
  have h2 := h.hi
  refine ⟨rot dk j k (k + 1), h.row.kp0 hkp, h.kp.trans0 hkp, fun _ => ?_, fun q => by omega⟩
  obtain ⟨s1, s2⟩ := srt_ins (j := j) hq.2 ⟨h1, h2⟩ h.up (fun q => by
    obtain ⟨p, e, hn⟩ := hst q
    subst e
    rw [rot_at, rot_out (by omega) (by omega) (by omega)] at hn
    rw [show p + 1 - 1 = p by omega]
    omega)
  exact ⟨(hq.1.wide (Nat.le_refl _) (by omega) (Nat.le_succ _)).trans s2, s1⟩
end
theorem off4 (p j : Nat) (_h : p ≠ j) : ¬ p * 4 = j * 4 + 1 ∧ ¬ p * 4 = j * 4 + 2 ∧ ¬ p * 4 = j * 4 + 3 ∧ ¬ p * 4 + 1 = j * 4 ∧ ¬ p * 4 + 1 = j * 4 + 2 ∧ ¬ p * 4 + 1 = j * 4 + 3 ∧ ¬ p * 4 + 2 = j * 4 ∧ ¬ p * 4 + 2 = j * 4 + 1 ∧ ¬ p * 4 + 2 = j * 4 + 3 ∧ ¬ p * 4 + 3 = j * 4 ∧ ¬ p * 4 + 3 = j * 4 + 1 ∧ ¬ p * 4 + 3 = j * 4 + 2 := by omega
theorem cells8_kp {w w' : World} {p0 p1 p2 p3 q0 q1 q2 q3 : Addr} {x0 x1 x2 x3 y0 y1 y2 y3 : Value} (h : (w.cell? p0 = some x0 ∧ w.cell? p1 = some x1 ∧ w.cell? p2 = some x2 ∧ w.cell? p3 = some x3) ∧ (w.cell? q0 = some y0 ∧ w.cell? q1 = some y1 ∧ w.cell? q2 = some y2 ∧ w.cell? q3 = some y3)) (hk : Kp [] w w') :
    (w'.cell? p0 = some x0 ∧ w'.cell? p1 = some x1 ∧ w'.cell? p2 = some x2 ∧ w'.cell? p3 = some x3) ∧ (w'.cell? q0 = some y0 ∧ w'.cell? q1 = some y1 ∧ w'.cell? q2 = some y2 ∧ w'.cell? q3 = some y3) :=
  ⟨⟨hk.cell (by simp) h.1.1, hk.cell (by simp) h.1.2.1, hk.cell (by simp) h.1.2.2.1, hk.cell (by simp) h.1.2.2.2⟩, hk.cell (by simp) h.2.1, hk.cell (by simp) h.2.2.1, hk.cell (by simp) h.2.2.2.1, hk.cell (by simp) h.2.2.2.2⟩
theorem cmpI_neg {x y : Int} : cmpI x y < 0 ↔ x < y := by
  unfold cmpI
  split
  · simp; assumption
  · split <;> simp <;> omega

set_option maxHeartbeats 1000000 in
theorem inssort {f : Nat} {key : Dx → Int} (hc : Cmp f key) (a : Option Addr) (n cap lo hi : Nat) (d : Nat → Dx) (w : World) (h : SlD w a n d) (h1 : lo ≤ hi) (h2 : hi ≤ n) (hn : n ≤ 100000) :
    Calls Try.prog 151 #[.slice a n cap, .int .i64 lo, .int .i64 hi, .func (.func f) #[] #[]] w fun e w' => SoEnd key a n lo hi d w e w' := by
  have HC := hide hc
  have eg := hc.enters
  have HS := hide h
  clear h hc
  go_enter Try.func151, Try.ntmps151
  go_wp2_with fail
  go_loopw [8] (fun i wr => ∃ k : Nat, lo < k ∧ (k ≤ hi ∨ k = lo + 1) ∧ i = .int .i64 k ∧ Hid (∃ dk, SlD wr a n dk ∧ Kp (obd a) w wr ∧ (k ≤ hi → Stb key lo k d dk ∧ SrtOn key dk lo k) ∧ (hi < k → dk = d))) (fun i _ => hi - (intOf i).toNat)
  case atStart => exact ⟨lo + 1, by omega, .inr rfl, by go_num, d, unhide HS, Kp.refl _ _, fun _ => ⟨Stb.refl _ _ _ _, fun x y q1 q2 q3 => by rw [show x = y by omega]; exact Int.le_refl _⟩, fun _ => rfl⟩
  case round =>
    obtain ⟨k, hk1, hk2, rfl, HI⟩ := hrel
    by_cases hlt : k < hi
    · have i1 : (k : Int) < (hi : Int) := by omega
      obtain ⟨dk, q1, q2, q3, q4⟩ := unhide HI
      have HQ := hide (q3 (by omega))
      have HJ := hide (show Ins key a n lo k dk w wr k from ⟨by rw [rot_down0]; exact q1, q2, by omega, Nat.le_refl _, fun x _ _ => by omega⟩)
      clear q1 q2 q3 q4 HI
      go_wp2_with fail
      generalize wr = wk at *
      go_loopw [9] (fun i wr => ∃ j : Nat, i = .int .i64 j ∧ Hid (Ins key a n lo k dk w wr j)) (fun i _ => (intOf i).toNat)
      case atStart => exact ⟨k, rfl, HJ⟩
      case round =>
        obtain ⟨j, rfl, HK⟩ := hrel
        have hlo := (unhide HK).lo
        have hhi := (unhide HK).hi
        by_cases hj : lo < j
        · obtain ⟨g, rfl, hrow⟩ := (unhide HK).row (by omega)
          obtain ⟨p, hp⟩ : ∃ p, j = p + 1 := ⟨j - 1, by omega⟩
          have HP := hide hp
          have HR := hide hrow
          clear hrow
          have i2 : (lo : Int) < (j : Int) := by omega
          have i2a : decide ((lo : Int) < (j : Int)) = true := decide_eq_true (by omega)
          have i2b : decide ((j : Int) > (lo : Int)) = true := decide_eq_true (by omega)
          have i2c : decide (lo < j) = true := decide_eq_true (by omega)
          have i3 : (0 : Int) ≤ (j : Int) := by omega
          have i4 : (j : Int) < (n : Int) := by omega
          have i5 : (0 : Int) ≤ (p : Int) := by omega
          have i6 : (p : Int) < (n : Int) := by omega
          have i7 : IntKind.i64.wrap ((j : Int) - 1) = (p : Int) := by rw [wrap_i64_id _ (by omega) (by omega)]; omega
          clear hp
          have cX := (unhide HR).cells (i := j) (by omega)
          have cY := (unhide HR).cells (i := p) (by omega)
          generalize hX : rot dk j k (k + 1) j = X at *
          generalize hY : rot dk j k (k + 1) p = Y at *
          have HX := hide hX
          have HY := hide hY
          clear hX hY
          obtain ⟨⟨xn, xa, xm, xacts⟩, xp, xc⟩ := X
          obtain ⟨⟨yn, ya, ym, yacts⟩, yp, yc⟩ := Y
          have HCC : Hid (∀ W, Calls Try.prog f #[.agg #[.int .i64 xn, .int .i64 xa, .int .i64 xm, .slice xp xacts.length xc], .agg #[.int .i64 yn, .int .i64 ya, .int .i64 ym, .slice yp yacts.length yc]] W fun e w' => e = .returned (.int .i64 (cmpI (key ⟨⟨xn, xa, xm, xacts⟩, xp, xc⟩) (key ⟨⟨yn, ya, ym, yacts⟩, yp, yc⟩))) ∧ Kp [] W w') := fun W => (unhide HC).calls ⟨⟨xn, xa, xm, xacts⟩, xp, xc⟩ ⟨⟨yn, ya, ym, yacts⟩, yp, yc⟩ W
          generalize hkx : key ⟨⟨xn, xa, xm, xacts⟩, xp, xc⟩ = kx at *
          generalize hky : key ⟨⟨yn, ya, ym, yacts⟩, yp, yc⟩ = ky at *
          have HKX := hide hkx
          have HKY := hide hky
          clear hkx hky
          dsimp only at cX cY
          generalize hlx : xacts.length = lx at *
          generalize hly : yacts.length = ly at *
          have HLX := hide hlx
          have HLY := hide hly
          clear hlx hly
          have HS4 := hide (And.intro cX cY)
          clear cX cY
          go_wp2_with fail
          refine wp_region_held_drew (S := fun w' => (w'.cell? ⟨g, j * 4, none⟩ = some (.int .i64 xn) ∧ w'.cell? ⟨g, j * 4 + 1, none⟩ = some (.int .i64 xa) ∧ w'.cell? ⟨g, j * 4 + 1 + 1, none⟩ = some (.int .i64 xm) ∧ w'.cell? ⟨g, j * 4 + 1 + 1 + 1, none⟩ = some (.slice xp lx xc)) ∧ (w'.cell? ⟨g, p * 4, none⟩ = some (.int .i64 yn) ∧ w'.cell? ⟨g, p * 4 + 1, none⟩ = some (.int .i64 ya) ∧ w'.cell? ⟨g, p * 4 + 1 + 1, none⟩ = some (.int .i64 ym) ∧ w'.cell? ⟨g, p * 4 + 1 + 1 + 1, none⟩ = some (.slice yp ly yc))) (by kernel_rfl) (cells8_kp (unhide HS4) ((Kp.refl [] _).drew)) (fun hHeld => ?_)
          refine wpAnyH_tk (i := 0) (v := ?_) rfl (by kernel_rfl) (by kernel_rfl) (by kernel_rfl) (fun _ _ _ h => h) (Or.inl ⟨by rfl, ?_⟩) hHeld ?_
          rotate_left
          · intro w hSw
            try dsimp only at hSw
            go_simp
            try with_reducible rfl
          try simp only [Act.put, List.setIfInBounds_toArray, List.set_cons_zero, List.set_cons_succ]
          refine wpAnyH_tk (i := 1) (v := ?_) rfl (by kernel_rfl) (by kernel_rfl) (by kernel_rfl) (fun _ _ _ h => h) (Or.inl ⟨by rfl, ?_⟩) hHeld ?_
          rotate_left
          · intro w hSw
            try dsimp only at hSw
            go_simp
            try with_reducible rfl
          try simp only [Act.put, List.setIfInBounds_toArray, List.set_cons_zero, List.set_cons_succ]
          refine wpAnyH_tk (i := 2) (v := ?_) rfl (by kernel_rfl) (by kernel_rfl) (by kernel_rfl) (fun _ _ _ h => h) (Or.inl ⟨by rfl, ?_⟩) hHeld ?_
          rotate_left
          · intro w hSw
            try dsimp only at hSw
            go_simp
            try with_reducible rfl
          try simp only [Act.put, List.setIfInBounds_toArray, List.set_cons_zero, List.set_cons_succ]
          refine wpAnyH_tk (i := 3) (v := ?_) rfl (by kernel_rfl) (by kernel_rfl) (by kernel_rfl) (fun _ _ _ h => h) (Or.inl ⟨by rfl, ?_⟩) hHeld ?_
          rotate_left
          · intro w hSw
            try dsimp only at hSw
            go_simp
            try with_reducible rfl
          try simp only [Act.put, List.setIfInBounds_toArray, List.set_cons_zero, List.set_cons_succ]
          refine wpAnyH_tk (i := 4) (v := ?_) rfl (by kernel_rfl) (by kernel_rfl) (by kernel_rfl) (fun _ _ _ h => h) (Or.inl ⟨by rfl, ?_⟩) hHeld ?_
          rotate_left
          · intro w hSw
            try dsimp only at hSw
            go_simp
            try with_reducible rfl
          try simp only [Act.put, List.setIfInBounds_toArray, List.set_cons_zero, List.set_cons_succ]
          refine wpAnyH_tk (i := 5) (v := ?_) rfl (by kernel_rfl) (by kernel_rfl) (by kernel_rfl) (fun _ _ _ h => h) (Or.inl ⟨by rfl, ?_⟩) hHeld ?_
          rotate_left
          · intro w hSw
            try dsimp only at hSw
            go_simp
            try with_reducible rfl
          try simp only [Act.put, List.setIfInBounds_toArray, List.set_cons_zero, List.set_cons_succ]
          refine wpAnyH_tk (i := 6) (v := ?_) rfl (by kernel_rfl) (by kernel_rfl) (by kernel_rfl) (fun _ _ _ h => h) (Or.inl ⟨by rfl, ?_⟩) hHeld ?_
          rotate_left
          · intro w hSw
            try dsimp only at hSw
            go_simp
            try with_reducible rfl
          try simp only [Act.put, List.setIfInBounds_toArray, List.set_cons_zero, List.set_cons_succ]
          refine wpAnyH_tk (i := 7) (v := ?_) rfl (by kernel_rfl) (by kernel_rfl) (by kernel_rfl) (fun _ _ _ h => h) (Or.inl ⟨by rfl, ?_⟩) hHeld ?_
          rotate_left
          · intro w hSw
            try dsimp only at hSw
            go_simp
            try with_reducible rfl
          try simp only [Act.put, List.setIfInBounds_toArray, List.set_cons_zero, List.set_cons_succ]
          refine wpAnyH_tk (i := 8) (v := ?_) rfl (by kernel_rfl) (by kernel_rfl) (by kernel_rfl) (fun _ _ _ h => h) (Or.inl ⟨by rfl, ?_⟩) hHeld ?_
          rotate_left
          · intro w hSw
            try dsimp only at hSw
            go_simp
            try with_reducible rfl
          try simp only [Act.put, List.setIfInBounds_toArray, List.set_cons_zero, List.set_cons_succ]
          refine wpAnyH_tk (i := 9) (v := ?_) rfl (by kernel_rfl) (by kernel_rfl) (by kernel_rfl) (fun _ _ _ h => h) (Or.inl ⟨by rfl, ?_⟩) hHeld ?_
          rotate_left
          · intro w hSw
            try dsimp only at hSw
            go_simp
            try with_reducible rfl
          try simp only [Act.put, List.setIfInBounds_toArray, List.set_cons_zero, List.set_cons_succ]
          refine wpAnyH_tk (i := 10) (v := ?_) rfl (by kernel_rfl) (by kernel_rfl) (by kernel_rfl) (fun _ _ _ h => h) (Or.inl ⟨by rfl, ?_⟩) hHeld ?_
          rotate_left
          · intro w hSw
            try dsimp only at hSw
            go_simp
            try with_reducible rfl
          try simp only [Act.put, List.setIfInBounds_toArray, List.set_cons_zero, List.set_cons_succ]
          refine wpAnyH_tk (i := 11) (v := ?_) rfl (by kernel_rfl) (by kernel_rfl) (by kernel_rfl) (fun _ _ _ h => h) (Or.inl ⟨by rfl, ?_⟩) hHeld ?_
          rotate_left
          · intro w hSw
            try dsimp only at hSw
            go_simp
            try with_reducible rfl
          try simp only [Act.put, List.setIfInBounds_toArray, List.set_cons_zero, List.set_cons_succ]
          refine wpAnyH_tk (i := 12) (v := ?_) rfl (by kernel_rfl) (by kernel_rfl) (by kernel_rfl) (fun _ _ _ h => h) (Or.inl ⟨by rfl, ?_⟩) hHeld ?_
          rotate_left
          · intro w hSw
            try dsimp only at hSw
            go_simp
            try with_reducible rfl
          try simp only [Act.put, List.setIfInBounds_toArray, List.set_cons_zero, List.set_cons_succ]
          refine wpAnyH_tk (i := 13) (v := ?_) rfl (by kernel_rfl) (by kernel_rfl) (by kernel_rfl) (fun _ _ _ h => h) (Or.inl ⟨by rfl, ?_⟩) hHeld ?_
          rotate_left
          · intro w hSw
            try dsimp only at hSw
            go_simp
            try with_reducible rfl
          try simp only [Act.put, List.setIfInBounds_toArray, List.set_cons_zero, List.set_cons_succ]
          refine wpAnyH_only (i := 14) rfl (by kernel_rfl) (fun K hK => ?_)
          go_simp
          refine ((unhide HCC) _).mono ?_
          rintro e w' ⟨rfl, hkp⟩
          have HKP := hide hkp
          clear hkp
          go_wp2_with fail
          refine hK.out _ _ (cells8_kp (unhide HS4) (((Kp.refl [] _).drew).trans0 (unhide HKP))) (fun hHeld2 => ?_)
          clear hK K hHeld
          have hHeld := hHeld2
          clear hHeld2
          try simp only [Act.put, List.setIfInBounds_toArray, List.set_cons_zero, List.set_cons_succ]
          refine wpAnyH_tk (i := 15) (v := ?_) rfl (by kernel_rfl) (by kernel_rfl) (by kernel_rfl) (fun _ _ _ h => h) (Or.inl ⟨by rfl, ?_⟩) hHeld ?_
          rotate_left
          · intro w hSw
            try dsimp only at hSw
            go_simp
            try with_reducible rfl
          try simp only [Act.put, List.setIfInBounds_toArray, List.set_cons_zero, List.set_cons_succ]
          refine wpAnyH_tk (i := 16) (v := ?_) rfl (by kernel_rfl) (by kernel_rfl) (by kernel_rfl) (fun _ _ _ h => h) (Or.inl ⟨by rfl, ?_⟩) hHeld ?_
          rotate_left
          · intro w hSw
            try dsimp only at hSw
            go_simp
            try with_reducible rfl
          try simp only [Act.put, List.setIfInBounds_toArray, List.set_cons_zero, List.set_cons_succ]
          refine wpAnyH_done (by kernel_rfl) ?_ _
          have HW := hide ((Kp.refl [] wr).drew.trans0 (unhide HKP))
          have HRW := hide ((unhide HR).kp0 (unhide HW))
          clear hHeld HR HKP
          generalize w' = W at *
          by_cases hless : kx < ky
          · have i8 : cmpI kx ky < 0 := cmpI_neg.2 hless
            obtain ⟨⟨c0, c1, c2, c3⟩, e0, e1, e2, e3⟩ := cells8_kp (unhide HS4) (unhide HW)
            have hf := (unhide HRW).fz
            have hsw := (unhide HRW).swap2 (i := j) (j := p) (by omega) (by omega) (by have := unhide HP; omega)
            rw [unhide HX, unhide HY] at hsw
            have hrd := rot_down dk (m := k) (k := p) (by have := unhide HP; omega)
            rw [← unhide HP] at hrd
            rw [hrd] at hsw
            dsimp only [put4] at hsw
            rw [unhide HLX, unhide HLY] at hsw
            have HSW := hide hsw
            clear hsw hrd
            have hpj : p ≠ j := by have := unhide HP; omega
            obtain ⟨n01, n02, n03, n10, n12, n13, n20, n21, n23, n30, n31, n32⟩ := off4 p j hpj
            go_wp2_with fail
            go_region
            go_wp2_with fail
            have hkx : key (rot dk j k (k + 1) j) = kx := by rw [unhide HX]; exact unhide HKX
            have hky : key (rot dk j k (k + 1) p) = ky := by rw [unhide HY]; exact unhide HKY
            exact ⟨⟨p, by go_num, (unhide HK).next (unhide HP) hj hkx hky hless ((unhide HSW).1.kp0 (Kp.refl [] _).drew) (((unhide HW).mono (T := [g]) (by simp)).trans ((unhide HSW).2.drew) (fun x hx => .inl hx))⟩, by have := unhide HP; simp [intOf]; omega⟩
          · have i8 : ¬ cmpI kx ky < 0 := fun q => hless (cmpI_neg.1 q)
            go_wp2_with fail
            refine ⟨⟨k + 1, by omega, .inl (by omega), by go_num, (unhide HK).done (unhide HQ) (fun _ => ⟨p, unhide HP, ?_⟩) (unhide HW) hlt⟩, by simp [intOf]; omega⟩
            rw [unhide HX, unhide HY, unhide HKX, unhide HKY]
            exact hless
        · have i2 : ¬ (lo : Int) < (j : Int) := by omega
          go_wp2_with fail
          go_quiet (fail)
          go_wp2_with fail
          exact ⟨⟨k + 1, by omega, .inl (by omega), by go_num, (unhide HK).done (unhide HQ) (fun q => absurd q hj) ((Kp.refl [] _).drewN _) hlt⟩, by simp [intOf]; omega⟩
    · have i1 : ¬ (k : Int) < (hi : Int) := by omega
      go_wp2_with fail
      go_end0
      obtain ⟨dk, q1, q2, q3, q4⟩ := unhide HI
      refine ⟨rfl, dk, q1, q2, ?_⟩
      by_cases e : k ≤ hi
      · rw [show hi = k by omega]; exact q3 e
      · rw [q4 (by omega)]
        exact ⟨Stb.refl _ _ _ _, fun x y _ _ _ => by omega⟩
end Go.Proofs.Ytliopckocegknac

/- The library's stable sort, by contracts: two parts change their places. -/
namespace Go.Proofs.Ytliopckocegknac
open Go.RowKit Srt
set_option maxRecDepth 20000
attribute [local go_sem ↓] Go.wp_at_zero Go.wp_at_succ

def RwEnd (g n : Nat) (d' : Nat → Dx) (w : World) (e : Ending) (w' : World) : Prop := e = .returned (.tuple #[]) ∧ DRow w' g n d' ∧ Kp [g] w w'
set_option maxHeartbeats 1000000 in
theorem swaprange (f g n cap a b m : Nat) (d : Nat → Dx) (w : World) (h : DRow w g n d) (h1 : a + m ≤ b) (h2 : b + m ≤ n) (hn : n ≤ 100000) :
    Calls Try.prog 164 #[.slice (some ⟨g, 0, none⟩) n cap, .int .i64 a, .int .i64 b, .int .i64 m, .func (.func f) #[] #[]] w fun e w' => RwEnd g n (swr d a b m) w e w' := by
  have HS := hide h
  clear h
  go_enter Try.func164, Try.ntmps164
  go_wp2_with fail
  go_loopw [10] (fun i wr => ∃ k : Nat, k ≤ m ∧ i = .int .i64 k ∧ Hid (DRow wr g n (swr d a b k) ∧ Kp [g] w wr)) (fun i _ => m - (intOf i).toNat)
  case atStart => exact ⟨0, by omega, rfl, by rw [swr_zero]; exact ⟨unhide HS, Kp.refl _ _⟩⟩
  case round =>
    obtain ⟨k, hk, rfl, HI⟩ := hrel
    by_cases hlt : k < m
    · have i1 : (k : Int) < (m : Int) := by omega
      obtain ⟨hrow, hkp⟩ := unhide HI
      have hsw := hrow.swap2 (i := a + k) (j := b + k) (by omega) (by omega) (by omega)
      rw [swr_succ d (by omega)] at hsw
      obtain ⟨c0, c1, c2, c3⟩ := hrow.cells (i := a + k) (by omega)
      obtain ⟨e0, e1, e2, e3⟩ := hrow.cells (i := b + k) (by omega)
      have hf := hrow.fz
      have HKP := hide hkp
      clear hkp hrow
      generalize hX : swr d a b k (a + k) = X at *
      generalize hY : swr d a b k (b + k) = Y at *
      clear hX hY
      obtain ⟨⟨xn, xa, xm, xacts⟩, xp, xc⟩ := X
      obtain ⟨⟨yn, ya, ym, yacts⟩, yp, yc⟩ := Y
      dsimp only [put4] at c0 c1 c2 c3 e0 e1 e2 e3 hsw
      generalize xacts.length = lx at *
      generalize yacts.length = ly at *
      obtain ⟨p, hp⟩ : ∃ p, a + k = p := ⟨_, rfl⟩
      obtain ⟨j, hj⟩ : ∃ j, b + k = j := ⟨_, rfl⟩
      rw [hp, hj] at hsw
      rw [hp] at c0 c1 c2 c3
      rw [hj] at e0 e1 e2 e3
      have HSW := hide hsw
      clear hsw
      have hjp : j ≠ p := by omega
      obtain ⟨n01, n02, n03, n10, n12, n13, n20, n21, n23, n30, n31, n32⟩ := off4 j p hjp
      have j1 : IntKind.i64.wrap ((a : Int) + (k : Int)) = (p : Int) := by rw [wrap_i64_id _ (by omega) (by omega)]; omega
      have j2 : IntKind.i64.wrap ((b : Int) + (k : Int)) = (j : Int) := by rw [wrap_i64_id _ (by omega) (by omega)]; omega
      have j3 : (0 : Int) ≤ (p : Int) := by omega
      have j4 : (p : Int) < (n : Int) := by omega
      have j5 : (0 : Int) ≤ (j : Int) := by omega
      have j6 : (j : Int) < (n : Int) := by omega
      clear hp hj
      go_wp2_with fail
      go_region
      go_wp2_with fail
      exact ⟨⟨k + 1, by omega, by go_num, (unhide HSW).1.kp0 (Kp.refl [] _).drew, (unhide HKP).trans ((unhide HSW).2.drew) (fun x hx => .inl hx)⟩, by simp [intOf]; omega⟩
    · have i1 : ¬ (k : Int) < (m : Int) := by omega
      go_wp2_with fail
      go_end0
      obtain ⟨hrow, hkp⟩ := unhide HI
      rw [show k = m by omega] at hrow
      exact ⟨rfl, hrow, hkp⟩

set_option maxHeartbeats 1000000 in
theorem rotate (f g n cap a m b : Nat) (d : Nat → Dx) (w : World) (h : DRow w g n d) (h1 : a < m) (h2 : m < b) (h3 : b ≤ n) (hn : n ≤ 100000) :
    Calls Try.prog 160 #[.slice (some ⟨g, 0, none⟩) n cap, .int .i64 a, .int .i64 m, .int .i64 b, .func (.func f) #[] #[]] w fun e w' => RwEnd g n (rot d a m b) w e w' := by
  have HS := hide h
  clear h
  go_enter Try.func160, Try.ntmps160
  go_wp2_with fail
  go_loopw [10, 11] (fun x y wr => ∃ i j : Nat, 0 < i ∧ 0 < j ∧ i ≤ m - a ∧ j ≤ b - m ∧ x = .int .i64 i ∧ y = .int .i64 j ∧ Hid (∃ dk, DRow wr g n dk ∧ Kp [g] w wr ∧ rot dk (m - i) m (m + j) = rot d a m b)) (fun x y _ => (intOf x).toNat + (intOf y).toNat)
  case atStart => exact ⟨m - a, b - m, by omega, by omega, Nat.le_refl _, Nat.le_refl _, by go_num, by go_num, d, unhide HS, Kp.refl _ _, by rw [show m - (m - a) = a by omega, show m + (b - m) = b by omega]⟩
  case round =>
    obtain ⟨i, j, hi0, hj0, hi, hj, rfl, rfl, HI⟩ := hrel
    obtain ⟨dk, q1, q2, q3⟩ := unhide HI
    have HQ2 := hide q2
    have HQ3 := hide q3
    by_cases e : i = j
    · subst e
      have HC := hide (swaprange f g n cap (m - i) m i dk wr q1 (by omega) (by omega) hn)
      have j1 : ((m : Int) - (i : Int)) = ((m - i : Nat) : Int) := by omega
      clear q1 q2 q3 HI
      go_wp2_with fail
      refine (unhide HC).mono ?_
      rintro e w' ⟨rfl, r1, r2⟩
      have HR1 := hide r1
      have HR2 := hide r2
      clear r1 r2
      go_wp2_with fail
      go_end0
      exact ⟨rfl, by rw [← unhide HQ3, ← rot_mid (by omega)]; exact unhide HR1, (unhide HQ2).trans (unhide HR2) (fun x hx => .inl hx)⟩
    · have i1 : ¬ (i : Int) = (j : Int) := by omega
      by_cases hlt : j < i
      · have HC := hide (swaprange f g n cap (m - i) m j dk wr q1 (by omega) (by omega) hn)
        have j1 : ((m : Int) - (i : Int)) = ((m - i : Nat) : Int) := by omega
        have i2 : (j : Int) < (i : Int) := by omega
        clear q1 q2 q3 HI
        go_wp2_with fail
        refine (unhide HC).mono ?_
        rintro e w' ⟨rfl, r1, r2⟩
        have HR1 := hide r1
        have HR2 := hide r2
        clear r1 r2
        go_wp2_with fail
        exact ⟨⟨i - j, j, by omega, hj0, by omega, hj, by go_num, rfl, swr dk (m - i) m j, unhide HR1, (unhide HQ2).trans (unhide HR2) (fun x hx => .inl hx), by rw [rot_left (by omega) hlt]; exact unhide HQ3⟩, by simp [intOf]; omega⟩
      · have HC := hide (swaprange f g n cap (m - i) (m + j - i) i dk wr q1 (by omega) (by omega) hn)
        have j1 : ((m : Int) - (i : Int)) = ((m - i : Nat) : Int) := by omega
        have j2 : ((m : Int) + (j : Int) - (i : Int)) = ((m + j - i : Nat) : Int) := by omega
        have i2 : ¬ (j : Int) < (i : Int) := by omega
        clear q1 q2 q3 HI
        go_wp2_with fail
        refine (unhide HC).mono ?_
        rintro e w' ⟨rfl, r1, r2⟩
        have HR1 := hide r1
        have HR2 := hide r2
        clear r1 r2
        go_wp2_with fail
        exact ⟨⟨i, j - i, hi0, by omega, hi, by omega, rfl, by go_num, swr dk (m - i) (m + j - i) i, unhide HR1, (unhide HQ2).trans (unhide HR2) (fun x hx => .inl hx), by rw [rot_right (by omega) (by omega)]; exact unhide HQ3⟩, by simp [intOf]; omega⟩
end Go.Proofs.Ytliopckocegknac

/- The library's stable sort, by contracts: two sorted parts become one. -/
namespace Go.Proofs.Ytliopckocegknac
open Go.RowKit Srt
set_option maxRecDepth 20000
attribute [local go_sem ↓] Go.wp_at_zero Go.wp_at_succ

/-- What a merge from a to b leaves. -/
def MgEnd (key : Dx → Int) (g n a b : Nat) (d : Nat → Dx) (w : World) (e : Ending) (w' : World) : Prop := e = .returned (.tuple #[]) ∧ ∃ d', DRow w' g n d' ∧ Kp [g] w w' ∧ Stb key a b d d' ∧ SrtOn key d' a b
theorem rot_id1 {d : Nat → Dx} {m q : Nat} : rot d m m q = d := by
  funext x
  unfold rot
  by_cases c : m ≤ x ∧ x < m + (q - m)
  · rw [if_pos c]; congr 1; omega
  · rw [if_neg c, if_neg (by omega)]
theorem rot_id2 {d : Nat → Dx} {p m : Nat} : rot d p m m = d := by
  funext x
  unfold rot
  rw [if_neg (by omega)]
  by_cases c : p + (m - m) ≤ x ∧ x < m
  · rw [if_pos c]; congr 1; omega
  · rw [if_neg c]
theorem kp_g {g : Nat} {w W w' : World} (h : Kp [g] w W) (k : Kp [g] W w') : Kp [g] w w' := h.trans k (fun _ hx => .inl hx)
set_option maxHeartbeats 1000000 in
theorem sym1 {f : Nat} {key : Dx → Int} (hc : Cmp f key) (g n cap a m b : Nat) (d : Nat → Dx) (w : World) (h : DRow w g n d) (h1 : SrtOn key d a m) (h2 : SrtOn key d m b) (ham : a < m) (hmb : m < b) (hbn : b ≤ n) (hn : n ≤ 100000) (hm : m = a + 1) :
    Calls Try.prog 152 #[.slice (some ⟨g, 0, none⟩) n cap, .int .i64 a, .int .i64 m, .int .i64 b, .func (.func f) #[] #[]] w fun e w' => MgEnd key g n a b d w e w' := by
  have HC := hide hc
  have eg := hc.enters
  have HR0 := hide h
  have HS1 := hide h1
  have HS2 := hide h2
  clear h hc h1 h2
  have k1 : (m : Int) - (a : Int) = 1 := by omega
  have HM := hide hm
  clear hm
  go_enter Try.func152, Try.ntmps152
  go_wp2_with fail
  go_loopw [10, 11, 12] (fun x y _ wr => ∃ i j : Nat, m ≤ i ∧ i ≤ j ∧ j ≤ b ∧ x = .int .i64 i ∧ y = .int .i64 j ∧ Hid ((∀ z, m ≤ z → z < i → key (d z) < key (d a)) ∧ (j < b → key (d a) ≤ key (d j))) ∧ Hid (Kp [] w wr)) (fun x y _ _ => (intOf y).toNat - (intOf x).toNat)
  case atStart => exact ⟨m, b, Nat.le_refl _, by omega, Nat.le_refl _, rfl, rfl, ⟨fun z _ _ => by omega, fun q => by omega⟩, Kp.refl _ _⟩
  case round =>
    obtain ⟨i, j, hi, hij, hj, rfl, rfl, HV, HK⟩ := hrel
    by_cases hlt : i < j
    · have i1 : (i : Int) < (j : Int) := by omega
      obtain ⟨p, hp⟩ : ∃ p, (i + j) / 2 = p := ⟨_, rfl⟩
      have i2 : ((i : Int) + (j : Int)) / 2 = (p : Int) := by omega
      have i3 : (0 : Int) ≤ (p : Int) := by omega
      have i4 : (p : Int) < (n : Int) := by omega
      have i5 : (0 : Int) ≤ (a : Int) := by omega
      have i6 : (a : Int) < (n : Int) := by omega
      have i7 : i ≤ p := by omega
      have i8 : p < j := by omega
      clear hp
      have HR := hide ((unhide HR0).kp0 (unhide HK))
      have cX := (unhide HR).cells (i := p) (by omega)
      have cY := (unhide HR).cells (i := a) (by omega)
      obtain ⟨⟨⟨xn, xa, xm, xacts⟩, xp, xc⟩, hX⟩ : ∃ X, d p = X := ⟨_, rfl⟩
      obtain ⟨⟨⟨yn, ya, ym, yacts⟩, yp, yc⟩, hY⟩ : ∃ Y, d a = Y := ⟨_, rfl⟩
      rw [hX] at cX
      rw [hY] at cY
      have HX := hide hX
      have HY := hide hY
      clear hX hY
      obtain ⟨kx, hkx⟩ : ∃ k, key ⟨⟨xn, xa, xm, xacts⟩, xp, xc⟩ = k := ⟨_, rfl⟩
      obtain ⟨ky, hky⟩ : ∃ k, key ⟨⟨yn, ya, ym, yacts⟩, yp, yc⟩ = k := ⟨_, rfl⟩
      obtain ⟨lx, hlx⟩ : ∃ k, xacts.length = k := ⟨_, rfl⟩
      obtain ⟨ly, hly⟩ : ∃ k, yacts.length = k := ⟨_, rfl⟩
      have HCC : Hid (∀ W, Calls Try.prog f #[.agg #[.int .i64 xn, .int .i64 xa, .int .i64 xm, .slice xp lx xc], .agg #[.int .i64 yn, .int .i64 ya, .int .i64 ym, .slice yp ly yc]] W fun e w' => e = .returned (.int .i64 (cmpI kx ky)) ∧ Kp [] W w') := fun W => by
        have := (unhide HC).calls ⟨⟨xn, xa, xm, xacts⟩, xp, xc⟩ ⟨⟨yn, ya, ym, yacts⟩, yp, yc⟩ W
        rw [hkx, hky] at this
        dsimp only [dxv] at this
        rw [hlx, hly] at this
        exact this
      have HKX := hide hkx
      have HKY := hide hky
      clear hkx hky
      dsimp only at cX cY
      rw [hlx] at cX
      rw [hly] at cY
      have HLX := hide hlx
      have HLY := hide hly
      clear hlx hly
      have HS4 := hide (And.intro cX cY)
      clear cX cY
      go_wp2_with fail
      refine wp_region_held_drew (S := fun w' => (w'.cell? ⟨g, p * 4, none⟩ = some (.int .i64 xn) ∧ w'.cell? ⟨g, p * 4 + 1, none⟩ = some (.int .i64 xa) ∧ w'.cell? ⟨g, p * 4 + 1 + 1, none⟩ = some (.int .i64 xm) ∧ w'.cell? ⟨g, p * 4 + 1 + 1 + 1, none⟩ = some (.slice xp lx xc)) ∧ (w'.cell? ⟨g, a * 4, none⟩ = some (.int .i64 yn) ∧ w'.cell? ⟨g, a * 4 + 1, none⟩ = some (.int .i64 ya) ∧ w'.cell? ⟨g, a * 4 + 1 + 1, none⟩ = some (.int .i64 ym) ∧ w'.cell? ⟨g, a * 4 + 1 + 1 + 1, none⟩ = some (.slice yp ly yc))) (by kernel_rfl) (cells8_kp (unhide HS4) ((Kp.refl [] _).drew)) (fun hHeld => ?_)
      refine wpAnyH_tk (i := 0) (v := ?_) rfl (by kernel_rfl) (by kernel_rfl) (by kernel_rfl) (fun _ _ _ h => h) (Or.inl ⟨by rfl, ?_⟩) hHeld ?_
      rotate_left
      · intro w hSw
        try dsimp only at hSw
        go_simp
        try with_reducible rfl
      try simp only [Act.put, List.setIfInBounds_toArray, List.set_cons_zero, List.set_cons_succ]
      refine wpAnyH_tk (i := 1) (v := ?_) rfl (by kernel_rfl) (by kernel_rfl) (by kernel_rfl) (fun _ _ _ h => h) (Or.inl ⟨by rfl, ?_⟩) hHeld ?_
      rotate_left
      · intro w hSw
        try dsimp only at hSw
        go_simp
        try with_reducible rfl
      try simp only [Act.put, List.setIfInBounds_toArray, List.set_cons_zero, List.set_cons_succ]
      refine wpAnyH_tk (i := 2) (v := ?_) rfl (by kernel_rfl) (by kernel_rfl) (by kernel_rfl) (fun _ _ _ h => h) (Or.inl ⟨by rfl, ?_⟩) hHeld ?_
      rotate_left
      · intro w hSw
        try dsimp only at hSw
        go_simp
        try with_reducible rfl
      try simp only [Act.put, List.setIfInBounds_toArray, List.set_cons_zero, List.set_cons_succ]
      refine wpAnyH_tk (i := 3) (v := ?_) rfl (by kernel_rfl) (by kernel_rfl) (by kernel_rfl) (fun _ _ _ h => h) (Or.inl ⟨by rfl, ?_⟩) hHeld ?_
      rotate_left
      · intro w hSw
        try dsimp only at hSw
        go_simp
        try with_reducible rfl
      try simp only [Act.put, List.setIfInBounds_toArray, List.set_cons_zero, List.set_cons_succ]
      refine wpAnyH_tk (i := 4) (v := ?_) rfl (by kernel_rfl) (by kernel_rfl) (by kernel_rfl) (fun _ _ _ h => h) (Or.inl ⟨by rfl, ?_⟩) hHeld ?_
      rotate_left
      · intro w hSw
        try dsimp only at hSw
        go_simp
        try with_reducible rfl
      try simp only [Act.put, List.setIfInBounds_toArray, List.set_cons_zero, List.set_cons_succ]
      refine wpAnyH_tk (i := 5) (v := ?_) rfl (by kernel_rfl) (by kernel_rfl) (by kernel_rfl) (fun _ _ _ h => h) (Or.inl ⟨by rfl, ?_⟩) hHeld ?_
      rotate_left
      · intro w hSw
        try dsimp only at hSw
        go_simp
        try with_reducible rfl
      try simp only [Act.put, List.setIfInBounds_toArray, List.set_cons_zero, List.set_cons_succ]
      refine wpAnyH_tk (i := 6) (v := ?_) rfl (by kernel_rfl) (by kernel_rfl) (by kernel_rfl) (fun _ _ _ h => h) (Or.inl ⟨by rfl, ?_⟩) hHeld ?_
      rotate_left
      · intro w hSw
        try dsimp only at hSw
        go_simp
        try with_reducible rfl
      try simp only [Act.put, List.setIfInBounds_toArray, List.set_cons_zero, List.set_cons_succ]
      refine wpAnyH_tk (i := 7) (v := ?_) rfl (by kernel_rfl) (by kernel_rfl) (by kernel_rfl) (fun _ _ _ h => h) (Or.inl ⟨by rfl, ?_⟩) hHeld ?_
      rotate_left
      · intro w hSw
        try dsimp only at hSw
        go_simp
        try with_reducible rfl
      try simp only [Act.put, List.setIfInBounds_toArray, List.set_cons_zero, List.set_cons_succ]
      refine wpAnyH_tk (i := 8) (v := ?_) rfl (by kernel_rfl) (by kernel_rfl) (by kernel_rfl) (fun _ _ _ h => h) (Or.inl ⟨by rfl, ?_⟩) hHeld ?_
      rotate_left
      · intro w hSw
        try dsimp only at hSw
        go_simp
        try with_reducible rfl
      try simp only [Act.put, List.setIfInBounds_toArray, List.set_cons_zero, List.set_cons_succ]
      refine wpAnyH_only (i := 9) rfl (by kernel_rfl) (fun K hK => ?_)
      go_simp
      refine ((unhide HCC) _).mono ?_
      rintro e w' ⟨rfl, hkp⟩
      have HKP := hide hkp
      clear hkp
      go_wp2_with fail
      refine hK.out _ _ (cells8_kp (unhide HS4) (((Kp.refl [] _).drew).trans0 (unhide HKP))) (fun hHeld2 => ?_)
      clear hK K hHeld
      have hHeld := hHeld2
      clear hHeld2
      try simp only [Act.put, List.setIfInBounds_toArray, List.set_cons_zero, List.set_cons_succ]
      refine wpAnyH_tk (i := 10) (v := ?_) rfl (by kernel_rfl) (by kernel_rfl) (by kernel_rfl) (fun _ _ _ h => h) (Or.inl ⟨by rfl, ?_⟩) hHeld ?_
      rotate_left
      · intro w hSw
        try dsimp only at hSw
        go_simp
        try with_reducible rfl
      try simp only [Act.put, List.setIfInBounds_toArray, List.set_cons_zero, List.set_cons_succ]
      refine wpAnyH_done (by kernel_rfl) ?_ _
      have HW := hide ((unhide HK).trans0 ((Kp.refl [] wr).drew.trans0 (unhide HKP)))
      clear hHeld HR HKP HS4 HCC
      generalize w' = W at *
      by_cases hless : kx < ky
      · have i9 : cmpI kx ky < 0 := cmpI_neg.2 hless
        go_wp2_with fail
        go_roundw
        case measure => simp [intOf]; omega
        case rel =>
          refine ⟨p + 1, j, by omega, by omega, hj, by go_num, rfl, ⟨fun z q1 q2 => ?_, (unhide HV).2⟩, unhide HW⟩
          have hz := unhide HS2 z p q1 (by omega) (by omega)
          rw [unhide HX, unhide HKX] at hz
          rw [unhide HY, unhide HKY]
          omega
      · have i9 : ¬ cmpI kx ky < 0 := fun q => hless (cmpI_neg.1 q)
        go_wp2_with fail
        go_roundw
        case measure => simp [intOf]; omega
        case rel =>
          refine ⟨i, p, hi, by omega, by omega, rfl, rfl, ⟨(unhide HV).1, fun _ => ?_⟩, unhide HW⟩
          rw [unhide HX, unhide HKX, unhide HY, unhide HKY]
          omega
    · have hji : j = i := by omega
      subst hji
      have i1 : ¬ (j : Int) < (j : Int) := by omega
      have j1 : ((j : Int) - 1) = ((j - 1 : Nat) : Int) := by omega
      go_wp2_with fail
      have HRR := hide (show DRow wr g n (rot d a (a + 1) (a + 1)) ∧ Kp [g] w wr from ⟨by rw [rot_up0]; exact (unhide HR0).kp0 (unhide HK), (unhide HK).mono (T := [g]) (by simp)⟩)
      clear HK
      generalize wr = w5 at *
      go_loopw [13] (fun x wr => ∃ k : Nat, a ≤ k ∧ k + 1 ≤ j ∧ x = .int .i64 k ∧ Hid (DRow wr g n (rot d a (a + 1) (k + 1)) ∧ Kp [g] w wr)) (fun x _ => j - (intOf x).toNat)
      case atStart => exact ⟨a, Nat.le_refl _, by omega, rfl, HRR⟩
      case round =>
        obtain ⟨k, hk1, hk2, rfl, HI⟩ := hrel
        by_cases hlt2 : k + 1 < j
        · have i2 : (k : Int) < ((j - 1 : Nat) : Int) := by omega
          have i2' : (k : Int) < (j : Int) - 1 := by omega
          obtain ⟨hrow, hkp⟩ := unhide HI
          have hsw := hrow.swap2 (i := k) (j := (k + 1)) (by omega) (by omega) (by omega)
          obtain ⟨c0, c1, c2, c3⟩ := hrow.cells (i := k) (by omega)
          obtain ⟨e0, e1, e2, e3⟩ := hrow.cells (i := (k + 1)) (by omega)
          have hf := hrow.fz
          have HKP := hide hkp
          clear hkp hrow
          generalize hX : rot d a (a + 1) (k + 1) k = X at *
          generalize hY : rot d a (a + 1) (k + 1) (k + 1) = Y at *
          clear hX hY
          obtain ⟨⟨xn, xa, xm, xacts⟩, xp, xc⟩ := X
          obtain ⟨⟨yn, ya, ym, yacts⟩, yp, yc⟩ := Y
          dsimp only [put4] at c0 c1 c2 c3 e0 e1 e2 e3 hsw
          generalize xacts.length = lx at *
          generalize yacts.length = ly at *
          have hjp : (k + 1) ≠ k := by omega
          obtain ⟨n01, n02, n03, n10, n12, n13, n20, n21, n23, n30, n31, n32⟩ := off4 (k + 1) k hjp
          rw [rot_up d (by omega)] at hsw
          obtain ⟨q, hq⟩ : ∃ q, k + 1 = q := ⟨_, rfl⟩
          rw [hq] at hsw e0 e1 e2 e3 hjp n01 n02 n03 n10 n12 n13 n20 n21 n23 n30 n31 n32
          have HSW := hide hsw
          clear hsw
          have j3 : IntKind.i64.wrap ((k : Int) + 1) = (q : Int) := by rw [wrap_i64_id _ (by omega) (by omega)]; omega
          have j3' : (k : Int) + 1 = (q : Int) := by omega
          have j4 : (0 : Int) ≤ (k : Int) := by omega
          have j5 : (k : Int) < (n : Int) := by omega
          have j6 : (0 : Int) ≤ (q : Int) := by omega
          have j7 : (q : Int) < (n : Int) := by omega
          have HQ := hide hq
          clear hq
          go_wp2_with fail
          go_region
          go_wp2_with fail
          exact ⟨⟨k + 1, by omega, by omega, by have := unhide HQ; go_num, (unhide HSW).1.kp0 (Kp.refl [] _).drew, kp_g (unhide HKP) ((unhide HSW).2.drew)⟩, by have := unhide HQ; simp [intOf]; omega⟩
        · have i2 : ¬ (k : Int) < ((j - 1 : Nat) : Int) := by omega
          have i2' : ¬ (k : Int) < (j : Int) - 1 := by omega
          go_wp2_with fail
          go_end0
          obtain ⟨q1, q2⟩ := unhide HI
          rw [show k + 1 = j by omega] at q1
          have hm := unhide HM
          subst hm
          have hs := srt_first (key := key) (d := d) (a := a) (b := b) (i := j) (unhide HS2) ⟨hi, hj⟩ (unhide HV).1 (unhide HV).2
          exact ⟨rfl, _, q1, q2, hs.2, hs.1⟩
set_option maxHeartbeats 1000000 in
theorem sym2 {f : Nat} {key : Dx → Int} (hc : Cmp f key) (g n cap a m b : Nat) (d : Nat → Dx) (w : World) (h : DRow w g n d) (h1 : SrtOn key d a m) (h2 : SrtOn key d m b) (ham : a < m) (hmb : m < b) (hbn : b ≤ n) (hn : n ≤ 100000) (hm : b = m + 1) (hma : m ≠ a + 1) :
    Calls Try.prog 152 #[.slice (some ⟨g, 0, none⟩) n cap, .int .i64 a, .int .i64 m, .int .i64 b, .func (.func f) #[] #[]] w fun e w' => MgEnd key g n a b d w e w' := by
  have HC := hide hc
  have eg := hc.enters
  have HR0 := hide h
  have HS1 := hide h1
  have HS2 := hide h2
  clear h hc h1 h2
  have k1 : ((m : Int) - (a : Int) == 1) = false := beq_eq_false_iff_ne.2 (by omega)
  have k2 : (b : Int) - (m : Int) = 1 := by omega
  have HM := hide hm
  clear hm
  go_enter Try.func152, Try.ntmps152
  go_wp2_with fail
  go_loopw [14, 15, 16] (fun x y _ wr => ∃ i j : Nat, a ≤ i ∧ i ≤ j ∧ j ≤ m ∧ x = .int .i64 i ∧ y = .int .i64 j ∧ Hid ((∀ z, j ≤ z → z < m → key (d m) < key (d z)) ∧ (a < i → key (d (i - 1)) ≤ key (d m))) ∧ Hid (Kp [] w wr)) (fun x y _ _ => (intOf y).toNat - (intOf x).toNat)
  case atStart => exact ⟨a, m, Nat.le_refl _, by omega, Nat.le_refl _, rfl, rfl, ⟨fun z _ _ => by omega, fun q => by omega⟩, Kp.refl _ _⟩
  case round =>
    obtain ⟨i, j, hi, hij, hj, rfl, rfl, HV, HK⟩ := hrel
    by_cases hlt : i < j
    · have i1 : (i : Int) < (j : Int) := by omega
      obtain ⟨p, hp⟩ : ∃ p, (i + j) / 2 = p := ⟨_, rfl⟩
      have i2 : ((i : Int) + (j : Int)) / 2 = (p : Int) := by omega
      have i3 : (0 : Int) ≤ (p : Int) := by omega
      have i4 : (p : Int) < (n : Int) := by omega
      have i5 : (0 : Int) ≤ (m : Int) := by omega
      have i6 : (m : Int) < (n : Int) := by omega
      have i7 : i ≤ p := by omega
      have i8 : p < j := by omega
      clear hp
      have HR := hide ((unhide HR0).kp0 (unhide HK))
      have cX := (unhide HR).cells (i := m) (by omega)
      have cY := (unhide HR).cells (i := p) (by omega)
      obtain ⟨⟨⟨xn, xa, xm, xacts⟩, xp, xc⟩, hX⟩ : ∃ X, d m = X := ⟨_, rfl⟩
      obtain ⟨⟨⟨yn, ya, ym, yacts⟩, yp, yc⟩, hY⟩ : ∃ Y, d p = Y := ⟨_, rfl⟩
      rw [hX] at cX
      rw [hY] at cY
      have HX := hide hX
      have HY := hide hY
      clear hX hY
      obtain ⟨kx, hkx⟩ : ∃ k, key ⟨⟨xn, xa, xm, xacts⟩, xp, xc⟩ = k := ⟨_, rfl⟩
      obtain ⟨ky, hky⟩ : ∃ k, key ⟨⟨yn, ya, ym, yacts⟩, yp, yc⟩ = k := ⟨_, rfl⟩
      obtain ⟨lx, hlx⟩ : ∃ k, xacts.length = k := ⟨_, rfl⟩
      obtain ⟨ly, hly⟩ : ∃ k, yacts.length = k := ⟨_, rfl⟩
      have HCC : Hid (∀ W, Calls Try.prog f #[.agg #[.int .i64 xn, .int .i64 xa, .int .i64 xm, .slice xp lx xc], .agg #[.int .i64 yn, .int .i64 ya, .int .i64 ym, .slice yp ly yc]] W fun e w' => e = .returned (.int .i64 (cmpI kx ky)) ∧ Kp [] W w') := fun W => by
        have := (unhide HC).calls ⟨⟨xn, xa, xm, xacts⟩, xp, xc⟩ ⟨⟨yn, ya, ym, yacts⟩, yp, yc⟩ W
        rw [hkx, hky] at this
        dsimp only [dxv] at this
        rw [hlx, hly] at this
        exact this
      have HKX := hide hkx
      have HKY := hide hky
      clear hkx hky
      dsimp only at cX cY
      rw [hlx] at cX
      rw [hly] at cY
      have HLX := hide hlx
      have HLY := hide hly
      clear hlx hly
      have HS4 := hide (And.intro cX cY)
      clear cX cY
      go_wp2_with fail
      refine wp_region_held_drew (S := fun w' => (w'.cell? ⟨g, m * 4, none⟩ = some (.int .i64 xn) ∧ w'.cell? ⟨g, m * 4 + 1, none⟩ = some (.int .i64 xa) ∧ w'.cell? ⟨g, m * 4 + 1 + 1, none⟩ = some (.int .i64 xm) ∧ w'.cell? ⟨g, m * 4 + 1 + 1 + 1, none⟩ = some (.slice xp lx xc)) ∧ (w'.cell? ⟨g, p * 4, none⟩ = some (.int .i64 yn) ∧ w'.cell? ⟨g, p * 4 + 1, none⟩ = some (.int .i64 ya) ∧ w'.cell? ⟨g, p * 4 + 1 + 1, none⟩ = some (.int .i64 ym) ∧ w'.cell? ⟨g, p * 4 + 1 + 1 + 1, none⟩ = some (.slice yp ly yc))) (by kernel_rfl) (cells8_kp (unhide HS4) ((Kp.refl [] _).drew)) (fun hHeld => ?_)
      refine wpAnyH_tk (i := 0) (v := ?_) rfl (by kernel_rfl) (by kernel_rfl) (by kernel_rfl) (fun _ _ _ h => h) (Or.inl ⟨by rfl, ?_⟩) hHeld ?_
      rotate_left
      · intro w hSw
        try dsimp only at hSw
        go_simp
        try with_reducible rfl
      try simp only [Act.put, List.setIfInBounds_toArray, List.set_cons_zero, List.set_cons_succ]
      refine wpAnyH_tk (i := 1) (v := ?_) rfl (by kernel_rfl) (by kernel_rfl) (by kernel_rfl) (fun _ _ _ h => h) (Or.inl ⟨by rfl, ?_⟩) hHeld ?_
      rotate_left
      · intro w hSw
        try dsimp only at hSw
        go_simp
        try with_reducible rfl
      try simp only [Act.put, List.setIfInBounds_toArray, List.set_cons_zero, List.set_cons_succ]
      refine wpAnyH_tk (i := 2) (v := ?_) rfl (by kernel_rfl) (by kernel_rfl) (by kernel_rfl) (fun _ _ _ h => h) (Or.inl ⟨by rfl, ?_⟩) hHeld ?_
      rotate_left
      · intro w hSw
        try dsimp only at hSw
        go_simp
        try with_reducible rfl
      try simp only [Act.put, List.setIfInBounds_toArray, List.set_cons_zero, List.set_cons_succ]
      refine wpAnyH_tk (i := 3) (v := ?_) rfl (by kernel_rfl) (by kernel_rfl) (by kernel_rfl) (fun _ _ _ h => h) (Or.inl ⟨by rfl, ?_⟩) hHeld ?_
      rotate_left
      · intro w hSw
        try dsimp only at hSw
        go_simp
        try with_reducible rfl
      try simp only [Act.put, List.setIfInBounds_toArray, List.set_cons_zero, List.set_cons_succ]
      refine wpAnyH_tk (i := 4) (v := ?_) rfl (by kernel_rfl) (by kernel_rfl) (by kernel_rfl) (fun _ _ _ h => h) (Or.inl ⟨by rfl, ?_⟩) hHeld ?_
      rotate_left
      · intro w hSw
        try dsimp only at hSw
        go_simp
        try with_reducible rfl
      try simp only [Act.put, List.setIfInBounds_toArray, List.set_cons_zero, List.set_cons_succ]
      refine wpAnyH_tk (i := 5) (v := ?_) rfl (by kernel_rfl) (by kernel_rfl) (by kernel_rfl) (fun _ _ _ h => h) (Or.inl ⟨by rfl, ?_⟩) hHeld ?_
      rotate_left
      · intro w hSw
        try dsimp only at hSw
        go_simp
        try with_reducible rfl
      try simp only [Act.put, List.setIfInBounds_toArray, List.set_cons_zero, List.set_cons_succ]
      refine wpAnyH_tk (i := 6) (v := ?_) rfl (by kernel_rfl) (by kernel_rfl) (by kernel_rfl) (fun _ _ _ h => h) (Or.inl ⟨by rfl, ?_⟩) hHeld ?_
      rotate_left
      · intro w hSw
        try dsimp only at hSw
        go_simp
        try with_reducible rfl
      try simp only [Act.put, List.setIfInBounds_toArray, List.set_cons_zero, List.set_cons_succ]
      refine wpAnyH_tk (i := 7) (v := ?_) rfl (by kernel_rfl) (by kernel_rfl) (by kernel_rfl) (fun _ _ _ h => h) (Or.inl ⟨by rfl, ?_⟩) hHeld ?_
      rotate_left
      · intro w hSw
        try dsimp only at hSw
        go_simp
        try with_reducible rfl
      try simp only [Act.put, List.setIfInBounds_toArray, List.set_cons_zero, List.set_cons_succ]
      refine wpAnyH_tk (i := 8) (v := ?_) rfl (by kernel_rfl) (by kernel_rfl) (by kernel_rfl) (fun _ _ _ h => h) (Or.inl ⟨by rfl, ?_⟩) hHeld ?_
      rotate_left
      · intro w hSw
        try dsimp only at hSw
        go_simp
        try with_reducible rfl
      try simp only [Act.put, List.setIfInBounds_toArray, List.set_cons_zero, List.set_cons_succ]
      refine wpAnyH_only (i := 9) rfl (by kernel_rfl) (fun K hK => ?_)
      go_simp
      refine ((unhide HCC) _).mono ?_
      rintro e w' ⟨rfl, hkp⟩
      have HKP := hide hkp
      clear hkp
      go_wp2_with fail
      refine hK.out _ _ (cells8_kp (unhide HS4) (((Kp.refl [] _).drew).trans0 (unhide HKP))) (fun hHeld2 => ?_)
      clear hK K hHeld
      have hHeld := hHeld2
      clear hHeld2
      try simp only [Act.put, List.setIfInBounds_toArray, List.set_cons_zero, List.set_cons_succ]
      refine wpAnyH_tk (i := 10) (v := ?_) rfl (by kernel_rfl) (by kernel_rfl) (by kernel_rfl) (fun _ _ _ h => h) (Or.inl ⟨by rfl, ?_⟩) hHeld ?_
      rotate_left
      · intro w hSw
        try dsimp only at hSw
        go_simp
        try with_reducible rfl
      try simp only [Act.put, List.setIfInBounds_toArray, List.set_cons_zero, List.set_cons_succ]
      refine wpAnyH_tk (i := 11) (v := ?_) rfl (by kernel_rfl) (by kernel_rfl) (by kernel_rfl) (fun _ _ _ h => h) (Or.inl ⟨by rfl, ?_⟩) hHeld ?_
      rotate_left
      · intro w hSw
        try dsimp only at hSw
        go_simp
        try with_reducible rfl
      try simp only [Act.put, List.setIfInBounds_toArray, List.set_cons_zero, List.set_cons_succ]
      refine wpAnyH_done (by kernel_rfl) ?_ _
      have HW := hide ((unhide HK).trans0 ((Kp.refl [] wr).drew.trans0 (unhide HKP)))
      clear hHeld HR HKP HS4 HCC
      generalize w' = W at *
      by_cases hless : kx < ky
      · have i9 : cmpI kx ky < 0 := cmpI_neg.2 hless
        have i9a : decide (cmpI kx ky < 0) = true := decide_eq_true i9
        have i9b : (!decide (cmpI kx ky < 0)) = false := by rw [i9a]; rfl
        rw [i9b]
        go_wp2_with fail
        go_roundw
        case measure => simp [intOf]; omega
        case rel =>
          refine ⟨i, p, hi, by omega, by omega, rfl, rfl, ⟨fun z q1 q2 => ?_, (unhide HV).2⟩, unhide HW⟩
          have hz := unhide HS1 p z (by omega) q1 q2
          rw [unhide HY, unhide HKY] at hz
          rw [unhide HX, unhide HKX]
          omega
      · have i9 : ¬ cmpI kx ky < 0 := fun q => hless (cmpI_neg.1 q)
        have i9a : decide (cmpI kx ky < 0) = false := decide_eq_false i9
        have i9b : (!decide (cmpI kx ky < 0)) = true := by rw [i9a]; rfl
        rw [i9b]
        go_wp2_with fail
        go_roundw
        case measure => simp [intOf]; omega
        case rel =>
          refine ⟨p + 1, j, by omega, by omega, hj, by go_num, rfl, ⟨(unhide HV).1, fun _ => ?_⟩, unhide HW⟩
          rw [show p + 1 - 1 = p by omega, unhide HX, unhide HKX, unhide HY, unhide HKY]
          omega
    · have hji : j = i := by omega
      subst hji
      have i1 : ¬ (j : Int) < (j : Int) := by omega
      go_wp2_with fail
      have HRR := hide (show DRow wr g n (rot d m m (m + 1)) ∧ Kp [g] w wr from ⟨by rw [rot_down0]; exact (unhide HR0).kp0 (unhide HK), (unhide HK).mono (T := [g]) (by simp)⟩)
      clear HK
      generalize wr = w5 at *
      go_loopw [17] (fun x wr => ∃ k : Nat, j ≤ k ∧ k ≤ m ∧ x = .int .i64 k ∧ Hid (DRow wr g n (rot d k m (m + 1)) ∧ Kp [g] w wr)) (fun x _ => (intOf x).toNat)
      case atStart => exact ⟨m, by omega, Nat.le_refl _, rfl, HRR⟩
      case round =>
        obtain ⟨k, hk1, hk2, rfl, HI⟩ := hrel
        by_cases hlt2 : j < k
        · have i2 : (j : Int) < (k : Int) := by omega
          obtain ⟨q, hq⟩ : ∃ q, k = q + 1 := ⟨k - 1, by omega⟩
          have HQ := hide hq
          obtain ⟨hrow, hkp⟩ := unhide HI
          have hsw := hrow.swap2 (i := k) (j := q) (by omega) (by omega) (by omega)
          obtain ⟨c0, c1, c2, c3⟩ := hrow.cells (i := k) (by omega)
          obtain ⟨e0, e1, e2, e3⟩ := hrow.cells (i := q) (by omega)
          have hf := hrow.fz
          have HKP := hide hkp
          clear hkp hrow
          generalize hX : rot d k m (m + 1) k = X at *
          generalize hY : rot d k m (m + 1) q = Y at *
          clear hX hY
          obtain ⟨⟨xn, xa, xm, xacts⟩, xp, xc⟩ := X
          obtain ⟨⟨yn, ya, ym, yacts⟩, yp, yc⟩ := Y
          dsimp only [put4] at c0 c1 c2 c3 e0 e1 e2 e3 hsw
          generalize xacts.length = lx at *
          generalize yacts.length = ly at *
          have hjp : q ≠ k := by omega
          obtain ⟨n01, n02, n03, n10, n12, n13, n20, n21, n23, n30, n31, n32⟩ := off4 q k hjp
          have hrd := rot_down d (m := m) (k := q) (by omega)
          rw [← hq] at hrd
          rw [hrd] at hsw
          have HSW := hide hsw
          clear hsw hrd
          have j3 : IntKind.i64.wrap ((k : Int) - 1) = (q : Int) := by rw [wrap_i64_id _ (by omega) (by omega)]; omega
          have j3' : (k : Int) - 1 = (q : Int) := by omega
          have j4 : (0 : Int) ≤ (k : Int) := by omega
          have j5 : (k : Int) < (n : Int) := by omega
          have j6 : (0 : Int) ≤ (q : Int) := by omega
          have j7 : (q : Int) < (n : Int) := by omega
          clear hq
          go_wp2_with fail
          go_region
          go_wp2_with fail
          exact ⟨⟨q, by have := unhide HQ; omega, by have := unhide HQ; omega, by go_num, (unhide HSW).1.kp0 (Kp.refl [] _).drew, kp_g (unhide HKP) ((unhide HSW).2.drew)⟩, by have := unhide HQ; simp [intOf]; omega⟩
        · have i2 : ¬ (j : Int) < (k : Int) := by omega
          go_wp2_with fail
          go_end0
          obtain ⟨q1, q2⟩ := unhide HI
          rw [show k = j by omega] at q1
          have hm := unhide HM
          subst hm
          have hs := srt_ins (key := key) (d := d) (a := a) (i := m) (j := j) (unhide HS1) ⟨hi, hj⟩ (unhide HV).1 (unhide HV).2
          exact ⟨rfl, _, q1, q2, hs.2, hs.1⟩
end Go.Proofs.Ytliopckocegknac

/- The library's stable sort, by contracts: two sorted parts become one, whatever they are. -/
namespace Go.Proofs.Ytliopckocegknac
open Go.RowKit Srt
set_option maxRecDepth 20000
attribute [local go_sem ↓] Go.wp_at_zero Go.wp_at_succ

/-- What is so of two parts that were cut. -/
def Cutd (key : Dx → Int) (d e : Nat → Dx) (a s mid en b : Nat) : Prop := SrtOn key e a s ∧ SrtOn key e s mid ∧ SrtOn key e mid en ∧ SrtOn key e en b ∧ Stb key a b d e ∧ ∀ x y, a ≤ x → x < mid → mid ≤ y → y < b → key (e x) ≤ key (e y)
section
variable {key : Dx → Int} {d e g' f' : Nat → Dx} {a s mid en b : Nat}
theorem Cutd.fin (h : Cutd key d e a s mid en b) (ha : a ≤ mid) (hb : mid ≤ b) (h1 : Stb key a mid e g' ∧ SrtOn key g' a mid) (h2 : Stb key mid b g' f' ∧ SrtOn key f' mid b) : Stb key a b d f' ∧ SrtOn key f' a b :=
  ⟨(h.2.2.2.2.1.trans (h1.1.wide (Nat.le_refl _) ha hb)).trans (h2.1.wide ha hb (Nat.le_refl _)), srt_join ha hb h.2.2.2.2.2 h1.1 h2.1 h1.2 h2.2⟩
theorem Cutd.noL (h : Cutd key d e a s mid en b) (hs : a = s ∨ s = mid) : Stb key a mid e e ∧ SrtOn key e a mid := by
  refine ⟨Stb.refl _ _ _ _, ?_⟩
  rcases hs with q | q
  · rw [q]; exact h.2.1
  · rw [← q]; exact h.1
theorem Cutd.noR (h : Cutd key d e a s mid en b) (h1 : Stb key a mid e g' ∧ SrtOn key g' a mid) (hs : mid = en ∨ en = b) : Stb key mid b g' g' ∧ SrtOn key g' mid b := by
  refine ⟨Stb.refl _ _ _ _, ?_⟩
  have : SrtOn key e mid b := by
    rcases hs with q | q
    · rw [q]; exact h.2.2.2.1
    · rw [← q]; exact h.2.2.1
  exact this.congr (fun x q _ => h1.1.out x (by omega))
theorem Cutd.preR (h : Cutd key d e a s mid en b) (hme : mid ≤ en) (h1 : Stb key a mid e g' ∧ SrtOn key g' a mid) : SrtOn key g' mid en ∧ SrtOn key g' en b :=
  ⟨h.2.2.1.congr (fun x q _ => h1.1.out x (by omega)), h.2.2.2.1.congr (fun x q _ => h1.1.out x (by omega))⟩
end
set_option maxHeartbeats 1000000 in
theorem sym3 {f : Nat} {key : Dx → Int} (hc : Cmp f key) (g n cap a m b : Nat) (d : Nat → Dx) (w : World) (h : DRow w g n d) (h1 : SrtOn key d a m) (h2 : SrtOn key d m b) (ham : a < m) (hmb : m < b) (hbn : b ≤ n) (hn : n ≤ 100000) (hma : m ≠ a + 1) (hbm : b ≠ m + 1)
    (ih : ∀ (a' m' b' : Nat) (d' : Nat → Dx) (w' : World), b' - a' < b - a → DRow w' g n d' → SrtOn key d' a' m' → SrtOn key d' m' b' → a' < m' → m' < b' → b' ≤ n → Calls Try.prog 152 #[.slice (some ⟨g, 0, none⟩) n cap, .int .i64 a', .int .i64 m', .int .i64 b', .func (.func f) #[] #[]] w' fun e w'' => MgEnd key g n a' b' d' w' e w'') :
    Calls Try.prog 152 #[.slice (some ⟨g, 0, none⟩) n cap, .int .i64 a, .int .i64 m, .int .i64 b, .func (.func f) #[] #[]] w fun e w' => MgEnd key g n a b d w e w' := by
  have HC := hide hc
  have eg := hc.enters
  have HR0 := hide h
  have HS1 := hide h1
  have HS2 := hide h2
  clear h hc h1 h2
  have IH := hide ih
  clear ih
  have k1 : ((m : Int) - (a : Int) == 1) = false := beq_eq_false_iff_ne.2 (by omega)
  have k2 : ((b : Int) - (m : Int) == 1) = false := beq_eq_false_iff_ne.2 (by omega)
  obtain ⟨mid, hmid⟩ : ∃ mid, (a + b) / 2 = mid := ⟨_, rfl⟩
  have k3 : ((a : Int) + (b : Int)) / 2 = (mid : Int) := by omega
  have m1 : 2 * mid ≤ a + b := by omega
  have m2 : a + b ≤ 2 * mid + 1 := by omega
  clear hmid
  obtain ⟨q, hq⟩ : ∃ q, mid + m = q := ⟨_, rfl⟩
  have k4 : (mid : Int) + (m : Int) = (q : Int) := by omega
  obtain ⟨qp, hqp⟩ : ∃ qp, q - 1 = qp := ⟨_, rfl⟩
  have k5 : (q : Int) - 1 = (qp : Int) := by omega
  by_cases hM : mid < m
  · have k6 : (mid : Int) < (m : Int) := by omega
    obtain ⟨s0, hs0⟩ : ∃ s0, q - b = s0 := ⟨_, rfl⟩
    have k7 : (q : Int) - (b : Int) = (s0 : Int) := by omega
    go_enter Try.func152, Try.ntmps152
    go_wp2_with fail
    go_loopw [20, 21, 23] (fun x y _ wr => ∃ i j : Nat, s0 ≤ i ∧ i ≤ j ∧ j ≤ mid ∧ x = .int .i64 i ∧ y = .int .i64 j ∧ Hid ((j < mid → key (d (q - 1 - j)) < key (d j)) ∧ (s0 < i → key (d (i - 1)) ≤ key (d (q - i)))) ∧ Hid (Kp [] w wr)) (fun x y _ _ => (intOf y).toNat - (intOf x).toNat)
    case atStart => exact ⟨s0, mid, Nat.le_refl _, by omega, Nat.le_refl _, by first | rfl | go_num, by first | rfl | go_num, ⟨fun z => by omega, fun z => by omega⟩, Kp.refl _ _⟩
    case round =>
      obtain ⟨i, j, hi, hij, hj, rfl, rfl, HV, HK⟩ := hrel
      by_cases hlt : i < j
      · have i1 : (i : Int) < (j : Int) := by omega
        obtain ⟨c, hcc⟩ : ∃ c, (i + j) / 2 = c := ⟨_, rfl⟩
        have i2 : ((i : Int) + (j : Int)) / 2 = (c : Int) := by omega
        have i3 : (0 : Int) ≤ (c : Int) := by omega
        have i4 : (c : Int) < (n : Int) := by omega
        have i7 : i ≤ c := by omega
        have i8 : c < j := by omega
        clear hcc
        obtain ⟨pc, hpc⟩ : ∃ pc, q - 1 - c = pc := ⟨_, rfl⟩
        have i5 : (0 : Int) ≤ (pc : Int) := by omega
        have i6 : (pc : Int) < (n : Int) := by omega
        have j1 : IntKind.i64.wrap ((qp : Int) - (c : Int)) = (pc : Int) := by rw [wrap_i64_id _ (by omega) (by omega)]; omega
        have HPC := hide hpc
        clear hpc
        have HR := hide ((unhide HR0).kp0 (unhide HK))
        have cX := (unhide HR).cells (i := pc) (by omega)
        have cY := (unhide HR).cells (i := c) (by omega)
        obtain ⟨⟨⟨xn, xa, xm, xacts⟩, xp, xc⟩, hX⟩ : ∃ X, d pc = X := ⟨_, rfl⟩
        obtain ⟨⟨⟨yn, ya, ym, yacts⟩, yp, yc⟩, hY⟩ : ∃ Y, d c = Y := ⟨_, rfl⟩
        rw [hX] at cX
        rw [hY] at cY
        have HX := hide hX
        have HY := hide hY
        clear hX hY
        obtain ⟨kx, hkx⟩ : ∃ k, key ⟨⟨xn, xa, xm, xacts⟩, xp, xc⟩ = k := ⟨_, rfl⟩
        obtain ⟨ky, hky⟩ : ∃ k, key ⟨⟨yn, ya, ym, yacts⟩, yp, yc⟩ = k := ⟨_, rfl⟩
        obtain ⟨lx, hlx⟩ : ∃ k, xacts.length = k := ⟨_, rfl⟩
        obtain ⟨ly, hly⟩ : ∃ k, yacts.length = k := ⟨_, rfl⟩
        have HCC : Hid (∀ W, Calls Try.prog f #[.agg #[.int .i64 xn, .int .i64 xa, .int .i64 xm, .slice xp lx xc], .agg #[.int .i64 yn, .int .i64 ya, .int .i64 ym, .slice yp ly yc]] W fun e w' => e = .returned (.int .i64 (cmpI kx ky)) ∧ Kp [] W w') := fun W => by
          have := (unhide HC).calls ⟨⟨xn, xa, xm, xacts⟩, xp, xc⟩ ⟨⟨yn, ya, ym, yacts⟩, yp, yc⟩ W
          rw [hkx, hky] at this
          dsimp only [dxv] at this
          rw [hlx, hly] at this
          exact this
        have HKX := hide hkx
        have HKY := hide hky
        clear hkx hky
        dsimp only at cX cY
        rw [hlx] at cX
        rw [hly] at cY
        have HLX := hide hlx
        have HLY := hide hly
        clear hlx hly
        have HS4 := hide (And.intro cX cY)
        clear cX cY
        go_wp2_with fail
        refine wp_region_held_drew (S := fun w' => (w'.cell? ⟨g, pc * 4, none⟩ = some (.int .i64 xn) ∧ w'.cell? ⟨g, pc * 4 + 1, none⟩ = some (.int .i64 xa) ∧ w'.cell? ⟨g, pc * 4 + 1 + 1, none⟩ = some (.int .i64 xm) ∧ w'.cell? ⟨g, pc * 4 + 1 + 1 + 1, none⟩ = some (.slice xp lx xc)) ∧ (w'.cell? ⟨g, c * 4, none⟩ = some (.int .i64 yn) ∧ w'.cell? ⟨g, c * 4 + 1, none⟩ = some (.int .i64 ya) ∧ w'.cell? ⟨g, c * 4 + 1 + 1, none⟩ = some (.int .i64 ym) ∧ w'.cell? ⟨g, c * 4 + 1 + 1 + 1, none⟩ = some (.slice yp ly yc))) (by kernel_rfl) (cells8_kp (unhide HS4) ((Kp.refl [] _).drew)) (fun hHeld => ?_)
        refine wpAnyH_tk (i := 0) (v := ?_) rfl (by kernel_rfl) (by kernel_rfl) (by kernel_rfl) (fun _ _ _ h => h) (Or.inl ⟨by rfl, ?_⟩) hHeld ?_
        rotate_left
        · intro w hSw
          try dsimp only at hSw
          go_simp
          try with_reducible rfl
        try simp only [Act.put, List.setIfInBounds_toArray, List.set_cons_zero, List.set_cons_succ]
        refine wpAnyH_tk (i := 1) (v := ?_) rfl (by kernel_rfl) (by kernel_rfl) (by kernel_rfl) (fun _ _ _ h => h) (Or.inl ⟨by rfl, ?_⟩) hHeld ?_
        rotate_left
        · intro w hSw
          try dsimp only at hSw
          go_simp
          try with_reducible rfl
        try simp only [Act.put, List.setIfInBounds_toArray, List.set_cons_zero, List.set_cons_succ]
        refine wpAnyH_tk (i := 2) (v := ?_) rfl (by kernel_rfl) (by kernel_rfl) (by kernel_rfl) (fun _ _ _ h => h) (Or.inl ⟨by rfl, ?_⟩) hHeld ?_
        rotate_left
        · intro w hSw
          try dsimp only at hSw
          go_simp
          try with_reducible rfl
        try simp only [Act.put, List.setIfInBounds_toArray, List.set_cons_zero, List.set_cons_succ]
        refine wpAnyH_tk (i := 3) (v := ?_) rfl (by kernel_rfl) (by kernel_rfl) (by kernel_rfl) (fun _ _ _ h => h) (Or.inl ⟨by rfl, ?_⟩) hHeld ?_
        rotate_left
        · intro w hSw
          try dsimp only at hSw
          go_simp
          try with_reducible rfl
        try simp only [Act.put, List.setIfInBounds_toArray, List.set_cons_zero, List.set_cons_succ]
        refine wpAnyH_tk (i := 4) (v := ?_) rfl (by kernel_rfl) (by kernel_rfl) (by kernel_rfl) (fun _ _ _ h => h) (Or.inl ⟨by rfl, ?_⟩) hHeld ?_
        rotate_left
        · intro w hSw
          try dsimp only at hSw
          go_simp
          try with_reducible rfl
        try simp only [Act.put, List.setIfInBounds_toArray, List.set_cons_zero, List.set_cons_succ]
        refine wpAnyH_tk (i := 5) (v := ?_) rfl (by kernel_rfl) (by kernel_rfl) (by kernel_rfl) (fun _ _ _ h => h) (Or.inl ⟨by rfl, ?_⟩) hHeld ?_
        rotate_left
        · intro w hSw
          try dsimp only at hSw
          go_simp
          try with_reducible rfl
        try simp only [Act.put, List.setIfInBounds_toArray, List.set_cons_zero, List.set_cons_succ]
        refine wpAnyH_tk (i := 6) (v := ?_) rfl (by kernel_rfl) (by kernel_rfl) (by kernel_rfl) (fun _ _ _ h => h) (Or.inl ⟨by rfl, ?_⟩) hHeld ?_
        rotate_left
        · intro w hSw
          try dsimp only at hSw
          go_simp
          try with_reducible rfl
        try simp only [Act.put, List.setIfInBounds_toArray, List.set_cons_zero, List.set_cons_succ]
        refine wpAnyH_tk (i := 7) (v := ?_) rfl (by kernel_rfl) (by kernel_rfl) (by kernel_rfl) (fun _ _ _ h => h) (Or.inl ⟨by rfl, ?_⟩) hHeld ?_
        rotate_left
        · intro w hSw
          try dsimp only at hSw
          go_simp
          try with_reducible rfl
        try simp only [Act.put, List.setIfInBounds_toArray, List.set_cons_zero, List.set_cons_succ]
        refine wpAnyH_tk (i := 8) (v := ?_) rfl (by kernel_rfl) (by kernel_rfl) (by kernel_rfl) (fun _ _ _ h => h) (Or.inl ⟨by rfl, ?_⟩) hHeld ?_
        rotate_left
        · intro w hSw
          try dsimp only at hSw
          go_simp
          try with_reducible rfl
        try simp only [Act.put, List.setIfInBounds_toArray, List.set_cons_zero, List.set_cons_succ]
        refine wpAnyH_tk (i := 9) (v := ?_) rfl (by kernel_rfl) (by kernel_rfl) (by kernel_rfl) (fun _ _ _ h => h) (Or.inl ⟨by rfl, ?_⟩) hHeld ?_
        rotate_left
        · intro w hSw
          try dsimp only at hSw
          go_simp
          try with_reducible rfl
        try simp only [Act.put, List.setIfInBounds_toArray, List.set_cons_zero, List.set_cons_succ]
        refine wpAnyH_tk (i := 10) (v := ?_) rfl (by kernel_rfl) (by kernel_rfl) (by kernel_rfl) (fun _ _ _ h => h) (Or.inl ⟨by rfl, ?_⟩) hHeld ?_
        rotate_left
        · intro w hSw
          try dsimp only at hSw
          go_simp
          try with_reducible rfl
        try simp only [Act.put, List.setIfInBounds_toArray, List.set_cons_zero, List.set_cons_succ]
        refine wpAnyH_only (i := 11) rfl (by kernel_rfl) (fun K hK => ?_)
        go_simp
        refine ((unhide HCC) _).mono ?_
        rintro e w' ⟨rfl, hkp⟩
        have HKP := hide hkp
        clear hkp
        go_wp2_with fail
        refine hK.out _ _ (cells8_kp (unhide HS4) (((Kp.refl [] _).drew).trans0 (unhide HKP))) (fun hHeld2 => ?_)
        clear hK K hHeld
        have hHeld := hHeld2
        clear hHeld2
        try simp only [Act.put, List.setIfInBounds_toArray, List.set_cons_zero, List.set_cons_succ]
        refine wpAnyH_tk (i := 12) (v := ?_) rfl (by kernel_rfl) (by kernel_rfl) (by kernel_rfl) (fun _ _ _ h => h) (Or.inl ⟨by rfl, ?_⟩) hHeld ?_
        rotate_left
        · intro w hSw
          try dsimp only at hSw
          go_simp
          try with_reducible rfl
        try simp only [Act.put, List.setIfInBounds_toArray, List.set_cons_zero, List.set_cons_succ]
        refine wpAnyH_tk (i := 13) (v := ?_) rfl (by kernel_rfl) (by kernel_rfl) (by kernel_rfl) (fun _ _ _ h => h) (Or.inl ⟨by rfl, ?_⟩) hHeld ?_
        rotate_left
        · intro w hSw
          try dsimp only at hSw
          go_simp
          try with_reducible rfl
        try simp only [Act.put, List.setIfInBounds_toArray, List.set_cons_zero, List.set_cons_succ]
        refine wpAnyH_done (by kernel_rfl) ?_ _
        have HW := hide ((unhide HK).trans0 ((Kp.refl [] wr).drew.trans0 (unhide HKP)))
        clear hHeld HR HKP HS4 HCC
        generalize w' = W at *
        by_cases hless : kx < ky
        · have i9 : cmpI kx ky < 0 := cmpI_neg.2 hless
          have i9a : decide (cmpI kx ky < 0) = true := decide_eq_true i9
          have i9b : (!decide (cmpI kx ky < 0)) = false := by rw [i9a]; rfl
          rw [i9b]
          go_wp2_with fail
          go_roundw
          case measure => simp [intOf]; omega
          case rel =>
            refine ⟨i, c, hi, by omega, by omega, rfl, rfl, ⟨fun _ => ?_, (unhide HV).2⟩, unhide HW⟩
            rw [unhide HPC, unhide HX, unhide HKX, unhide HY, unhide HKY]
            exact hless
        · have i9 : ¬ cmpI kx ky < 0 := fun q => hless (cmpI_neg.1 q)
          have i9a : decide (cmpI kx ky < 0) = false := decide_eq_false i9
          have i9b : (!decide (cmpI kx ky < 0)) = true := by rw [i9a]; rfl
          rw [i9b]
          go_wp2_with fail
          go_roundw
          case measure => simp [intOf]; omega
          case rel =>
            refine ⟨c + 1, j, by omega, by omega, hj, by go_num, rfl, ⟨(unhide HV).1, fun _ => ?_⟩, unhide HW⟩
            rw [show c + 1 - 1 = c by omega, show q - (c + 1) = q - 1 - c by omega, unhide HPC, unhide HX, unhide HKX, unhide HY, unhide HKY]
            omega
      · have hji : j = i := by omega
        subst hji
        have i1 : ¬ (j : Int) < (j : Int) := by omega
        obtain ⟨en, hen⟩ : ∃ en, q - j = en := ⟨_, rfl⟩
        have HCUT := hide (show Cutd key d (rot d j m en) a j mid en b from srt_cut (by omega) (by omega) (by omega) (by omega) (by omega) (unhide HS1) (unhide HS2) (fun z1 z2 => by have z := (unhide HV).1 (by omega); rw [show q - 1 - j = en - 1 by omega] at z; exact z) (fun z1 z2 => by have z := (unhide HV).2 (by omega); rw [show q - j = en by omega] at z; exact z))
        have HR := hide ((unhide HR0).kp0 (unhide HK))
        have HKg := hide ((unhide HK).mono (T := [g]) (by simp))
        clear HK HV HR0 HS1 HS2
        have HK := HKg
        clear HKg
        have j2 : (q : Int) - (j : Int) = (en : Int) := by omega
        have e1 : j ≤ mid := by omega
        have e2 : mid + m = j + en := by omega
        clear hen
        generalize j = s at *
        by_cases c1 : s < mid
        · by_cases c2 : a < s
          · by_cases c3 : en < b
            · skip
              have fsm : (s : Int) < (m : Int) := by omega
              have fme : (m : Int) < (en : Int) := by omega
              have fas : (a : Int) < (s : Int) := by omega
              have fsd : (s : Int) < (mid : Int) := by omega
              have fde : (mid : Int) < (en : Int) := by omega
              have feb : (en : Int) < (b : Int) := by omega
              have HC1 := hide (rotate f g n cap s m en d wr (unhide HR) (by omega) (by omega) (by omega) hn)
              clear HR
              go_wp2_with fail
              refine (unhide HC1).mono ?_
              rintro e w2 ⟨rfl, r1, r2⟩
              have HE := hide r1
              have HK2 := hide (kp_g (unhide HK) r2)
              clear r1 r2 HK
              have HC2 := hide ((unhide IH) a s mid (rot d s m en) w2 (by omega) (unhide HE) (unhide HCUT).1 (unhide HCUT).2.1 (by omega) (by omega) (by omega))
              go_wp2_with fail
              refine (unhide HC2).mono ?_
              rintro e w3 ⟨rfl, g', r1, r2, r3, r4⟩
              have HE3 := hide r1
              have HK3 := hide (kp_g (unhide HK2) r2)
              have HL := hide (And.intro r3 r4)
              clear r1 r2 r3 r4 HE HK2
              have HPR := hide ((unhide HCUT).preR (by omega) (unhide HL))
              have HC3 := hide ((unhide IH) mid en b g' w3 (by omega) (unhide HE3) (unhide HPR).1 (unhide HPR).2 (by omega) (by omega) (by omega))
              go_wp2_with fail
              refine (unhide HC3).mono ?_
              rintro e w4 ⟨rfl, f', r1, r2, r3, r4⟩
              have HE4 := hide r1
              have HK4 := hide (kp_g (unhide HK3) r2)
              have HRR := hide (And.intro r3 r4)
              clear r1 r2 r3 r4
              go_wp2_with fail
              go_end0
              exact ⟨rfl, _, unhide HE4, unhide HK4, (unhide HCUT).fin (by omega) (by omega) (unhide HL) (unhide HRR)⟩
            · skip
              have fsm : (s : Int) < (m : Int) := by omega
              have fme : (m : Int) < (en : Int) := by omega
              have fas : (a : Int) < (s : Int) := by omega
              have fsd : (s : Int) < (mid : Int) := by omega
              have fde : (mid : Int) < (en : Int) := by omega
              have feb : ¬ (en : Int) < (b : Int) := by omega
              have HC1 := hide (rotate f g n cap s m en d wr (unhide HR) (by omega) (by omega) (by omega) hn)
              clear HR
              go_wp2_with fail
              refine (unhide HC1).mono ?_
              rintro e w2 ⟨rfl, r1, r2⟩
              have HE := hide r1
              have HK2 := hide (kp_g (unhide HK) r2)
              clear r1 r2 HK
              have HC2 := hide ((unhide IH) a s mid (rot d s m en) w2 (by omega) (unhide HE) (unhide HCUT).1 (unhide HCUT).2.1 (by omega) (by omega) (by omega))
              go_wp2_with fail
              refine (unhide HC2).mono ?_
              rintro e w3 ⟨rfl, g', r1, r2, r3, r4⟩
              have HE3 := hide r1
              have HK3 := hide (kp_g (unhide HK2) r2)
              have HL := hide (And.intro r3 r4)
              clear r1 r2 r3 r4 HE HK2
              have HRR := hide ((unhide HCUT).noR (unhide HL) (by omega))
              go_wp2_with fail
              go_end0
              exact ⟨rfl, _, unhide HE3, unhide HK3, (unhide HCUT).fin (by omega) (by omega) (unhide HL) (unhide HRR)⟩
          · by_cases c3 : en < b
            · skip
              have fsm : (s : Int) < (m : Int) := by omega
              have fme : (m : Int) < (en : Int) := by omega
              have fas : ¬ (a : Int) < (s : Int) := by omega
              have fsd : (s : Int) < (mid : Int) := by omega
              have fde : (mid : Int) < (en : Int) := by omega
              have feb : (en : Int) < (b : Int) := by omega
              have HC1 := hide (rotate f g n cap s m en d wr (unhide HR) (by omega) (by omega) (by omega) hn)
              clear HR
              go_wp2_with fail
              refine (unhide HC1).mono ?_
              rintro e w2 ⟨rfl, r1, r2⟩
              have HE := hide r1
              have HK2 := hide (kp_g (unhide HK) r2)
              clear r1 r2 HK
              have HL := hide ((unhide HCUT).noL (by omega))
              have HPR := hide ((unhide HCUT).preR (by omega) (unhide HL))
              have HC3 := hide ((unhide IH) mid en b (rot d s m en) w2 (by omega) (unhide HE) (unhide HPR).1 (unhide HPR).2 (by omega) (by omega) (by omega))
              go_wp2_with fail
              refine (unhide HC3).mono ?_
              rintro e w4 ⟨rfl, f', r1, r2, r3, r4⟩
              have HE4 := hide r1
              have HK4 := hide (kp_g (unhide HK2) r2)
              have HRR := hide (And.intro r3 r4)
              clear r1 r2 r3 r4
              go_wp2_with fail
              go_end0
              exact ⟨rfl, _, unhide HE4, unhide HK4, (unhide HCUT).fin (by omega) (by omega) (unhide HL) (unhide HRR)⟩
            · skip
              have fsm : (s : Int) < (m : Int) := by omega
              have fme : (m : Int) < (en : Int) := by omega
              have fas : ¬ (a : Int) < (s : Int) := by omega
              have fsd : (s : Int) < (mid : Int) := by omega
              have fde : (mid : Int) < (en : Int) := by omega
              have feb : ¬ (en : Int) < (b : Int) := by omega
              have HC1 := hide (rotate f g n cap s m en d wr (unhide HR) (by omega) (by omega) (by omega) hn)
              clear HR
              go_wp2_with fail
              refine (unhide HC1).mono ?_
              rintro e w2 ⟨rfl, r1, r2⟩
              have HE := hide r1
              have HK2 := hide (kp_g (unhide HK) r2)
              clear r1 r2 HK
              have HL := hide ((unhide HCUT).noL (by omega))
              have HRR := hide ((unhide HCUT).noR (unhide HL) (by omega))
              go_wp2_with fail
              go_end0
              exact ⟨rfl, _, unhide HE, unhide HK2, (unhide HCUT).fin (by omega) (by omega) (unhide HL) (unhide HRR)⟩
        · skip
          have fsm : (s : Int) < (m : Int) := by omega
          have fme : ¬ (m : Int) < (en : Int) := by omega
          have fas : (a : Int) < (s : Int) := by omega
          have fsd : ¬ (s : Int) < (mid : Int) := by omega
          have fde : (mid : Int) < (en : Int) := by omega
          have feb : (en : Int) < (b : Int) := by omega
          have HE := hide (show DRow wr g n (rot d s m en) from by first | (rw [show s = m by omega, rot_id1]; exact unhide HR) | (rw [show en = m by omega, rot_id2]; exact unhide HR))
          clear HR
          have HL := hide ((unhide HCUT).noL (by omega))
          have HPR := hide ((unhide HCUT).preR (by omega) (unhide HL))
          have HC3 := hide ((unhide IH) mid en b (rot d s m en) wr (by omega) (unhide HE) (unhide HPR).1 (unhide HPR).2 (by omega) (by omega) (by omega))
          go_wp2_with fail
          refine (unhide HC3).mono ?_
          rintro e w4 ⟨rfl, f', r1, r2, r3, r4⟩
          have HE4 := hide r1
          have HK4 := hide (kp_g (unhide HK) r2)
          have HRR := hide (And.intro r3 r4)
          clear r1 r2 r3 r4
          go_wp2_with fail
          go_end0
          exact ⟨rfl, _, unhide HE4, unhide HK4, (unhide HCUT).fin (by omega) (by omega) (unhide HL) (unhide HRR)⟩
  · have k6 : ¬ (mid : Int) < (m : Int) := by omega
    go_enter Try.func152, Try.ntmps152
    go_wp2_with fail
    go_loopw [20, 21, 23] (fun x y _ wr => ∃ i j : Nat, a ≤ i ∧ i ≤ j ∧ j ≤ m ∧ x = .int .i64 i ∧ y = .int .i64 j ∧ Hid ((j < m → key (d (q - 1 - j)) < key (d j)) ∧ (a < i → key (d (i - 1)) ≤ key (d (q - i)))) ∧ Hid (Kp [] w wr)) (fun x y _ _ => (intOf y).toNat - (intOf x).toNat)
    case atStart => exact ⟨a, m, Nat.le_refl _, by omega, Nat.le_refl _, by first | rfl | go_num, by first | rfl | go_num, ⟨fun z => by omega, fun z => by omega⟩, Kp.refl _ _⟩
    case round =>
      obtain ⟨i, j, hi, hij, hj, rfl, rfl, HV, HK⟩ := hrel
      by_cases hlt : i < j
      · have i1 : (i : Int) < (j : Int) := by omega
        obtain ⟨c, hcc⟩ : ∃ c, (i + j) / 2 = c := ⟨_, rfl⟩
        have i2 : ((i : Int) + (j : Int)) / 2 = (c : Int) := by omega
        have i3 : (0 : Int) ≤ (c : Int) := by omega
        have i4 : (c : Int) < (n : Int) := by omega
        have i7 : i ≤ c := by omega
        have i8 : c < j := by omega
        clear hcc
        obtain ⟨pc, hpc⟩ : ∃ pc, q - 1 - c = pc := ⟨_, rfl⟩
        have i5 : (0 : Int) ≤ (pc : Int) := by omega
        have i6 : (pc : Int) < (n : Int) := by omega
        have j1 : IntKind.i64.wrap ((qp : Int) - (c : Int)) = (pc : Int) := by rw [wrap_i64_id _ (by omega) (by omega)]; omega
        have HPC := hide hpc
        clear hpc
        have HR := hide ((unhide HR0).kp0 (unhide HK))
        have cX := (unhide HR).cells (i := pc) (by omega)
        have cY := (unhide HR).cells (i := c) (by omega)
        obtain ⟨⟨⟨xn, xa, xm, xacts⟩, xp, xc⟩, hX⟩ : ∃ X, d pc = X := ⟨_, rfl⟩
        obtain ⟨⟨⟨yn, ya, ym, yacts⟩, yp, yc⟩, hY⟩ : ∃ Y, d c = Y := ⟨_, rfl⟩
        rw [hX] at cX
        rw [hY] at cY
        have HX := hide hX
        have HY := hide hY
        clear hX hY
        obtain ⟨kx, hkx⟩ : ∃ k, key ⟨⟨xn, xa, xm, xacts⟩, xp, xc⟩ = k := ⟨_, rfl⟩
        obtain ⟨ky, hky⟩ : ∃ k, key ⟨⟨yn, ya, ym, yacts⟩, yp, yc⟩ = k := ⟨_, rfl⟩
        obtain ⟨lx, hlx⟩ : ∃ k, xacts.length = k := ⟨_, rfl⟩
        obtain ⟨ly, hly⟩ : ∃ k, yacts.length = k := ⟨_, rfl⟩
        have HCC : Hid (∀ W, Calls Try.prog f #[.agg #[.int .i64 xn, .int .i64 xa, .int .i64 xm, .slice xp lx xc], .agg #[.int .i64 yn, .int .i64 ya, .int .i64 ym, .slice yp ly yc]] W fun e w' => e = .returned (.int .i64 (cmpI kx ky)) ∧ Kp [] W w') := fun W => by
          have := (unhide HC).calls ⟨⟨xn, xa, xm, xacts⟩, xp, xc⟩ ⟨⟨yn, ya, ym, yacts⟩, yp, yc⟩ W
          rw [hkx, hky] at this
          dsimp only [dxv] at this
          rw [hlx, hly] at this
          exact this
        have HKX := hide hkx
        have HKY := hide hky
        clear hkx hky
        dsimp only at cX cY
        rw [hlx] at cX
        rw [hly] at cY
        have HLX := hide hlx
        have HLY := hide hly
        clear hlx hly
        have HS4 := hide (And.intro cX cY)
        clear cX cY
        go_wp2_with fail
        refine wp_region_held_drew (S := fun w' => (w'.cell? ⟨g, pc * 4, none⟩ = some (.int .i64 xn) ∧ w'.cell? ⟨g, pc * 4 + 1, none⟩ = some (.int .i64 xa) ∧ w'.cell? ⟨g, pc * 4 + 1 + 1, none⟩ = some (.int .i64 xm) ∧ w'.cell? ⟨g, pc * 4 + 1 + 1 + 1, none⟩ = some (.slice xp lx xc)) ∧ (w'.cell? ⟨g, c * 4, none⟩ = some (.int .i64 yn) ∧ w'.cell? ⟨g, c * 4 + 1, none⟩ = some (.int .i64 ya) ∧ w'.cell? ⟨g, c * 4 + 1 + 1, none⟩ = some (.int .i64 ym) ∧ w'.cell? ⟨g, c * 4 + 1 + 1 + 1, none⟩ = some (.slice yp ly yc))) (by kernel_rfl) (cells8_kp (unhide HS4) ((Kp.refl [] _).drew)) (fun hHeld => ?_)
        refine wpAnyH_tk (i := 0) (v := ?_) rfl (by kernel_rfl) (by kernel_rfl) (by kernel_rfl) (fun _ _ _ h => h) (Or.inl ⟨by rfl, ?_⟩) hHeld ?_
        rotate_left
        · intro w hSw
          try dsimp only at hSw
          go_simp
          try with_reducible rfl
        try simp only [Act.put, List.setIfInBounds_toArray, List.set_cons_zero, List.set_cons_succ]
        refine wpAnyH_tk (i := 1) (v := ?_) rfl (by kernel_rfl) (by kernel_rfl) (by kernel_rfl) (fun _ _ _ h => h) (Or.inl ⟨by rfl, ?_⟩) hHeld ?_
        rotate_left
        · intro w hSw
          try dsimp only at hSw
          go_simp
          try with_reducible rfl
        try simp only [Act.put, List.setIfInBounds_toArray, List.set_cons_zero, List.set_cons_succ]
        refine wpAnyH_tk (i := 2) (v := ?_) rfl (by kernel_rfl) (by kernel_rfl) (by kernel_rfl) (fun _ _ _ h => h) (Or.inl ⟨by rfl, ?_⟩) hHeld ?_
        rotate_left
        · intro w hSw
          try dsimp only at hSw
          go_simp
          try with_reducible rfl
        try simp only [Act.put, List.setIfInBounds_toArray, List.set_cons_zero, List.set_cons_succ]
        refine wpAnyH_tk (i := 3) (v := ?_) rfl (by kernel_rfl) (by kernel_rfl) (by kernel_rfl) (fun _ _ _ h => h) (Or.inl ⟨by rfl, ?_⟩) hHeld ?_
        rotate_left
        · intro w hSw
          try dsimp only at hSw
          go_simp
          try with_reducible rfl
        try simp only [Act.put, List.setIfInBounds_toArray, List.set_cons_zero, List.set_cons_succ]
        refine wpAnyH_tk (i := 4) (v := ?_) rfl (by kernel_rfl) (by kernel_rfl) (by kernel_rfl) (fun _ _ _ h => h) (Or.inl ⟨by rfl, ?_⟩) hHeld ?_
        rotate_left
        · intro w hSw
          try dsimp only at hSw
          go_simp
          try with_reducible rfl
        try simp only [Act.put, List.setIfInBounds_toArray, List.set_cons_zero, List.set_cons_succ]
        refine wpAnyH_tk (i := 5) (v := ?_) rfl (by kernel_rfl) (by kernel_rfl) (by kernel_rfl) (fun _ _ _ h => h) (Or.inl ⟨by rfl, ?_⟩) hHeld ?_
        rotate_left
        · intro w hSw
          try dsimp only at hSw
          go_simp
          try with_reducible rfl
        try simp only [Act.put, List.setIfInBounds_toArray, List.set_cons_zero, List.set_cons_succ]
        refine wpAnyH_tk (i := 6) (v := ?_) rfl (by kernel_rfl) (by kernel_rfl) (by kernel_rfl) (fun _ _ _ h => h) (Or.inl ⟨by rfl, ?_⟩) hHeld ?_
        rotate_left
        · intro w hSw
          try dsimp only at hSw
          go_simp
          try with_reducible rfl
        try simp only [Act.put, List.setIfInBounds_toArray, List.set_cons_zero, List.set_cons_succ]
        refine wpAnyH_tk (i := 7) (v := ?_) rfl (by kernel_rfl) (by kernel_rfl) (by kernel_rfl) (fun _ _ _ h => h) (Or.inl ⟨by rfl, ?_⟩) hHeld ?_
        rotate_left
        · intro w hSw
          try dsimp only at hSw
          go_simp
          try with_reducible rfl
        try simp only [Act.put, List.setIfInBounds_toArray, List.set_cons_zero, List.set_cons_succ]
        refine wpAnyH_tk (i := 8) (v := ?_) rfl (by kernel_rfl) (by kernel_rfl) (by kernel_rfl) (fun _ _ _ h => h) (Or.inl ⟨by rfl, ?_⟩) hHeld ?_
        rotate_left
        · intro w hSw
          try dsimp only at hSw
          go_simp
          try with_reducible rfl
        try simp only [Act.put, List.setIfInBounds_toArray, List.set_cons_zero, List.set_cons_succ]
        refine wpAnyH_tk (i := 9) (v := ?_) rfl (by kernel_rfl) (by kernel_rfl) (by kernel_rfl) (fun _ _ _ h => h) (Or.inl ⟨by rfl, ?_⟩) hHeld ?_
        rotate_left
        · intro w hSw
          try dsimp only at hSw
          go_simp
          try with_reducible rfl
        try simp only [Act.put, List.setIfInBounds_toArray, List.set_cons_zero, List.set_cons_succ]
        refine wpAnyH_tk (i := 10) (v := ?_) rfl (by kernel_rfl) (by kernel_rfl) (by kernel_rfl) (fun _ _ _ h => h) (Or.inl ⟨by rfl, ?_⟩) hHeld ?_
        rotate_left
        · intro w hSw
          try dsimp only at hSw
          go_simp
          try with_reducible rfl
        try simp only [Act.put, List.setIfInBounds_toArray, List.set_cons_zero, List.set_cons_succ]
        refine wpAnyH_only (i := 11) rfl (by kernel_rfl) (fun K hK => ?_)
        go_simp
        refine ((unhide HCC) _).mono ?_
        rintro e w' ⟨rfl, hkp⟩
        have HKP := hide hkp
        clear hkp
        go_wp2_with fail
        refine hK.out _ _ (cells8_kp (unhide HS4) (((Kp.refl [] _).drew).trans0 (unhide HKP))) (fun hHeld2 => ?_)
        clear hK K hHeld
        have hHeld := hHeld2
        clear hHeld2
        try simp only [Act.put, List.setIfInBounds_toArray, List.set_cons_zero, List.set_cons_succ]
        refine wpAnyH_tk (i := 12) (v := ?_) rfl (by kernel_rfl) (by kernel_rfl) (by kernel_rfl) (fun _ _ _ h => h) (Or.inl ⟨by rfl, ?_⟩) hHeld ?_
        rotate_left
        · intro w hSw
          try dsimp only at hSw
          go_simp
          try with_reducible rfl
        try simp only [Act.put, List.setIfInBounds_toArray, List.set_cons_zero, List.set_cons_succ]
        refine wpAnyH_tk (i := 13) (v := ?_) rfl (by kernel_rfl) (by kernel_rfl) (by kernel_rfl) (fun _ _ _ h => h) (Or.inl ⟨by rfl, ?_⟩) hHeld ?_
        rotate_left
        · intro w hSw
          try dsimp only at hSw
          go_simp
          try with_reducible rfl
        try simp only [Act.put, List.setIfInBounds_toArray, List.set_cons_zero, List.set_cons_succ]
        refine wpAnyH_done (by kernel_rfl) ?_ _
        have HW := hide ((unhide HK).trans0 ((Kp.refl [] wr).drew.trans0 (unhide HKP)))
        clear hHeld HR HKP HS4 HCC
        generalize w' = W at *
        by_cases hless : kx < ky
        · have i9 : cmpI kx ky < 0 := cmpI_neg.2 hless
          have i9a : decide (cmpI kx ky < 0) = true := decide_eq_true i9
          have i9b : (!decide (cmpI kx ky < 0)) = false := by rw [i9a]; rfl
          rw [i9b]
          go_wp2_with fail
          go_roundw
          case measure => simp [intOf]; omega
          case rel =>
            refine ⟨i, c, hi, by omega, by omega, rfl, rfl, ⟨fun _ => ?_, (unhide HV).2⟩, unhide HW⟩
            rw [unhide HPC, unhide HX, unhide HKX, unhide HY, unhide HKY]
            exact hless
        · have i9 : ¬ cmpI kx ky < 0 := fun q => hless (cmpI_neg.1 q)
          have i9a : decide (cmpI kx ky < 0) = false := decide_eq_false i9
          have i9b : (!decide (cmpI kx ky < 0)) = true := by rw [i9a]; rfl
          rw [i9b]
          go_wp2_with fail
          go_roundw
          case measure => simp [intOf]; omega
          case rel =>
            refine ⟨c + 1, j, by omega, by omega, hj, by go_num, rfl, ⟨(unhide HV).1, fun _ => ?_⟩, unhide HW⟩
            rw [show c + 1 - 1 = c by omega, show q - (c + 1) = q - 1 - c by omega, unhide HPC, unhide HX, unhide HKX, unhide HY, unhide HKY]
            omega
      · have hji : j = i := by omega
        subst hji
        have i1 : ¬ (j : Int) < (j : Int) := by omega
        obtain ⟨en, hen⟩ : ∃ en, q - j = en := ⟨_, rfl⟩
        have HCUT := hide (show Cutd key d (rot d j m en) a j mid en b from srt_cut (by omega) (by omega) (by omega) (by omega) (by omega) (unhide HS1) (unhide HS2) (fun z1 z2 => by have z := (unhide HV).1 (by omega); rw [show q - 1 - j = en - 1 by omega] at z; exact z) (fun z1 z2 => by have z := (unhide HV).2 (by omega); rw [show q - j = en by omega] at z; exact z))
        have HR := hide ((unhide HR0).kp0 (unhide HK))
        have HKg := hide ((unhide HK).mono (T := [g]) (by simp))
        clear HK HV HR0 HS1 HS2
        have HK := HKg
        clear HKg
        have j2 : (q : Int) - (j : Int) = (en : Int) := by omega
        have e1 : j ≤ mid := by omega
        have e2 : mid + m = j + en := by omega
        clear hen
        generalize j = s at *
        by_cases c1 : s < m
        · by_cases c2 : a < s
          · by_cases c3 : en < b
            · skip
              have fsm : (s : Int) < (m : Int) := by omega
              have fme : (m : Int) < (en : Int) := by omega
              have fas : (a : Int) < (s : Int) := by omega
              have fsd : (s : Int) < (mid : Int) := by omega
              have fde : (mid : Int) < (en : Int) := by omega
              have feb : (en : Int) < (b : Int) := by omega
              have HC1 := hide (rotate f g n cap s m en d wr (unhide HR) (by omega) (by omega) (by omega) hn)
              clear HR
              go_wp2_with fail
              refine (unhide HC1).mono ?_
              rintro e w2 ⟨rfl, r1, r2⟩
              have HE := hide r1
              have HK2 := hide (kp_g (unhide HK) r2)
              clear r1 r2 HK
              have HC2 := hide ((unhide IH) a s mid (rot d s m en) w2 (by omega) (unhide HE) (unhide HCUT).1 (unhide HCUT).2.1 (by omega) (by omega) (by omega))
              go_wp2_with fail
              refine (unhide HC2).mono ?_
              rintro e w3 ⟨rfl, g', r1, r2, r3, r4⟩
              have HE3 := hide r1
              have HK3 := hide (kp_g (unhide HK2) r2)
              have HL := hide (And.intro r3 r4)
              clear r1 r2 r3 r4 HE HK2
              have HPR := hide ((unhide HCUT).preR (by omega) (unhide HL))
              have HC3 := hide ((unhide IH) mid en b g' w3 (by omega) (unhide HE3) (unhide HPR).1 (unhide HPR).2 (by omega) (by omega) (by omega))
              go_wp2_with fail
              refine (unhide HC3).mono ?_
              rintro e w4 ⟨rfl, f', r1, r2, r3, r4⟩
              have HE4 := hide r1
              have HK4 := hide (kp_g (unhide HK3) r2)
              have HRR := hide (And.intro r3 r4)
              clear r1 r2 r3 r4
              go_wp2_with fail
              go_end0
              exact ⟨rfl, _, unhide HE4, unhide HK4, (unhide HCUT).fin (by omega) (by omega) (unhide HL) (unhide HRR)⟩
            · skip
              have fsm : (s : Int) < (m : Int) := by omega
              have fme : (m : Int) < (en : Int) := by omega
              have fas : (a : Int) < (s : Int) := by omega
              have fsd : (s : Int) < (mid : Int) := by omega
              have fde : (mid : Int) < (en : Int) := by omega
              have feb : ¬ (en : Int) < (b : Int) := by omega
              have HC1 := hide (rotate f g n cap s m en d wr (unhide HR) (by omega) (by omega) (by omega) hn)
              clear HR
              go_wp2_with fail
              refine (unhide HC1).mono ?_
              rintro e w2 ⟨rfl, r1, r2⟩
              have HE := hide r1
              have HK2 := hide (kp_g (unhide HK) r2)
              clear r1 r2 HK
              have HC2 := hide ((unhide IH) a s mid (rot d s m en) w2 (by omega) (unhide HE) (unhide HCUT).1 (unhide HCUT).2.1 (by omega) (by omega) (by omega))
              go_wp2_with fail
              refine (unhide HC2).mono ?_
              rintro e w3 ⟨rfl, g', r1, r2, r3, r4⟩
              have HE3 := hide r1
              have HK3 := hide (kp_g (unhide HK2) r2)
              have HL := hide (And.intro r3 r4)
              clear r1 r2 r3 r4 HE HK2
              have HRR := hide ((unhide HCUT).noR (unhide HL) (by omega))
              go_wp2_with fail
              go_end0
              exact ⟨rfl, _, unhide HE3, unhide HK3, (unhide HCUT).fin (by omega) (by omega) (unhide HL) (unhide HRR)⟩
          · by_cases c3 : en < b
            · skip
              have fsm : (s : Int) < (m : Int) := by omega
              have fme : (m : Int) < (en : Int) := by omega
              have fas : ¬ (a : Int) < (s : Int) := by omega
              have fsd : (s : Int) < (mid : Int) := by omega
              have fde : (mid : Int) < (en : Int) := by omega
              have feb : (en : Int) < (b : Int) := by omega
              have HC1 := hide (rotate f g n cap s m en d wr (unhide HR) (by omega) (by omega) (by omega) hn)
              clear HR
              go_wp2_with fail
              refine (unhide HC1).mono ?_
              rintro e w2 ⟨rfl, r1, r2⟩
              have HE := hide r1
              have HK2 := hide (kp_g (unhide HK) r2)
              clear r1 r2 HK
              have HL := hide ((unhide HCUT).noL (by omega))
              have HPR := hide ((unhide HCUT).preR (by omega) (unhide HL))
              have HC3 := hide ((unhide IH) mid en b (rot d s m en) w2 (by omega) (unhide HE) (unhide HPR).1 (unhide HPR).2 (by omega) (by omega) (by omega))
              go_wp2_with fail
              refine (unhide HC3).mono ?_
              rintro e w4 ⟨rfl, f', r1, r2, r3, r4⟩
              have HE4 := hide r1
              have HK4 := hide (kp_g (unhide HK2) r2)
              have HRR := hide (And.intro r3 r4)
              clear r1 r2 r3 r4
              go_wp2_with fail
              go_end0
              exact ⟨rfl, _, unhide HE4, unhide HK4, (unhide HCUT).fin (by omega) (by omega) (unhide HL) (unhide HRR)⟩
            · skip
              have fsm : (s : Int) < (m : Int) := by omega
              have fme : (m : Int) < (en : Int) := by omega
              have fas : ¬ (a : Int) < (s : Int) := by omega
              have fsd : (s : Int) < (mid : Int) := by omega
              have fde : (mid : Int) < (en : Int) := by omega
              have feb : ¬ (en : Int) < (b : Int) := by omega
              have HC1 := hide (rotate f g n cap s m en d wr (unhide HR) (by omega) (by omega) (by omega) hn)
              clear HR
              go_wp2_with fail
              refine (unhide HC1).mono ?_
              rintro e w2 ⟨rfl, r1, r2⟩
              have HE := hide r1
              have HK2 := hide (kp_g (unhide HK) r2)
              clear r1 r2 HK
              have HL := hide ((unhide HCUT).noL (by omega))
              have HRR := hide ((unhide HCUT).noR (unhide HL) (by omega))
              go_wp2_with fail
              go_end0
              exact ⟨rfl, _, unhide HE, unhide HK2, (unhide HCUT).fin (by omega) (by omega) (unhide HL) (unhide HRR)⟩
        · by_cases c2 : m < mid
          · skip
            have fsm : ¬ (s : Int) < (m : Int) := by omega
            have fme : (m : Int) < (en : Int) := by omega
            have fas : (a : Int) < (s : Int) := by omega
            have fsd : (s : Int) < (mid : Int) := by omega
            have fde : ¬ (mid : Int) < (en : Int) := by omega
            have feb : (en : Int) < (b : Int) := by omega
            have HE := hide (show DRow wr g n (rot d s m en) from by first | (rw [show s = m by omega, rot_id1]; exact unhide HR) | (rw [show en = m by omega, rot_id2]; exact unhide HR))
            clear HR
            have HC2 := hide ((unhide IH) a s mid (rot d s m en) wr (by omega) (unhide HE) (unhide HCUT).1 (unhide HCUT).2.1 (by omega) (by omega) (by omega))
            go_wp2_with fail
            refine (unhide HC2).mono ?_
            rintro e w3 ⟨rfl, g', r1, r2, r3, r4⟩
            have HE3 := hide r1
            have HK3 := hide (kp_g (unhide HK) r2)
            have HL := hide (And.intro r3 r4)
            clear r1 r2 r3 r4 HE HK
            have HRR := hide ((unhide HCUT).noR (unhide HL) (by omega))
            go_wp2_with fail
            go_end0
            exact ⟨rfl, _, unhide HE3, unhide HK3, (unhide HCUT).fin (by omega) (by omega) (unhide HL) (unhide HRR)⟩
          · skip
            have fsm : ¬ (s : Int) < (m : Int) := by omega
            have fme : ¬ (m : Int) < (en : Int) := by omega
            have fas : (a : Int) < (s : Int) := by omega
            have fsd : ¬ (s : Int) < (mid : Int) := by omega
            have fde : ¬ (mid : Int) < (en : Int) := by omega
            have feb : (en : Int) < (b : Int) := by omega
            have HE := hide (show DRow wr g n (rot d s m en) from by first | (rw [show s = m by omega, rot_id1]; exact unhide HR) | (rw [show en = m by omega, rot_id2]; exact unhide HR))
            clear HR
            have HL := hide ((unhide HCUT).noL (by omega))
            have HRR := hide ((unhide HCUT).noR (unhide HL) (by omega))
            go_wp2_with fail
            go_end0
            exact ⟨rfl, _, unhide HE, unhide HK, (unhide HCUT).fin (by omega) (by omega) (unhide HL) (unhide HRR)⟩
/-- Whatever two sorted parts. -/
theorem symmerge {f : Nat} {key : Dx → Int} (hc : Cmp f key) (g n cap : Nat) (hn : n ≤ 100000) : ∀ (N a m b : Nat) (d : Nat → Dx) (w : World), b - a ≤ N → DRow w g n d → SrtOn key d a m → SrtOn key d m b → a < m → m < b → b ≤ n →
    Calls Try.prog 152 #[.slice (some ⟨g, 0, none⟩) n cap, .int .i64 a, .int .i64 m, .int .i64 b, .func (.func f) #[] #[]] w fun e w' => MgEnd key g n a b d w e w' := by
  intro N
  induction N with
  | zero => intro a m b d w h0 h h1 h2 h3 h4 h5; omega
  | succ N ih =>
    intro a m b d w h0 h h1 h2 h3 h4 h5
    by_cases c1 : m = a + 1
    · exact sym1 hc g n cap a m b d w h h1 h2 h3 h4 h5 hn c1
    · by_cases c2 : b = m + 1
      · exact sym2 hc g n cap a m b d w h h1 h2 h3 h4 h5 hn c2 c1
      · exact sym3 hc g n cap a m b d w h h1 h2 h3 h4 h5 hn c1 c2 (fun a' m' b' d' w' q0 q1 q2 q3 q4 q5 q6 => ih a' m' b' d' w' (by omega) q1 q2 q3 q4 q5 q6)
end Go.Proofs.Ytliopckocegknac

/- The library's stable sort, by its contract: whatever list. -/
namespace Go.Proofs.Ytliopckocegknac
open Go.RowKit Srt
set_option maxRecDepth 20000
attribute [local go_sem ↓] Go.wp_at_zero Go.wp_at_succ

/-- Ahead of the merges: u blocks of twenty are sorted. -/
structure Bl1 (key : Dx → Int) (A : Option Addr) (n : Nat) (d : Nat → Dx) (w wr : World) (lo : Nat) : Prop where
  ex : ∃ dk u, SlD wr A n dk ∧ Kp (obd A) w wr ∧ Stb key 0 n d dk ∧ lo = u * 20 ∧ ∀ t, t < u → SrtOn key dk (t * 20) (t * 20 + 20)
/-- All blocks of s are sorted. -/
structure Bl2 (key : Dx → Int) (A : Option Addr) (n : Nat) (d : Nat → Dx) (w wr : World) (s : Nat) : Prop where
  ex : ∃ dk, SlD wr A n dk ∧ Kp (obd A) w wr ∧ Stb key 0 n d dk ∧ Bks key dk s 0 n
/-- Below lo all blocks of s2 are sorted, from lo on those of s. -/
structure Bl3 (key : Dx → Int) (g n : Nat) (d : Nat → Dx) (w wr : World) (s s2 lo : Nat) : Prop where
  ex : ∃ dk u, DRow wr g n dk ∧ Kp [g] w wr ∧ Stb key 0 n d dk ∧ lo = u * s2 ∧ (∀ t, t < u → SrtOn key dk (t * s2) (t * s2 + s2)) ∧ Bks key dk s lo n
section
variable {key : Dx → Int} {A : Option Addr} {g n : Nat} {d : Nat → Dx} {w wr w' : World} {s s2 lo hi : Nat}
theorem Bl1.next (h : Bl1 key A n d w wr lo) (hh : hi = lo + 20) (hn : hi ≤ n) : ∃ dk, SlD wr A n dk ∧ ∀ w' , (∃ d', SlD w' A n d' ∧ Kp (obd A) wr w' ∧ Stb key lo hi dk d' ∧ SrtOn key d' lo hi) → Bl1 key A n d w w' hi := by
  obtain ⟨dk, u, h1, h2, h3, h4, h5⟩ := h.ex
  refine ⟨dk, h1, fun w' ⟨d', k1, k2, k3, k4⟩ => ⟨d', u + 1, k1, h2.trans k2 (fun x hx => .inl hx), h3.trans (k3.wide (Nat.zero_le _) (by omega) hn), by rw [hh, h4, Nat.succ_mul], ?_⟩⟩
  subst hh
  exact blk_next h5 (by rw [← h4]; exact k4) (fun x hx => k3.out x (by omega))
theorem Bl1.last (h : Bl1 key A n d w wr lo) (hn : lo ≤ n) (hh : n < lo + 20) : ∃ dk, SlD wr A n dk ∧ ∀ w' , (∃ d', SlD w' A n d' ∧ Kp (obd A) wr w' ∧ Stb key lo n dk d' ∧ SrtOn key d' lo n) → Bl2 key A n d w w' 20 := by
  obtain ⟨dk, u, h1, h2, h3, h4, h5⟩ := h.ex
  refine ⟨dk, h1, fun w' ⟨d', k1, k2, k3, k4⟩ => ⟨d', k1, h2.trans k2 (fun x hx => .inl hx), h3.trans (k3.wide (Nat.zero_le _) hn (Nat.le_refl _)), ?_⟩⟩
  refine bks_of (u := u) (fun t ht => ?_) (by rw [← h4]; exact k4) (by omega)
  have := Nat.mul_le_mul_right 20 (show t + 1 ≤ u by omega)
  rw [Nat.succ_mul] at this
  exact (h5 t ht).congr (fun x _ q => k3.out x (by omega))
theorem Bl2.start (h : Bl2 key A n d w wr s) (hn : 0 < n) (_hs2 : s2 = 2 * s) : ∃ g, A = some ⟨g, 0, none⟩ ∧ Bl3 key g n d w wr s s2 0 := by
  obtain ⟨dk, h1, h2, h3, h4⟩ := h.ex
  obtain ⟨g, rfl, h5⟩ := h1 hn
  exact ⟨g, rfl, dk, 0, h5, h2, h3, by omega, fun t ht => by omega, h4⟩
theorem Bl3.next (h : Bl3 key g n d w wr s s2 lo) (hs2 : s2 = 2 * s) (hn : lo + s2 ≤ n) : ∃ dk, DRow wr g n dk ∧ SrtOn key dk lo (lo + s) ∧ SrtOn key dk (lo + s) (lo + s2) ∧ ∀ w' , (∃ d', DRow w' g n d' ∧ Kp [g] wr w' ∧ Stb key lo (lo + s2) dk d' ∧ SrtOn key d' lo (lo + s2)) → Bl3 key g n d w w' s s2 (lo + s2) := by
  obtain ⟨dk, u, h1, h2, h3, h4, h5, h6⟩ := h.ex
  obtain ⟨b1, b2⟩ := bks_two h6
  refine ⟨dk, h1, b1.sub (Nat.le_refl _) (by omega), b2.sub (Nat.le_refl _) (by omega), fun w' ⟨d', k1, k2, k3, k4⟩ => ⟨d', u + 1, k1, h2.trans k2 (fun x hx => .inl hx), h3.trans (k3.wide (Nat.zero_le _) (by omega) hn), by rw [h4, Nat.succ_mul], ?_, ?_⟩⟩
  · exact blk_next h5 (by rw [← h4]; exact k4) (fun x hx => k3.out x (by omega))
  · have := bks_next (e := d') h6 (fun x hx => k3.out x (by omega))
    rw [← hs2] at this
    exact this
theorem Bl3.last (h : Bl3 key g n d w wr s s2 lo) (hs2 : s2 = 2 * s) (hl : lo ≤ n) (hn : n < lo + s2) (hm : lo + s < n) : ∃ dk, DRow wr g n dk ∧ SrtOn key dk lo (lo + s) ∧ SrtOn key dk (lo + s) n ∧ ∀ w' , (∃ d', DRow w' g n d' ∧ Kp [g] wr w' ∧ Stb key lo n dk d' ∧ SrtOn key d' lo n) → Bl2 key (some ⟨g, 0, none⟩) n d w w' s2 := by
  obtain ⟨dk, u, h1, h2, h3, h4, h5, h6⟩ := h.ex
  obtain ⟨b1, b2⟩ := bks_two h6
  refine ⟨dk, h1, b1.sub (Nat.le_refl _) (by omega), b2.sub (Nat.le_refl _) (by omega), fun w' ⟨d', k1, k2, k3, k4⟩ => ⟨d', fun _ => ⟨g, rfl, k1⟩, h2.trans k2 (fun x hx => .inl hx), h3.trans (k3.wide (Nat.zero_le _) hl (Nat.le_refl _)), ?_⟩⟩
  refine bks_of (u := u) (fun t ht => ?_) (by rw [← h4]; exact k4) (by omega)
  have := Nat.mul_le_mul_right s2 (show t + 1 ≤ u by omega)
  rw [Nat.succ_mul] at this
  exact (h5 t ht).congr (fun x _ q => k3.out x (by omega))
theorem Bl3.lastNo (h : Bl3 key g n d w wr s s2 lo) (hn : n < lo + s2) (hm : ¬ lo + s < n) : Bl2 key (some ⟨g, 0, none⟩) n d w wr s2 := by
  obtain ⟨dk, u, h1, h2, h3, h4, h5, h6⟩ := h.ex
  obtain ⟨b1, b2⟩ := bks_two h6
  refine ⟨dk, fun _ => ⟨g, rfl, h1⟩, h2, h3, ?_⟩
  exact bks_of (u := u) h5 (by rw [← h4]; exact b1.sub (Nat.le_refl _) (by omega)) (by omega)
end
set_option maxHeartbeats 1000000 in
theorem stable {f : Nat} {key : Dx → Int} (hc : Cmp f key) (A : Option Addr) (n cap : Nat) (d : Nat → Dx) (w : World) (h : SlD w A n d) (hn : n ≤ 100000) :
    Calls Try.prog 131 #[.slice A n cap, .int .i64 n, .func (.func f) #[] #[]] w fun e w' => SoEnd key A n 0 n d w e w' := by
  have HC := hide hc
  have HB0 := hide (show Bl1 key A n d w w 0 from ⟨d, 0, h, Kp.refl _ _, Stb.refl _ _ _ _, by omega, fun t ht => by omega⟩)
  clear h hc
  go_enter Try.func131, Try.ntmps131
  go_wp2_with fail
  go_loopw [7, 8] (fun x y wr => ∃ lo hi : Nat, lo ≤ n ∧ Hid (hi = lo + 20) ∧ x = .int .i64 lo ∧ y = .int .i64 hi ∧ Hid (Bl1 key A n d w wr lo)) (fun x _ _ => n - (intOf x).toNat)
  case atStart => exact ⟨0, 20, Nat.zero_le _, rfl, rfl, rfl, HB0⟩
  case round =>
    obtain ⟨lo, hi, hl, HH, rfl, rfl, HB⟩ := hrel
    have hh := unhide HH
    by_cases hlt : hi ≤ n
    · have i1 : (hi : Int) ≤ (n : Int) := by omega
      obtain ⟨dk, q1, q2⟩ := (unhide HB).next hh hlt
      have HQ := hide q2
      have HI := hide (inssort (unhide HC) A n cap lo hi dk wr q1 (by omega) hlt hn)
      clear q1 q2 hh
      go_wp2_with fail
      refine (unhide HI).mono ?_
      rintro e w2 ⟨rfl, hr⟩
      have HR := hide (unhide HQ w2 hr)
      clear hr
      go_wp2_with fail
      exact ⟨⟨hi, hi + 20, by omega, rfl, rfl, by go_num, HR⟩, by have := unhide HH; simp [intOf]; omega⟩
    · have i1 : ¬ (hi : Int) ≤ (n : Int) := by omega
      obtain ⟨dk, q1, q2⟩ := (unhide HB).last hl (by omega)
      have HQ := hide q2
      have HI := hide (inssort (unhide HC) A n cap lo n dk wr q1 hl (Nat.le_refl _) hn)
      clear q1 q2 hh HB HB0
      go_wp2_with fail
      refine (unhide HI).mono ?_
      rintro e w2 ⟨rfl, hr⟩
      have HR := hide (unhide HQ w2 hr)
      clear hr HQ HI
      go_wp2_with fail
      generalize w2 = w5 at *
      go_loopw [6, 7, 8, 9] (fun x _ _ _ wr => ∃ s : Nat, 0 < s ∧ x = .int .i64 s ∧ s ≤ 400000 ∧ Hid (Bl2 key A n d w wr s)) (fun x _ _ _ _ => n - (intOf x).toNat)
      case atStart => exact ⟨20, by omega, rfl, by omega, HR⟩
      case round =>
        obtain ⟨s, hs, rfl, hsm, HB2⟩ := hrel
        by_cases hsn : s < n
        · have i2 : (s : Int) < (n : Int) := by omega
          obtain ⟨s2, hs2⟩ : ∃ s2, s2 = 2 * s := ⟨_, rfl⟩
          have i3 : 2 * (s : Int) = (s2 : Int) := by omega
          have i4 : (s : Int) * 2 = (s2 : Int) := by omega
          have HS2 := hide hs2
          obtain ⟨g, rfl, hb3⟩ := (unhide HB2).start (by omega) hs2
          have HB3 := hide hb3
          have s2b : s2 ≤ 400000 := by omega
          have s2p : s < s2 := by omega
          clear hb3 HB2 HR hs2
          go_wp2_with fail
          generalize wr = w6 at *
          go_loopw [7, 8] (fun x y wr => ∃ lo hi : Nat, lo ≤ n ∧ Hid (hi = lo + s2) ∧ x = .int .i64 lo ∧ y = .int .i64 hi ∧ Hid (Bl3 key g n d w wr s s2 lo)) (fun x _ _ => n - (intOf x).toNat)
          case atStart => exact ⟨0, s2, Nat.zero_le _, (by show s2 = 0 + s2; omega), rfl, rfl, HB3⟩
          case round =>
            obtain ⟨lo, hi, hl, HH2, rfl, rfl, HB4⟩ := hrel
            have hh := unhide HH2
            by_cases hlt2 : hi ≤ n
            · have j1 : (hi : Int) ≤ (n : Int) := by omega
              obtain ⟨dk, q1, q2, q3, q4⟩ := (unhide HB4).next (unhide HS2) (by omega)
              obtain ⟨m, hm⟩ : ∃ m, lo + s = m := ⟨_, rfl⟩
              have j2 : (lo : Int) + (s : Int) = (m : Int) := by omega
              obtain ⟨h2, hh2⟩ : ∃ h2, hi + s2 = h2 := ⟨_, rfl⟩
              have j3 : (hi : Int) + (s2 : Int) = (h2 : Int) := by omega
              rw [hm] at q2 q3
              rw [← hh] at q3 q4
              have HQ := hide q4
              have HI := hide (symmerge (unhide HC) g n cap hn _ lo m hi dk wr (Nat.le_refl _) q1 q2 q3 (by omega) (by have := unhide HS2; omega) hlt2)
              have HH3 := hide (show h2 = hi + s2 by omega)
              clear q1 q2 q3 q4 hm hh2 hh
              go_wp2_with fail
              refine (unhide HI).mono ?_
              rintro e w2 ⟨rfl, hr⟩
              have HR := hide (unhide HQ w2 hr)
              clear hr
              go_wp2_with fail
              exact ⟨⟨hi, h2, hlt2, HH3, rfl, by go_num, HR⟩, by have := unhide HH2; simp [intOf]; omega⟩
            · have j1 : ¬ (hi : Int) ≤ (n : Int) := by omega
              obtain ⟨m, hm⟩ : ∃ m, lo + s = m := ⟨_, rfl⟩
              have j2 : (lo : Int) + (s : Int) = (m : Int) := by omega
              by_cases hmn : m < n
              · have j3 : (m : Int) < (n : Int) := by omega
                obtain ⟨dk, q1, q2, q3, q4⟩ := (unhide HB4).last (unhide HS2) hl (by omega) (by omega)
                rw [hm] at q2 q3
                have HQ := hide q4
                have HI := hide (symmerge (unhide HC) g n cap hn _ lo m n dk wr (Nat.le_refl _) q1 q2 q3 (by omega) hmn (Nat.le_refl _))
                clear q1 q2 q3 q4 hm hh
                go_wp2_with fail
                refine (unhide HI).mono ?_
                rintro e w2 ⟨rfl, hr⟩
                have HR := hide (unhide HQ w2 hr)
                clear hr
                go_wp2_with fail
                exact ⟨⟨s2, by omega, by go_num, s2b, HR⟩, by simp [intOf]; omega⟩
              · have j3 : ¬ (m : Int) < (n : Int) := by omega
                have HR := hide ((unhide HB4).lastNo (by omega) (by omega))
                clear hm hh
                go_wp2_with fail
                exact ⟨⟨s2, by omega, by go_num, s2b, HR⟩, by simp [intOf]; omega⟩
        · have i2 : ¬ (s : Int) < (n : Int) := by omega
          go_wp2_with fail
          go_end0
          obtain ⟨dk, q1, q2, q3, q4⟩ := (unhide HB2).ex
          have b1 := (bks_two q4).1
          exact ⟨rfl, dk, q1, q2, q3, b1.sub (Nat.le_refl _) (by omega)⟩
theorem sortstable {f : Nat} {key : Dx → Int} (hc : Cmp f key) (A : Option Addr) (n cap : Nat) (d : Nat → Dx) (w : World) (h : SlD w A n d) (hn : n ≤ 100000) :
    Calls Try.prog 90 #[.slice A n cap, .func (.func f) #[] #[]] w fun e w' => SoEnd key A n 0 n d w e w' := by
  have HC := hide (stable hc A n cap d w h hn)
  clear h hc
  go_enter Try.func90, Try.ntmps90
  go_wp2_with fail
  refine (unhide HC).mono ?_
  rintro e w2 ⟨rfl, hr⟩
  have HR := hide hr
  clear hr
  go_wp2_with fail
  go_end0
  exact ⟨rfl, unhide HR⟩
theorem enters_fn {f : FuncId} {fn : Func} {c : Code} (hf : Try.prog.funcs[f]? = some fn) (hname : (fn.name == "runtime.NumGoroutine") = false) (hb : fn.body = some c) (args : Array Value) (w : World) : (callFunc f args).run Try.prog w = .ok (.enter f args) w := by
  have h1 : fn.name ≠ "runtime.NumGoroutine" := by simpa using hname
  simp [callFunc, hf, h1, hb, mark]
theorem cmp_n : Cmp 91 (fun x => x.d.n) := ⟨enters_fn Try.func91 (by kernel_rfl) rfl, cmpN⟩
theorem cmp_a : Cmp 94 (fun x => x.d.at_) := ⟨enters_fn Try.func94 (by kernel_rfl) rfl, cmpA⟩
end Go.Proofs.Ytliopckocegknac

/- vaultBegun answers true. -/
namespace Go.Proofs.Ytliopckocegknac
open Go.RowKit
set_option maxRecDepth 20000
attribute [local go_sem ↓] Go.wp_at_zero Go.wp_at_succ

section
variable {w0 w : World} {vb tb gb : Nat} {f : Nat → List Ver} {n : Nat} {cs : List (List Ver)} {r : List Thing} {D D2 : Nat} {md y md2 y2 : Int} {rs rs2 : List Int} {ws ws2 : List Ver}
theorem b_begin {md at_ : Int} (hb : bcode f n md at_ = 0) (hz : Zoo w0 w (VltT vb tb gb f n cs [] :: r)) :
    Calls Try.prog 111 #[.pointer (some ⟨vb, 0, none⟩), .int .i64 md, .int .i64 at_] w fun e w' => ∃ D, e = .returned (.tuple #[.pointer (some ⟨D, 0, none⟩), .int .i64 0]) ∧ Hid (Zoo w0 w' (VltT vb tb gb f n cs [] :: BoxT D (dcells md (bat n md at_) (ncell [] [])) 131 :: r)) := by
  obtain ⟨F, ⟨Ft, Fg, k⟩, _⟩ := zoo_at0 hz
  refine (vbegin md at_ w k).mono ?_
  rintro e w' (⟨_, D, rfl, hD, hd, hk⟩ | ⟨h, _⟩)
  · exact ⟨D, rfl, Zoo.put_ (l1 := [VltT vb tb gb f n cs []]) hz (F := [D]) ⟨hd, rfl, hD⟩ hk⟩
  · exact absurd hb h
theorem b_none {md at_ z : Int} (hb : bcode f n md at_ = z) (h0 : z ≠ 0) (hz : Zoo w0 w (VltT vb tb gb f n cs [] :: r)) :
    Calls Try.prog 111 #[.pointer (some ⟨vb, 0, none⟩), .int .i64 md, .int .i64 at_] w fun e w' => e = .returned (.tuple #[.pointer none, .int .i64 z]) ∧ Hid (Zoo w0 w' (VltT vb tb gb f n cs [] :: r)) := by
  obtain ⟨F, ⟨Ft, Fg, k⟩, _⟩ := zoo_at0 hz
  refine (vbegin md at_ w k).mono ?_
  rintro e w' (⟨h, _⟩ | ⟨_, rfl, hk⟩)
  · exact absurd (hb.symm.trans h) h0
  · exact ⟨by rw [hb], hz.kp0 hk⟩
theorem b_put1 (k : Int) (t : Bool) (s : ByteArray) (hs : s.size ≤ maxLen) (hz : Zoo w0 w (VltT vb tb gb f n cs [] :: BoxT D (dcells md y (ncell rs ws)) 131 :: r)) :
    Calls Try.prog 114 #[.pointer (some ⟨D, 0, none⟩), .int .i64 k, .agg #[.bool t, .string s]] w fun e w' => e = .returned (.int .i64 (dpc md k t s)) ∧ Hid (Zoo w0 w' (VltT vb tb gb f n cs [] :: BoxT D (dcells md y (ncell rs (dpw md ws k t s))) 131 :: r)) := by
  obtain ⟨F, ⟨h1, h2, h3⟩, k2⟩ := zoo_at1 hz
  exact (dput57 k t s w h1 hs).mono (fun e w' ⟨he, hd, hk⟩ => ⟨he, k2 _ _ ⟨F, ⟨hd, h2, h3⟩, by rw [h2]; exact hk, fun x hx => .inl hx⟩⟩)
theorem b_commit (hv : VI f n cs) (hd : Ded w D md y rs ws) (hw : WOk ws) (hz : Zoo w0 w (VltT vb tb gb f n cs [] :: r)) :
    Calls Try.prog 116 #[.pointer (some ⟨vb, 0, none⟩), .pointer (some ⟨D, 0, none⟩)] w fun e w' => e = .returned (.tuple #[.int .i64 (vnum f n cs md y rs ws), .int .i64 (vcode f cs md y rs ws)]) ∧ Hid (Zoo w0 w' (VltT vb tb gb (vf f n cs md y rs ws) (vn f n cs md y rs ws) (vcs f cs md y rs ws) [] :: r)) := by
  obtain ⟨F, ⟨Ft, Fg, k⟩, k2⟩ := zoo_at0 hz
  exact (vcommit w k hv hd hw).mono (fun e w' ⟨he, hc⟩ => ⟨he, k2 _ _ hc⟩)
theorem b_crash (hz : Zoo w0 w (VltT vb tb gb f n cs [] :: r)) :
    Calls Try.prog 61 #[.pointer (some ⟨vb, 0, none⟩)] w fun e w' => e = .returned (.tuple #[]) ∧ ∃ tb', w'.cell? ⟨vb, 0, none⟩ = some (.pointer (some ⟨tb', 0, none⟩)) ∧ Hid (Zoo w0 w' (VltT vb tb' gb (wal0 cs) cs.length cs [] :: r)) := by
  obtain ⟨F, ⟨Ft, Fg, k⟩, k2⟩ := zoo_at0 hz
  refine (vcrash w k).mono ?_
  rintro e w' ⟨rfl, tb', hc⟩
  have hz' := k2 _ _ hc
  obtain ⟨F', ⟨Ft', Fg', k'⟩, _⟩ := zoo_at0 hz'
  exact ⟨rfl, tb', k'.c0, hz'⟩
end

end Go.Proofs.Ytliopckocegknac

/- A vault at the head of a list of things: its contracts, and plain words of deeds that only read. -/
namespace Go.Proofs.Ytliopckocegknac
open Go.RowKit
set_option maxRecDepth 20000

theorem zoo_mem {w0 w : World} {o : Thing} {os : List Thing} (h : Zoo w0 w os) (hm : o ∈ os) : ∃ F, o.holds w0.heap.size w F := by
  obtain ⟨l1, l2, rfl⟩ := List.append_of_mem hm
  obtain ⟨F, h1, _⟩ := h.at_
  exact ⟨F, h1⟩
theorem zoo_swap {w0 w : World} {A V : Thing} {r : List Thing} (hz : Zoo w0 w (A :: V :: r)) : Zoo w0 w (V :: A :: r) := hz.perm (List.Perm.swap V A r)
section
variable {w0 w : World} {vb tb gb : Nat} {f : Nat → List Ver} {n : Nat} {cs : List (List Ver)} {r : List Thing} {D : Nat} {md y : Int} {rs : List Int} {ws : List Ver}
theorem l_get (k : Int) (hz : Zoo w0 w (VltT vb tb gb f n cs [] :: BoxT D (dcells md y (ncell rs ws)) 131 :: r)) :
    Calls Try.prog 113 #[.pointer (some ⟨D, 0, none⟩), .pointer (some ⟨tb, 0, none⟩), .int .i64 k] w fun e w' => e = .returned (.tuple #[.agg #[.bool (dg f n y ws k).t, .string (dg f n y ws k).s], .int .i64 (dg f n y ws k).a]) ∧
      Hid (Zoo w0 w' (VltT vb tb gb f n cs [] :: BoxT D (dcells md y (ncell (dr f n y rs ws k) ws)) 131 :: r)) := by
  obtain ⟨F1, ⟨Ft, Fg, k1⟩, _⟩ := zoo_at0 hz
  obtain ⟨F, ⟨h1, h2, h3⟩, k2⟩ := zoo_at1 hz
  exact (dget55 k w k1.t h1).mono (fun e w' ⟨he, hd, hk⟩ => ⟨he, k2 _ _ ⟨F, ⟨hd, h2, h3⟩, by rw [h2]; exact hk, fun x hx => .inl hx⟩⟩)
theorem l_last (hz : Zoo w0 w (VltT vb tb gb f n cs [] :: r)) : Calls Try.prog 21 #[.pointer (some ⟨tb, 0, none⟩)] w fun e w' => e = .returned (.int .i64 n) ∧ w' = w := by
  obtain ⟨F1, ⟨Ft, Fg, k1⟩, _⟩ := zoo_at0 hz
  exact tlast38 w k1.t
end
end Go.Proofs.Ytliopckocegknac

/- What the laws of torn and crashed vaults meet: all keys' values in variables, beside a vault. -/
namespace Go.Proofs.Ytliopckocegknac
open Go.RowKit
set_option maxRecDepth 20000

/-- Two operations may come up next. -/
theorem wpAnyH_two {P : Program} {md : Region.Mode} {l r1 r2 : List Oper} {Q : Exit → Act → World → Prop} {S : World → Prop} {i j : Nat} {oi oj : Oper} {fuel : Nat} {listed : Array Bool} {a : Act} {w : World} (hi : l.drop i = oi :: r1) (hj : l.drop j = oj :: r2) (hr : Region.ready md l.toArray listed = [i, j])
    (h1 : ∀ K' : Act → World → Prop, Shut (∀ a w, S w → (S w → wpAnyH P md l.toArray Q S fuel (listed.setIfInBounds i true) a w) → K' a w) → if Region.wanted oi (yielded l.toArray a.tmps) = true then Oper.wp P oi a w K' Q else K' (a.put oi.dst undef) w)
    (h2 : ∀ K' : Act → World → Prop, Shut (∀ a w, S w → (S w → wpAnyH P md l.toArray Q S fuel (listed.setIfInBounds j true) a w) → K' a w) → if Region.wanted oj (yielded l.toArray a.tmps) = true then Oper.wp P oj a w K' Q else K' (a.put oj.dst undef) w) :
    wpAnyH P md l.toArray Q S (fuel + 1) listed a w := wpAnyH_ready hr (by simp) (AllReadyH.cons (drop_at hi) h1 (AllReadyH.cons (drop_at hj) h2 AllReadyH.nil))

section
variable {w0 w : World} {vb tb gb : Nat} {f : Nat → List Ver} {n : Nat} {cs : List (List Ver)} {r : List Thing} {D : Nat} {md y : Int} {rs : List Int} {ws : List Ver} {V X : Thing}
theorem b_tear (keep : Int) (hv : VI f n cs) (hd : Ded w D md y rs ws) (hw : WOk ws) (hz : Zoo w0 w (VltT vb tb gb f n cs [] :: r)) :
    Calls Try.prog 117 #[.pointer (some ⟨vb, 0, none⟩), .pointer (some ⟨D, 0, none⟩), .int .i64 keep] w fun e w' => e = .returned (.tuple #[.int .i64 (tnum f cs md y rs ws keep), .int .i64 (vcode f cs md y rs ws)]) ∧ ∃ tb', Hid (Zoo w0 w' (VltT vb tb' gb (wal0 (tcs f cs md y rs ws keep)) (tcs f cs md y rs ws keep).length (tcs f cs md y rs ws keep) [] :: r)) := by
  obtain ⟨F, ⟨Ft, Fg, k⟩, k2⟩ := zoo_at0 hz
  exact (vtear keep w k hv hd hw).mono (fun e w' ⟨he, tb', hc⟩ => ⟨he, tb', k2 _ _ hc⟩)
end
theorem zoo_varm {w0 w : World} {os : List Thing} {p : Nat} {c : Array Value} {T : TypeId} (hz : Zoo w0 w os) (hm : BoxT p c T ∈ os) : w.heap[p]? = some (.cells c T (0, 0)) := by
  obtain ⟨F, h1, _⟩ := zoo_mem hz hm
  exact h1
theorem zeros_eq : wagg (fun _ => dv) = #[.bool false, .string ⟨#[]⟩, .bool false, .string ⟨#[]⟩, .bool false, .string ⟨#[]⟩, .bool false, .string ⟨#[]⟩, .bool false, .string ⟨#[]⟩, .bool false, .string ⟨#[]⟩, .bool false, .string ⟨#[]⟩, .bool false, .string ⟨#[]⟩] := rfl

end Go.Proofs.Ytliopckocegknac

/- Deeds that were done, in memory; those that are wanted of them (pick), by its contract; rows of them as things. -/
namespace Go.Proofs.Ytliopckocegknac
open Go.RowKit Srt
set_option maxRecDepth 20000
attribute [local go_sem ↓] Go.wp_at_zero Go.wp_at_succ

theorem Try.info90 : (Try.prog.info? 90).map (fun i => (i.zero, i.size, i.bytes)) = some (some (.agg #[.int .i64 0, .int .i64 0, .int .i64 0, .slice none 0 0]), 4, 48) := by kernel_rfl
/-- A deed that was done lies in block b from o on. -/
structure DnAt (w : World) (b o : Nat) (x : Dn) : Prop where
  c0 : w.cell? ⟨b, o, none⟩ = some (.int .i64 x.n)
  c1 : w.cell? ⟨b, o + 1, none⟩ = some (.int .i64 x.at_)
  c2 : w.cell? ⟨b, o + 2, none⟩ = some (.int .i64 x.md)
  cp : ∃ la lc, w.cell? ⟨b, o + 3, none⟩ = some (.slice la x.acts.length lc) ∧ x.acts.length ≤ lc
  ls : ∃ la lc, w.cell? ⟨b, o + 3, none⟩ = some (.slice la x.acts.length lc) ∧ ActsIn w la x.acts
theorem DnAt.kp0 {w w' : World} {b o : Nat} {x : Dn} (h : DnAt w b o x) (hk : Kp [] w w') : DnAt w' b o x := by
  obtain ⟨la, lc, h1, h2⟩ := h.ls
  obtain ⟨la', lc', h1', h2'⟩ := h.cp
  exact ⟨hk.cell (by simp) h.c0, hk.cell (by simp) h.c1, hk.cell (by simp) h.c2, ⟨la', lc', hk.cell (by simp) h1', h2'⟩, la, lc, hk.cell (by simp) h1, h2.kp0 hk⟩
/-- Deeds lie behind a slice's address. -/
def DnsIn (w : World) (a : Option Addr) (l : List Dn) : Prop := 0 < l.length → ∃ b o, a = some ⟨b, o, none⟩ ∧ ∀ i x, l[i]? = some x → DnAt w b (o + i * 4) x
theorem DnsIn.kp0 {w w' : World} {a : Option Addr} {l : List Dn} (h : DnsIn w a l) (hk : Kp [] w w') : DnsIn w' a l := fun hp => by
  obtain ⟨b, o, e, h1⟩ := h hp
  exact ⟨b, o, e, fun i x hx => (h1 i x hx).kp0 hk⟩
def DnsOk (l : List Dn) : Prop := l.length ≤ 1000 ∧ ∀ x, x ∈ l → ActsOk x.acts

/-- A closure that tells whether a deed is wanted. -/
structure Prd (f : Nat) (p : Dn → Bool) : Prop where
  enters : ∀ args w, (callFunc f args).run Try.prog w = .ok (.enter f args) w
  calls : ∀ x w, Calls Try.prog f #[dxv x] w fun e w' => e = .returned (.bool (p x.d)) ∧ Kp [] w w'
theorem prd_n : Prd 89 (fun d => decide (0 < d.n)) := by
  refine ⟨enters_fn Try.func89 (by kernel_rfl) rfl, fun x w => ?_⟩
  have hk : Kp [] w (w.alloc (.cells (dxc x).toArray 90)) := (Kp.refl [] w).alloc _
  obtain ⟨⟨n, at_, md, acts⟩, a, c⟩ := x
  dsimp only [dxv, dxc] at *
  generalize acts.length = l at *
  go_enter Try.func89, Try.ntmps89
  go_wp2_with fail
  go_ret
  exact ⟨rfl, hk⟩
theorem prd_a : Prd 93 (fun d => decide (d.n = 0 ∧ 0 ≤ d.at_)) := by
  refine ⟨enters_fn Try.func93 (by kernel_rfl) rfl, fun x w => ?_⟩
  have hk : Kp [] w (w.alloc (.cells (dxc x).toArray 90)) := (Kp.refl [] w).alloc _
  obtain ⟨⟨n, at_, md, acts⟩, a, c⟩ := x
  dsimp only [dxv, dxc] at *
  generalize acts.length = l at *
  by_cases h1 : n = 0
  · subst h1
    by_cases h2 : 0 ≤ at_
    · go_enter Try.func93, Try.ntmps93
      go_wp2_with fail
      go_ret
      exact ⟨by simp [h2], hk⟩
    · go_enter Try.func93, Try.ntmps93
      go_wp2_with fail
      go_ret
      exact ⟨by simp [h2], hk⟩
  · go_enter Try.func93, Try.ntmps93
    go_wp2_with fail
    go_ret
    exact ⟨by simp [h1], hk⟩

/-- The cells of deeds, one behind the other. -/
def dxcs (xs : List Dx) : List Value := xs.flatMap dxc
theorem dxcs_app (xs ys : List Dx) : dxcs (xs ++ ys) = dxcs xs ++ dxcs ys := by simp [dxcs]
theorem dxcs_at : ∀ {xs : List Dx} {i : Nat} {x : Dx}, xs[i]? = some x → (dxcs xs)[i * 4]? = some (.int .i64 x.d.n) ∧ (dxcs xs)[i * 4 + 1]? = some (.int .i64 x.d.at_) ∧ (dxcs xs)[i * 4 + 2]? = some (.int .i64 x.d.md) ∧ (dxcs xs)[i * 4 + 3]? = some (.slice x.a x.d.acts.length x.c) := by
  intro xs
  induction xs with
  | nil => intro i x h; simp at h
  | cons y r ih =>
    intro i x h
    have e : dxcs (y :: r) = dxc y ++ dxcs r := rfl
    cases i with
    | zero =>
      simp at h
      subst h
      rw [e]
      exact ⟨rfl, rfl, rfl, rfl⟩
    | succ i =>
      simp at h
      obtain ⟨h0, h1, h2, h3⟩ := ih h
      have hl : (dxc y).length = 4 := rfl
      rw [e]
      refine ⟨?_, ?_, ?_, ?_⟩
      · rw [List.getElem?_append_right (by rw [hl]; omega), hl, show (i + 1) * 4 - 4 = i * 4 by omega]; exact h0
      · rw [List.getElem?_append_right (by rw [hl]; omega), hl, show (i + 1) * 4 + 1 - 4 = i * 4 + 1 by omega]; exact h1
      · rw [List.getElem?_append_right (by rw [hl]; omega), hl, show (i + 1) * 4 + 2 - 4 = i * 4 + 2 by omega]; exact h2
      · rw [List.getElem?_append_right (by rw [hl]; omega), hl, show (i + 1) * 4 + 3 - 4 = i * 4 + 3 by omega]; exact h3
/-- What pick tells: the deeds that are wanted, in a row of their own. -/
def PkEnd (p : Dn → Bool) (ds : List Dn) (wb w : World) (e : Ending) (w' : World) : Prop := ∃ a cap xs, e = .returned (.slice a xs.length cap) ∧ xs.map Dx.d = ds.filter p ∧ (∀ x, x ∈ xs → ActsIn wb x.a x.d.acts) ∧ KRow 90 4 w.heap.size w' a xs.length cap (dxcs xs) ∧ Kp [] w w'
structure PkI (p : Dn → Bool) (ds : List Dn) (wb w wr : World) (a : Option Addr) (cap n k : Nat) (xs : List Dx) : Prop where
  nl : n = xs.length
  map : xs.map Dx.d = (ds.take k).filter p
  acts : ∀ x, x ∈ xs → ActsIn wb x.a x.d.acts
  zoo : Zoo w wr [KwT 90 4 a n cap (dxcs xs)]
  le : xs.length ≤ k
set_option maxHeartbeats 1000000 in
theorem pick {f : Nat} {p : Dn → Bool} (hp : Prd f p) (a : Option Addr) (c : Nat) (ds : List Dn) (wb w : World) (hwb : Kp [] wb w) (h : DnsIn wb a ds) (hm : ds.length ≤ 1000) :
    Calls Try.prog 88 #[.slice a ds.length c, .func (.func f) #[] #[]] w fun e w' => PkEnd p ds wb w e w' := by
  have hu := Try.underlying85
  have HC := hide hp
  have eg := hp.enters
  have HD := hide h
  have HKB := hide hwb
  clear h hp hwb
  obtain ⟨m, hmm⟩ : ∃ m, ds.length = m := ⟨_, rfl⟩
  rw [hmm]
  rw [hmm] at hm
  have HM := hide hmm
  clear hmm
  go_enter Try.func88, Try.ntmps88
  go_wp2_with fail
  go_loopw [5, 7, 10] (fun x _ y wr => ∃ (k : Nat) (a' : Option Addr) (cap n : Nat), k ≤ m ∧ x = .slice a' n cap ∧ y = .int .i64 k ∧ Hid (∃ xs, PkI p ds wb w wr a' cap n k xs)) (fun _ _ y _ => m - (intOf y).toNat)
  case atStart => exact ⟨0, none, 0, 0, Nat.zero_le _, rfl, rfl, [], rfl, by simp, fun x hx => by simp at hx, kw_nil _ 4 (zoo_nil (Kp.refl [] w)), by simp⟩
  case round =>
    obtain ⟨k, a', cap, n, hk, rfl, rfl, HI⟩ := hrel
    obtain ⟨xs, hi⟩ := unhide HI
    have HP := hide hi
    have hnk : n ≤ k := by rw [hi.nl]; exact hi.le
    clear hi HI
    by_cases hlt : k < m
    · have i1 : (k : Int) < (m : Int) := by omega
      have i0 : (0 : Int) ≤ (k : Int) := by omega
      have hln : k < ds.length := by have := unhide HM; omega
      obtain ⟨b, o, rfl, hb⟩ := (unhide HD) (by omega)
      obtain ⟨x, hx⟩ : ∃ x, ds[k]? = some x := ⟨_, List.getElem?_eq_getElem hln⟩
      have htk : ds.take (k + 1) = ds.take k ++ [x] := by rw [List.take_add_one, hx]; rfl
      have HT := hide htk
      have hat := hb k x hx
      have hkw := (unhide HKB).trans0 (unhide HP).zoo.kp
      obtain ⟨la, lc, z3, hls⟩ := hat.ls
      have HLS := hide hls
      have q0 := (hat.kp0 hkw).c0
      have q1 := (hat.kp0 hkw).c1
      have q2 : wr.cell? ⟨b, o + k * 4 + 1 + 1, none⟩ = _ := (hat.kp0 hkw).c2
      have q3 : wr.cell? ⟨b, o + k * 4 + 1 + 1 + 1, none⟩ = _ := hkw.cell (by simp) z3
      clear hat hb hx hls z3 hkw htk
      obtain ⟨xn, xa, xm, xacts⟩ := x
      dsimp only at q0 q1 q2 q3 HLS
      have HCC : Hid (∀ W, Calls Try.prog f #[.agg #[.int .i64 xn, .int .i64 xa, .int .i64 xm, .slice la xacts.length lc]] W fun e w' => e = .returned (.bool (p ⟨xn, xa, xm, xacts⟩)) ∧ Kp [] W w') := fun W => (unhide HC).calls ⟨⟨xn, xa, xm, xacts⟩, la, lc⟩ W
      obtain ⟨ln, hlen⟩ : ∃ ln, xacts.length = ln := ⟨_, rfl⟩
      rw [hlen] at q3 HCC
      have HLN := hide hlen
      clear hlen
      obtain ⟨pb, hpb⟩ : ∃ pb, p ⟨xn, xa, xm, xacts⟩ = pb := ⟨_, rfl⟩
      rw [hpb] at HCC
      have HPB := hide hpb
      clear hpb
      have HZ1 := hide ((unhide HP).zoo.box #[.int .i64 xn, .int .i64 xa, .int .i64 xm, .slice la ln lc] 90)
      go_wp2_with fail
      refine ((unhide HCC) _).mono ?_
      rintro e w2 ⟨rfl, hk2⟩
      have HZ2 := hide ((unhide HZ1).kp0 hk2)
      clear hk2 HZ1
      generalize wr.heap.size = g at *
      have hbx := Zoo.var (unhide HZ2)
      have b0 : w2.cell? ⟨g, 0, none⟩ = some (.int .i64 xn) := cell_of_block hbx rfl
      have b1 : w2.cell? ⟨g, 1, none⟩ = some (.int .i64 xa) := cell_of_block hbx rfl
      have b2 : w2.cell? ⟨g, 2, none⟩ = some (.int .i64 xm) := cell_of_block hbx rfl
      have b3 : w2.cell? ⟨g, 3, none⟩ = some (.slice la ln lc) := cell_of_block hbx rfl
      have hgl := lt_of_block hbx
      have hBw := Zoo.base (unhide HZ2)
      clear hbx q0 q1 q2 q3
      cases pb with
      | true =>
        have HZA := hide ((unhide HZ2).box #[.int .i64 xn, .int .i64 xa, .int .i64 xm, .slice la ln lc] 90)
        have HBX := hide (Zoo.var (unhide HZA))
        go_wp2_with (at_builtin; refine wpList_krow (by rfl) (.tmp 17) (.tmp 19) 85 (by rfl) hu Try.info90 rfl (by omega) (kw_row (l1 := [BoxT w2.heap.size #[.int .i64 xn, .int .i64 xa, .int .i64 xm, .slice la ln lc] 90, BoxT g #[.int .i64 xn, .int .i64 xa, .int .i64 xm, .slice la ln lc] 90]) (unhide HZA)) (by simp; omega) (.slice (some ⟨w2.heap.size, 0, none⟩) 1 1) [.int .i64 xn, .int .i64 xa, .int .i64 xm, .slice la ln lc] 1 (by rfl) (by rfl) (src_built hu (unhide HBX) rfl (by simp [Value.oneCell'])) (by omega) (n + 1) rfl ?_; intro a2 cap2 w3 g1 g2 g3)
        have HZ3 := hide (Zoo.tail (Zoo.tail (kw_app (l1 := [BoxT w2.heap.size #[.int .i64 xn, .int .i64 xa, .int .i64 xm, .slice la ln lc] 90, BoxT g #[.int .i64 xn, .int .i64 xa, .int .i64 xm, .slice la ln lc] 90]) (unhide HZA) (unhide g1) (unhide g2) (unhide g3))))
        refine ⟨⟨k + 1, a2, cap2, n + 1, by omega, rfl, by go_num, xs ++ [⟨⟨xn, xa, xm, xacts⟩, la, lc⟩], ?_, ?_, fun y hy => ?_, ?_, ?_⟩, by simp [intOf]; omega⟩
        · rw [List.length_append, (unhide HP).nl]; rfl
        · rw [List.map_append, (unhide HP).map, unhide HT, List.filter_append, List.filter_cons_of_pos (unhide HPB)]
          rfl
        · rcases List.mem_append.1 hy with e | e
          · exact (unhide HP).acts y e
          · rw [List.mem_singleton.1 e]; exact unhide HLS
        · rw [dxcs_app, show dxcs [⟨⟨xn, xa, xm, xacts⟩, la, lc⟩] = [.int .i64 xn, .int .i64 xa, .int .i64 xm, .slice la ln lc] from by rw [← unhide HLN]; rfl]
          exact unhide HZ3
        · have := (unhide HP).le; rw [List.length_append]; simp; omega
      | false =>
        go_wp2_with fail
        refine ⟨⟨k + 1, a', cap, n, by omega, rfl, by go_num, xs, (unhide HP).nl, ?_, (unhide HP).acts, (unhide HZ2).tail, ?_⟩, by simp [intOf]; omega⟩
        · rw [(unhide HP).map, unhide HT, List.filter_append, List.filter_cons_of_neg (by rw [unhide HPB]; simp), List.filter_nil, List.append_nil]
        · have := (unhide HP).le; omega
    · have i1 : ¬ (k : Int) < (m : Int) := by omega
      go_wp2_with fail
      go_ret
      have hn := (unhide HP).nl
      have hz := (unhide HP).zoo
      have hmp := (unhide HP).map
      rw [List.take_of_length_le (by have := unhide HM; omega)] at hmp
      rw [hn] at hz
      exact ⟨a', cap, xs, congrArg (fun z => Ending.returned (Value.slice a' z cap)) hn, hmp, (unhide HP).acts, kw_row (l1 := []) hz, hz.kp⟩
end Go.Proofs.Ytliopckocegknac

/- What is looked at between two commits: the closure, by its contract. -/
namespace Go.Proofs.Ytliopckocegknac
open Go.RowKit Srt
set_option maxRecDepth 20000
attribute [local go_sem ↓] Go.wp_at_zero Go.wp_at_succ

/-- A deed's cells, from o on. -/
structure DxAt (w : World) (g o : Nat) (x : Dx) : Prop where
  c0 : w.cell? ⟨g, o, none⟩ = some (.int .i64 x.d.n)
  c1 : w.cell? ⟨g, o + 1, none⟩ = some (.int .i64 x.d.at_)
  c2 : w.cell? ⟨g, o + 2, none⟩ = some (.int .i64 x.d.md)
  c3 : w.cell? ⟨g, o + 3, none⟩ = some (.slice x.a x.d.acts.length x.c)
def DxIn (w : World) (a : Option Addr) (L : List Dx) : Prop := 0 < L.length → ∃ g o, a = some ⟨g, o, none⟩ ∧ ∀ i x, L[i]? = some x → DxAt w g (o + i * 4) x
theorem DxAt.kp {S : List Nat} {w w' : World} {g o : Nat} {x : Dx} (h : DxAt w g o x) (hk : Kp S w w') (hg : g ∉ S) : DxAt w' g o x := ⟨hk.cell hg h.c0, hk.cell hg h.c1, hk.cell hg h.c2, hk.cell hg h.c3⟩
theorem DxIn.kp {S : List Nat} {w w' : World} {a : Option Addr} {L : List Dx} (h : DxIn w a L) (hk : Kp S w w') (hg : 0 < L.length → ∀ x, x ∈ obd a → x ∉ S) : DxIn w' a L := fun hp => by
  obtain ⟨g, o, e, h1⟩ := h hp
  exact ⟨g, o, e, fun i x hx => (h1 i x hx).kp hk (hg hp g (by rw [e]; simp [obd]))⟩
/-- The variable that holds what is still to be looked at, and those deeds. -/
def LkT (pb : Nat) (L : List Dx) : Thing where
  holds B w F := ∃ a c, w.heap[pb]? = some (.cells #[.slice a L.length c] 85 (0, 0)) ∧ DxIn w a L ∧ F = pb :: (if L.length = 0 then [] else obd a) ∧ (∀ x, x ∈ F → B ≤ x ∧ x < w.heap.size) ∧ (0 < L.length → pb ∉ obd a) ∧ L.length ≤ c
  kp := fun ⟨a, c, h1, h2, h3, h4, h5, h6⟩ hk hS => ⟨a, c, by rw [hk.block pb (lt_of_block h1) (hS pb (by rw [h3]; simp))]; exact h1, h2.kp hk (fun hp x hx => hS x (by rw [h3, if_neg (by omega)]; simp [hx])), h3, fun x hx => ⟨(h4 x hx).1, Nat.lt_of_lt_of_le (h4 x hx).2 hk.size⟩, h5, h6⟩
  lo := fun ⟨_, _, _, _, _, h4, _, _⟩ => h4
  base := fun ⟨a, c, h1, h2, h3, h4, h5, h6⟩ hC => ⟨a, c, h1, h2, h3, fun x hx => ⟨Nat.le_trans hC (h4 x hx).1, (h4 x hx).2⟩, h5, h6⟩
theorem lk_next {B pb g o c c' : Nat} {w : World} {F : List Nat} {x : Dx} {L : List Dx} {a' : Option Addr} (h : (LkT pb (x :: L)).holds B w F) (hc : w.cell? ⟨pb, 0, none⟩ = some (.slice (some ⟨g, o, none⟩) (L.length + 1) c)) (ha : 0 < L.length → a' = some ⟨g, o + 4, none⟩) (hl : L.length ≤ c') : Ch (LkT pb L) B w F (w.setCell ⟨pb, 0, none⟩ (.slice a' L.length c')) := by
  obtain ⟨a, c1, h1, h2, h3, h4, h5, h6⟩ := h
  have hp : 0 < (x :: L).length := by simp
  have e0 := cell_of_block (i := 0) h1 rfl
  rw [hc] at e0
  simp only [Option.some.injEq] at e0
  obtain ⟨rfl, _, rfl⟩ := Value.slice.inj e0
  obtain ⟨g', o', e, hx⟩ := h2 hp
  simp only [Option.some.injEq, Addr.mk.injEq, and_true] at e
  obtain ⟨rfl, rfl⟩ := e
  have hne : pb ≠ g := fun q => h5 hp (by rw [q]; simp [obd])
  have hk : Kp [pb] w (w.setCell ⟨pb, 0, none⟩ (.slice a' L.length c')) := (Kp.refl [pb] w).setCell (.inl (by simp)) _
  have hpF : pb ∈ F := by rw [h3]; simp
  have hgF : g ∈ F := by rw [h3, if_neg (by omega)]; simp [obd]
  refine ⟨pb :: (if L.length = 0 then [] else obd a'), ⟨a', c', ?_, fun hq => ⟨g, o + 4, ha hq, fun i y hy => ?_⟩, rfl, fun y hy => ?_, fun hq => ?_, hl⟩, hk.mono (fun y hy => .inl (by rw [List.mem_singleton.1 hy]; exact hpF)), fun y hy => ?_⟩
  · rw [heap_setCell_at _ _ h1]; rfl
  · have := (hx (i + 1) y (by simpa using hy)).kp hk (by simp; exact fun q => hne q.symm)
    rwa [show o + (i + 1) * 4 = o + 4 + i * 4 by omega] at this
  · rcases List.mem_cons.1 hy with q | q
    · rw [q]; exact ⟨(h4 pb hpF).1, Nat.lt_of_lt_of_le (h4 pb hpF).2 hk.size⟩
    · split at q
      · simp at q
      · rw [ha (by omega)] at q
        simp [obd] at q
        rw [q]; exact ⟨(h4 g hgF).1, Nat.lt_of_lt_of_le (h4 g hgF).2 hk.size⟩
  · rw [ha hq]; simp [obd]; exact hne
  · rcases List.mem_cons.1 hy with q | q
    · rw [q]; exact .inl hpF
    · split at q
      · simp at q
      · rw [ha (by omega)] at q
        simp [obd] at q
        rw [q]; exact .inl hgF
theorem s3_kp {w w' : World} {p0 p1 : Addr} {x0 x1 : Value} {q : Nat} {cs : List Value} (h : w.cell? p0 = some x0 ∧ w.cell? p1 = some x1 ∧ w.rangeAt q 0 cs) (hk : Kp [] w w') : w'.cell? p0 = some x0 ∧ w'.cell? p1 = some x1 ∧ w'.rangeAt q 0 cs :=
  ⟨hk.cell (by simp) h.1, hk.cell (by simp) h.2.1, fun j u hu => hk.cell (by simp) (h.2.2 j u hu)⟩
theorem rangeAt_var {w : World} {p : Nat} {u : Nat → Ver} {T : TypeId} (h : w.heap[p]? = some (.cells (wagg u) T (0, 0))) : w.rangeAt p 0 (wagg u).toList := fun j v hv => by
  rw [Nat.zero_add]
  exact cell_of_block h (by simpa using hv)
def BtEnd5 (v : Nat → Ver) (u : Int) (L : List Dx) (w0 : World) (pb : Nat) (r : List Thing) (e : Ending) (w' : World) : Prop := ∃ L', e = .returned (.bool (btw v u (L.map Dx.d)).1) ∧ L'.map Dx.d = (btw v u (L.map Dx.d)).2 ∧ (∀ x, x ∈ L' → x ∈ L) ∧ L'.length ≤ L.length ∧ Zoo w0 w' (LkT pb L' :: r)
theorem lk_fz {w0 w : World} {pb : Nat} {L : List Dx} {r : List Thing} (h : Zoo w0 w (LkT pb L :: r)) : w.frozen? ⟨pb, 0, none⟩ = false := by
  obtain ⟨F, ⟨a, c, h1, _⟩, _⟩ := zoo_at0 h
  exact frozen_of_block 0 h1
theorem lk_step {w0 w : World} {pb g o c c' : Nat} {x : Dx} {L : List Dx} {a' : Option Addr} {r : List Thing} (h : Zoo w0 w (LkT pb (x :: L) :: r)) (hc : w.cell? ⟨pb, 0, none⟩ = some (.slice (some ⟨g, o, none⟩) (L.length + 1) c)) (ha : 0 < L.length → a' = some ⟨g, o + 4, none⟩) (hl : L.length ≤ c') : Zoo w0 (w.setCell ⟨pb, 0, none⟩ (.slice a' L.length c')) (LkT pb L :: r) := by
  obtain ⟨F, h1, h2⟩ := zoo_at0 h
  exact h2 _ _ (lk_next h1 hc ha hl)
theorem lk_cell {w0 w : World} {pb : Nat} {L : List Dx} {r : List Thing} (h : Zoo w0 w (LkT pb L :: r)) : ∃ a c, w.cell? ⟨pb, 0, none⟩ = some (.slice a L.length c) ∧ DxIn w a L ∧ L.length ≤ c := by
  obtain ⟨F, ⟨a, c, h1, h2, _, _, _, h6⟩, _⟩ := zoo_at0 h
  exact ⟨a, c, cell_of_block h1 rfl, h2, h6⟩
theorem zoo_drop1 {w0 w : World} {A B : Thing} {r : List Thing} (h : Zoo w0 w (A :: B :: r)) : Zoo w0 w (A :: r) := (zoo_swap h).tail
set_option maxHeartbeats 2000000 in
theorem between5 (v : Nat → Ver) (u : Int) (pb : Nat) (L : List Dx) (w0 w : World) (r : List Thing) (hz : Zoo w0 w (LkT pb L :: r)) (ha : ∀ x, x ∈ L → (∀ W, Kp [] w0 W → ActsIn W x.a x.d.acts) ∧ ActsOk x.d.acts) :
    Calls Try.prog 96 #[.agg (wagg v), .int .i64 u, .pointer (some ⟨pb, 0, none⟩)] w fun e w' => BtEnd5 v u L w0 pb r e w' := by
  have HA := hide ha
  have HZ0 := hide (zoo_swap (hz.box (wagg v) 97))
  clear hz ha
  go_enter Try.func96, Try.ntmps96
  go_wp2_with fail
  generalize w.heap.size = q at *
  go_loopw [6, 7] (fun _ _ wr => Hid (∃ L' : List Dx, btw v u (L'.map Dx.d) = btw v u (L.map Dx.d) ∧ (∀ x, x ∈ L' → x ∈ L) ∧ L'.length ≤ L.length ∧ Zoo w0 wr (LkT pb L' :: BoxT q (wagg v) 97 :: r))) (fun _ _ wr => match wr.cell? ⟨pb, 0, none⟩ with | some (.slice _ n _) => n | _ => 0)
  case atStart => exact ⟨L, rfl, fun _ hx => hx, Nat.le_refl _, unhide HZ0⟩
  case round =>
    obtain ⟨L1, m1, m2, m3, hz⟩ := unhide hrel
    have HZ := hide hz
    have HM := hide (And.intro m1 (And.intro m2 m3))
    obtain ⟨a, c, hcell, hdx, hlec⟩ := lk_cell hz
    have hqv := Zoo.var (zoo_swap hz)
    clear hz hrel m1 m2 m3 HZ0
    cases L1 with
    | nil =>
      dsimp only [List.length_nil] at hcell
      go_wp2_with fail
      go_ret
      refine ⟨[], ?_, ?_, fun x hx => by simp at hx, by simp, zoo_drop1 (unhide HZ)⟩
      · rw [← (unhide HM).1]; rfl
      · rw [← (unhide HM).1]; rfl
    | cons x L' =>
      obtain ⟨g, o, rfl, hx⟩ := hdx (by simp)
      have h0 := hx 0 x (by simp)
      simp only [Nat.zero_mul, Nat.add_zero] at h0
      have c1 := h0.c1
      have c3 : wr.cell? ⟨g, o + 3, none⟩ = _ := h0.c3
      clear hx h0
      have hac := unhide HA x ((unhide HM).2.1 x (by simp))
      obtain ⟨⟨xn, xa, xm, xacts⟩, xp, xc⟩ := x
      dsimp only at c1 c3 hac
      have HAC := hide (hac.1 _ (unhide HZ).kp)
      have hok := hac.2
      clear hac
      obtain ⟨lx, hlx⟩ : ∃ lx, xacts.length = lx := ⟨_, rfl⟩
      rw [hlx] at c3
      have HLX := hide hlx
      clear hlx
      obtain ⟨n, hn⟩ : ∃ n, (⟨⟨xn, xa, xm, xacts⟩, xp, xc⟩ :: L').length = n := ⟨_, rfl⟩
      rw [hn] at hcell hlec
      have hn1 : 0 < n := by rw [← hn]; simp
      have hnl : L'.length + 1 = n := by rw [← hn]; simp
      have HN := hide hnl.symm
      have hlc : L'.length ≤ c - 1 := by omega
      have j1 : (0 : Int) < (n : Int) := by omega
      have hnl' : n - 1 = L'.length := by omega
      clear hn
      by_cases hau : xa ≤ u
      · have hau' : xa ≤ u := hau
        have HG := hide (And.intro hcell (And.intro c3 (rangeAt_var hqv)))
        go_wp2_with fail
        clear hqv
        refine wp_region_held_drew (S := fun w' => w'.cell? ⟨pb, 0, none⟩ = some (.slice (some ⟨g, o, none⟩) n c) ∧ w'.cell? ⟨g, o + 3, none⟩ = some (.slice xp lx xc) ∧ w'.rangeAt q 0 (wagg v).toList) (by kernel_rfl) (s3_kp (unhide HG) (Kp.refl [] wr).drew) (fun hHeld => ?_)
        have HKD := hide ((Kp.refl [] wr).drew)
        generalize World.drew _ = WD at HKD hHeld ⊢
        refine wpAnyH_tk (i := 0) rfl (by kernel_rfl) (by kernel_rfl) (by kernel_rfl) (fun _ _ _ h => h) (yields_s (by rfl) _ rfl q 0 rfl v (fun _ h => h.2.2)) hHeld ?_
        try simp only [Act.put, List.setIfInBounds_toArray, List.set_cons_zero, List.set_cons_succ]
        refine wpAnyH_tk (i := 1) (v := ?_) rfl (by kernel_rfl) (by kernel_rfl) (by kernel_rfl) (fun _ _ _ h => h) (Or.inl ⟨by rfl, ?_⟩) hHeld ?_
        rotate_left
        · intro w hSw
          try dsimp only at hSw
          go_simp
          try with_reducible rfl
        try simp only [Act.put, List.setIfInBounds_toArray, List.set_cons_zero, List.set_cons_succ]
        refine wpAnyH_tk (i := 2) (v := ?_) rfl (by kernel_rfl) (by kernel_rfl) (by kernel_rfl) (fun _ _ _ h => h) (Or.inl ⟨by rfl, ?_⟩) hHeld ?_
        rotate_left
        · intro w hSw
          try dsimp only at hSw
          go_simp
          try with_reducible rfl
        try simp only [Act.put, List.setIfInBounds_toArray, List.set_cons_zero, List.set_cons_succ]
        refine wpAnyH_tk (i := 3) (v := ?_) rfl (by kernel_rfl) (by kernel_rfl) (by kernel_rfl) (fun _ _ _ h => h) (Or.inl ⟨by rfl, ?_⟩) hHeld ?_
        rotate_left
        · intro w hSw
          try dsimp only at hSw
          go_simp
          try with_reducible rfl
        try simp only [Act.put, List.setIfInBounds_toArray, List.set_cons_zero, List.set_cons_succ]
        refine wpAnyH_tk (i := 4) (v := ?_) rfl (by kernel_rfl) (by kernel_rfl) (by kernel_rfl) (fun _ _ _ h => h) (Or.inl ⟨by rfl, ?_⟩) hHeld ?_
        rotate_left
        · intro w hSw
          try dsimp only at hSw
          go_simp
          try with_reducible rfl
        try simp only [Act.put, List.setIfInBounds_toArray, List.set_cons_zero, List.set_cons_succ]
        refine wpAnyH_two (i := 5) (j := 9) rfl rfl (by kernel_rfl) (fun K hK => ?_) (fun K hK => ?_)
        · go_simp
          rw [← unhide HLX]
          refine (replay v xp xc xacts _ ((unhide HAC).kp0 (unhide HKD)) hok).mono ?_
          rintro e w3 ⟨rfl, hk3⟩
          have HK3 := hide ((unhide HKD).trans0 hk3)
          clear hk3
          rw [unhide HLX]
          go_wp2_with fail
          refine hK.out _ _ (s3_kp (unhide HG) (unhide HK3)) (fun hHeld2 => ?_)
          clear hK K hHeld
          have hHeld := hHeld2
          clear hHeld2
          try simp only [Act.put, List.setIfInBounds_toArray, List.set_cons_zero, List.set_cons_succ]
          refine wpAnyH_tk (i := 6) (v := ?_) rfl (by kernel_rfl) (by kernel_rfl) (by kernel_rfl) (fun _ _ _ h => h) (Or.inl ⟨by rfl, ?_⟩) hHeld ?_
          rotate_left
          · intro w hSw
            try dsimp only at hSw
            go_simp
            try with_reducible rfl
          try simp only [Act.put, List.setIfInBounds_toArray, List.set_cons_zero, List.set_cons_succ]
          refine wpAnyH_tk (i := 7) (v := ?_) rfl (by kernel_rfl) (by kernel_rfl) (by kernel_rfl) (fun _ _ _ h => h) (Or.inl ⟨by rfl, ?_⟩) hHeld ?_
          rotate_left
          · intro w hSw
            try dsimp only at hSw
            go_simp
            try with_reducible rfl
          try simp only [Act.put, List.setIfInBounds_toArray, List.set_cons_zero, List.set_cons_succ]
          refine wpAnyH_tk (i := 8) (v := ?_) rfl (by kernel_rfl) (by kernel_rfl) (by kernel_rfl) (fun _ _ _ h => h) (Or.inl ⟨by rfl, ?_⟩) hHeld ?_
          rotate_left
          · intro w hSw
            try dsimp only at hSw
            go_simp
            try with_reducible rfl
          try simp only [Act.put, List.setIfInBounds_toArray, List.set_cons_zero, List.set_cons_succ]
          refine wpAnyH_only (i := 9) rfl (by kernel_rfl) (fun K hK => ?_)
          go_simp
          have HKA := hide ((unhide HK3).alloc (.cells (wagg (fun _ => dv)) 97))
          have HB3 := hide (heap_alloc_new w3 (.cells (wagg (fun _ => dv)) 97))
          have SS := s3_kp (unhide HG) (unhide HKA)
          rw [zeros_eq] at HKA HB3 SS
          have hp3 := (unhide HK3).size
          refine hK.out _ _ (SS) (fun hHeld2 => ?_)
          clear hK K hHeld
          have hHeld := hHeld2
          clear hHeld2
          try simp only [Act.put, List.setIfInBounds_toArray, List.set_cons_zero, List.set_cons_succ]
          clear SS
          generalize hp3e : w3.heap.size = p3 at *
          clear hp3e
          refine wpAnyH_only (i := 10) rfl (by kernel_rfl) (fun K hK => ?_)
          rw [if_pos (by rfl)]
          refine wp_store_row 97 _ _ rfl p3 (wagg (rpw v xacts)) rfl rfl 97 _ (unhide HB3) Try.size97 rfl (wagg_one _) ?_
          have HKE := hide ((unhide HKA).trans (setRow_kp (cs := wagg (rpw v xacts)) (unhide HB3)).2 (fun x hx => .inr (by rw [List.mem_singleton.1 hx]; exact hp3)))
          refine hK.out _ _ (s3_kp (unhide HG) (unhide HKE)) (fun hHeld2 => ?_)
          clear hK K hHeld
          have hHeld := hHeld2
          clear hHeld2
          simp only [Act.put]
          refine wpAnyH_tk (i := 11) (v := ?_) rfl (by kernel_rfl) (by kernel_rfl) (by kernel_rfl) (fun _ _ _ h => h) (Or.inl ⟨by rfl, ?_⟩) hHeld ?_
          rotate_left
          · intro w hSw
            try dsimp only at hSw
            go_simp
            try with_reducible rfl
          try simp only [Act.put, List.setIfInBounds_toArray, List.set_cons_zero, List.set_cons_succ]
          refine wpAnyH_done (by kernel_rfl) ?_ _
          generalize World.setRow _ _ _ = W12 at HKE ⊢
          clear hHeld
          have HZ2 := hide ((unhide HZ).kp0 (unhide HKE))
          cases hro : rpo v xacts with
          | false =>
            have HRO := hide hro
            clear hro
            go_wp2_with fail
            go_ret
            refine ⟨⟨⟨xn, xa, xm, xacts⟩, xp, xc⟩ :: L', ?_, ?_, (unhide HM).2.1, (unhide HM).2.2, zoo_drop1 (unhide HZ2)⟩
            · rw [← (unhide HM).1]; simp [btw, hau', unhide HRO]
            · rw [← (unhide HM).1]; simp [btw, hau', unhide HRO]
          | true =>
            have HRO := hide hro
            clear hro
            have hc2 : W12.cell? ⟨pb, 0, none⟩ = some (.slice (some ⟨g, o, none⟩) n c) := (unhide HKE).cell (by simp) (unhide HG).1
            have hf2 := lk_fz (unhide HZ2)
            go_wp2_with fail
            have HZ3 := hide (lk_step (c' := c - 1) (a' := if c = 1 then some ⟨g, o, none⟩ else some ⟨g, o + 4, none⟩) (unhide HZ2) (by rw [← unhide HN]; exact hc2) (fun q => if_neg (by omega)) hlc)
            obtain ⟨a9, c9, e9, _⟩ := lk_cell (unhide HZ3)
            exact ⟨⟨L', by rw [← (unhide HM).1]; simp [btw, hau', unhide HRO], fun y hy => (unhide HM).2.1 y (by simp [hy]), by have := (unhide HM).2.2; simp at this; omega, unhide HZ3⟩, by rw [e9, hcell]; dsimp only; omega⟩
          
        · go_simp
          have HKA := hide ((unhide HKD).alloc (.cells (wagg (fun _ => dv)) 97))
          have HB3 := hide (heap_alloc_new WD (.cells (wagg (fun _ => dv)) 97))
          have SS := s3_kp (unhide HG) (unhide HKA)
          rw [zeros_eq] at HKA HB3 SS
          have hp3 := (unhide HKD).size
          refine hK.out _ _ (SS) (fun hHeld2 => ?_)
          clear hK K hHeld
          have hHeld := hHeld2
          clear hHeld2
          try simp only [Act.put, List.setIfInBounds_toArray, List.set_cons_zero, List.set_cons_succ]
          clear SS
          generalize hp3e : WD.heap.size = p3 at *
          clear hp3e
          have HB4 := HB3
          refine wpAnyH_only (i := 5) rfl (by kernel_rfl) (fun K hK => ?_)
          go_simp
          rw [← unhide HLX]
          refine (replay v xp xc xacts _ ((unhide HAC).kp0 (unhide HKA)) hok).mono ?_
          rintro e w3 ⟨rfl, hk3⟩; have HKR := hide hk3
          have HK3 := hide ((unhide HKA).trans0 hk3)
          clear hk3
          rw [unhide HLX]
          go_wp2_with fail
          refine hK.out _ _ (s3_kp (unhide HG) (unhide HK3)) (fun hHeld2 => ?_)
          clear hK K hHeld
          have hHeld := hHeld2
          clear hHeld2
          try simp only [Act.put, List.setIfInBounds_toArray, List.set_cons_zero, List.set_cons_succ]
          refine wpAnyH_tk (i := 6) (v := ?_) rfl (by kernel_rfl) (by kernel_rfl) (by kernel_rfl) (fun _ _ _ h => h) (Or.inl ⟨by rfl, ?_⟩) hHeld ?_
          rotate_left
          · intro w hSw
            try dsimp only at hSw
            go_simp
            try with_reducible rfl
          try simp only [Act.put, List.setIfInBounds_toArray, List.set_cons_zero, List.set_cons_succ]
          refine wpAnyH_tk (i := 7) (v := ?_) rfl (by kernel_rfl) (by kernel_rfl) (by kernel_rfl) (fun _ _ _ h => h) (Or.inl ⟨by rfl, ?_⟩) hHeld ?_
          rotate_left
          · intro w hSw
            try dsimp only at hSw
            go_simp
            try with_reducible rfl
          try simp only [Act.put, List.setIfInBounds_toArray, List.set_cons_zero, List.set_cons_succ]
          refine wpAnyH_tk (i := 8) (v := ?_) rfl (by kernel_rfl) (by kernel_rfl) (by kernel_rfl) (fun _ _ _ h => h) (Or.inl ⟨by rfl, ?_⟩) hHeld ?_
          rotate_left
          · intro w hSw
            try dsimp only at hSw
            go_simp
            try with_reducible rfl
          try simp only [Act.put, List.setIfInBounds_toArray, List.set_cons_zero, List.set_cons_succ]
          have HB5 := hide (((unhide HKR).block p3 (lt_of_block (unhide HB3)) (by simp)).trans (unhide HB3))
          refine wpAnyH_only (i := 10) rfl (by kernel_rfl) (fun K hK => ?_)
          rw [if_pos (by rfl)]
          refine wp_store_row 97 _ _ rfl p3 (wagg (rpw v xacts)) rfl rfl 97 _ (unhide HB5) Try.size97 rfl (wagg_one _) ?_
          have HKE := hide ((unhide HK3).trans (setRow_kp (cs := wagg (rpw v xacts)) (unhide HB5)).2 (fun x hx => .inr (by rw [List.mem_singleton.1 hx]; exact hp3)))
          refine hK.out _ _ (s3_kp (unhide HG) (unhide HKE)) (fun hHeld2 => ?_)
          clear hK K hHeld
          have hHeld := hHeld2
          clear hHeld2
          simp only [Act.put]
          refine wpAnyH_tk (i := 11) (v := ?_) rfl (by kernel_rfl) (by kernel_rfl) (by kernel_rfl) (fun _ _ _ h => h) (Or.inl ⟨by rfl, ?_⟩) hHeld ?_
          rotate_left
          · intro w hSw
            try dsimp only at hSw
            go_simp
            try with_reducible rfl
          try simp only [Act.put, List.setIfInBounds_toArray, List.set_cons_zero, List.set_cons_succ]
          refine wpAnyH_done (by kernel_rfl) ?_ _
          generalize World.setRow _ _ _ = W12 at HKE ⊢
          clear hHeld
          have HZ2 := hide ((unhide HZ).kp0 (unhide HKE))
          cases hro : rpo v xacts with
          | false =>
            have HRO := hide hro
            clear hro
            go_wp2_with fail
            go_ret
            refine ⟨⟨⟨xn, xa, xm, xacts⟩, xp, xc⟩ :: L', ?_, ?_, (unhide HM).2.1, (unhide HM).2.2, zoo_drop1 (unhide HZ2)⟩
            · rw [← (unhide HM).1]; simp [btw, hau', unhide HRO]
            · rw [← (unhide HM).1]; simp [btw, hau', unhide HRO]
          | true =>
            have HRO := hide hro
            clear hro
            have hc2 : W12.cell? ⟨pb, 0, none⟩ = some (.slice (some ⟨g, o, none⟩) n c) := (unhide HKE).cell (by simp) (unhide HG).1
            have hf2 := lk_fz (unhide HZ2)
            go_wp2_with fail
            have HZ3 := hide (lk_step (c' := c - 1) (a' := if c = 1 then some ⟨g, o, none⟩ else some ⟨g, o + 4, none⟩) (unhide HZ2) (by rw [← unhide HN]; exact hc2) (fun q => if_neg (by omega)) hlc)
            obtain ⟨a9, c9, e9, _⟩ := lk_cell (unhide HZ3)
            exact ⟨⟨L', by rw [← (unhide HM).1]; simp [btw, hau', unhide HRO], fun y hy => (unhide HM).2.1 y (by simp [hy]), by have := (unhide HM).2.2; simp at this; omega, unhide HZ3⟩, by rw [e9, hcell]; dsimp only; omega⟩
          
      · have hau' : ¬ xa ≤ u := hau
        go_wp2_with fail
        go_ret
        refine ⟨⟨⟨xn, xa, xm, xacts⟩, xp, xc⟩ :: L', ?_, ?_, (unhide HM).2.1, (unhide HM).2.2, zoo_drop1 (unhide HZ)⟩
        · rw [← (unhide HM).1]; simp only [List.map_cons, btw]; rw [if_neg (by omega)]; rfl
        · rw [← (unhide HM).1]; simp only [List.map_cons, btw]; rw [if_neg (by omega)]
end Go.Proofs.Ytliopckocegknac

/- A hall's memory as one thing: its box, its vault, its seats' deeds. -/
namespace Go.Proofs.Ytliopckocegknac
open Go.RowKit
set_option maxRecDepth 20000

/-- Things as one thing. -/
def ManyT (os : List Thing) : Thing where
  holds B w F := ZooF B w os F
  kp := fun h hk hS => ZooF.kp hk h hS
  lo := fun h => h.lo
  base := fun h hC => ZooF.base hC h
theorem zoof_app {B : Nat} {w : World} : ∀ {us vs : List Thing} {X : List Nat}, ZooF B w (us ++ vs) X → ∃ F Y, ZooF B w us F ∧ ZooF B w vs Y ∧ (∀ x, x ∈ F → x ∉ Y) ∧ X = F ++ Y
  | [], vs, X, h => ⟨[], X, rfl, h, fun _ hx => by simp at hx, rfl⟩
  | o :: us, vs, X, ⟨F, Y, h1, h2, h3, e⟩ => by
    obtain ⟨F1, Y1, k1, k2, k3, rfl⟩ := zoof_app h2
    refine ⟨F ++ F1, Y1, ⟨F, F1, h1, k1, fun x hx hy => h3 x hx (by simp [hy]), rfl⟩, k2, fun x hx hy => ?_, by rw [e, List.append_assoc]⟩
    rcases List.mem_append.1 hx with q | q
    · exact h3 x q (by simp [hy])
    · exact k3 x q hy
theorem zoof_join {B : Nat} {w : World} : ∀ {us vs : List Thing} {F Y : List Nat}, ZooF B w us F → ZooF B w vs Y → (∀ x, x ∈ F → x ∉ Y) → ZooF B w (us ++ vs) (F ++ Y)
  | [], vs, F, Y, h1, h2, _ => by rw [show F = [] from h1]; exact h2
  | o :: us, vs, F, Y, ⟨F1, F2, h1, h2, h3, e⟩, k, hd => by
    subst e
    refine ⟨F1, F2 ++ Y, h1, zoof_join h2 k (fun x hx => hd x (by simp [hx])), fun x hx hy => ?_, by rw [List.append_assoc]⟩
    rcases List.mem_append.1 hy with q | q
    · exact h3 x hx q
    · exact hd x (by simp [hx]) q
section
variable {w0 w w' : World} {os us r : List Thing}
theorem many_open (h : Zoo w0 w (ManyT os :: r)) : Zoo w0 w (os ++ r) := by
  obtain ⟨X, ⟨F, Y, h1, h2, h3, rfl⟩, hk⟩ := h
  exact ⟨F ++ Y, zoof_join h1 h2 h3, hk⟩
theorem many_close (h : Zoo w0 w (os ++ r)) : Zoo w0 w (ManyT os :: r) := by
  obtain ⟨X, h1, hk⟩ := h
  obtain ⟨F, Y, k1, k2, k3, rfl⟩ := zoof_app h1
  exact ⟨F ++ Y, ⟨F, Y, k1, k2, k3, rfl⟩, hk⟩
end

/-- A seat's deed in memory: its block, and what it is; none. -/
abbrev Sd := Option (Nat × Dp)
def OptT : Sd → Thing
  | none => ManyT []
  | some x => BoxT x.1 (dcells x.2.md x.2.y (ncell x.2.rs x.2.ws)) 131
def sp (o : Sd) : Value := .pointer (o.map fun x => ⟨x.1, 0, none⟩)
def hcells (vb : Nat) (st : Nat → Sd) : Array Value := #[.pointer (some ⟨vb, 0, none⟩), sp (st 0), sp (st 1), sp (st 2), sp (st 3), sp (st 4)]
def seats (st : Nat → Sd) : List Thing := [OptT (st 0), OptT (st 1), OptT (st 2), OptT (st 3), OptT (st 4)]
def Sts (st : Nat → Sd) (seat : Nat → Option Dp) : Prop := ∀ s, (st s).map Prod.snd = seat s
/-- The things of a hall. -/
def hth (hb vb tb gb : Nat) (h : HSt) (st : Nat → Sd) : List Thing := BoxT hb (hcells vb st) 43 :: VltT vb tb gb h.f h.n h.cs [] :: seats st
def HalT (hb : Nat) (h : HSt) : Thing where
  holds B w F := ∃ vb tb gb st, Sts st h.seat ∧ HInv h ∧ ZooF B w (hth hb vb tb gb h st) F
  kp := fun ⟨vb, tb, gb, st, h1, h2, h3⟩ hk hS => ⟨vb, tb, gb, st, h1, h2, ZooF.kp hk h3 hS⟩
  lo := fun ⟨_, _, _, _, _, _, h⟩ => h.lo
  base := fun ⟨vb, tb, gb, st, h1, h2, h3⟩ hC => ⟨vb, tb, gb, st, h1, h2, ZooF.base hC h3⟩
/-- A hall among things, its parts known. -/
def Hall (w0 w : World) (hb vb tb gb : Nat) (h : HSt) (st : Nat → Sd) (r : List Thing) : Prop := Zoo w0 w (BoxT hb (hcells vb st) 43 :: VltT vb tb gb h.f h.n h.cs [] :: (seats st ++ r))

section
variable {w0 w w' : World} {hb vb tb gb : Nat} {h h' : HSt} {st : Nat → Sd} {r : List Thing}
theorem hal_open (hz : Zoo w0 w (HalT hb h :: r)) : ∃ vb tb gb st, Sts st h.seat ∧ HInv h ∧ Hall w0 w hb vb tb gb h st r := by
  obtain ⟨X, ⟨F, Y, ⟨vb, tb, gb, st, h1, h2, k⟩, h4, h5, rfl⟩, hk⟩ := hz
  exact ⟨vb, tb, gb, st, h1, h2, F ++ Y, zoof_join k h4 h5, hk⟩
theorem hal_close (hs : Sts st h.seat) (hi : HInv h) (hz : Hall w0 w hb vb tb gb h st r) : Zoo w0 w (HalT hb h :: r) := by
  obtain ⟨X, h1, hk⟩ := hz
  obtain ⟨F, Y, k1, k2, k3, rfl⟩ := zoof_app (us := hth hb vb tb gb h st) (vs := r) h1
  exact ⟨F ++ Y, ⟨F, Y, ⟨vb, tb, gb, st, hs, hi, k1⟩, k2, k3, rfl⟩, hk⟩
theorem Hall.kp0 (hz : Hall w0 w hb vb tb gb h st r) (hk : Kp [] w w') : Hall w0 w' hb vb tb gb h st r := Zoo.kp0 hz hk
theorem Hall.vlt (hz : Hall w0 w hb vb tb gb h st r) : Zoo w0 w (VltT vb tb gb h.f h.n h.cs [] :: BoxT hb (hcells vb st) 43 :: (seats st ++ r)) := zoo_swap hz
theorem Hall.of_vlt {vb : Nat} {f : Nat → List Ver} {n : Nat} {cs : List (List Ver)} {seat : Nat → Option Dp} (hz : Zoo w0 w (VltT vb tb gb f n cs [] :: BoxT hb (hcells vb st) 43 :: (seats st ++ r))) : Hall w0 w hb vb tb gb ⟨f, n, cs, seat⟩ st r := zoo_swap hz
theorem Hall.box (hz : Hall w0 w hb vb tb gb h st r) : w.heap[hb]? = some (.cells (hcells vb st) 43 (0, 0)) := Zoo.var hz
theorem Hall.c0 (hz : Hall w0 w hb vb tb gb h st r) : w.cell? ⟨hb, 0, none⟩ = some (.pointer (some ⟨vb, 0, none⟩)) := cell_of_block hz.box rfl
theorem hcells_at (vb : Nat) (st : Nat → Sd) {s : Nat} (hs : s < 5) : (hcells vb st)[1 + s]? = some (sp (st s)) := by
  rcases (show s = 0 ∨ s = 1 ∨ s = 2 ∨ s = 3 ∨ s = 4 by omega) with e | e | e | e | e <;> subst e <;> rfl
theorem Hall.cs_ (hz : Hall w0 w hb vb tb gb h st r) {s : Nat} (hs : s < 5) : w.cell? ⟨hb, 1 + s, none⟩ = some (sp (st s)) := cell_of_block hz.box (hcells_at vb st hs)
theorem Hall.fz (hz : Hall w0 w hb vb tb gb h st r) (i : Nat) : w.frozen? ⟨hb, i, none⟩ = false := frozen_of_block i hz.box
theorem Hall.lt (hz : Hall w0 w hb vb tb gb h st r) : hb < w.heap.size := lt_of_block hz.box
theorem Hall.v0 (hz : Hall w0 w hb vb tb gb h st r) : w.cell? ⟨vb, 0, none⟩ = some (.pointer (some ⟨tb, 0, none⟩)) := by
  obtain ⟨F, ⟨Ft, Fg, k⟩, _⟩ := zoo_at1 hz
  exact k.c0
theorem Hall.vlt_ (hz : Hall w0 w hb vb tb gb h st r) : vb < w.heap.size := by
  obtain ⟨F, ⟨Ft, Fg, k⟩, _⟩ := zoo_at1 hz
  exact (k.lo vb k.vF).2
theorem Hall.base (hz : Hall w0 w hb vb tb gb h st r) : w0.heap.size ≤ w.heap.size := Zoo.base hz
/-- The seats' things, one of them at its place. -/
theorem seats_at (st : Nat → Sd) {s : Nat} (hs : s < 5) : ∃ l1 l2, seats st = l1 ++ OptT (st s) :: l2 ∧ ∀ d, seats (upd st s d) = l1 ++ OptT d :: l2 := by
  rcases (show s = 0 ∨ s = 1 ∨ s = 2 ∨ s = 3 ∨ s = 4 by omega) with e | e | e | e | e <;> subst e
  · exact ⟨[], [OptT (st 1), OptT (st 2), OptT (st 3), OptT (st 4)], rfl, fun d => by simp [seats, upd]⟩
  · exact ⟨[OptT (st 0)], [OptT (st 2), OptT (st 3), OptT (st 4)], rfl, fun d => by simp [seats, upd]⟩
  · exact ⟨[OptT (st 0), OptT (st 1)], [OptT (st 3), OptT (st 4)], rfl, fun d => by simp [seats, upd]⟩
  · exact ⟨[OptT (st 0), OptT (st 1), OptT (st 2)], [OptT (st 4)], rfl, fun d => by simp [seats, upd]⟩
  · exact ⟨[OptT (st 0), OptT (st 1), OptT (st 2), OptT (st 3)], [], rfl, fun d => by simp [seats, upd]⟩
/-- A seat's deed, moved to the head: behind the vault; and back, another one in its place, the box as it was. -/
theorem Hall.out (hz : Hall w0 w hb vb tb gb h st r) {s : Nat} (hs : s < 5) : ∃ rest, Zoo w0 w (VltT vb tb gb h.f h.n h.cs [] :: OptT (st s) :: rest) ∧
    ∀ (w' : World) (tb' : Nat) (f : Nat → List Ver) (n : Nat) (cs : List (List Ver)) (d : Sd) (seat : Nat → Option Dp), sp d = sp (st s) → Zoo w0 w' (VltT vb tb' gb f n cs [] :: OptT d :: rest) → Hall w0 w' hb vb tb' gb ⟨f, n, cs, seat⟩ (upd st s d) r := by
  obtain ⟨l1, l2, e1, e2⟩ := seats_at st hs
  have hc : ∀ d, sp d = sp (st s) → hcells vb (upd st s d) = hcells vb st := fun d hd => by
    rcases (show s = 0 ∨ s = 1 ∨ s = 2 ∨ s = 3 ∨ s = 4 by omega) with e | e | e | e | e <;> subst e <;> simp [hcells, upd, hd]
  refine ⟨BoxT hb (hcells vb st) 43 :: (l1 ++ (l2 ++ r)), ?_, fun w' tb' f n cs d seat hd hz' => ?_⟩
  · have h1 := Hall.vlt hz
    rw [e1, List.append_assoc] at h1
    refine h1.perm (List.Perm.cons _ ?_)
    exact (List.perm_middle (l₁ := BoxT hb (hcells vb st) 43 :: l1))
  · refine Hall.of_vlt ?_
    rw [e2, hc d hd, List.append_assoc]
    refine hz'.perm (List.Perm.cons _ ?_)
    exact (List.perm_middle (l₁ := BoxT hb (hcells vb st) 43 :: l1)).symm
theorem Hall.out2 (hz : Hall w0 w hb vb tb gb h st r) {s : Nat} (hs : s < 5) : ∃ rest, Zoo w0 w (VltT vb tb gb h.f h.n h.cs [] :: OptT (st s) :: rest) ∧
    ∀ (w' : World) (tb' : Nat) (f : Nat → List Ver) (n : Nat) (cs : List (List Ver)) (d : Sd) (P : Thing) (seat : Nat → Option Dp), sp d = sp (st s) → Zoo w0 w' (VltT vb tb' gb f n cs [] :: OptT d :: P :: rest) → Hall w0 w' hb vb tb' gb ⟨f, n, cs, seat⟩ (upd st s d) (P :: r) := by
  obtain ⟨l1, l2, e1, e2⟩ := seats_at st hs
  have hc : ∀ d, sp d = sp (st s) → hcells vb (upd st s d) = hcells vb st := fun d hd => by
    rcases (show s = 0 ∨ s = 1 ∨ s = 2 ∨ s = 3 ∨ s = 4 by omega) with e | e | e | e | e <;> subst e <;> simp [hcells, upd, hd]
  refine ⟨BoxT hb (hcells vb st) 43 :: (l1 ++ (l2 ++ r)), ?_, fun w' tb' f n cs d P seat hd hz' => ?_⟩
  · have h1 := Hall.vlt hz
    rw [e1, List.append_assoc] at h1
    refine h1.perm (List.Perm.cons _ ?_)
    exact (List.perm_middle (l₁ := BoxT hb (hcells vb st) 43 :: l1))
  · refine Hall.of_vlt ?_
    rw [e2, hc d hd, List.append_assoc]
    refine hz'.perm (List.Perm.cons _ ?_)
    have p1 := (List.perm_middle (l₁ := BoxT hb (hcells vb st) 43 :: l1) (a := OptT d) (l₂ := l2 ++ (P :: r))).symm
    refine List.Perm.trans (List.Perm.cons _ ?_) p1
    have p2 := (List.perm_middle (l₁ := BoxT hb (hcells vb st) 43 :: (l1 ++ l2)) (a := P) (l₂ := r)).symm
    have e3 : ∀ q : List Thing, BoxT hb (hcells vb st) 43 :: (l1 ++ (l2 ++ q)) = (BoxT hb (hcells vb st) 43 :: (l1 ++ l2)) ++ q := fun q => by simp
    show (P :: BoxT hb (hcells vb st) 43 :: (l1 ++ (l2 ++ r))).Perm (BoxT hb (hcells vb st) 43 :: (l1 ++ (l2 ++ (P :: r))))
    rw [e3, e3]
    exact p2
/-- A seat's cell is set, the deed that it had is let go. -/
theorem hcells_set (vb : Nat) (st : Nat → Sd) {s : Nat} (hs : s < 5) (d : Sd) : (hcells vb st).setIfInBounds (1 + s) (sp d) = hcells vb (upd st s d) := by
  rcases (show s = 0 ∨ s = 1 ∨ s = 2 ∨ s = 3 ∨ s = 4 by omega) with e | e | e | e | e <;> subst e <;> simp [hcells, upd]
theorem Hall.sit {s : Nat} (hs : s < 5) (d : Sd) (k : Zoo w0 w (BoxT hb (hcells vb st) 43 :: VltT vb tb gb h.f h.n h.cs [] :: (seats (upd st s d) ++ r))) :
    Hall w0 (w.setCell ⟨hb, 1 + s, none⟩ (sp d)) hb vb tb gb h (upd st s d) r := by
  obtain ⟨F, ⟨hbx, h2, h3⟩, k2⟩ := zoo_at0 k
  refine k2 _ _ ⟨F, ⟨?_, h2, h3⟩, ?_, fun x hx => .inl hx⟩
  · rw [heap_setCell_at _ _ hbx, hcells_set vb st hs d]
  · rw [h2]
    exact (Kp.refl [hb] w).setCell (.inl (by simp)) _
theorem opt_none (hz : Zoo w0 w r) : Zoo w0 w (OptT none :: r) := many_close (os := []) hz
theorem Hall.leave (hz : Hall w0 w hb vb tb gb h st r) {s : Nat} (hs : s < 5) : Hall w0 (w.setCell ⟨hb, 1 + s, none⟩ (.pointer none)) hb vb tb gb h (upd st s none) (OptT (st s) :: r) := by
  obtain ⟨l1, l2, e1, e2⟩ := seats_at st hs
  generalize hA : BoxT hb (hcells vb st) 43 :: VltT vb tb gb h.f h.n h.cs [] :: l1 = A
  have h1 : Zoo w0 w (A ++ OptT (st s) :: (l2 ++ r)) := by
    have := hz
    unfold Hall at this
    rw [e1, List.append_assoc] at this
    rw [← hA]
    exact this
  have h2 := (opt_none h1).perm ((List.Perm.cons _ List.perm_middle).trans (List.Perm.swap _ _ _))
  have h3 := h2.perm (List.Perm.cons _ (List.perm_middle (l₁ := A)).symm)
  have h4 : Zoo w0 w (OptT (st s) :: ((A ++ OptT none :: l2) ++ r)) := by rw [List.append_assoc]; exact h3
  have h5 := h4.perm (List.perm_middle (l₁ := A ++ OptT none :: l2)).symm
  have h6 : Zoo w0 w (BoxT hb (hcells vb st) 43 :: VltT vb tb gb h.f h.n h.cs [] :: (seats (upd st s none) ++ (OptT (st s) :: r))) := by
    rw [e2]
    rw [← hA] at h5
    exact h5
  exact Hall.sit hs none h6
/-- A new deed at an empty seat: it lies at the head of the others. -/
theorem Hall.join {d : Sd} (hz : Zoo w0 w (VltT vb tb gb h.f h.n h.cs [] :: OptT d :: BoxT hb (hcells vb st) 43 :: (seats st ++ r))) {s : Nat} (hs : s < 5) (hn : st s = none) : Hall w0 (w.setCell ⟨hb, 1 + s, none⟩ (sp d)) hb vb tb gb h (upd st s d) r := by
  obtain ⟨l1, l2, e1, e2⟩ := seats_at st hs
  refine Hall.sit (h := h) (st := st) hs d ?_
  rw [e1, hn, List.append_assoc] at hz
  have h1 : Zoo w0 w ((VltT vb tb gb h.f h.n h.cs [] :: OptT d :: BoxT hb (hcells vb st) 43 :: l1) ++ OptT none :: (l2 ++ r)) := hz
  have h2 := h1.drop_
  rw [e2, List.append_assoc]
  refine h2.perm ?_
  have p1 : (VltT vb tb gb h.f h.n h.cs [] :: OptT d :: BoxT hb (hcells vb st) 43 :: (l1 ++ (l2 ++ r))).Perm (BoxT hb (hcells vb st) 43 :: VltT vb tb gb h.f h.n h.cs [] :: OptT d :: (l1 ++ (l2 ++ r))) := List.perm_middle (l₁ := [VltT vb tb gb h.f h.n h.cs [], OptT d])
  exact p1.trans (List.Perm.cons _ (List.Perm.cons _ List.perm_middle.symm))
/-- All deeds are let go. -/
theorem Hall.leaveAll (hz : Hall w0 w hb vb tb gb h st r) (hb' : w'.heap[hb]? = some (.cells (hcells vb (fun _ => none)) 43 (0, 0))) (hk : Kp [hb] w w') : Hall w0 w' hb vb tb gb ⟨h.f, h.n, h.cs, fun _ => none⟩ (fun _ => none) r := by
  have h1 : Zoo w0 w ((BoxT hb (hcells vb st) 43 :: VltT vb tb gb h.f h.n h.cs [] :: seats st) ++ r) := hz
  have h2 : Zoo w0 w (BoxT hb (hcells vb st) 43 :: VltT vb tb gb h.f h.n h.cs [] :: r) := by
    have h5 : Zoo w0 w (seats st ++ (BoxT hb (hcells vb st) 43 :: VltT vb tb gb h.f h.n h.cs [] :: r)) := by
      refine h1.perm ?_
      have p : ((BoxT hb (hcells vb st) 43 :: VltT vb tb gb h.f h.n h.cs [] :: seats st) ++ r).Perm ((seats st ++ [BoxT hb (hcells vb st) 43, VltT vb tb gb h.f h.n h.cs []]) ++ r) := (List.perm_append_comm (l₁ := [BoxT hb (hcells vb st) 43, VltT vb tb gb h.f h.n h.cs []]) (l₂ := seats st)).append_right r
      rw [List.append_assoc] at p
      exact p
    exact (many_close h5).tail
  obtain ⟨F, ⟨hbx, e2, e3⟩, k2⟩ := zoo_at0 h2
  have h4 : Zoo w0 w' (BoxT hb (hcells vb (fun _ => none)) 43 :: VltT vb tb gb h.f h.n h.cs [] :: r) := k2 _ _ ⟨F, ⟨hb', e2, e3⟩, by rw [e2]; exact hk, fun x hx => .inl hx⟩
  have h6 := opt_none (opt_none (opt_none (opt_none (opt_none h4))))
  exact h6.perm ((List.perm_append_comm (l₁ := seats (fun _ => none)) (l₂ := [BoxT hb (hcells vb (fun _ => none)) 43, VltT vb tb gb h.f h.n h.cs []])).append_right r)
/-- A seat's deed. -/
theorem Hall.ded (hz : Hall w0 w hb vb tb gb h st r) {s D : Nat} {d : Dp} (hs : s < 5) (hd : st s = some (D, d)) : Ded w D d.md d.y d.rs d.ws := by
  obtain ⟨rest, h1, _⟩ := hz.out hs
  rw [hd] at h1
  obtain ⟨F, h2, _⟩ := zoo_at1 h1
  exact h2.1
/-- Variables beside a hall. -/
theorem Hall.new (hz : Hall w0 w hb vb tb gb h st r) (c : Array Value) (T : TypeId) : Hall w0 (w.alloc (.cells c T)) hb vb tb gb h st (BoxT w.heap.size c T :: r) := by
  have h1 := Zoo.box hz c T
  exact h1.perm (List.perm_middle (l₁ := BoxT hb (hcells vb st) 43 :: VltT vb tb gb h.f h.n h.cs [] :: seats st)).symm
theorem Hall.two (hz : Hall w0 w hb vb tb gb h st r) (c : Array Value) (T : TypeId) (c2 : Array Value) (T2 : TypeId) : Hall w0 ((w.alloc (.cells c T)).alloc (.cells c2 T2)) hb vb tb gb h st (BoxT (w.heap.size + 1) c2 T2 :: BoxT w.heap.size c T :: r) := by
  have h1 := (hz.new c T).new c2 T2
  rw [show (w.alloc (.cells c T)).heap.size = w.heap.size + 1 by simp] at h1
  exact h1
theorem Hall.perm {r' : List Thing} (hz : Hall w0 w hb vb tb gb h st r) (hp : r.Perm r') : Hall w0 w hb vb tb gb h st r' := Zoo.perm hz (List.Perm.cons _ (List.Perm.cons _ (List.Perm.append_left _ hp)))
theorem Hall.var {p : Nat} {c : Array Value} {T : TypeId} (hz : Hall w0 w hb vb tb gb h st r) (hm : BoxT p c T ∈ r) : w.heap[p]? = some (.cells c T (0, 0)) := zoo_varm hz (by simp [hm])
/-- A thing beside a hall, and what a call on it may do. -/
theorem Hall.at_ {l1 l2 : List Thing} {o : Thing} (hz : Hall w0 w hb vb tb gb h st (l1 ++ o :: l2)) : ∃ F, o.holds w0.heap.size w F ∧ ∀ (o' : Thing) (w' : World), Ch o' w0.heap.size w F w' → Hall w0 w' hb vb tb gb h st (l1 ++ o' :: l2) := by
  have hz' : Zoo w0 w ((BoxT hb (hcells vb st) 43 :: VltT vb tb gb h.f h.n h.cs [] :: (seats st ++ l1)) ++ o :: l2) := by
    have := hz
    unfold Hall at this
    rw [← List.append_assoc] at this
    exact this
  obtain ⟨F, h1, h2⟩ := hz'.at_
  refine ⟨F, h1, fun o' w' hc => ?_⟩
  have := h2 o' w' hc
  unfold Hall
  rw [← List.append_assoc]
  exact this
theorem Hall.drop {l1 l2 : List Thing} {o : Thing} (hz : Hall w0 w hb vb tb gb h st (l1 ++ o :: l2)) : Hall w0 w hb vb tb gb h st (l1 ++ l2) := by
  have h1 : Hall w0 w hb vb tb gb h st (o :: (l1 ++ l2)) := hz.perm List.perm_middle
  exact Zoo.drop_ (l1 := BoxT hb (hcells vb st) 43 :: VltT vb tb gb h.f h.n h.cs [] :: seats st) h1
theorem Hall.tail {o : Thing} (hz : Hall w0 w hb vb tb gb h st (o :: r)) : Hall w0 w hb vb tb gb h st r := Hall.drop (l1 := []) hz
theorem Hall.setAt {l1 l2 : List Thing} {p : Nat} {c : Array Value} {T : TypeId} (hz : Hall w0 w hb vb tb gb h st (l1 ++ BoxT p c T :: l2)) (i : Nat) (v : Value) : Hall w0 (w.setCell ⟨p, i, none⟩ v) hb vb tb gb h st (l1 ++ BoxT p (c.setIfInBounds i v) T :: l2) := by
  obtain ⟨F, ⟨hbx, h2, h3⟩, k2⟩ := hz.at_
  exact k2 _ _ ⟨F, ⟨heap_setCell_at _ _ hbx, h2, h3⟩, by rw [h2]; exact (Kp.refl [p] w).setCell (.inl (by simp)) _, fun x hx => .inl hx⟩
theorem Hall.set0 {p : Nat} {c : Array Value} {T : TypeId} (hz : Hall w0 w hb vb tb gb h st (BoxT p c T :: r)) (i : Nat) (v : Value) : Hall w0 (w.setCell ⟨p, i, none⟩ v) hb vb tb gb h st (BoxT p (c.setIfInBounds i v) T :: r) := Hall.setAt (l1 := []) hz i v
/-- Two variables beside a hall are two. -/
theorem Hall.ne2 {p p2 : Nat} {c c2 : Array Value} {T T2 : TypeId} (hz : Hall w0 w hb vb tb gb h st (BoxT p c T :: BoxT p2 c2 T2 :: r)) : p ≠ p2 := by
  obtain ⟨X, ⟨F0, Y0, _, ⟨F1, Y1, _, k, _, _⟩, _, _⟩, _⟩ := hz
  obtain ⟨F, Y, k1, ⟨F2, Y2, h2, ⟨F3, Y3, h3, k3, _, e3⟩, hd, e2⟩, _, _⟩ := zoof_app k
  intro e
  subst e
  exact hd p (by rw [h2.2.1]; simp) (by rw [e3, h3.2.1]; simp)
end
end Go.Proofs.Ytliopckocegknac

/- Serial of deeds, by its contract. -/
namespace Go.Proofs.Ytliopckocegknac
open Go.RowKit Srt
set_option maxRecDepth 20000
attribute [local go_sem ↓] Go.wp_at_zero Go.wp_at_succ

theorem ob_obd (a : Option Addr) : ob a = obd a := by cases a <;> rfl
/-- A row of deeds of one's own, by their places; and as a list that stays. -/
def SlDT (a : Option Addr) (n : Nat) (d : Nat → Dx) : Thing where
  holds B w F := SlD w a n d ∧ F = obd a ∧ ∀ x, x ∈ F → B ≤ x ∧ x < w.heap.size
  kp := fun ⟨h1, h2, h3⟩ hk hS => ⟨h1.kp hk (fun x hx => hS x (by rw [h2]; exact hx)), h2, fun x hx => ⟨(h3 x hx).1, Nat.lt_of_lt_of_le (h3 x hx).2 hk.size⟩⟩
  lo := fun ⟨_, _, h3⟩ => h3
  base := fun ⟨h1, h2, h3⟩ hC => ⟨h1, h2, fun x hx => ⟨Nat.le_trans hC (h3 x hx).1, (h3 x hx).2⟩⟩
def CmT (a : Option Addr) (C : List Dx) : Thing where
  holds B w F := DxIn w a C ∧ F = obd a ∧ ∀ x, x ∈ F → B ≤ x ∧ x < w.heap.size
  kp := fun ⟨h1, h2, h3⟩ hk hS => ⟨h1.kp hk (fun _ x hx => hS x (by rw [h2]; exact hx)), h2, fun x hx => ⟨(h3 x hx).1, Nat.lt_of_lt_of_le (h3 x hx).2 hk.size⟩⟩
  lo := fun ⟨_, _, h3⟩ => h3
  base := fun ⟨h1, h2, h3⟩ hC => ⟨h1, h2, fun x hx => ⟨Nat.le_trans hC (h3 x hx).1, (h3 x hx).2⟩⟩
def dx0 : Dx := ⟨⟨0, 0, 0, []⟩, none, 0⟩
def dfn (xs : List Dx) (i : Nat) : Dx := xs.getD i dx0
theorem dfn_at {xs : List Dx} {i : Nat} (h : i < xs.length) : xs[i]? = some (dfn xs i) := by
  rw [List.getElem?_eq_getElem h]
  simp [dfn, List.getD_eq_getElem?_getD, List.getElem?_eq_getElem h]
theorem sg_dfn (xs : List Dx) : sg (dfn xs) 0 xs.length = xs := by
  apply List.ext_getElem?
  intro i
  by_cases h : i < xs.length
  · rw [sg_at _ _ _ _ h, dfn_at h, Nat.zero_add]
  · rw [List.getElem?_eq_none (by rw [sg_len]; omega), List.getElem?_eq_none (by omega)]
theorem krow_sld {B : Nat} {w : World} {a : Option Addr} {n cap : Nat} {xs : List Dx} (h : KRow 90 4 B w a n cap (dxcs xs)) (hn : n = xs.length) : SlD w a n (dfn xs) := by
  intro hp
  rcases h.2 with ⟨_, e, _⟩ | ⟨g, cur, e, h1, h2, h3, h4, h5, h6⟩
  · omega
  · refine ⟨g, e, cur, h2, fun i hi => ?_⟩
    obtain ⟨c0, c1, c2, c3⟩ := dxcs_at (dfn_at (xs := xs) (i := i) (by omega))
    have key : ∀ {j : Nat} {v : Value}, (dxcs xs)[j]? = some v → cur[j]? = some v := fun {j v} hv => by
      rw [← h6, List.getElem?_take] at hv
      split at hv
      · simpa using hv
      · cases hv
    exact ⟨key c0, key c1, key c2, key c3⟩
section
variable {w0 w w' : World} {l1 r : List Thing} {a : Option Addr} {n cap : Nat} {d : Nat → Dx} {xs : List Dx}
theorem kw_sld (hz : Zoo w0 w (l1 ++ KwT 90 4 a n cap (dxcs xs) :: r)) (hn : n = xs.length) : Zoo w0 w (l1 ++ SlDT a n (dfn xs) :: r) := by
  obtain ⟨F, ⟨h1, h2⟩, k2⟩ := hz.at_
  have hl := h1.lo
  exact k2 _ _ ⟨F, ⟨krow_sld h1 hn, by rw [h2, ob_obd], fun x hx => hl x (by rw [← h2]; exact hx)⟩, Kp.refl _ _, fun x hx => .inl hx⟩
theorem sld_cm (hz : Zoo w0 w (l1 ++ SlDT a n d :: r)) : Zoo w0 w (l1 ++ CmT a (sg d 0 n) :: r) := by
  obtain ⟨F, ⟨h1, h2, h3⟩, k2⟩ := hz.at_
  refine k2 _ _ ⟨F, ⟨fun hp => ?_, h2, h3⟩, Kp.refl _ _, fun x hx => .inl hx⟩
  rw [sg_len] at hp
  obtain ⟨g, e, hr⟩ := h1 hp
  refine ⟨g, 0, e, fun i x hx => ?_⟩
  have hi : i < n := by have := (List.getElem?_eq_some_iff.1 hx).1; rw [sg_len] at this; exact this
  rw [sg_at _ _ _ _ hi, Nat.zero_add] at hx
  cases hx
  obtain ⟨c0, c1, c2, c3⟩ := hr.cells hi
  rw [Nat.zero_add]
  exact ⟨c0, c1, c2, c3⟩
theorem zoo_sort {f : Nat} {key : Dx → Int} (hc : Cmp f key) (hz : Zoo w0 w (l1 ++ SlDT a n d :: r)) (hn : n ≤ 100000) :
    Calls Try.prog 90 #[.slice a n cap, .func (.func f) #[] #[]] w fun e w' => e = .returned (.tuple #[]) ∧ ∃ d', Hid (Stb key 0 n d d' ∧ SrtOn key d' 0 n) ∧ Hid (Zoo w0 w' (l1 ++ SlDT a n d' :: r)) := by
  obtain ⟨F, ⟨h1, h2, h3⟩, k2⟩ := hz.at_
  refine (sortstable hc a n cap d w h1 hn).mono ?_
  rintro e w' ⟨rfl, d', g1, g2, g3, g4⟩
  exact ⟨rfl, d', ⟨g3, g4⟩, k2 _ _ ⟨F, ⟨g1, h2, fun x hx => ⟨(h3 x hx).1, Nat.lt_of_lt_of_le (h3 x hx).2 g2.size⟩⟩, by rw [h2]; exact g2, fun x hx => .inl hx⟩⟩
/-- The row goes into the variable that a closure holds. -/
theorem lk_make {pb c : Nat} {L : List Dx} (hz : Zoo w0 w (BoxT pb #[.slice a L.length c] 85 :: CmT a L :: r)) (hl : L.length ≤ c) : Zoo w0 w (LkT pb L :: r) := by
  have h2 : Zoo w0 w ([BoxT pb #[.slice a L.length c] 85, CmT a L] ++ r) := hz
  obtain ⟨F, h3, k2⟩ := zoo_at0 (many_close h2)
  obtain ⟨F1, Y1, ⟨b1, b2, b3⟩, ⟨F2, Y2, ⟨c1, c2, c3⟩, e2, _, e3⟩, d1, e1⟩ := h3
  have eY : Y1 = F2 := by rw [e3, show Y2 = [] from e2, List.append_nil]
  refine k2 _ _ ⟨pb :: (if L.length = 0 then [] else obd a), ⟨a, c, b1, c1, rfl, fun x hx => ?_, fun hp hm => ?_, hl⟩, Kp.refl _ _, fun x hx => .inl ?_⟩
  · rcases List.mem_cons.1 hx with q | q
    · rw [q]; exact ⟨b3, lt_of_block b1⟩
    · split at q
      · simp at q
      · exact c3 x (by rw [c2]; exact q)
  · exact d1 pb (by rw [b2]; simp) (by rw [eY, c2]; exact hm)
  · rw [e1, b2, eY, c2]
    rcases List.mem_cons.1 hx with q | q
    · rw [q]; simp
    · split at q
      · simp at q
      · simp [q]
theorem zoo_setrL {p : Nat} {c c' : Array Value} {T : TypeId} (hz : Zoo w0 w (l1 ++ BoxT p c T :: r)) : Zoo w0 (w.setRow p c') (l1 ++ BoxT p c' T :: r) := by
  obtain ⟨F, ⟨hb, h2, h3⟩, k2⟩ := hz.at_
  obtain ⟨z1, z2⟩ := setRow_kp (cs := c') hb
  exact k2 _ _ ⟨F, ⟨z1, h2, h3⟩, by rw [h2]; exact z2, fun x hx => .inl hx⟩
theorem cm_mem {C : List Dx} (hz : Zoo w0 w (l1 ++ CmT a C :: r)) : DxIn w a C := by
  obtain ⟨F, h1, _⟩ := hz.at_
  exact h1.1
end
set_option maxHeartbeats 2000000 in
theorem replayall (pb : Nat) (C L : List Dx) (aC : Option Addr) (cC : Nat) (w0 w : World) (hz : Zoo w0 w [LkT pb L, CmT aC C]) (hC : ∀ x, x ∈ C → ((∀ W, Kp [] w0 W → ActsIn W x.a x.d.acts) ∧ ActsOk x.d.acts) ∧ 0 < x.d.n ∧ x.d.n ≤ 1000) (hL : ∀ x, x ∈ L → (∀ W, Kp [] w0 W → ActsIn W x.a x.d.acts) ∧ ActsOk x.d.acts) (hm : C.length ≤ 1000) :
    Calls Try.prog 95 #[.slice aC C.length cC, .func (.func 96) #[] #[.pointer (some ⟨pb, 0, none⟩)]] w fun e w' => e = .returned (.bool (rall (fun _ => dv) 0 (C.map Dx.d) (L.map Dx.d))) ∧ Kp [] w0 w' := by
  have HC := hide hC
  have HL := hide hL
  obtain ⟨R, hR⟩ : ∃ R, rall (fun _ => dv) 0 (C.map Dx.d) (L.map Dx.d) = R := ⟨_, rfl⟩
  rw [hR]
  have HR := hide hR
  have HZ0 := hide ((hz.box (wagg (fun _ => dv)) 97).perm (List.Perm.trans (List.Perm.swap _ _ _) (List.Perm.cons _ (List.Perm.swap _ _ _))))
  clear hz hC hL hR
  obtain ⟨m, hmm⟩ : ∃ m, C.length = m := ⟨_, rfl⟩
  rw [hmm]
  rw [hmm] at hm
  have HM := hide hmm
  clear hmm
  rw [zeros_eq] at HZ0
  go_enter Try.func95, Try.ntmps95
  go_wp2_with fail
  generalize w.heap.size = q at *
  go_loopw [6, 8, 9, 12] (fun x _ _ y wr => ∃ (k : Nat) (gr : Int), k ≤ m ∧ x = .int .i64 gr ∧ y = .int .i64 k ∧ Hid (∃ vk L', Zoo w0 wr [LkT pb L', CmT aC C, BoxT q (wagg vk) 97] ∧ rall vk gr ((C.drop k).map Dx.d) (L'.map Dx.d) = R ∧ ∀ x, x ∈ L' → x ∈ L)) (fun _ _ _ y _ => m - (intOf y).toNat)
  case atStart => exact ⟨0, 0, Nat.zero_le _, rfl, rfl, fun _ => dv, L, unhide HZ0, unhide HR, fun _ hx => hx⟩
  case round =>
    obtain ⟨k, gr, hk, rfl, rfl, HI⟩ := hrel
    obtain ⟨vk, L', hz, hr, hs⟩ := unhide HI
    have HZ := hide hz
    have HRR := hide hr
    have HS := hide hs
    clear hz hr hs HI HZ0
    have hqv := zoo_varm (unhide HZ) (List.Mem.tail _ (List.Mem.tail _ (List.Mem.head _)))
    by_cases hlt : k < m
    · have i1 : (k : Int) < (m : Int) := by omega
      have i0 : (0 : Int) ≤ (k : Int) := by omega
      have hln : k < C.length := by have := unhide HM; omega
      obtain ⟨b, o, rfl, hb⟩ := cm_mem (l1 := [LkT pb L']) (unhide HZ) (by omega)
      obtain ⟨x, hx⟩ : ∃ x, C[k]? = some x := ⟨_, List.getElem?_eq_getElem hln⟩
      have hdr : C.drop k = x :: C.drop (k + 1) := by
        rw [List.drop_eq_getElem_cons hln]
        rw [List.getElem?_eq_getElem hln] at hx
        rw [Option.some.inj hx]
      have HDR := hide hdr
      have hat := hb k x hx
      have hcx := unhide HC x (List.mem_of_getElem? hx)
      have q0 := hat.c0
      have q1 := hat.c1
      have q2 : wr.cell? ⟨b, o + k * 4 + 1 + 1, none⟩ = _ := hat.c2
      have q3 : wr.cell? ⟨b, o + k * 4 + 1 + 1 + 1, none⟩ = _ := hat.c3
      clear hat hb hx hdr
      obtain ⟨⟨xn, xa, xm, xacts⟩, xp, xc⟩ := x
      dsimp only at q0 q1 q2 q3 hcx
      have HCX := hide hcx.1.1
      have hok := hcx.1.2
      have n0 := hcx.2.1
      have n1 := hcx.2.2
      clear hcx
      obtain ⟨lx, hlx⟩ : ∃ lx, xacts.length = lx := ⟨_, rfl⟩
      rw [hlx] at q3
      have HLX := hide hlx
      clear hlx
      have HZ1 := hide ((((unhide HZ).box #[.int .i64 xn, .int .i64 xa, .int .i64 xm, .slice xp lx xc] 90).perm (List.Perm.swap _ _ _)))
      have hqv1 : (wr.alloc (.cells #[.int .i64 xn, .int .i64 xa, .int .i64 xm, .slice xp lx xc] 90)).heap[q]? = some (.cells (wagg vk) 97 (0, 0)) := zoo_varm (unhide HZ1) (List.Mem.tail _ (List.Mem.tail _ (List.Mem.tail _ (List.Mem.head _))))
      have e1 : IntKind.i64.wrap (xn - 1) = xn - 1 := wrap_i64_id _ (by omega) (by omega)
      go_wp2_with (refine wpList_load_row rfl 97 _ rfl q rfl 97 _ (0, 0) _ hqv1 Try.underlying97 rfl Try.size97 ?_)
      refine (between5 vk (xn - 1) pb L' w0 _ _ (unhide HZ1) (fun x hx => unhide HL x (unhide HS x hx))).mono ?_
      rintro e w2 ⟨L2, rfl, hb2, hb3, hb4, hz2⟩
      have HB2 := hide (And.intro hb2 hb3)
      have HZ2 := hide hz2
      clear hb2 hb3 hb4 hz2 HZ1 hqv1 hqv q0 q1 q2 q3
      generalize wr.heap.size = g at *
      have hrl : rall vk gr ((C.drop k).map Dx.d) (L'.map Dx.d) = ((btw vk (xn - 1) (L'.map Dx.d)).1 && ((rpo vk xacts || decide (xm ≠ 2)) && rall (rpw vk xacts) xn ((C.drop (k + 1)).map Dx.d) (L2.map Dx.d))) := by
        rw [unhide HDR, (unhide HB2).1]
        rfl
      rw [unhide HRR] at hrl
      have HRL := hide hrl
      clear hrl
      generalize (btw vk (xn - 1) (L'.map Dx.d)).1 = b1 at *
      have hbx := zoo_varm (unhide HZ2) (List.Mem.tail _ (List.Mem.head _))
      have hqv := zoo_varm (unhide HZ2) (List.Mem.tail _ (List.Mem.tail _ (List.Mem.tail _ (List.Mem.head _))))
      have b0' : w2.cell? ⟨g, 0, none⟩ = some (.int .i64 xn) := cell_of_block hbx rfl
      have b2' : w2.cell? ⟨g, 2, none⟩ = some (.int .i64 xm) := cell_of_block hbx rfl
      have b3' : w2.cell? ⟨g, 3, none⟩ = some (.slice xp lx xc) := cell_of_block hbx rfl
      cases b1 with
      | false =>
        go_wp2_with fail
        go_ret
        exact ⟨by rw [unhide HRL]; rfl, (unhide HZ2).kp⟩
      | true =>
        go_wp2_with (refine wpList_load_row rfl 97 _ rfl q rfl 97 _ (0, 0) _ hqv Try.underlying97 rfl Try.size97 ?_)
        rw [← unhide HLX]
        refine (replay vk xp xc xacts _ (unhide HCX _ (unhide HZ2).kp) hok).mono ?_
        rintro e w3 ⟨rfl, hk3⟩
        rw [unhide HLX]
        have HZ3 := hide ((unhide HZ2).kp0 hk3)
        clear hk3 hqv hbx b0' b2' b3'
        have hqv := zoo_varm (unhide HZ3) (List.Mem.tail _ (List.Mem.tail _ (List.Mem.tail _ (List.Mem.head _))))
        have HZ4 := hide (zoo_setrL (l1 := [LkT pb L2, BoxT g #[.int .i64 xn, .int .i64 xa, .int .i64 xm, .slice xp lx xc] 90, CmT (some ⟨b, o, none⟩) C]) (c' := wagg (rpw vk xacts)) (unhide HZ3))
        have hbx4 := zoo_varm (unhide HZ4) (List.Mem.tail _ (List.Mem.head _))
        have b0 : (w3.setRow q (wagg (rpw vk xacts))).cell? ⟨g, 0, none⟩ = some (.int .i64 xn) := cell_of_block hbx4 rfl
        have b2 : (w3.setRow q (wagg (rpw vk xacts))).cell? ⟨g, 2, none⟩ = some (.int .i64 xm) := cell_of_block hbx4 rfl
        clear hbx4
        cases hro : rpo vk xacts with
        | true =>
          have HRO := hide hro
          clear hro
          go_wp2_with (refine wpList_store_row rfl 97 _ _ rfl q (wagg (rpw vk xacts)) rfl rfl 97 _ hqv Try.size97 rfl (wagg_one _) ?_)
          refine ⟨⟨k + 1, xn, by omega, rfl, by go_num, rpw vk xacts, L2, zoo_drop1 (unhide HZ4), ?_, fun x hx => unhide HS x ((unhide HB2).2 x hx)⟩, by simp [intOf]; omega⟩
          rw [unhide HRL, unhide HRO]
          simp
        | false =>
          have HRO := hide hro
          clear hro
          by_cases hmd : xm = 2
          · subst hmd
            go_wp2_with (refine wpList_store_row rfl 97 _ _ rfl q (wagg (rpw vk xacts)) rfl rfl 97 _ hqv Try.size97 rfl (wagg_one _) ?_)
            go_ret
            exact ⟨by rw [unhide HRL, unhide HRO]; rfl, (unhide HZ4).kp⟩
          · go_wp2_with (refine wpList_store_row rfl 97 _ _ rfl q (wagg (rpw vk xacts)) rfl rfl 97 _ hqv Try.size97 rfl (wagg_one _) ?_)
            refine ⟨⟨k + 1, xn, by omega, rfl, by go_num, rpw vk xacts, L2, zoo_drop1 (unhide HZ4), ?_, fun x hx => unhide HS x ((unhide HB2).2 x hx)⟩, by simp [intOf]; omega⟩
            rw [unhide HRL, unhide HRO]
            simp [hmd]
    · have i1 : ¬ (k : Int) < (m : Int) := by omega
      go_wp2_with (refine wpList_load_row rfl 97 _ rfl q rfl 97 _ (0, 0) _ hqv Try.underlying97 rfl Try.size97 ?_)
      refine (between5 vk gr pb L' w0 _ _ (unhide HZ) (fun x hx => unhide HL x (unhide HS x hx))).mono ?_
      rintro e w2 ⟨L2, rfl, hb2, hb3, hb4, hz2⟩
      have hr := unhide HRR
      rw [List.drop_eq_nil_of_le (by have := unhide HM; omega)] at hr
      simp only [List.map_nil, rall] at hr
      rw [hr]
      have HK := hide hz2.kp
      clear hb2 hb3 hb4 hz2 hr
      go_wp2_with fail
      go_ret
      exact ⟨rfl, unhide HK⟩
end Go.Proofs.Ytliopckocegknac

/- Serial, by its contract: whatever deeds. -/
namespace Go.Proofs.Ytliopckocegknac
open Go.RowKit Srt
set_option maxRecDepth 20000
attribute [local go_sem ↓] Go.wp_at_zero Go.wp_at_succ

theorem kf_map (key : Dn → Int) (k : Int) (ys : List Dx) : kf key k (ys.map Dx.d) = (kf (fun x => key x.d) k ys).map Dx.d := by
  unfold kf
  rw [List.filter_map]
  rfl
theorem srtL_map (key : Dn → Int) {ys : List Dx} (h : SrtL (fun x => key x.d) ys) : SrtL key (ys.map Dx.d) := by
  unfold SrtL at *
  rw [List.pairwise_map]
  exact h
/-- What a sorted row is, against the row that it was. -/
theorem sorted_row {key : Dn → Int} {xs : List Dx} {n : Nat} {d' : Nat → Dx} (hn : n = xs.length) (h1 : Stb (fun x : Dx => key x.d) 0 n (dfn xs) d') (h2 : SrtOn (fun x : Dx => key x.d) d' 0 n) {ds : List Dn} (hm : xs.map Dx.d = ds) :
    SrtL key ((sg d' 0 n).map Dx.d) ∧ (∀ k, kf key k ((sg d' 0 n).map Dx.d) = kf key k ds) ∧ ∀ x, x ∈ sg d' 0 n → x ∈ xs := by
  have ho : ∀ k, kf (fun x : Dx => key x.d) k (sg d' 0 n) = kf (fun x : Dx => key x.d) k xs := fun k => by
    have := h1.ord k
    rw [Nat.sub_zero] at this
    rw [this]
    subst hn
    rw [sg_dfn]
  refine ⟨srtL_map key (srtL_sg n 0 (by rw [Nat.zero_add]; exact h2)), fun k => ?_, fun x hx => kf_mem ho hx⟩
  rw [kf_map, ho, ← hm, kf_map]
set_option maxHeartbeats 2000000 in
theorem serial46 (a : Option Addr) (c : Nat) (ds : List Dn) (w : World) (h : DnsIn w a ds) (hok : DnsOk ds) (hn : ∀ d, d ∈ ds → d.n ≤ 1000) :
    Calls Try.prog 47 #[.slice a ds.length c] w fun e w' => e = .returned (.bool (ser ds)) ∧ Kp [] w w' := by
  have hmf : ∀ (fn : Fn) (first cap : Array Value) (w : World), (Instr.makeFunc fn first cap).run Try.prog w = .ok (.func fn first cap) w := fun _ _ _ _ => rfl
  have HD := hide h
  have HO := hide hok
  have HN := hide hn
  have hm := hok.1
  clear h hok hn
  obtain ⟨m, hmm⟩ : ∃ m, ds.length = m := ⟨_, rfl⟩
  have HP1 := hide (pick prd_n a c ds w w (Kp.refl [] w) (unhide HD) hm)
  rw [hmm] at HP1
  rw [hmm]
  have HM := hide hmm
  rw [hmm] at hm
  clear hmm
  go_enter Try.func47, Try.ntmps47
  go_wp2_with fail
  refine (unhide HP1).mono ?_
  rintro e w1 ⟨a1, c1, xs, rfl, x1, x2, x3, x4⟩
  have HX := hide (And.intro x1 x2)
  have hn1 : xs.length ≤ 1000 := by
    have h1 := congrArg List.length x1
    rw [List.length_map] at h1
    have h2 := List.length_filter_le (fun d : Dn => decide (0 < d.n)) ds
    have := unhide HM
    omega
  have HZ1 := hide (kw_sld (l1 := []) ((zoo_nil (Kp.refl [] w)).cons (o := KwT 90 4 a1 xs.length c1 (dxcs xs)) (F := ob a1) ⟨x3, rfl⟩ x4) rfl)
  clear x1 x2 x3 x4 HP1
  obtain ⟨n1, hnn1⟩ : ∃ n1, n1 = xs.length := ⟨_, rfl⟩
  rw [← hnn1] at HZ1 hn1 ⊢
  have HN1 := hide hnn1
  clear hnn1
  go_wp2_with fail
  refine (zoo_sort (l1 := []) (cap := c1) cmp_n (unhide HZ1) (by omega)).mono ?_
  rintro e w2 ⟨rfl, d1, HS1, HZ2⟩
  clear HZ1
  have HP2 := hide (pick prd_a a c ds w w2 (unhide HZ2).kp (unhide HD) (by have := unhide HM; omega))
  rw [unhide HM] at HP2
  go_wp2_with fail
  refine (unhide HP2).mono ?_
  rintro e w3 ⟨a3, c3, ys, rfl, y1, y2, y3, y4⟩
  have HY := hide (And.intro y1 y2)
  have hn3 : ys.length ≤ 1000 := by
    have h1 := congrArg List.length y1
    rw [List.length_map] at h1
    have h2 := List.length_filter_le (fun d : Dn => decide (d.n = 0 ∧ 0 ≤ d.at_)) ds
    have := unhide HM
    omega
  have hle3 := y3.le
  have HZ3 := hide (kw_sld (l1 := []) ((unhide HZ2).cons (o := KwT 90 4 a3 ys.length c3 (dxcs ys)) (F := ob a3) ⟨y3, rfl⟩ y4) rfl)
  clear y1 y2 y3 y4 HP2 HZ2
  obtain ⟨n3, hnn3⟩ : ∃ n3, n3 = ys.length := ⟨_, rfl⟩
  rw [← hnn3] at HZ3 hn3 hle3 ⊢
  have HN3 := hide hnn3
  clear hnn3
  have HZ4 := hide ((unhide HZ3).box #[.slice a3 n3 c3] 85)
  clear HZ3
  go_wp2_with fail
  generalize w3.heap.size = pb at *
  generalize w3.alloc (.cells #[.slice a3 n3 c3] 85) = w4 at *
  refine (zoo_sort (l1 := [BoxT pb #[.slice a3 n3 c3] 85]) (cap := c3) cmp_a (unhide HZ4) (by omega)).mono ?_
  rintro e w5 ⟨rfl, d3, HS3, HZ5⟩
  clear HZ4
  have hl3 : (sg d3 0 n3).length = n3 := sg_len d3 n3 0
  have hl1 : (sg d1 0 n1).length = n1 := sg_len d1 n1 0
  have hz6 := sld_cm (l1 := [BoxT pb #[.slice a3 n3 c3] 85]) (unhide HZ5)
  have hz7 : Zoo w w5 (BoxT pb #[.slice a3 (sg d3 0 n3).length c3] 85 :: CmT a3 (sg d3 0 n3) :: [SlDT a1 n1 d1]) := by rw [hl3]; exact hz6
  have hz8 := lk_make hz7 (by omega)
  have HZ9 := hide (sld_cm (l1 := [LkT pb (sg d3 0 n3)]) hz8)
  clear hz6 hz7 hz8 HZ5
  have hs1 := sorted_row (key := Dn.n) (unhide HN1) (unhide HS1).1 (unhide HS1).2 (unhide HX).1
  have hs3 := sorted_row (key := Dn.at_) (unhide HN3) (unhide HS3).1 (unhide HS3).2 (unhide HY).1
  have memX : ∀ x, x ∈ xs → x.d ∈ ds ∧ 0 < x.d.n := fun x hx => by
    have h1 : x.d ∈ xs.map Dx.d := List.mem_map_of_mem hx
    rw [(unhide HX).1] at h1
    have h2 := List.mem_filter.1 h1
    exact ⟨h2.1, by simpa using h2.2⟩
  have memY : ∀ x, x ∈ ys → x.d ∈ ds := fun x hx => by
    have h1 : x.d ∈ ys.map Dx.d := List.mem_map_of_mem hx
    rw [(unhide HY).1] at h1
    exact (List.mem_filter.1 h1).1
  have hcall := replayall pb (sg d1 0 n1) (sg d3 0 n3) a1 c1 w w5 (unhide HZ9)
    (fun x hx => ⟨⟨fun W hW => ((unhide HX).2 x (hs1.2.2 x hx)).kp0 hW, (unhide HO).2 _ (memX x (hs1.2.2 x hx)).1⟩, (memX x (hs1.2.2 x hx)).2, unhide HN _ (memX x (hs1.2.2 x hx)).1⟩)
    (fun x hx => ⟨fun W hW => ((unhide HY).2 x (hs3.2.2 x hx)).kp0 hW, (unhide HO).2 _ (memY x (hs3.2.2 x hx))⟩) (by omega)
  rw [ser_rall (ds := ds) hs1.1 hs3.1 hs1.2.1 hs3.2.1, hl1] at hcall
  have HCL := hide hcall
  have hpc := lk_cell (unhide HZ9)
  clear hcall hs1 hs3 memX memY hpc
  go_wp2_with fail
  refine (unhide HCL).mono ?_
  rintro e w6 ⟨rfl, hk6⟩
  have HK6 := hide hk6
  clear hk6
  go_wp2_with fail
  go_ret
  exact ⟨rfl, unhide HK6⟩
end Go.Proofs.Ytliopckocegknac

/- A hall's small functions, by their contracts: Seat, Deed, Busy, find, leaveAll, Least, New. -/
namespace Go.Proofs.Ytliopckocegknac
open Go.RowKit
set_option maxRecDepth 20000
attribute [local go_sem ↓] Go.wp_at_zero Go.wp_at_succ

set_option maxHeartbeats 400000 in
theorem hseat (k : Int) (w : World) : Calls Try.prog 26 #[.int .i64 k] w fun e w' => e = .returned (.bool (seatB k)) ∧ w' = w := by
  go_enter Try.func26, Try.ntmps26
  go_wp2
  all_goals
    go_ret
    exact ⟨ret_bool (by simp [seatB]; omega), rfl⟩

/-- A seat's deed; none where there is no such seat. -/
def dat (st : Nat → Sd) (s : Int) : Sd := if 0 ≤ s ∧ s < 5 then st s.toNat else none
theorem dat_in {st : Nat → Sd} {j : Nat} (hj : j < 5) : dat st (j : Int) = st j := by unfold dat; rw [if_pos (by omega), Int.toNat_natCast]
theorem dat_out {st : Nat → Sd} {s : Int} (hs : ¬ (0 ≤ s ∧ s < 5)) : dat st s = none := if_neg hs
theorem seat_in {s : Int} (hs : 0 ≤ s ∧ s < 5) : ∃ j : Nat, s = (j : Int) ∧ j < 5 := ⟨s.toNat, by omega, by omega⟩

section
variable {w0 w : World} {hb vb tb gb : Nat} {h : HSt} {st : Nat → Sd} {r : List Thing}
set_option maxHeartbeats 400000 in
theorem h_deed (s : Int) (hz : Hall w0 w hb vb tb gb h st r) : Calls Try.prog 28 #[.pointer (some ⟨hb, 0, none⟩), .int .i64 s] w fun e w' => e = .returned (sp (dat st s)) ∧ w' = w := by
  by_cases hs : 0 ≤ s ∧ s < 5
  · obtain ⟨j, rfl, hj⟩ := seat_in hs
    have hsb : seatB (j : Int) = true := decide_eq_true hs
    have i0 : (0 : Int) ≤ (j : Int) := by omega
    have i5 : (j : Int) < 5 := by omega
    have c1 := hz.cs_ hj
    rw [dat_in hj]
    clear hz
    generalize sp (st j) = o at *
    go_enter Try.func28, Try.ntmps28
    go_wp2_with fail
    refine (hseat (j : Int) _).mono ?_
    rintro e w' ⟨rfl, hw'⟩
    subst w'
    rw [hsb]
    go_wp2_with fail
    go_ret
    exact ⟨rfl, rfl⟩
  · have hsb : seatB s = false := decide_eq_false hs
    rw [dat_out hs]
    clear hz
    go_enter Try.func28, Try.ntmps28
    go_wp2_with fail
    refine (hseat s _).mono ?_
    rintro e w' ⟨rfl, hw'⟩
    subst w'
    rw [hsb]
    go_wp2_with fail
    go_ret
    exact ⟨rfl, rfl⟩
set_option maxHeartbeats 400000 in
theorem h_busy (s : Int) (hz : Hall w0 w hb vb tb gb h st r) : Calls Try.prog 29 #[.pointer (some ⟨hb, 0, none⟩), .int .i64 s] w fun e w' => e = .returned (.bool (dat st s).isSome) ∧ w' = w := by
  have HD := hide (h_deed s hz)
  clear hz
  cases ho : dat st s with
  | none =>
    rw [ho] at HD
    go_enter Try.func29, Try.ntmps29
    go_wp2_with fail
    refine (unhide HD).mono ?_
    rintro e w' ⟨rfl, hw'⟩
    subst w'
    rw [show sp none = .pointer none from rfl]
    go_wp2_with fail
    go_ret
    exact ⟨rfl, rfl⟩
  | some x =>
    rw [ho] at HD
    go_enter Try.func29, Try.ntmps29
    go_wp2_with fail
    refine (unhide HD).mono ?_
    rintro e w' ⟨rfl, hw'⟩
    subst w'
    rw [show sp (some x) = .pointer (some ⟨x.1, 0, none⟩) from rfl]
    go_wp2_with fail
    go_ret
    exact ⟨rfl, rfl⟩
/-- find: the seat's deed, or why there is none. -/
def fcode (st : Nat → Sd) (s : Int) : Int := if 0 ≤ s ∧ s < 5 then (if (st s.toNat).isSome = true then 0 else 7) else 1
set_option maxHeartbeats 400000 in
theorem h_find (s : Int) (hz : Hall w0 w hb vb tb gb h st r) : Calls Try.prog 112 #[.pointer (some ⟨hb, 0, none⟩), .int .i64 s] w fun e w' => e = .returned (.tuple #[sp (dat st s), .int .i64 (fcode st s)]) ∧ w' = w := by
  have HB := hide (h_busy s hz)
  by_cases hs : 0 ≤ s ∧ s < 5
  · obtain ⟨j, rfl, hj⟩ := seat_in hs
    have hsb : seatB (j : Int) = true := decide_eq_true hs
    have i0 : (0 : Int) ≤ (j : Int) := by omega
    have i5 : (j : Int) < 5 := by omega
    have c1 := hz.cs_ hj
    rw [dat_in hj] at HB ⊢
    have hf : fcode st (j : Int) = if (st j).isSome = true then 0 else 7 := by unfold fcode; rw [if_pos hs, Int.toNat_natCast]
    rw [hf]
    clear hz hf
    generalize st j = o at *
    cases o with
    | none =>
      go_enter Try.func112, Try.ntmps112
      go_wp2_with fail
      refine (hseat (j : Int) _).mono ?_
      rintro e w' ⟨rfl, hw'⟩
      subst w'
      rw [hsb]
      go_wp2_with fail
      refine (unhide HB).mono ?_
      rintro e w' ⟨rfl, hw'⟩
      subst w'
      rw [show Option.isSome (none : Sd) = false from rfl]
      go_wp2_with fail
      go_ret2
      exact ⟨rfl, rfl⟩
    | some x =>
      go_enter Try.func112, Try.ntmps112
      go_wp2_with fail
      refine (hseat (j : Int) _).mono ?_
      rintro e w' ⟨rfl, hw'⟩
      subst w'
      rw [hsb]
      go_wp2_with fail
      refine (unhide HB).mono ?_
      rintro e w' ⟨rfl, hw'⟩
      subst w'
      rw [show Option.isSome (some x) = true from rfl]
      go_wp2_with fail
      go_ret2
      exact ⟨rfl, rfl⟩
  · have hsb : seatB s = false := decide_eq_false hs
    have hf : fcode st s = 1 := by unfold fcode; rw [if_neg hs]
    rw [dat_out hs, hf]
    clear hz HB hf
    go_enter Try.func112, Try.ntmps112
    go_wp2_with fail
    refine (hseat s _).mono ?_
    rintro e w' ⟨rfl, hw'⟩
    subst w'
    rw [hsb]
    go_wp2_with fail
    go_ret2
    exact ⟨rfl, rfl⟩
set_option maxHeartbeats 400000 in
theorem h_leaveAll (hz : Hall w0 w hb vb tb gb h st r) : Calls Try.prog 62 #[.pointer (some ⟨hb, 0, none⟩)] w fun e w' => e = .returned (.tuple #[]) ∧ Hid (Hall w0 w' hb vb tb gb ⟨h.f, h.n, h.cs, fun _ => none⟩ (fun _ => none) r) := by
  have hbx := hz.box
  have c1 := hz.cs_ (s := 0) (by omega)
  have c2 := hz.cs_ (s := 1) (by omega)
  have c3 := hz.cs_ (s := 2) (by omega)
  have c4 := hz.cs_ (s := 3) (by omega)
  have c5 := hz.cs_ (s := 4) (by omega)
  have f1 := hz.fz 1
  have f2 := hz.fz 2
  have f3 := hz.fz 3
  have f4 := hz.fz 4
  have f5 := hz.fz 5
  have HZ := hide hz
  clear hz
  go_enter Try.func62, Try.ntmps62
  go_wp2_with fail
  go_end0
  refine ⟨rfl, (unhide HZ).leaveAll ?_ ?_⟩
  · rw [heap_setCell_at _ _ (heap_setCell_at _ _ (heap_setCell_at _ _ (heap_setCell_at _ _ (heap_setCell_at _ _ hbx))))]
    rfl
  · exact (((((Kp.refl [hb] w).setCell (.inl (by simp)) _).setCell (.inl (by simp)) _).setCell (.inl (by simp)) _).setCell (.inl (by simp)) _).setCell (.inl (by simp)) _
theorem run_index5 (w : World) (cs : Array Value) (k : Nat) (v : Value) (hk : k < 5) (hv : cs[k]? = some v) :
    (Instr.index 41 (.agg cs) (.int .i64 (k : Int))).run Try.prog w = .ok v w := by
  have hn : (k : Int) < 5 := by omega
  simp [Instr.index, run_underlying Try.underlying41, asIntOf, hk, hv, go_sem]
theorem parr5 (st : Nat → Sd) : ∃ A : Array Value, #[sp (st 0), sp (st 1), sp (st 2), sp (st 3), sp (st 4)] = A ∧ ∀ k, k < 5 → A[k]? = some (sp (st k)) := by
  refine ⟨_, rfl, fun k hk => ?_⟩
  rcases (show k = 0 ∨ k = 1 ∨ k = 2 ∨ k = 3 ∨ k = 4 by omega) with e | e | e | e | e <;> subst e <;> rfl
set_option maxHeartbeats 1000000 in
theorem h_least (hs : Sts st h.seat) (hz : Hall w0 w hb vb tb gb h st r) : Calls Try.prog 24 #[.pointer (some ⟨hb, 0, none⟩)] w fun e w' => e = .returned (.int .i64 (least h.n h.seat 5)) ∧ w' = w := by
  have c0 := hz.c0
  have v0 := hz.v0
  have c1 := hz.cs_ (s := 0) (by omega)
  have c2 := hz.cs_ (s := 1) (by omega)
  have c3 := hz.cs_ (s := 2) (by omega)
  have c4 := hz.cs_ (s := 3) (by omega)
  have c5 := hz.cs_ (s := 4) (by omega)
  have HZ := hide hz
  clear hz
  go_enter Try.func24, Try.ntmps24
  go_wp2_with fail
  refine (l_last (unhide HZ).vlt).mono ?_
  rintro e w' ⟨rfl, hw'⟩
  subst w'
  go_wp2_with fail
  obtain ⟨A, hA, hAk⟩ := parr5 st
  rw [hA]
  clear hA c0 v0 c1 c2 c3 c4 c5
  go_loop [3, 18] (fun x i => ∃ k : Nat, k ≤ 5 ∧ x = .int .i64 (least h.n h.seat k) ∧ i = .int .i64 k) (fun _ i => 5 - (intOf i).toNat)
  case atStart => exact ⟨0, by omega, rfl, rfl⟩
  case round =>
    obtain ⟨k, hk, rfl, rfl⟩ := hrel
    by_cases hlt : k < 5
    · have i0 : (0 : Int) ≤ (k : Int) := by omega
      have i1 : (k : Int) < 5 := by omega
      have hk1 := hs k
      have HD := hide (fun D d (hd : st k = some (D, d)) => (unhide HZ).ded hlt hd)
      have hx0 := hAk k hlt
      have hls : least h.n h.seat (k + 1) = match h.seat k with | some d => if d.y < least h.n h.seat k then d.y else least h.n h.seat k | none => least h.n h.seat k := rfl
      have HLS := hide hls
      clear hls
      cases ho : st k with
      | none =>
        rw [ho] at hx0 hk1
        have hx := fun w => run_index5 w A k _ hlt hx0
        rw [show sp none = .pointer none from rfl] at hx
        have e1 : least h.n h.seat (k + 1) = least h.n h.seat k := by rw [unhide HLS, ← hk1]; rfl
        have E1 := hide e1
        clear e1 HLS hk1
        go_wp2_with fail
        exact ⟨⟨k + 1, by omega, by rw [unhide E1], by go_num⟩, by simp [intOf]; omega⟩
      | some xx =>
        obtain ⟨D, d⟩ := xx
        rw [ho] at hx0 hk1
        have hx := fun w => run_index5 w A k _ hlt hx0
        rw [show sp (some (D, d)) = .pointer (some ⟨D, 0, none⟩) from rfl] at hx
        have e1 : least h.n h.seat (k + 1) = if d.y < least h.n h.seat k then d.y else least h.n h.seat k := by rw [unhide HLS, ← hk1]; rfl
        have E1 := hide e1
        have HD1 := hide (unhide HD D d ho)
        clear e1 HLS hk1 HD
        generalize least h.n h.seat k = z at *
        go_wp2_with fail
        refine (dat71 _ (unhide HD1)).mono ?_
        rintro e w' ⟨rfl, hw'⟩
        subst w'
        by_cases hlt2 : d.y < z
        · rw [if_pos hlt2] at E1
          go_wp2_with fail
          exact ⟨⟨k + 1, by omega, by rw [unhide E1], by go_num⟩, by simp [intOf]; omega⟩
        · rw [if_neg hlt2] at E1
          go_wp2_with fail
          exact ⟨⟨k + 1, by omega, by rw [unhide E1], by go_num⟩, by simp [intOf]; omega⟩
    · have e : k = 5 := by omega
      subst e
      go_wp2
      go_ret
      exact ⟨rfl, rfl⟩
end
set_option maxHeartbeats 1000000 in
theorem h_new (w : World) : Calls Try.prog 16 #[] w fun e w' => ∃ hb, e = .returned (.pointer (some ⟨hb, 0, none⟩)) ∧ ∃ F, (HalT hb ⟨fun _ => [dv], 0, [], fun _ => none⟩).holds w.heap.size w' F ∧ Kp [] w w' := by
  go_enter Try.func16, Try.ntmps16
  go_wp2_with fail
  refine (vnew w).mono ?_
  rintro e w1 ⟨vb, tb, gb, F, rfl, h1, k1⟩
  go_wp2_with fail
  go_ret
  have hz0 : Zoo w w1 [VltT vb tb gb (fun _ => [dv]) 0 [] []] := (zoo_nil (Kp.refl [] w)).cons h1 k1
  have hz1 := opt_none (opt_none (opt_none (opt_none (opt_none (hz0.box (hcells vb (fun _ => none)) 43)))))
  have hz2 : Hall w _ w1.heap.size vb tb gb ⟨fun _ => [dv], 0, [], fun _ => none⟩ (fun _ => none) [] := hz1.perm ((List.perm_append_comm (l₁ := seats (fun _ => none)) (l₂ := [BoxT w1.heap.size (hcells vb (fun _ => none)) 43, VltT vb tb gb (fun _ => [dv]) 0 [] []])).append_right [])
  have hz3 := hal_close (fun _ => rfl) hinv_new hz2
  obtain ⟨F', h5, _⟩ := zoo_at0 hz3
  exact ⟨_, rfl, F', h5, hz3.kp⟩
end Go.Proofs.Ytliopckocegknac

/- A row of pairs as a thing; the calls of a seat's deed, in a hall. -/
namespace Go.Proofs.Ytliopckocegknac
open Go.RowKit
set_option maxRecDepth 20000

/-- A row of pairs of one's own. -/
def PsT (a : Option Addr) (cap : Nat) (L : List Ver) : Thing where
  holds B w F := w.ownsRow B 79 3 (.slice a L.length cap) L.length (vcells L) ∧ F = ob a
  kp := fun ⟨h1, h2⟩ hk hS => ⟨own_kp h1 hk (fun g hg => hS g (by
    rw [h2]
    cases a with
    | none => simp [Value.ownBlock] at hg
    | some ad => simp [Value.ownBlock] at hg; simp [ob, hg])), h2⟩
  lo := fun ⟨h1, h2⟩ x hx => by
    rw [h2] at hx
    rcases h1.2 with ⟨hn, _⟩ | ⟨g, cap', cur, hv, h3, h4, h5⟩
    · simp only [Value.slice.injEq] at hn
      rw [hn.1] at hx
      simp [ob] at hx
    · simp only [Value.slice.injEq] at hv
      rw [hv.1] at hx
      simp [ob] at hx
      subst hx
      exact ⟨h3, lt_of_block h4⟩
  base := fun ⟨h1, h2⟩ hC => ⟨own_base h1 hC, h2⟩
theorem ps_nil {w0 w : World} {r : List Thing} (hz : Zoo w0 w r) : Zoo w0 w (PsT none 0 [] :: r) := by
  obtain ⟨X, h1, hk⟩ := hz
  exact ⟨X, ⟨[], X, ⟨World.ownsRow_nil _ _ _ _, rfl⟩, h1, fun _ hx => by simp at hx, rfl⟩, hk⟩

section
variable {w0 w : World} {vb tb gb : Nat} {f : Nat → List Ver} {n : Nat} {cs : List (List Ver)} {r : List Thing} {D : Nat} {md y : Int} {rs : List Int} {ws : List Ver}
theorem l_list (fr to_ : Int) (hz : Zoo w0 w (VltT vb tb gb f n cs [] :: BoxT D (dcells md y (ncell rs ws)) 131 :: r)) :
    Calls Try.prog 115 #[.pointer (some ⟨D, 0, none⟩), .pointer (some ⟨tb, 0, none⟩), .int .i64 fr, .int .i64 to_] w fun e w' => ∃ a cap, e = .returned (.tuple #[.slice a (dls f n y ws rs fr to_).1.length cap, .int .i64 (dls f n y ws rs fr to_).2.1]) ∧ Hid (Zoo w0 w' (VltT vb tb gb f n cs [] :: BoxT D (dcells md y (ncell (dls f n y ws rs fr to_).2.2 ws)) 131 :: PsT a cap (dls f n y ws rs fr to_).1 :: r)) := by
  have hz' := hz
  obtain ⟨X, ⟨Fv, Y, ⟨Ft, Fg, k1⟩, ⟨F, Z, ⟨h1, h2, h3⟩, _, _, e2⟩, hd, _⟩, _⟩ := hz'
  have hF : D ∉ Ft := fun hm => hd D (k1.tF D hm) (by rw [e2, h2]; simp)
  obtain ⟨F, ⟨h1, h2, h3⟩, k2⟩ := zoo_at1 hz
  refine (dlist59 fr to_ w k1.t h1 hF).mono ?_
  rintro e w' ⟨a, cap, rfl, ho, hd2, hk⟩
  refine ⟨a, cap, rfl, ?_⟩
  have hB : w0.heap.size ≤ w.heap.size := hz.kp.size
  have hlo : ∀ x ∈ ob a, w.heap.size ≤ x := fun x hx => by
    cases a with
    | none => simp [ob] at hx
    | some ad =>
      simp only [ob, List.mem_singleton] at hx
      subst hx
      exact own_ge ho rfl
  have h5 := k2 (ManyT [BoxT D (dcells md y (ncell (dls f n y ws rs fr to_).2.2 ws)) 131, PsT a cap (dls f n y ws rs fr to_).1]) w' ⟨F ++ (ob a ++ []), ⟨F, ob a ++ [], ⟨hd2, h2, h3⟩, ⟨ob a, [], ⟨own_base ho hB, rfl⟩, rfl, fun _ _ hy => by simp at hy, rfl⟩, fun x hx hy => ?_, rfl⟩, by rw [h2]; exact hk, fun x hx => ?_⟩
  · have h6 := h5.perm (List.Perm.swap _ _ _)
    have h7 := many_open h6
    exact h7.perm (List.perm_middle (l₁ := [BoxT D (dcells md y (ncell (dls f n y ws rs fr to_).2.2 ws)) 131, PsT a cap (dls f n y ws rs fr to_).1]))
  · rw [List.append_nil] at hy
    have := hlo x hy
    rw [h2] at hx
    rw [List.mem_singleton.1 hx] at this
    have := lt_of_block h1
    omega
  · rcases List.mem_append.1 hx with q | q
    · exact .inl q
    · rw [List.append_nil] at q
      exact .inr (hlo x q)
end

section
variable {w0 w : World} {hb vb tb gb : Nat} {h : HSt} {st : Nat → Sd} {r : List Thing} {s D : Nat} {d : Dp}
theorem h_get (k : Int) (hs : s < 5) (hd : st s = some (D, d)) (hz : Hall w0 w hb vb tb gb h st r) :
    Calls Try.prog 113 #[.pointer (some ⟨D, 0, none⟩), .pointer (some ⟨tb, 0, none⟩), .int .i64 k] w fun e w' => e = .returned (.tuple #[.agg #[.bool (dg h.f h.n d.y d.ws k).t, .string (dg h.f h.n d.y d.ws k).s], .int .i64 (dg h.f h.n d.y d.ws k).a]) ∧ Hid (Hall w0 w' hb vb tb gb h (upd st s (some (D, { d with rs := dr h.f h.n d.y d.rs d.ws k }))) r) := by
  obtain ⟨rest, h1, h2⟩ := hz.out hs
  rw [hd] at h1 h2
  refine (l_get k h1).mono ?_
  rintro e w' ⟨rfl, HZ⟩
  exact ⟨rfl, h2 w' tb h.f h.n h.cs (some (D, { d with rs := dr h.f h.n d.y d.rs d.ws k })) h.seat rfl (unhide HZ)⟩
theorem h_put (k : Int) (t : Bool) (b : ByteArray) (hsz : b.size ≤ maxLen) (hs : s < 5) (hd : st s = some (D, d)) (hz : Hall w0 w hb vb tb gb h st r) :
    Calls Try.prog 114 #[.pointer (some ⟨D, 0, none⟩), .int .i64 k, .agg #[.bool t, .string b]] w fun e w' => e = .returned (.int .i64 (dpc d.md k t b)) ∧ Hid (Hall w0 w' hb vb tb gb h (upd st s (some (D, { d with ws := dpw d.md d.ws k t b }))) r) := by
  obtain ⟨rest, h1, h2⟩ := hz.out hs
  rw [hd] at h1 h2
  refine (b_put1 k t b hsz h1).mono ?_
  rintro e w' ⟨rfl, HZ⟩
  exact ⟨rfl, h2 w' tb h.f h.n h.cs (some (D, { d with ws := dpw d.md d.ws k t b })) h.seat rfl (unhide HZ)⟩
theorem h_list (fr to_ : Int) (hs : s < 5) (hd : st s = some (D, d)) (hz : Hall w0 w hb vb tb gb h st r) :
    Calls Try.prog 115 #[.pointer (some ⟨D, 0, none⟩), .pointer (some ⟨tb, 0, none⟩), .int .i64 fr, .int .i64 to_] w fun e w' => ∃ a cap, e = .returned (.tuple #[.slice a (dls h.f h.n d.y d.ws d.rs fr to_).1.length cap, .int .i64 (dls h.f h.n d.y d.ws d.rs fr to_).2.1]) ∧ Hid (Hall w0 w' hb vb tb gb h (upd st s (some (D, { d with rs := (dls h.f h.n d.y d.ws d.rs fr to_).2.2 }))) (PsT a cap (dls h.f h.n d.y d.ws d.rs fr to_).1 :: r)) := by
  obtain ⟨rest, h1, h2⟩ := hz.out2 hs
  rw [hd] at h1 h2
  refine (l_list fr to_ h1).mono ?_
  rintro e w' ⟨a, cap, rfl, HZ⟩
  exact ⟨a, cap, rfl, h2 w' tb h.f h.n h.cs (some (D, { d with rs := (dls h.f h.n d.y d.ws d.rs fr to_).2.2 })) (PsT a cap (dls h.f h.n d.y d.ws d.rs fr to_).1) h.seat rfl (unhide HZ)⟩
theorem Hall.dedr (hz : Hall w0 w hb vb tb gb h st r) (hm : OptT (some (D, d)) ∈ r) : Ded w D d.md d.y d.rs d.ws := zoo_varm (p := D) hz (List.Mem.tail _ (List.Mem.tail _ (List.mem_append_right _ hm)))
theorem h_commit (hi : HInv h) (hw : WOk d.ws) (hm : OptT (some (D, d)) ∈ r) (hz : Hall w0 w hb vb tb gb h st r) :
    Calls Try.prog 116 #[.pointer (some ⟨vb, 0, none⟩), .pointer (some ⟨D, 0, none⟩)] w fun e w' => e = .returned (.tuple #[.int .i64 (vnum h.f h.n h.cs d.md d.y d.rs d.ws), .int .i64 (vcode h.f h.cs d.md d.y d.rs d.ws)]) ∧ Hid (Hall w0 w' hb vb tb gb ⟨vf h.f h.n h.cs d.md d.y d.rs d.ws, vn h.f h.n h.cs d.md d.y d.rs d.ws, vcs h.f h.cs d.md d.y d.rs d.ws, h.seat⟩ st r) := by
  refine (b_commit hi.vi (hz.dedr hm) hw hz.vlt).mono ?_
  rintro e w' ⟨rfl, HZ⟩
  exact ⟨rfl, Hall.of_vlt (unhide HZ)⟩
theorem h_tear (keep : Int) (hi : HInv h) (hw : WOk d.ws) (hm : OptT (some (D, d)) ∈ r) (hz : Hall w0 w hb vb tb gb h st r) :
    Calls Try.prog 117 #[.pointer (some ⟨vb, 0, none⟩), .pointer (some ⟨D, 0, none⟩), .int .i64 keep] w fun e w' => e = .returned (.tuple #[.int .i64 (tnum h.f h.cs d.md d.y d.rs d.ws keep), .int .i64 (vcode h.f h.cs d.md d.y d.rs d.ws)]) ∧ ∃ tb', Hid (Hall w0 w' hb vb tb' gb ⟨wal0 (tcs h.f h.cs d.md d.y d.rs d.ws keep), (tcs h.f h.cs d.md d.y d.rs d.ws keep).length, tcs h.f h.cs d.md d.y d.rs d.ws keep, h.seat⟩ st r) := by
  refine (b_tear keep hi.vi (hz.dedr hm) hw hz.vlt).mono ?_
  rintro e w' ⟨rfl, tb', HZ⟩
  exact ⟨rfl, tb', Hall.of_vlt (unhide HZ)⟩
theorem h_crash (hz : Hall w0 w hb vb tb gb h st r) :
    Calls Try.prog 61 #[.pointer (some ⟨vb, 0, none⟩)] w fun e w' => e = .returned (.tuple #[]) ∧ ∃ tb', Hid (Hall w0 w' hb vb tb' gb ⟨wal0 h.cs, h.cs.length, h.cs, h.seat⟩ st r) := by
  refine (b_crash hz.vlt).mono ?_
  rintro e w' ⟨rfl, tb', _, HZ⟩
  exact ⟨rfl, tb', Hall.of_vlt (unhide HZ)⟩
theorem h_clear (y : Int) (hz : Hall w0 w hb vb tb gb h st r) :
    Calls Try.prog 60 #[.pointer (some ⟨tb, 0, none⟩), .int .i64 y] w fun e w' => e = .returned (.int .i64 (cln h.f y 8 : Nat)) ∧ Hid (Hall w0 w' hb vb tb gb ⟨clm h.f y 8, h.n, h.cs, h.seat⟩ st r) := by
  obtain ⟨F, ⟨Ft, Fg, k⟩, k2⟩ := zoo_at0 hz.vlt
  refine (tclear46 y w k.t).mono ?_
  rintro e w' ⟨rfl, F', h1, h2, h3⟩
  exact ⟨rfl, Hall.of_vlt (k2 _ _ (k.table h1 h2 h3))⟩
theorem h_last (hz : Hall w0 w hb vb tb gb h st r) : Calls Try.prog 21 #[.pointer (some ⟨tb, 0, none⟩)] w fun e w' => e = .returned (.int .i64 h.n) ∧ w' = w := l_last hz.vlt
end
end Go.Proofs.Ytliopckocegknac

/- A hall's begin, by its contract. -/
namespace Go.Proofs.Ytliopckocegknac
open Go.RowKit
set_option maxRecDepth 20000
attribute [local go_sem ↓] Go.wp_at_zero Go.wp_at_succ

def xcs (x : HStep) : Array Value := #[.int .i64 x.d, .int .i64 x.s, .int .i64 x.md, .int .i64 x.at_, .int .i64 x.key, .int .i64 x.to_, .int .i64 x.keep, .string x.b]
def ecl (v : Ev) (a : Option Addr) (cap : Nat) : Array Value := #[.int .i64 v.c, .int .i64 v.n, .bool v.t, .string v.s, .slice a v.l.length cap]
theorem Sts.put {st : Nat → Sd} {seat : Nat → Option Dp} (h : Sts st seat) (s : Nat) (d : Sd) : Sts (upd st s d) (upd seat s (d.map Prod.snd)) := fun j => by
  simp only [upd]
  split
  · rfl
  · exact h j
theorem upd_id {α : Type} {g : Nat → α} {k : Nat} {v : α} (h : g k = v) : upd g k v = g := by
  funext j
  unfold upd
  split
  · rename_i e; rw [e, h]
  · rfl
section
variable {w0 w : World} {hb vb tb gb : Nat} {h : HSt} {st : Nat → Sd} {r : List Thing}
theorem Hall.as {h' : HSt} (hz : Hall w0 w hb vb tb gb h st r) (e1 : h'.f = h.f) (e2 : h'.n = h.n) (e3 : h'.cs = h.cs) : Hall w0 w hb vb tb gb h' st r := by
  unfold Hall at hz ⊢
  rw [e1, e2, e3]
  exact hz
theorem h_vbegin {md at_ : Int} (hb0 : bcode h.f h.n md at_ = 0) (hz : Hall w0 w hb vb tb gb h st r) :
    Calls Try.prog 111 #[.pointer (some ⟨vb, 0, none⟩), .int .i64 md, .int .i64 at_] w fun e w' => ∃ D, e = .returned (.tuple #[.pointer (some ⟨D, 0, none⟩), .int .i64 0]) ∧ Hid (Hall w0 w' hb vb tb gb h st (OptT (some (D, ⟨md, bat h.n md at_, [], []⟩)) :: r)) := by
  refine (b_begin hb0 hz.vlt).mono ?_
  rintro e w' ⟨D, rfl, HZ⟩
  refine ⟨D, rfl, ?_⟩
  have h1 := unhide HZ
  have p1 : Zoo w0 w' (OptT (some (D, ⟨md, bat h.n md at_, [], []⟩)) :: BoxT hb (hcells vb st) 43 :: VltT vb tb gb h.f h.n h.cs [] :: (seats st ++ r)) := h1.perm ((List.Perm.swap _ _ _).trans (List.Perm.cons _ (List.Perm.swap _ _ _)))
  exact p1.perm (List.perm_middle (l₁ := BoxT hb (hcells vb st) 43 :: VltT vb tb gb h.f h.n h.cs [] :: seats st)).symm
theorem h_vnone {md at_ z : Int} (hb0 : bcode h.f h.n md at_ = z) (h0 : z ≠ 0) (hz : Hall w0 w hb vb tb gb h st r) :
    Calls Try.prog 111 #[.pointer (some ⟨vb, 0, none⟩), .int .i64 md, .int .i64 at_] w fun e w' => e = .returned (.tuple #[.pointer none, .int .i64 z]) ∧ Hid (Hall w0 w' hb vb tb gb h st r) := by
  refine (b_none hb0 h0 hz.vlt).mono ?_
  rintro e w' ⟨rfl, HZ⟩
  exact ⟨rfl, zoo_swap (unhide HZ)⟩
/-- A new deed sits down at an empty seat. -/
theorem Hall.sitNew {D : Nat} {d : Dp} {l1 l2 : List Thing} (hz : Hall w0 w hb vb tb gb h st (l1 ++ OptT (some (D, d)) :: l2)) {s : Nat} (hs : s < 5) (hn : st s = none) : Hall w0 (w.setCell ⟨hb, 1 + s, none⟩ (.pointer (some ⟨D, 0, none⟩))) hb vb tb gb h (upd st s (some (D, d))) (l1 ++ l2) := by
  have h1 := hz.perm (List.perm_middle (l₁ := l1))
  have h2 : Zoo w0 w (VltT vb tb gb h.f h.n h.cs [] :: OptT (some (D, d)) :: BoxT hb (hcells vb st) 43 :: (seats st ++ (l1 ++ l2))) := by
    have p := Zoo.perm h1 (List.perm_middle (l₁ := BoxT hb (hcells vb st) 43 :: VltT vb tb gb h.f h.n h.cs [] :: seats st))
    exact p.perm ((List.Perm.cons _ (List.Perm.swap _ _ _)).trans (List.Perm.swap _ _ _))
  exact Hall.join h2 hs hn

/-- What begin leaves. -/
def BgEnd (w0 : World) (hb vb tb gb : Nat) (r : List Thing) (h' : HSt) (v : Ev) (e : Ending) (w' : World) : Prop := ∃ st', e = .returned (.int .i64 v.c) ∧ v = evc v.c ∧ Sts st' h'.seat ∧ Hid (Hall w0 w' hb vb tb gb h' st' r)
set_option maxHeartbeats 1000000 in
theorem h_begin (x : HStep) (hx : x.d = 1) (hs : Sts st h.seat) (hz : Hall w0 w hb vb tb gb h st r) :
    Calls Try.prog 63 #[.pointer (some ⟨hb, 0, none⟩), .agg #[.int .i64 x.d, .int .i64 x.s, .int .i64 x.md, .int .i64 x.at_, .int .i64 x.key, .int .i64 x.to_, .int .i64 x.keep, .string x.b]] w fun e w' => BgEnd w0 hb vb tb gb r (hdo h x) (hev h x) e w' := by
  have HS := hide hs
  have HX := hide (hz.new (xcs x) 37)
  by_cases hsx : 0 ≤ x.s ∧ x.s < 5
  · obtain ⟨j, hj, h5⟩ := seat_in hsx
    have hjs : x.s.toNat = j := by omega
    have hsb : seatB (j : Int) = true := decide_eq_true (by omega)
    have i0 : (0 : Int) ≤ (j : Int) := by omega
    have i5 : (j : Int) < 5 := by omega
    cases hsd : st j with
    | some xx =>
      have hsj : h.seat j = some xx.2 := by rw [← hs j, hsd]; rfl
      have heq := (HKind.there (h := h) (x := x) xx.2 hx hsx (by rw [hjs]; exact hsj)).eq
      rw [heq.1, heq.2]
      clear heq hz hs
      have hda : dat st (j : Int) = some xx := by rw [dat_in h5, hsd]
      obtain ⟨xd, xs, xm, xa, xk, xt, xp, xb⟩ := x
      dsimp only [xcs] at *
      subst hx hj
      go_enter Try.func63, Try.ntmps63
      go_wp2_with fail
      generalize w.alloc (.cells #[.int .i64 1, .int .i64 (j : Int), .int .i64 xm, .int .i64 xa, .int .i64 xk, .int .i64 xt, .int .i64 xp, .string xb] 37) = W at HX ⊢
      generalize w.heap.size = q at HX ⊢
      have hq := (unhide HX).var (List.Mem.head _)
      have x1 : W.cell? ⟨q, 1, none⟩ = some (.int .i64 (j : Int)) := cell_of_block hq rfl
      clear hq
      refine (hseat (j : Int) _).mono ?_
      rintro e w' ⟨rfl, hw'⟩
      subst w'
      rw [hsb]
      go_wp2_with fail
      refine (h_busy (j : Int) (unhide HX)).mono ?_
      rintro e w' ⟨rfl, hw'⟩
      subst w'
      rw [hda, show Option.isSome (some xx) = true from rfl]
      go_wp2_with fail
      go_ret
      exact ⟨st, rfl, rfl, unhide HS, (unhide HX).tail⟩
    | none =>
      have hsj : h.seat j = none := by rw [← hs j, hsd]; rfl
      have hda : dat st (j : Int) = none := by rw [dat_in h5, hsd]
      by_cases hb0 : bcode h.f h.n x.md x.at_ = 0
      · have heq := (HKind.began (h := h) (x := x) hx hsx (by rw [hjs]; exact hsj) hb0).eq
        rw [heq.1, heq.2]
        clear heq hz hs
        have HB0 := hide hb0
        clear hb0
        obtain ⟨xd, xs, xm, xa, xk, xt, xp, xb⟩ := x
        dsimp only [xcs] at *
        subst hx hj
        go_enter Try.func63, Try.ntmps63
        go_wp2_with fail
        generalize w.alloc (.cells #[.int .i64 1, .int .i64 (j : Int), .int .i64 xm, .int .i64 xa, .int .i64 xk, .int .i64 xt, .int .i64 xp, .string xb] 37) = W at HX ⊢
        generalize w.heap.size = q at HX ⊢
        have hq := (unhide HX).var (List.Mem.head _)
        have x1 : W.cell? ⟨q, 1, none⟩ = some (.int .i64 (j : Int)) := cell_of_block hq rfl
        have x2 : W.cell? ⟨q, 2, none⟩ = some (.int .i64 xm) := cell_of_block hq rfl
        have x3 : W.cell? ⟨q, 3, none⟩ = some (.int .i64 xa) := cell_of_block hq rfl
        clear hq
        refine (hseat (j : Int) _).mono ?_
        rintro e w' ⟨rfl, hw'⟩
        subst w'
        rw [hsb]
        go_wp2_with fail
        refine (h_busy (j : Int) (unhide HX)).mono ?_
        rintro e w' ⟨rfl, hw'⟩
        subst w'
        rw [hda, show Option.isSome (none : Sd) = false from rfl]
        have c0 := (unhide HX).c0
        have HV := hide (fun W' (hk : Kp [] W W') => h_vbegin (unhide HB0) ((unhide HX).kp0 hk))
        go_wp2_with fail
        go_region_with (go_at_call 111; refine (unhide HV _ ((Kp.refl [] W).drewN _)).mono ?_; rintro e w' ⟨D, rfl, HY⟩)
        all_goals
          have hq2 := (unhide HY).var (List.Mem.tail _ (List.Mem.head _))
          have y1 : w'.cell? ⟨q, 1, none⟩ = some (.int .i64 (j : Int)) := cell_of_block hq2 rfl
          have c2 := (unhide HY).cs_ h5
          have f2 := (unhide HY).fz (1 + j)
          rw [hsd] at c2
          clear hq2 x1 x2 x3 c0 HV
          go_wp2_with fail
          go_region
        all_goals
          go_wp2_with fail
          go_ret
          exact ⟨upd st j (some (D, _)), rfl, rfl, by show Sts _ (upd h.seat ((j : Int).toNat) _); rw [hjs]; exact (unhide HS).put j _, ((((unhide HY).sitNew (l1 := []) h5 hsd).tail).kp0 (Kp.refl [] _).drew).as rfl rfl rfl⟩
      · have heq := (HKind.beganNot (h := h) (x := x) hx hsx (by rw [hjs]; exact hsj) hb0).eq
        rw [heq.1, heq.2]
        clear heq hz hs
        have HB0 := hide hb0
        clear hb0
        generalize hzz : bcode h.f h.n x.md x.at_ = z at HB0 ⊢
        have HZ0 := hide hzz
        clear hzz
        obtain ⟨xd, xs, xm, xa, xk, xt, xp, xb⟩ := x
        dsimp only [xcs] at *
        subst hx hj
        go_enter Try.func63, Try.ntmps63
        go_wp2_with fail
        generalize w.alloc (.cells #[.int .i64 1, .int .i64 (j : Int), .int .i64 xm, .int .i64 xa, .int .i64 xk, .int .i64 xt, .int .i64 xp, .string xb] 37) = W at HX ⊢
        generalize w.heap.size = q at HX ⊢
        have hq := (unhide HX).var (List.Mem.head _)
        have x1 : W.cell? ⟨q, 1, none⟩ = some (.int .i64 (j : Int)) := cell_of_block hq rfl
        have x2 : W.cell? ⟨q, 2, none⟩ = some (.int .i64 xm) := cell_of_block hq rfl
        have x3 : W.cell? ⟨q, 3, none⟩ = some (.int .i64 xa) := cell_of_block hq rfl
        clear hq
        refine (hseat (j : Int) _).mono ?_
        rintro e w' ⟨rfl, hw'⟩
        subst w'
        rw [hsb]
        go_wp2_with fail
        refine (h_busy (j : Int) (unhide HX)).mono ?_
        rintro e w' ⟨rfl, hw'⟩
        subst w'
        rw [hda, show Option.isSome (none : Sd) = false from rfl]
        have c0 := (unhide HX).c0
        have HV := hide (fun W' (hk : Kp [] W W') => h_vnone (unhide HZ0) (unhide HB0) ((unhide HX).kp0 hk))
        go_wp2_with fail
        go_region_with (go_at_call 111; refine (unhide HV _ ((Kp.refl [] W).drewN _)).mono ?_; rintro e w' ⟨rfl, HY⟩)
        all_goals
          have hq2 := (unhide HY).var (List.Mem.head _)
          have y1 : w'.cell? ⟨q, 1, none⟩ = some (.int .i64 (j : Int)) := cell_of_block hq2 rfl
          have c2 := (unhide HY).cs_ h5
          have f2 := (unhide HY).fz (1 + j)
          rw [hsd] at c2
          clear hq2 x1 x2 x3 c0 HV
          go_wp2_with fail
          go_region
        all_goals
          go_wp2_with fail
          go_ret
          exact ⟨st, rfl, rfl, unhide HS, by have h9 := (unhide HY).leave h5; rw [upd_id hsd] at h9; exact (h9.tail.tail).kp0 (Kp.refl [] _).drew⟩
  · have heq := (HKind.range (h := h) (x := x) (by omega) hsx).eq
    rw [heq.1, heq.2]
    clear heq hz hs
    have hsb : seatB x.s = false := decide_eq_false hsx
    obtain ⟨xd, xs, xm, xa, xk, xt, xp, xb⟩ := x
    dsimp only [xcs] at *
    subst hx
    go_enter Try.func63, Try.ntmps63
    go_wp2_with fail
    refine (hseat xs _).mono ?_
    rintro e w' ⟨rfl, hw'⟩
    subst w'
    rw [hsb]
    go_wp2_with fail
    go_ret
    exact ⟨st, rfl, rfl, unhide HS, (unhide HX).tail⟩
end
end Go.Proofs.Ytliopckocegknac

/- A hall's goOn: where there is no deed; Put. -/
namespace Go.Proofs.Ytliopckocegknac
open Go.RowKit
set_option maxRecDepth 20000
attribute [local go_sem ↓] Go.wp_at_zero Go.wp_at_succ

/-- What goOn, end and Do leave. -/
def GoEnd (w0 : World) (hb vb gb : Nat) (r : List Thing) (h' : HSt) (v : Ev) (e : Ending) (w' : World) : Prop := ∃ tb' st' a cap, e = .returned (.agg #[.int .i64 v.c, .int .i64 v.n, .bool v.t, .string v.s, .slice a v.l.length cap]) ∧ Sts st' h'.seat ∧ Hid (Hall w0 w' hb vb tb' gb h' st' (PsT a cap v.l :: r))
/-- An event in a variable. -/
structure EvF (w : World) (p : Nat) (a b c d e : Value) : Prop where
  c0 : w.cell? ⟨p, 0, none⟩ = some a
  c1 : w.cell? ⟨p, 1, none⟩ = some b
  c2 : w.cell? ⟨p, 2, none⟩ = some c
  c3 : w.cell? ⟨p, 3, none⟩ = some d
  c4 : w.cell? ⟨p, 4, none⟩ = some e
  f0 : w.frozen? ⟨p, 0, none⟩ = false
  f1 : w.frozen? ⟨p, 1, none⟩ = false
  f2 : w.frozen? ⟨p, 2, none⟩ = false
  f3 : w.frozen? ⟨p, 3, none⟩ = false
  f4 : w.frozen? ⟨p, 4, none⟩ = false
theorem evF {w : World} {p : Nat} {a b c d e : Value} {T : TypeId} (h : w.heap[p]? = some (.cells #[a, b, c, d, e] T (0, 0))) : EvF w p a b c d e :=
  ⟨cell_of_block h rfl, cell_of_block h rfl, cell_of_block h rfl, cell_of_block h rfl, cell_of_block h rfl, frozen_of_block _ h, frozen_of_block _ h, frozen_of_block _ h, frozen_of_block _ h, frozen_of_block _ h⟩
section
variable {w0 w : World} {hb vb tb gb : Nat} {h : HSt} {st : Nat → Sd} {r : List Thing}
theorem Hall.ps {tb' : Nat} {h' : HSt} {st' : Nat → Sd} {w' : World} (hz : Hall w0 w' hb vb tb' gb h' st' r) : Hall w0 w' hb vb tb' gb h' st' (PsT none 0 [] :: r) := Zoo.perm (ps_nil hz) (List.perm_middle (l₁ := BoxT hb (hcells vb st') 43 :: VltT vb tb' gb h'.f h'.n h'.cs [] :: seats st')).symm
/-- Behind an event's five cells, written; the variables are let go. -/
theorem Hall.fin {W : World} {p q : Nat} {c xc : Array Value} {T U : TypeId} (hz : Hall w0 W hb vb tb gb h st (BoxT p c T :: BoxT q xc U :: r)) (a b c' d e : Value) : Hall w0 (((((W.setCell ⟨p, 0, none⟩ a).setCell ⟨p, 1, none⟩ b).setCell ⟨p, 2, none⟩ c').setCell ⟨p, 3, none⟩ d).setCell ⟨p, 4, none⟩ e) hb vb tb gb h st r := (((((hz.set0 0 a).set0 1 b).set0 2 c').set0 3 d).set0 4 e).tail.tail
theorem f_not (hs : Sts st h.seat) {x : HStep} (hx : 2 ≤ x.d ∧ x.d ≤ 10 ∧ x.d ≠ 8 ∧ x.d ≠ 9) (hf : ¬ fcode st x.s = 0) : hdo h x = h ∧ hev h x = evc (fcode st x.s) := by
  unfold fcode at hf ⊢
  by_cases hsx : 0 ≤ x.s ∧ x.s < 5
  · rw [if_pos hsx] at hf ⊢
    cases hd : st x.s.toNat with
    | none =>
      have : h.seat x.s.toNat = none := by rw [← hs, hd]; rfl
      exact (HKind.none_ (h := h) (x := x) hx hsx this).eq
    | some y => rw [hd] at hf; exact absurd rfl hf
  · rw [if_neg hsx]
    exact (HKind.range (h := h) (x := x) (by omega) hsx).eq
theorem f_yes {s : Int} (hf : fcode st s = 0) : ∃ (j D : Nat) (d : Dp), s = (j : Int) ∧ j < 5 ∧ st j = some (D, d) := by
  unfold fcode at hf
  split at hf
  · rename_i hsx
    obtain ⟨j, rfl, h5⟩ := seat_in hsx
    rw [Int.toNat_natCast] at hf
    cases hd : st j with
    | none => rw [hd] at hf; exact absurd hf (by simp)
    | some y => exact ⟨j, y.1, y.2, rfl, h5, hd⟩
  · exact absurd hf (by simp)
set_option maxHeartbeats 1000000 in
theorem go_none (x : HStep) (hx : 2 ≤ x.d ∧ x.d ≤ 5) (hf : ¬ fcode st x.s = 0) (hs : Sts st h.seat) (hz : Hall w0 w hb vb tb gb h st r) :
    Calls Try.prog 64 #[.pointer (some ⟨hb, 0, none⟩), .agg #[.int .i64 x.d, .int .i64 x.s, .int .i64 x.md, .int .i64 x.at_, .int .i64 x.key, .int .i64 x.to_, .int .i64 x.keep, .string x.b]] w fun e w' => GoEnd w0 hb vb gb r (hdo h x) (hev h x) e w' := by
  have heq := f_not hs (x := x) (by omega) hf
  rw [heq.1, heq.2]
  clear heq
  have HS := hide hs
  have HX := hide (hz.two (xcs x) 37 #[.int .i64 0, .int .i64 0, .bool false, .string ⟨#[]⟩, .slice none 0 0] 34)
  clear hz hs
  generalize hzz : fcode st x.s = z at hf ⊢
  have HZ0 := hide hzz
  have hzb : (z != 0) = true := by simpa using hf
  clear hzz hf
  obtain ⟨xd, xs, xm, xa, xk, xt, xp, xb⟩ := x
  dsimp only [xcs] at *
  go_enter Try.func64, Try.ntmps64
  go_wp2_with fail
  generalize (w.alloc (.cells #[.int .i64 xd, .int .i64 xs, .int .i64 xm, .int .i64 xa, .int .i64 xk, .int .i64 xt, .int .i64 xp, .string xb] 37)).alloc (.cells #[.int .i64 0, .int .i64 0, .bool false, .string ⟨#[]⟩, .slice none 0 0] 34) = W at HX ⊢
  generalize w.heap.size = q at HX ⊢
  generalize q + 1 = p at HX ⊢
  have hq := (unhide HX).var (List.Mem.tail _ (List.Mem.head _))
  have x1 : W.cell? ⟨q, 1, none⟩ = some (.int .i64 xs) := cell_of_block hq rfl
  clear hq
  refine (h_find xs (unhide HX)).mono ?_
  rintro e w' ⟨rfl, hw'⟩
  subst w'
  rw [unhide HZ0]
  generalize sp (dat st xs) = o
  have HE := hide ((unhide HX).new #[.int .i64 z, .int .i64 0, .bool false, .string ⟨#[]⟩, .slice none 0 0] 34)
  have pl := lt_of_block ((unhide HX).var (List.Mem.head _))
  obtain ⟨e0, e1, e2, e3, e4, g0, g1, g2, g3, g4⟩ := evF ((unhide HX).var (List.Mem.head _))
  go_wp2_with fail
  refine bodyPost_ret (v := .agg #[.int .i64 z, .int .i64 0, .bool false, .string ⟨#[]⟩, .slice none 0 0]) (by simp [results, Try.results64, go_sem, e0, e1, e2, e3, e4, pl]) rfl ?_
  exact ⟨tb, st, none, 0, rfl, unhide HS, (((unhide HX).fin _ _ _ _ _).new _ _).tail.ps⟩
end
end Go.Proofs.Ytliopckocegknac
