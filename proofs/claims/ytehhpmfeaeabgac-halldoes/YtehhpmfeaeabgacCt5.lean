/- A court's Do of whatever step. -/
import Derived.Test.YtehhpmfeaeabgacCt2
import Derived.Test.YtehhpmfeaeabgacCt3
import Derived.Test.YtehhpmfeaeabgacCt4
namespace Go.Proofs.Ytehhpmfeaeabgac
open Go.RowKit
set_option maxRecDepth 20000

/-- How much the seats' deeds noted. -/
def DLen (h : HSt) (m : Nat) : Prop := ∀ s d, h.seat s = some d → d.rs.length ≤ 8 * m ∧ d.ws.length ≤ m
theorem dgo_rs {f : Nat → List Ver} {n : Nat} {y : Int} {ws : List Ver} : ∀ (m k : Nat) (acc : List Ver) (rs : List Int), (dgo f n y ws k m acc rs).2.2.length ≤ rs.length + m := by
  intro m
  induction m with
  | zero => intro k acc rs; simp [dgo]
  | succ m ih =>
    intro k acc rs
    have hd := dr_len f n y rs ws k
    simp only [dgo]
    split
    · split
      · have := ih (k + 1) (acc ++ [⟨k, (dg f n y ws k).t, (dg f n y ws k).s⟩]) (dr f n y rs ws k)
        omega
      · have := ih (k + 1) acc (dr f n y rs ws k)
        omega
    · dsimp only; omega
theorem dls_rs (f : Nat → List Ver) (n : Nat) (y : Int) (ws : List Ver) (rs : List Int) (a b : Int) : (dls f n y ws rs a b).2.2.length ≤ rs.length + 8 := by
  unfold dls
  split
  · rename_i q
    simp only [keyB, decide_eq_true_eq] at q
    have := dgo_rs (f := f) (n := n) (y := y) (ws := ws) (b + 1 - a).toNat a.toNat [] rs
    omega
  · dsimp only; omega
theorem dpw_len' (md : Int) (ws : List Ver) (k : Int) (t : Bool) (s : ByteArray) : (dpw md ws k t s).length ≤ ws.length + 1 := by
  unfold dpw
  split
  · simp
  · omega
theorem DLen.step {h : HSt} {m : Nat} (hl : DLen h m) (x : HStep) : DLen (hdo h x) (m + 1) := by
  intro s d' hd'
  have hk := hkind h x
  generalize hdo h x = h2 at *
  generalize hev h x = e at *
  have old : ∀ {d : Dp}, h.seat s = some d → d.rs.length ≤ 8 * (m + 1) ∧ d.ws.length ≤ m + 1 := fun q => by have := hl s _ q; omega
  cases hk with
  | kind c => exact old hd'
  | clear c => exact old hd'
  | crash c => cases hd'
  | range c1 c2 => exact old hd'
  | began c1 c2 c3 c4 =>
    rcases sit_at hd' with ⟨q1, q2⟩ | ⟨q1, q2⟩
    · cases q2; simp
    · exact old q2
  | beganNot c1 c2 c3 c4 => exact old hd'
  | none_ c1 c2 c3 => exact old hd'
  | there d0 c1 c2 c3 => exact old hd'
  | get d0 c1 c2 c3 =>
    rcases sit_at hd' with ⟨q1, q2⟩ | ⟨q1, q2⟩
    · cases q2
      have h1 := hl _ _ c3
      have h2 := dr_len h.f h.n d0.y d0.rs d0.ws x.key
      dsimp only; omega
    · exact old q2
  | put d0 c1 c2 c3 =>
    rcases sit_at hd' with ⟨q1, q2⟩ | ⟨q1, q2⟩
    · cases q2
      have h1 := hl _ _ c3
      have h2 := dpw_len' d0.md d0.ws x.key true x.b
      dsimp only; omega
    · exact old q2
  | drop d0 c1 c2 c3 =>
    rcases sit_at hd' with ⟨q1, q2⟩ | ⟨q1, q2⟩
    · cases q2
      have h1 := hl _ _ c3
      have h2 := dpw_len' d0.md d0.ws x.key false ⟨#[]⟩
      dsimp only; omega
    · exact old q2
  | list d0 c1 c2 c3 =>
    rcases sit_at hd' with ⟨q1, q2⟩ | ⟨q1, q2⟩
    · cases q2
      have h1 := hl _ _ c3
      have h2 := dls_rs h.f h.n d0.y d0.ws d0.rs x.key x.to_
      dsimp only; omega
    · exact old q2
  | commit d0 c1 c2 c3 =>
    simp only [upd_at] at hd'
    split at hd'
    · cases hd'
    · exact old hd'
  | tear d0 c1 c2 c3 => cases hd'
  | abort d0 c1 c2 c3 =>
    rcases sit_at hd' with ⟨q1, q2⟩ | ⟨q1, q2⟩
    · cases q2
    · exact old q2
section
variable {w0 w : World} {cb sb : Nat} {h : HSt} {st : Nat → Sd} {r : List Thing}
theorem Cou.gone {f : Nat → List Ver} {n : Nat} {cs : List (List Ver)} {seat : Nat → Option Dp} {s : Nat} (hs : s < 5) (hz : Zoo w0 w (CrtT cb sb f n cs [] (upd (ads st) s none) :: (wseats st ++ r))) : Cou w0 w cb sb ⟨f, n, cs, seat⟩ (upd st s none) r := by
  obtain ⟨l1, l2, e1, e2⟩ := wseats_at st hs
  unfold Cou
  rw [ads_upd, e2, List.append_assoc]
  rw [e1, List.append_assoc] at hz
  have h1 : Zoo w0 w ((CrtT cb sb f n cs [] (upd (ads st) s none) :: l1) ++ WOpt (st s) :: (l2 ++ r)) := hz
  exact (wopt_none h1.drop_).perm (List.perm_middle (l₁ := CrtT cb sb f n cs [] (upd (ads st) s none) :: l1)).symm
theorem c_do (x : HStep) {m : Nat} (hm : m ≤ 200) (hsz : x.b.size ≤ maxLen) (hl : DLen h m) (hs : Sts st h.seat) (hi : HInv h) (hz : Cou w0 w cb sb h st r) :
    Calls Try.prog 16 #[.pointer (some ⟨cb, 0, none⟩), .agg #[.int .i64 x.d, .int .i64 x.s, .int .i64 x.md, .int .i64 x.at_, .int .i64 x.key, .int .i64 x.to_, .int .i64 x.keep, .string x.b]] w fun e w' => GoEndC w0 cb r (hdo h x) (hev h x) e w' := by
  have same : ∀ (c : Int) (w' : World), hdo h x = h → hev h x = evc c → Kp [] w w' → GoEndC w0 cb r (hdo h x) (hev h x) (.returned (.agg #[.int .i64 c, .int .i64 0, .bool false, .string ⟨#[]⟩, .slice none 0 0])) w' := fun c w' h1 h2 hk => by
    rw [h1, h2]
    exact ⟨sb, st, none, 0, rfl, hs, slo_nil _ _, hz.kp0 hk⟩
  by_cases c0 : x.d < 1 ∨ 10 < x.d
  · have heq := (HKind.kind (h := h) (x := x) c0).eq
    exact (cdo_kind cb x w c0).mono (fun e w' ⟨he, hk⟩ => by rw [he]; exact same 3 w' heq.1 heq.2 hk)
  by_cases c8 : x.d = 8
  · exact cdo_clear x c8 hs hz
  by_cases c9 : x.d = 9
  · exact cdo_crash x c9 hz
  by_cases hsx : 0 ≤ x.s ∧ x.s < 5
  · obtain ⟨j, hj, h5⟩ := seat_in hsx
    have hjs : x.s.toNat = j := by omega
    obtain ⟨G, Gr, Gs, bx, kc, _⟩ := hz.crt
    cases hsd : st j with
    | none =>
      have hst : ads st j = none := by simp [ads, hsd, ad]
      have hsj : h.seat x.s.toNat = none := by rw [hjs, ← hs j, hsd]; rfl
      by_cases c1 : x.d = 1
      · by_cases hb : bcode h.f h.n x.md x.at_ = 0
        · exact cdo_begun x c1 hj h5 hsd hb hs hz
        · exact cdo_begunNot x c1 hj h5 hsd hb hs hz
      · have heq := (HKind.none_ (h := h) (x := x) (by omega) hsx hsj).eq
        exact (cdo_none x w kc (by omega) h5 hj hst).mono (fun e w' ⟨he, hk⟩ => by rw [he]; exact same 7 w' heq.1 heq.2 hk)
    | some xx =>
      obtain ⟨D, d⟩ := xx
      have hst : ads st j = some ⟨D, 0, none⟩ := by simp [ads, hsd, ad]
      have hsj : h.seat j = some d := by rw [← hs j, hsd]; rfl
      have hsj2 : h.seat x.s.toNat = some d := by rw [hjs]; exact hsj
      obtain ⟨hrl, hwl⟩ := hl j d hsj
      have hrl2 : d.rs.length ≤ 2000 := by omega
      have hwl2 : d.ws.length ≤ 900 := by omega
      by_cases c1 : x.d = 1
      · have heq := (HKind.there (h := h) (x := x) d c1 hsx hsj2).eq
        exact (cdo_there x w kc c1 h5 hj hst).mono (fun e w' ⟨he, hk⟩ => by rw [he]; exact same 8 w' heq.1 heq.2 hk)
      by_cases c2 : x.d = 2
      · exact cdo_get x c2 hj h5 hsd hs hz hrl2 hwl2
      by_cases c3 : x.d = 3
      · have heq := (HKind.put (h := h) (x := x) d c3 hsx hsj2).eq
        obtain ⟨rest, h1, h2⟩ := hz.out h5
        rw [hsd] at h1 h2
        obtain ⟨H, hw, k2⟩ := zoo_at1 h1
        refine (cdo_put x w kc c3 h5 hj hst hw hsz hwl2).mono ?_
        rintro e w' ⟨rfl, hc⟩
        rw [heq.1, heq.2]
        exact ⟨sb, _, none, 0, rfl, by show Sts _ (upd h.seat x.s.toNat _); rw [hjs]; exact hs.put j (some (D, _)), slo_nil _ _, (h2 w' (some (D, { d with ws := dpw d.md d.ws x.key true x.b })) [] rfl (k2 _ _ hc)).as rfl rfl rfl⟩
      by_cases c4 : x.d = 4
      · have heq := (HKind.drop (h := h) (x := x) d c4 hsx hsj2).eq
        obtain ⟨rest, h1, h2⟩ := hz.out h5
        rw [hsd] at h1 h2
        obtain ⟨H, hw, k2⟩ := zoo_at1 h1
        refine (cdo_drop x w kc c4 h5 hj hst hw hsz hwl2).mono ?_
        rintro e w' ⟨rfl, hc⟩
        rw [heq.1, heq.2]
        exact ⟨sb, _, none, 0, rfl, by show Sts _ (upd h.seat x.s.toNat _); rw [hjs]; exact hs.put j (some (D, _)), slo_nil _ _, (h2 w' (some (D, { d with ws := dpw d.md d.ws x.key false ⟨#[]⟩ })) [] rfl (k2 _ _ hc)).as rfl rfl rfl⟩
      by_cases c5 : x.d = 5
      · exact cdo_list x c5 hj h5 hsd hs hz hrl2 hwl2
      by_cases c6 : x.d = 6
      · exact cdo_commit x c6 hj h5 hsd hs hz hi hrl2 hwl2
      by_cases c7 : x.d = 7
      · have heq := (HKind.abort (h := h) (x := x) d c7 hsx hsj2).eq
        obtain ⟨G0, hG0, k0⟩ := zoo_at0 hz
        obtain ⟨Gr0, Gs0, bx0, kc0⟩ := hG0
        refine (cdo_abort x w kc0 c7 h5 hj hst).mono ?_
        rintro e w' ⟨rfl, hc⟩
        rw [heq.1, heq.2]
        exact ⟨sb, _, none, 0, rfl, by show Sts _ (upd h.seat x.s.toNat none); rw [hjs]; exact hs.put j none, slo_nil _ _, Cou.gone h5 (k0 _ _ hc)⟩
      have c10 : x.d = 10 := by omega
      by_cases hz0 : dm h.f d.md d.y d.rs d.ws = 0
      · by_cases hl0 : (wk d.ws 8).length = 0
        · exact cdo_tearB x c10 hj h5 hsd hs hz hi hrl2 hwl2 hz0 hl0
        · by_cases hgt : h.cs.length < (ltear h.cs (wk d.ws 8) x.keep).length
          · exact cdo_tearC x c10 hj h5 hsd hs hz hi hrl2 hwl2 hz0 hl0 hgt
          · exact cdo_tearD x c10 hj h5 hsd hs hz hi hrl2 hwl2 hz0 hl0 hgt
      · exact cdo_tearA x c10 hj h5 hsd hs hz hi hrl2 hwl2 hz0
  · have heq := (HKind.range (h := h) (x := x) (by omega) hsx).eq
    exact (cdo_range cb x w (by omega) hsx).mono (fun e w' ⟨he, hk⟩ => by rw [he]; exact same 1 w' heq.1 heq.2 hk)
/-- Do of whatever step, of a court at the head of a list of things. -/
theorem cou_do (x : HStep) {m : Nat} (hm : m ≤ 200) (hsz : x.b.size ≤ maxLen) (hl : DLen h m) (hz : Zoo w0 w (CouT cb h :: r)) :
    Calls Try.prog 16 #[.pointer (some ⟨cb, 0, none⟩), .agg #[.int .i64 x.d, .int .i64 x.s, .int .i64 x.md, .int .i64 x.at_, .int .i64 x.key, .int .i64 x.to_, .int .i64 x.keep, .string x.b]] w fun e w' => ∃ a cap, e = .returned (.agg #[.int .i64 (hev h x).c, .int .i64 (hev h x).n, .bool (hev h x).t, .string (hev h x).s, .slice a (hev h x).l.length cap]) ∧ Hid (SlO w' a (hev h x).l) ∧ Hid (Zoo w0 w' (CouT cb (hdo h x) :: r)) := by
  obtain ⟨sb, st, hs, hi, hz'⟩ := cou_open hz
  refine (c_do x hm hsz hl hs hi hz').mono ?_
  rintro e w' ⟨sb', st', a, cap, rfl, hs', HSL, HY⟩
  exact ⟨a, cap, rfl, HSL, cou_close hs' (hi.step x) (unhide HY)⟩
end
end Go.Proofs.Ytehhpmfeaeabgac
