/- Vc, G5, Cc, Cd, Ce, Ho, Kw, E1, E4, E5, X1, X2, X3, X4: bound together for a claim. -/
import Derived.Test.YtapmlleemopcnacM4
import Derived.ChangeKeysEq
import Derived.Deep.WholeRow
/- Package vault, by contracts: New, Log, Crash, Begin, writes, Commit, tearLog, Tear. -/
namespace Go.Proofs.Ytapmlleemopcnac
open Go.RowKit
set_option maxRecDepth 20000
attribute [local go_sem ↓] Go.wp_at_zero Go.wp_at_succ

theorem vlt_new {w w1 w2 : World} {tb gb : Nat} {Ft Fg : List Nat} {f : Nat → List Ver} {n : Nat} {cs : List (List Ver)} {torn : List UInt8} (h1 : Tbl w.heap.size w1 tb Ft f n) (k1 : Kp [] w w1) (h2 : Lg w1.heap.size w2 gb Fg cs torn) (k2 : Kp [] w1 w2) :
    Vlt w.heap.size (w2.alloc (.cells #[.pointer (some ⟨tb, 0, none⟩), .pointer (some ⟨gb, 0, none⟩)] 47)) w2.heap.size tb gb (w2.heap.size :: (Ft ++ Fg)) Ft Fg f n cs torn := by
  have ka : Kp [] w2 (w2.alloc (.cells #[.pointer (some ⟨tb, 0, none⟩), .pointer (some ⟨gb, 0, none⟩)] 47)) := (Kp.refl [] w2).alloc _
  have hs1 := k1.size
  have hs2 := k2.size
  have hsa : (w2.alloc (.cells #[.pointer (some ⟨tb, 0, none⟩), .pointer (some ⟨gb, 0, none⟩)] 47)).heap.size = w2.heap.size + 1 := by simp
  refine ⟨heap_alloc_new w2 _, (h1.kp0 k2).kp0 ka, (h2.base hs1).kp0 ka, fun hm => ?_, fun hm => ?_, fun x hx hm => ?_, by simp, fun x hx => by simp [hx], fun x hx => by simp [hx], fun x hx => ?_⟩
  · have := (h1.lo _ hm).2; omega
  · have := (h2.lo _ hm).2; omega
  · have := (h1.lo x hx).2
    have := (h2.lo x hm).1
    omega
  · rw [hsa]
    rcases List.mem_cons.1 hx with e | e
    · omega
    · rcases List.mem_append.1 e with e | e
      · have := h1.lo x e; omega
      · have := h2.lo x e; omega

theorem own_addr1 {B : Nat} {w : World} {e : TypeId} {size n cap : Nat} {a : Option Addr} {xs : List Value} (h : w.ownsRow B e size (.slice a n cap) n xs) : ∀ g o, a = some ⟨g, o, none⟩ → B ≤ g ∧ g < w.heap.size := by
  intro g o ea
  subst ea
  exact h.lt g rfl
theorem addr_ob {a : Option Addr} {P : Nat → Prop} (h : ∀ x ∈ ob a, P x) : ∀ g o, a = some ⟨g, o, none⟩ → P g := by
  rintro g o rfl
  exact h g (by simp [ob])

set_option maxHeartbeats 400000 in
theorem vnew (w : World) : Calls Try.prog 50 #[] w fun e w' => ∃ vb tb gb F, e = .returned (.pointer (some ⟨vb, 0, none⟩)) ∧ (VltT vb tb gb (fun _ => [dv]) 0 [] []).holds w.heap.size w' F ∧ Kp [] w w' := by
  go_enter Try.func50, Try.ntmps50
  go_wp2_with fail
  refine (tnew47 w).mono ?_
  rintro e w1 ⟨rfl, ⟨Ft, hT⟩, hk1⟩
  have HT := hide hT
  have HK1 := hide hk1
  clear hT hk1
  generalize ht : w.heap.size = tb at HT ⊢
  have HTB := hide ht
  clear ht
  go_wp2_with fail
  refine (lnew w1).mono ?_
  rintro e w2 ⟨rfl, hL, hk2⟩
  have HL := hide hL
  have HK2 := hide hk2
  clear hL hk2
  generalize hg : w1.heap.size = gb at HL ⊢
  have HGB := hide hg
  clear hg
  go_wp2_with fail
  go_ret
  have e1 := (unhide HTB).symm
  subst e1
  have e2 := (unhide HGB).symm
  subst e2
  exact ⟨_, _, _, _, rfl, ⟨_, _, vlt_new (unhide HT) (unhide HK1) (unhide HL) (unhide HK2)⟩, ((unhide HK1).trans0 (unhide HK2)).alloc _⟩

set_option maxHeartbeats 400000 in
theorem vlog {B vb tb gb n : Nat} {F Ft Fg : List Nat} {f : Nat → List Ver} {cs : List (List Ver)} {torn : List UInt8} (w : World) (h : Vlt B w vb tb gb F Ft Fg f n cs torn) :
    Calls Try.prog 35 #[.pointer (some ⟨vb, 0, none⟩)] w fun e w' => BtEnd (lb cs ++ torn) w e w' := by
  have c1 := h.c1
  have HG := hide h.g
  clear h
  go_enter Try.func35, Try.ntmps35
  go_wp2_with fail
  refine (lbytes w (unhide HG)).mono ?_
  rintro e w1 ⟨a, nb, cap, rfl, q⟩
  have HQ := hide q
  clear q
  go_wp2_with fail
  go_ret
  exact ⟨a, nb, cap, rfl, unhide HQ⟩

set_option maxHeartbeats 400000 in
theorem vcrash {B vb tb gb n : Nat} {F Ft Fg : List Nat} {f : Nat → List Ver} {cs : List (List Ver)} {torn : List UInt8} (w : World) (h : Vlt B w vb tb gb F Ft Fg f n cs torn) :
    Calls Try.prog 53 #[.pointer (some ⟨vb, 0, none⟩)] w fun e w' => e = .returned (.tuple #[]) ∧ ∃ tb', Ch (VltT vb tb' gb (wal0 cs) cs.length cs []) B w F w' := by
  have c1 := h.c1
  have HI := hide h.g.inv
  have HV := hide h
  have HG := hide h.g
  clear h
  go_enter Try.func53, Try.ntmps53
  go_wp2_with fail
  refine (lmend w (unhide HG)).mono ?_
  rintro e w1 ⟨rfl, hL, hk⟩
  obtain ⟨F1, ⟨Ft1, Fg1, h1⟩, k1, s1⟩ := (unhide HV).log ⟨Fg, hL, hk, fun x hx => .inl hx⟩
  have d1 := h1.c1
  have H1 := hide h1
  have K1 := hide k1
  have S1 := hide s1
  clear h1 k1 s1 c1 HG HV hL hk
  go_wp2_with fail
  refine (lbytes w1 (unhide H1).g).mono ?_
  rintro e w2 ⟨a, nb, cap, rfl, hn, hcap, hbyt, hk2⟩
  have HN := hide hn
  have HB := hide hbyt
  have K2 := hide hk2
  have HC := hide hcap
  clear hn hbyt hk2 hcap
  go_wp2_with fail
  refine (ltable25 a nb cap (lb cs ++ []) w2 (unhide HB) (unhide HN) (unhide HC) (by rw [List.append_nil]; have := (unhide HI).b3000; omega)).mono ?_
  rintro e w3 ⟨tb', Ft', p, rfl, hp, hT, hk3⟩
  have K3 := hide hk3
  have HT := hide hT
  rw [List.append_nil, dcs_all (unhide HI)] at HT
  have h3 := (unhide H1).kp0 ((unhide K2).trans0 hk3)
  have d0 := h3.c0
  have f0 := h3.fz 0
  clear h3 hT hk3 hp d1
  go_wp2_with fail
  go_end0
  exact ⟨rfl, tb', Ch.trans (unhide K1) (unhide S1) ((unhide H1).put ((unhide K2).trans0 (unhide K3)) ((unhide HT).base (unhide K2).size))⟩

set_option maxHeartbeats 400000 in
theorem vwrites {B vb tb gb n db : Nat} {F Ft Fg : List Nat} {f : Nat → List Ver} {cs : List (List Ver)} {torn : List UInt8} {md y : Int} {rs : List Int} {ws : List Ver} (w : World) (h : Vlt B w vb tb gb F Ft Fg f n cs torn) (hd : Ded w db md y rs ws) :
    Calls Try.prog 127 #[.pointer (some ⟨vb, 0, none⟩), .pointer (some ⟨db, 0, none⟩)] w fun e w' => LstEnd (if dm f md y rs ws = 0 then wk ws 8 else [], dm f md y rs ws) w e w' := by
  have c0 := h.c0
  have HM := hide (dmay68 w h.t hd)
  have HD := hide hd
  clear h hd
  generalize dm f md y rs ws = z at *
  by_cases hz : z = 0
  · subst hz
    rw [if_pos rfl]
    go_enter Try.func127, Try.ntmps127
    go_wp2_with fail
    refine (unhide HM).mono ?_
    rintro e w1 ⟨rfl, hk1⟩
    have HK1 := hide hk1
    clear hk1 HM
    go_wp2_with fail
    refine (dwrites66 w1 ((unhide HD).kp0 (unhide HK1))).mono ?_
    rintro e w2 ⟨a, cap, rfl, ho, hk2⟩
    have HO := hide ho
    have HK2 := hide hk2
    clear ho hk2
    go_wp2_with fail
    go_ret2
    exact ⟨a, cap, rfl, own_base (unhide HO) (unhide HK1).size, (unhide HK1).trans0 (unhide HK2)⟩
  · rw [if_neg hz]
    go_enter Try.func127, Try.ntmps127
    go_wp2_with fail
    refine (unhide HM).mono ?_
    rintro e w1 ⟨rfl, hk1⟩
    have HK1 := hide hk1
    clear hk1 HM
    go_wp2_with fail
    go_ret2
    exact ⟨none, 0, rfl, World.ownsRow_nil _ _ _ _, unhide HK1⟩

/-- What Begin tells, and leaves. -/
def VbEnd (f : Nat → List Ver) (n : Nat) (md at_ : Int) (w : World) (e : Ending) (w' : World) : Prop :=
  (bcode f n md at_ = 0 ∧ ∃ D, e = .returned (.tuple #[.pointer (some ⟨D, 0, none⟩), .int .i64 0]) ∧ w.heap.size ≤ D ∧ Ded w' D md (bat n md at_) [] [] ∧ Kp [] w w') ∨
  (¬ bcode f n md at_ = 0 ∧ e = .returned (.tuple #[.pointer none, .int .i64 (bcode f n md at_)]) ∧ Kp [] w w')

set_option maxHeartbeats 1000000 in
theorem vbegin {B vb tb gb n : Nat} {F Ft Fg : List Nat} {f : Nat → List Ver} {cs : List (List Ver)} {torn : List UInt8} (md at_ : Int) (w : World) (h : Vlt B w vb tb gb F Ft Fg f n cs torn) :
    Calls Try.prog 99 #[.pointer (some ⟨vb, 0, none⟩), .int .i64 md, .int .i64 at_] w fun e w' => VbEnd f n md at_ w e w' := by
  have c0 := h.c0
  have HT := hide h.t
  obtain ⟨x0, x1⟩ := fmx_le h.t.inv 8 (Nat.le_refl _)
  have hn40 := h.t.inv.n40
  clear h
  by_cases hm : 1 ≤ md ∧ md ≤ 3
  · by_cases h3 : md = 3
    · subst h3
      by_cases hr : at_ < 0 ∨ (n : Int) < at_
      · have hb : bcode f n 3 at_ = 1 := by unfold bcode; rw [if_pos (by omega), if_pos rfl, if_pos hr]
        unfold VbEnd
        rw [hb]
        clear hb
        rcases hr with hr | hr
        · go_enter Try.func99, Try.ntmps99
          go_wp2_with fail
          refine (dnew54 3 at_ w).mono ?_
          rintro e w1 (⟨_, _, rfl, hd, hk⟩ | ⟨hc, _, _⟩)
          rotate_left
          · exact (hc ⟨by omega, by omega⟩).elim
          have HD := hide hd
          have HK := hide hk
          have HT1 := hide ((unhide HT).kp0 hk)
          have d0 : w1.cell? ⟨vb, 0, none⟩ = some (.pointer (some ⟨tb, 0, none⟩)) := hk.cell (by simp) c0
          clear hd hk c0 HT
          generalize hD : w.heap.size = D at HD ⊢
          have HE := hide hD
          clear hD
          go_wp2_with fail
          go_ret2
          exact .inr ⟨by omega, rfl, unhide HK⟩
        · have hr0 : ¬ at_ < 0 := by omega
          go_enter Try.func99, Try.ntmps99
          go_wp2_with fail
          refine (dnew54 3 at_ w).mono ?_
          rintro e w1 (⟨_, _, rfl, hd, hk⟩ | ⟨hc, _, _⟩)
          rotate_left
          · exact (hc ⟨by omega, by omega⟩).elim
          have HD := hide hd
          have HK := hide hk
          have HT1 := hide ((unhide HT).kp0 hk)
          have d0 : w1.cell? ⟨vb, 0, none⟩ = some (.pointer (some ⟨tb, 0, none⟩)) := hk.cell (by simp) c0
          clear hd hk c0 HT
          generalize hD : w.heap.size = D at HD ⊢
          have HE := hide hD
          clear hD
          go_wp2_with fail
          refine (tlast38 w1 (unhide HT1)).mono ?_
          rintro e w2 ⟨rfl, hw⟩
          subst w2
          go_wp2_with fail
          go_ret2
          exact .inr ⟨by omega, rfl, unhide HK⟩
      · by_cases ho : at_ < fmx f 8
        · have hb : bcode f n 3 at_ = 12 := by unfold bcode; rw [if_pos (by omega), if_pos rfl, if_neg hr, if_pos ho]
          unfold VbEnd
          rw [hb]
          clear hb
          have hr0 : ¬ at_ < 0 := by omega
          have hr1 : ¬ (n : Int) < at_ := by omega
          go_enter Try.func99, Try.ntmps99
          go_wp2_with fail
          refine (dnew54 3 at_ w).mono ?_
          rintro e w1 (⟨_, _, rfl, hd, hk⟩ | ⟨hc, _, _⟩)
          rotate_left
          · exact (hc ⟨by omega, by omega⟩).elim
          have HD := hide hd
          have HK := hide hk
          have HT1 := hide ((unhide HT).kp0 hk)
          have d0 : w1.cell? ⟨vb, 0, none⟩ = some (.pointer (some ⟨tb, 0, none⟩)) := hk.cell (by simp) c0
          clear hd hk c0 HT
          generalize hD : w.heap.size = D at HD ⊢
          have HE := hide hD
          clear hD
          go_wp2_with fail
          refine (tlast38 w1 (unhide HT1)).mono ?_
          rintro e w2 ⟨rfl, hw⟩
          subst w2
          go_wp2_with fail
          refine (tfirst42 w1 (unhide HT1)).mono ?_
          rintro e w2 ⟨rfl, hw⟩
          subst w2
          go_wp2_with fail
          go_ret2
          exact .inr ⟨by omega, rfl, unhide HK⟩
        · have hb : bcode f n 3 at_ = 0 := by unfold bcode; rw [if_pos (by omega), if_pos rfl, if_neg hr, if_neg ho]
          unfold VbEnd
          rw [hb]
          clear hb
          have hr0 : ¬ at_ < 0 := by omega
          have hr1 : ¬ (n : Int) < at_ := by omega
          go_enter Try.func99, Try.ntmps99
          go_wp2_with fail
          refine (dnew54 3 at_ w).mono ?_
          rintro e w1 (⟨_, _, rfl, hd, hk⟩ | ⟨hc, _, _⟩)
          rotate_left
          · exact (hc ⟨by omega, by omega⟩).elim
          have HD := hide hd
          have HK := hide hk
          have HT1 := hide ((unhide HT).kp0 hk)
          have d0 : w1.cell? ⟨vb, 0, none⟩ = some (.pointer (some ⟨tb, 0, none⟩)) := hk.cell (by simp) c0
          clear hd hk c0 HT
          generalize hD : w.heap.size = D at HD ⊢
          have HE := hide hD
          clear hD
          go_wp2_with fail
          refine (tlast38 w1 (unhide HT1)).mono ?_
          rintro e w2 ⟨rfl, hw⟩
          subst w2
          go_wp2_with fail
          refine (tfirst42 w1 (unhide HT1)).mono ?_
          rintro e w2 ⟨rfl, hw⟩
          subst w2
          go_wp2_with fail
          go_ret2
          exact .inl ⟨by trivial, D, rfl, by have := unhide HE; omega, by rw [show bat n 3 at_ = at_ from if_pos rfl]; exact unhide HD, unhide HK⟩
    · have hb : bcode f n md at_ = 0 := by unfold bcode; rw [if_pos hm, if_neg h3]
      unfold VbEnd
      rw [hb]
      clear hb
      have hr0 : ¬ (n : Int) < 0 := by omega
      have hr1 : ¬ (n : Int) < (n : Int) := by omega
      have hr2 : ¬ (n : Int) < fmx f 8 := by omega
      go_enter Try.func99, Try.ntmps99
      go_wp2_with fail
      refine (tlast38 w (unhide HT)).mono ?_
      rintro e w0 ⟨rfl, hw⟩
      subst w0
      go_wp2_with fail
      refine (dnew54 md n w).mono ?_
      rintro e w1 (⟨_, _, rfl, hd, hk⟩ | ⟨hc, _, _⟩)
      rotate_left
      · exact (hc ⟨by omega, by omega⟩).elim
      have HD := hide hd
      have HK := hide hk
      have HT1 := hide ((unhide HT).kp0 hk)
      have d0 : w1.cell? ⟨vb, 0, none⟩ = some (.pointer (some ⟨tb, 0, none⟩)) := hk.cell (by simp) c0
      clear hd hk c0 HT
      generalize hD : w.heap.size = D at HD ⊢
      have HE := hide hD
      clear hD
      go_wp2_with fail
      refine (tlast38 w1 (unhide HT1)).mono ?_
      rintro e w2 ⟨rfl, hw⟩
      subst w2
      go_wp2_with fail
      refine (tfirst42 w1 (unhide HT1)).mono ?_
      rintro e w2 ⟨rfl, hw⟩
      subst w2
      go_wp2_with fail
      go_ret2
      exact .inl ⟨by trivial, D, rfl, by have := unhide HE; omega, by rw [show bat n md at_ = n from if_neg h3]; exact unhide HD, unhide HK⟩
  · have hb : bcode f n md at_ = 3 := by unfold bcode; rw [if_neg hm]
    have h3 : ¬ md = 3 := by omega
    unfold VbEnd
    rw [hb]
    clear hb
    go_enter Try.func99, Try.ntmps99
    go_wp2_with fail
    refine (tlast38 w (unhide HT)).mono ?_
    rintro e w0 ⟨rfl, hw⟩
    subst w0
    go_wp2_with fail
    refine (dnew54 md n w).mono ?_
    rintro e w1 (⟨q1, q2, _⟩ | ⟨_, rfl, hw⟩)
    · exact (hm ⟨q1, q2⟩).elim
    subst w1
    go_wp2_with fail
    go_ret2
    exact .inr ⟨by omega, rfl, Kp.refl _ _⟩

set_option maxHeartbeats 1000000 in
theorem vcommit {B vb tb gb n db : Nat} {F Ft Fg : List Nat} {f : Nat → List Ver} {cs : List (List Ver)} {md y : Int} {rs : List Int} {ws : List Ver} (w : World) (h : Vlt B w vb tb gb F Ft Fg f n cs []) (hv : VI f n cs) (hd : Ded w db md y rs ws) (hw : WOk ws) :
    Calls Try.prog 104 #[.pointer (some ⟨vb, 0, none⟩), .pointer (some ⟨db, 0, none⟩)] w fun e w' => e = .returned (.tuple #[.int .i64 (vnum f n cs md y rs ws), .int .i64 (vcode f cs md y rs ws)]) ∧ Ch (VltT vb tb gb (vf f n cs md y rs ws) (vn f n cs md y rs ws) (vcs f cs md y rs ws) []) B w F w' := by
  have HW := hide (vwrites w h hd)
  have HV := hide h
  have hpl := wk_len ws 8
  have HP := hide hw.pf
  have HR := hide hv
  have hn40 := h.t.inv.n40
  clear h hd hw hv
  by_cases hz : dm f md y rs ws = 0
  · rw [if_pos hz, hz] at HW
    by_cases hl : (wk ws 8).length = 0
    · obtain ⟨e1, e2⟩ := v_none (cs := cs) hz hl
      obtain ⟨e3, e4, e5, e6⟩ := v_not (n := n) e2
      rw [e1, e3, e4, e5, e6]
      clear e1 e2 e3 e4 e5 e6 HR HP
      go_enter Try.func104, Try.ntmps104
      go_wp2_with fail
      refine (unhide HW).mono ?_
      rintro e w1 ⟨a, cap, rfl, _, hk⟩
      rw [hl]
      have HK := hide hk
      clear hk hl
      go_wp2_with fail
      go_ret2
      exact ⟨rfl, Ch.same ⟨Ft, Fg, unhide HV⟩ (unhide HK)⟩
    · have HL := hide hl
      by_cases hc : lcode cs (wk ws 8) = 0
      · obtain ⟨e1, e2⟩ := v_yes hz hl hc
        obtain ⟨e3, e4, e5, e6⟩ := v_did (n := n) e2
        rw [e1, e3, e4, e5, e6]
        clear e1 e2 e3 e4 e5 e6
        obtain ⟨q1, q2, q3⟩ := (unhide HR).room hc
        have hlp : lput cs (wk ws 8) = cs ++ [wk ws 8] := by unfold lput; rw [if_pos hc]
        have HLP := hide hlp
        have HC := hide hc
        have HQ := hide (And.intro q1 (And.intro q2 q3))
        clear q1 q2 q3 hlp hc hz
        generalize wk ws 8 = ps at *
        go_enter Try.func104, Try.ntmps104
        go_wp2_with fail
        refine (unhide HW).mono ?_
        rintro e w1 ⟨a, cap, rfl, ho, hk⟩
        dsimp only at ho ⊢
        have h1 := (unhide HV).kp0 hk
        have d1 := h1.c1
        have HPR := hide (slo_prs (slo_own ho rfl) (unhide HP))
        have HO := hide ho
        have H1 := hide h1
        have HK := hide hk
        clear ho h1 hk HW
        go_wp2_with fail
        refine (lput31 a cap ps w1 (unhide H1).g (unhide HPR) (by omega)).mono ?_
        rintro e w2 ⟨rfl, hL⟩
        rw [unhide HC]
        rw [unhide HLP] at hL
        obtain ⟨F2, ⟨Ft2, Fg2, h2⟩, k2, s2⟩ := (unhide H1).log hL
        have hfar : ∀ g o, a = some ⟨g, o, none⟩ → g ∉ F := fun g o ea hm => by
          have h3 := (own_addr1 (unhide HO) g o ea).1
          have h4 := ((unhide HV).lo g hm).2
          omega
        have hfar2 : ∀ g o, a = some ⟨g, o, none⟩ → g ∉ Ft2 := fun g o ea hm => by
          rcases s2 g (h2.tF g hm) with e | e
          · exact hfar g o ea e
          · have h3 := (own_addr1 (unhide HO) g o ea).2
            omega
        have HPR2 := hide ((unhide HPR).kp k2 hfar)
        have HFAR := hide hfar2
        have d0 := h2.c0
        have H2 := hide h2
        have K2 := hide k2
        have S2 := hide s2
        clear h2 k2 s2 hL hfar hfar2 d1
        go_wp2_with fail
        refine (twrite45 a cap ps w2 (unhide H2).t (unhide HPR2) (fun _ => unhide HFAR) (by omega)).mono ?_
        rintro e w3 ⟨rfl, Ft3, hT, hk3, hs3⟩
        rw [(unhide HQ).1, (unhide HQ).2.2]
        rw [(unhide HQ).2.1] at hT
        have HZ := hide (Ch.after (unhide HK) (Ch.trans (unhide K2) (unhide S2) ((unhide H2).table hT hk3 hs3)))
        clear hT hk3 hs3
        go_wp2_with fail
        go_ret2
        exact ⟨rfl, unhide HZ⟩
      · obtain ⟨e1, e2⟩ := v_full hz hl hc
        obtain ⟨e3, e4, e5, e6⟩ := v_not (n := n) e2
        rw [e1, e3, e4, e5, e6]
        clear e1 e2 e3 e4 e5 e6
        have hlp : lput cs (wk ws 8) = cs := by unfold lput; rw [if_neg hc]
        have HLP := hide hlp
        clear hlp hz
        generalize hzz : lcode cs (wk ws 8) = z at *
        have HZZ := hide hzz
        clear hzz
        generalize wk ws 8 = ps at *
        go_enter Try.func104, Try.ntmps104
        go_wp2_with fail
        refine (unhide HW).mono ?_
        rintro e w1 ⟨a, cap, rfl, ho, hk⟩
        dsimp only at ho ⊢
        have h1 := (unhide HV).kp0 hk
        have d1 := h1.c1
        have HPR := hide (slo_prs (slo_own ho rfl) (unhide HP))
        have H1 := hide h1
        have HK := hide hk
        clear ho h1 hk HW
        go_wp2_with fail
        refine (lput31 a cap ps w1 (unhide H1).g (unhide HPR) (by omega)).mono ?_
        rintro e w2 ⟨rfl, hL⟩
        rw [unhide HZZ]
        rw [unhide HLP] at hL
        have HX := hide (Ch.after (unhide HK) ((unhide H1).log hL))
        clear hL d1
        go_wp2_with fail
        go_ret2
        exact ⟨rfl, unhide HX⟩
  · rw [if_neg hz] at HW
    obtain ⟨e1, e2⟩ := v_may (cs := cs) hz
    obtain ⟨e3, e4, e5, e6⟩ := v_not (n := n) e2
    rw [e1, e3, e4, e5, e6]
    clear e1 e2 e3 e4 e5 e6 HR HP
    generalize dm f md y rs ws = z at *
    go_enter Try.func104, Try.ntmps104
    go_wp2_with fail
    refine (unhide HW).mono ?_
    rintro e w1 ⟨a, cap, rfl, _, hk⟩
    have HK := hide hk
    clear hk HW
    go_wp2_with fail
    go_ret2
    exact ⟨rfl, Ch.same ⟨Ft, Fg, unhide HV⟩ (unhide HK)⟩

set_option maxHeartbeats 1000000 in
theorem vtearLog {B vb tb gb n db : Nat} {F Ft Fg : List Nat} {f : Nat → List Ver} {cs : List (List Ver)} {md y : Int} {rs : List Int} {ws : List Ver} (keep : Int) (w : World) (h : Vlt B w vb tb gb F Ft Fg f n cs []) (hd : Ded w db md y rs ws) (hw : WOk ws) :
    Calls Try.prog 129 #[.pointer (some ⟨vb, 0, none⟩), .pointer (some ⟨db, 0, none⟩), .int .i64 keep] w fun e w' => e = .returned (.int .i64 (vcode f cs md y rs ws)) ∧ ∃ torn, Ch (VltT vb tb gb f n (tcs f cs md y rs ws keep) torn) B w F w' := by
  have HW := hide (vwrites w h hd)
  have HV := hide h
  have hpl := wk_len ws 8
  have HP := hide hw.pf
  clear h hd hw
  by_cases hz : dm f md y rs ws = 0
  · rw [if_pos hz, hz] at HW
    by_cases hl : (wk ws 8).length = 0
    · rw [(v_none (cs := cs) hz hl).1, t_none (f := f) (cs := cs) (md := md) (y := y) (rs := rs) (keep := keep) hl]
      clear HP
      go_enter Try.func129, Try.ntmps129
      go_wp2_with fail
      refine (unhide HW).mono ?_
      rintro e w1 ⟨a, cap, rfl, _, hk⟩
      rw [hl]
      have HK := hide hk
      clear hk hl
      go_wp2_with fail
      go_ret
      exact ⟨rfl, [], Ch.same ⟨Ft, Fg, unhide HV⟩ (unhide HK)⟩
    · have hvc : vcode f cs md y rs ws = lcode cs (wk ws 8) := by unfold vcode; rw [if_pos hz, if_neg hl]
      rw [hvc, t_tear hz hl]
      clear hvc hz
      generalize wk ws 8 = ps at *
      go_enter Try.func129, Try.ntmps129
      go_wp2_with fail
      refine (unhide HW).mono ?_
      rintro e w1 ⟨a, cap, rfl, ho, hk⟩
      dsimp only at ho ⊢
      have h1 := (unhide HV).kp0 hk
      have d1 := h1.c1
      have HPR := hide (slo_prs (slo_own ho rfl) (unhide HP))
      have H1 := hide h1
      have HK := hide hk
      clear ho h1 hk HW
      go_wp2_with fail
      refine (ltear30 a cap ps keep w1 (unhide H1).g (unhide HPR) (by omega)).mono ?_
      rintro e w2 ⟨rfl, hL⟩
      have HX := hide (Ch.after (unhide HK) ((unhide H1).log hL))
      clear hL d1
      go_wp2_with fail
      go_ret
      exact ⟨rfl, _, unhide HX⟩
  · rw [if_neg hz] at HW
    rw [(v_may (cs := cs) hz).1, t_may hz]
    clear HP
    generalize dm f md y rs ws = z at *
    go_enter Try.func129, Try.ntmps129
    go_wp2_with fail
    refine (unhide HW).mono ?_
    rintro e w1 ⟨a, cap, rfl, _, hk⟩
    have HK := hide hk
    clear hk HW
    go_wp2_with fail
    go_ret
    exact ⟨rfl, [], Ch.same ⟨Ft, Fg, unhide HV⟩ (unhide HK)⟩

set_option maxHeartbeats 1000000 in
theorem vtear {B vb tb gb n db : Nat} {F Ft Fg : List Nat} {f : Nat → List Ver} {cs : List (List Ver)} {md y : Int} {rs : List Int} {ws : List Ver} (keep : Int) (w : World) (h : Vlt B w vb tb gb F Ft Fg f n cs []) (hv : VI f n cs) (hd : Ded w db md y rs ws) (hw : WOk ws) :
    Calls Try.prog 105 #[.pointer (some ⟨vb, 0, none⟩), .pointer (some ⟨db, 0, none⟩), .int .i64 keep] w fun e w' => e = .returned (.tuple #[.int .i64 (tnum f cs md y rs ws keep), .int .i64 (vcode f cs md y rs ws)]) ∧ ∃ tb', Ch (VltT vb tb' gb (wal0 (tcs f cs md y rs ws keep)) (tcs f cs md y rs ws keep).length (tcs f cs md y rs ws keep) []) B w F w' := by
  have HG := hide (vtearLog keep w h hd hw)
  have c0 := h.c0
  have HV := hide h
  have hn40 := h.t.inv.n40
  have hlen := hv.len
  clear h hd hw hv
  rcases tcs_cases (f := f) (cs := cs) (md := md) (y := y) (rs := rs) (ws := ws) (keep := keep) with hcs | ⟨hcs, hc0, _⟩
  · rw [tnum_same hcs]
    have HCS := hide hcs
    rw [hcs]
    clear hcs
    have HLEN := hide hlen
    clear hlen
    generalize hzz : vcode f cs md y rs ws = z at *
    clear hzz
    by_cases hz : z = 0
    · subst hz
      go_enter Try.func105, Try.ntmps105
      go_wp2_with fail
      refine (tlast38 w (unhide HV).t).mono ?_
      rintro e w0 ⟨rfl, hw0⟩
      subst w0
      go_wp2_with fail
      refine (unhide HG).mono ?_
      rintro e w1 ⟨rfl, torn, F1, ⟨Ft1, Fg1, h1⟩, k1, s1⟩
      have H1 := hide h1
      have K1 := hide k1
      have S1 := hide s1
      clear h1 k1 s1 HG
      rw [unhide HCS] at H1
      go_wp2_with fail
      refine (vcrash w1 (unhide H1)).mono ?_
      rintro e w2 ⟨rfl, tb2, F2, ⟨Ft2, Fg2, h2⟩, k2, s2⟩
      have d0 := h2.c0
      have H2 := hide h2
      have HX := hide (Ch.trans (o' := VltT vb tb2 gb (wal0 cs) cs.length cs []) (unhide K1) (unhide S1) ⟨F2, ⟨Ft2, Fg2, h2⟩, k2, s2⟩)
      clear h2 k2 s2 c0
      go_wp2_with fail
      refine (tlast38 w2 (unhide H2).t).mono ?_
      rintro e w3 ⟨rfl, hw3⟩
      subst w3
      rw [← unhide HLEN]
      go_wp2_with fail
      go_ret2
      exact ⟨rfl, tb2, unhide HX⟩
    · go_enter Try.func105, Try.ntmps105
      go_wp2_with fail
      refine (tlast38 w (unhide HV).t).mono ?_
      rintro e w0 ⟨rfl, hw0⟩
      subst w0
      go_wp2_with fail
      refine (unhide HG).mono ?_
      rintro e w1 ⟨rfl, torn, F1, ⟨Ft1, Fg1, h1⟩, k1, s1⟩
      have H1 := hide h1
      have K1 := hide k1
      have S1 := hide s1
      clear h1 k1 s1 HG
      rw [unhide HCS] at H1
      go_wp2_with fail
      refine (vcrash w1 (unhide H1)).mono ?_
      rintro e w2 ⟨rfl, tb2, F2, ⟨Ft2, Fg2, h2⟩, k2, s2⟩
      have d0 := h2.c0
      have H2 := hide h2
      have HX := hide (Ch.trans (o' := VltT vb tb2 gb (wal0 cs) cs.length cs []) (unhide K1) (unhide S1) ⟨F2, ⟨Ft2, Fg2, h2⟩, k2, s2⟩)
      clear h2 k2 s2 c0
      go_wp2_with fail
      go_ret2
      exact ⟨rfl, tb2, unhide HX⟩
  · rw [tnum_more hcs, hc0]
    rw [hc0] at HG
    have HCS := hide hcs
    rw [hcs]
    clear hcs hc0
    have HLEN := hide hlen
    have hN : ¬ ((cs ++ [wk ws 8]).length : Int) = (n : Int) := by have : (cs ++ [wk ws 8]).length = cs.length + 1 := (by simp); omega
    have hN2 : ((cs ++ [wk ws 8]).length : Int) = (cs.length : Int) + 1 := by simp
    generalize cs ++ [wk ws 8] = cs2 at *
    have HN2 := hide hN2
    clear hlen hN2
    go_enter Try.func105, Try.ntmps105
    go_wp2_with fail
    refine (tlast38 w (unhide HV).t).mono ?_
    rintro e w0 ⟨rfl, hw0⟩
    subst w0
    go_wp2_with fail
    refine (unhide HG).mono ?_
    rintro e w1 ⟨rfl, torn, F1, ⟨Ft1, Fg1, h1⟩, k1, s1⟩
    have H1 := hide h1
    have K1 := hide k1
    have S1 := hide s1
    clear h1 k1 s1 HG
    rw [unhide HCS] at H1
    go_wp2_with fail
    refine (vcrash w1 (unhide H1)).mono ?_
    rintro e w2 ⟨rfl, tb2, F2, ⟨Ft2, Fg2, h2⟩, k2, s2⟩
    have d0 := h2.c0
    have H2 := hide h2
    have HX := hide (Ch.trans (o' := VltT vb tb2 gb (wal0 cs2) cs2.length cs2 []) (unhide K1) (unhide S1) ⟨F2, ⟨Ft2, Fg2, h2⟩, k2, s2⟩)
    clear h2 k2 s2 c0
    go_wp2_with fail
    refine (tlast38 w2 (unhide H2).t).mono ?_
    rintro e w3 ⟨rfl, hw3⟩
    subst w3
    go_wp2_with fail
    refine (tlast38 w2 (unhide H2).t).mono ?_
    rintro e w3 ⟨rfl, hw3⟩
    subst w3
    go_wp2_with fail
    go_ret2
    exact ⟨by rw [unhide HN2]; rfl, tb2, unhide HX⟩

end Go.Proofs.Ytapmlleemopcnac

/- May of the document's deed, by its contract. -/
namespace Go.Proofs.Ytapmlleemopcnac
open Go.RowKit
set_option maxRecDepth 20000
attribute [local go_sem ↓] Go.wp_at_zero Go.wp_at_succ

theorem snc_key {f : Nat → List Ver} {k : Nat} (hk : k < 8) : snc f k = va (f k) ((f k).length - 1) := by
  unfold snc
  rw [if_pos (by simp [keyB]; omega), Int.toNat_natCast]
theorem sl_last {B : Nat} {w : World} {sb : Nat} {G : List Nat} {g o cap : Nat → Nat} {f : Nat → List Ver} {n : Nat} {k : Nat} (W : World) (h : ShtL B w sb G g o cap f n) (hW : Kp [] w W) (hk : k < 8) (s : Int) (hs : snc f k = s) :
    Calls Try.prog 74 #[.slice (some ⟨g k, o k, none⟩) (f k).length (cap k)] W fun e w' => e = .returned (.int .i64 s) ∧ w' = W := by
  have h' := h.kp hW (fun _ _ => by simp)
  refine (llast16 (g k) (o k) (cap k) W (h'.sla k hk) (h'.inv.pos k hk) (by have := h'.inv.len41 hk; omega)).mono ?_
  rintro e w' ⟨rfl, rfl⟩
  exact ⟨by rw [← hs, snc_key hk], rfl⟩

set_option maxHeartbeats 2000000 in
theorem wmay69 {B sb n wb : Nat} {G H : List Nat} {f : Nat → List Ver} {md y : Int} {rs : List Int} {ws : List Ver} (w : World) (h : Sht B w sb G f n) (hd : Wrk B w wb H md y rs ws) (hrl : rs.length ≤ 900) (hwl : ws.length ≤ 900) :
    Calls Try.prog 65 #[.pointer (some ⟨wb, 0, none⟩), .pointer (some ⟨sb, 0, none⟩)] w fun e w' => e = .returned (.int .i64 (dm f md y rs ws)) ∧ Kp [] w w' := by
  obtain ⟨g, o, cap, h⟩ := h
  have HT := hide h
  have HD := hide hd
  clear h hd
  have HC0 : Hid (cls f y ws 0 = false) := rfl
  go_enter Try.func65, Try.ntmps65
  go_wp2_with fail
  go_loopw [5] (fun i wr => ∃ k : Nat, k ≤ 8 ∧ i = .int .i64 k ∧ Hid (cls f y ws k = false) ∧ Hid (Kp [] w wr)) (fun i _ => 8 - (intOf i).toNat)
  case atStart => exact ⟨0, by omega, rfl, HC0, Kp.refl _ _⟩
  case round =>
    obtain ⟨k, hk, rfl, HC, HK⟩ := hrel
    by_cases hlt8 : k < 8
    · have i0 : (0 : Int) ≤ (k : Int) := by omega
      have i1 : (k : Int) < 8 := by omega
      go_wp2_with fail
      refine (wlast81 k _ ((unhide HD).kp0 (unhide HK)) (by omega)).mono ?_
      rintro e w1 ⟨rfl, hkp⟩
      have hk1 := (unhide HK).trans0 hkp
      generalize hsn : snc f k = sn at *
      have HSN := hide hsn
      clear hsn
      cases hv : lwr ws k with
      | some v =>
        simp only [Option.isSome_some, Option.getD_some]
        have hk2 := hk1.alloc (.cells #[.bool v.t, .string v.s] 31)
        obtain ⟨ra, rc, wa, wc, hw1⟩ := (unhide HD).kp0 hk1
        have ht1 := (unhide HT).kp hk1 (fun _ _ => by simp)
        have qL := ht1.kcell hlt8
        have qy := hw1.c1
        have hlb := lt_of_block hw1.box
        have hls := (ht1.lo sb ht1.sG).2
        have HK2 := hide hk2
        have HV := hide hv
        clear hkp hk1 hk2 hw1 ht1 hv
        by_cases hgt : y < sn
        · have HN := hide (dm_clash (md := md) (rs := rs) (cls_mono (cls_yes (unhide HV) (by rw [unhide HSN]; exact hgt)) 8 (by omega)))
          go_wp2_with fail
          go_quiet ((go_at_call 74; exact Calls.quiet_of_same (sl_last _ (unhide HT) ((unhide HK2).drewN _) hlt8 sn (unhide HSN))))
          go_wp2
          go_ret
          exact ⟨ret_int (unhide HN).symm, (unhide HK2).drewN _⟩
        · have HN := hide (cls_old (ws := ws) (f := f) (y := y) (k := k) (by rw [unhide HSN]; omega))
          have hle : sn ≤ y := by omega
          go_wp2_with fail
          go_quiet ((go_at_call 74; exact Calls.quiet_of_same (sl_last _ (unhide HT) ((unhide HK2).drewN _) hlt8 sn (unhide HSN))))
          go_wp2
          exact ⟨⟨k + 1, by omega, by go_num, by rw [unhide HN]; exact HC, (unhide HK2).drewN _⟩, by simp [intOf]; omega⟩
      | none =>
        simp only [Option.isSome_none, Option.getD_none]
        have HK2 := hide (hk1.alloc (.cells #[.bool dv.t, .string dv.s] 31))
        have HN := hide (cls_no (f := f) (y := y) hv)
        clear hkp hk1 hv
        go_wp2_with fail
        go_quiet (fail)
        go_wp2
        exact ⟨⟨k + 1, by omega, by go_num, by rw [unhide HN]; exact HC, (unhide HK2).drewN _⟩, by simp [intOf]; omega⟩
    · have e : k = 8 := by omega
      subst e
      have HE := hide (dm_end (md := md) (rs := rs) (unhide HC))
      have HM0 : Hid (mcd f md y rs 0 = 0) := by simp [mcd, stl]; exact trivial
      have HK0 := HK
      clear HC
      go_wp2_with fail
      go_loopw [8] (fun i wr => ∃ k : Nat, k ≤ 8 ∧ i = .int .i64 k ∧ Hid (mcd f md y rs k = 0) ∧ Hid (Kp [] w wr)) (fun i _ => 8 - (intOf i).toNat)
      case atStart => exact ⟨0, by omega, rfl, HM0, HK0⟩
      case round =>
        obtain ⟨k, hk, rfl, HC, HK⟩ := hrel
        by_cases hlt8 : k < 8
        · have i0 : (0 : Int) ≤ (k : Int) := by omega
          have i1 : (k : Int) < 8 := by omega
          obtain ⟨ra, rc, wa, wc, hw1⟩ := (unhide HD).kp0 (unhide HK)
          have ht1 := (unhide HT).kp (unhide HK) (fun _ _ => by simp)
          have qL := ht1.kcell hlt8
          have qm := hw1.c0
          have qy := hw1.c1
          have qr := hw1.c2
          have HS := hide hw1.rsl
          clear hw1 ht1
          generalize hsn : snc f k = sn at *
          have HSN := hide hsn
          clear hsn
          by_cases hm : md = 2
          · by_cases hr : (k : Int) ∈ rs
            · have hd : decide ((k : Int) ∈ rs) = true := by simp [hr]
              have HD2 := hide hd
              by_cases hgt : y < sn
              · have HN : Hid (dm f md y rs ws = 11) := (unhide HE).trans (mcd_yes hm (stl_mono (stl_yes hr (by rw [unhide HSN]; exact hgt)) 8 (by omega)))
                subst hm
                clear hr hd
                go_wp2_with fail
                go_quiet ((first | (go_at_call 42; exact Calls.quiet_of_same ((in72 ra rc k _ ((unhide HS).kp0 ((Kp.refl [] _).drewN _)) (by omega)).mono (fun e w' q => ⟨by rw [q.1, unhide HD2], q.2⟩))) | (go_at_call 74; exact Calls.quiet_of_same (sl_last _ (unhide HT) ((unhide HK).drewN _) hlt8 sn (unhide HSN)))))
                go_wp2
                go_ret
                exact ⟨ret_int (unhide HN).symm, (unhide HK).drewN _⟩
              · have HN := hide ((mcd_eq (md := md) (stl_old (rs := rs) (f := f) (y := y) (k := k) (by rw [unhide HSN]; omega))).trans (unhide HC))
                have hle : sn ≤ y := by omega
                subst hm
                clear hr hd
                go_wp2_with fail
                go_quiet ((first | (go_at_call 42; exact Calls.quiet_of_same ((in72 ra rc k _ ((unhide HS).kp0 ((Kp.refl [] _).drewN _)) (by omega)).mono (fun e w' q => ⟨by rw [q.1, unhide HD2], q.2⟩))) | (go_at_call 74; exact Calls.quiet_of_same (sl_last _ (unhide HT) ((unhide HK).drewN _) hlt8 sn (unhide HSN)))))
                go_wp2
                refine ⟨⟨_, _, _, _, _, _, _, _, _, _, _, _, _, _, _, _, _, _, _, _, _, _, _, _, _, _, _, _, _, _, _, _, _, ?_, rfl⟩, by simp [intOf]; omega⟩
                exact ⟨k + 1, by omega, by go_num, HN, (unhide HK).drewN _⟩
            · have hd : decide ((k : Int) ∈ rs) = false := by simp [hr]
              have HD2 := hide hd
              have HN := hide ((mcd_eq (md := md) (stl_no (f := f) (y := y) hr)).trans (unhide HC))
              subst hm
              clear hr hd
              go_wp2_with fail
              go_quiet ((go_at_call 42; exact Calls.quiet_of_same ((in72 ra rc k _ ((unhide HS).kp0 ((Kp.refl [] _).drewN _)) (by omega)).mono (fun e w' q => ⟨by rw [q.1, unhide HD2], q.2⟩))))
              go_wp2
              exact ⟨⟨k + 1, by omega, by go_num, HN, (unhide HK).drewN _⟩, by simp [intOf]; omega⟩
          · have HN := hide (mcd_not (f := f) (y := y) (rs := rs) (k := k + 1) hm)
            have em : (md == 2) = false := beq_eq_false_iff_ne.2 hm
            clear hm
            go_wp2_with fail
            go_quiet (fail)
            go_wp2
            exact ⟨⟨k + 1, by omega, by go_num, HN, (unhide HK).drewN _⟩, by simp [intOf]; omega⟩
        · have e : k = 8 := by omega
          subst e
          have HN := hide ((unhide HE).trans (unhide HC))
          go_wp2_with fail
          go_ret
          exact ⟨ret_int (unhide HN).symm, unhide HK⟩
end Go.Proofs.Ytapmlleemopcnac

/- The document's court, by contracts: NewCourt, Begin, commit, again. -/
namespace Go.Proofs.Ytapmlleemopcnac
open Go.RowKit
set_option maxRecDepth 20000
attribute [local go_sem ↓] Go.wp_at_zero Go.wp_at_succ

theorem Sht.ncell {B : Nat} {w : World} {sb : Nat} {G : List Nat} {f : Nat → List Ver} {n : Nat} (h : Sht B w sb G f n) : w.cell? ⟨sb, 8, none⟩ = some (.int .i64 n) := by
  obtain ⟨g, o, cap, h⟩ := h
  exact h.ncell
theorem Sht.inv {B : Nat} {w : World} {sb : Nat} {G : List Nat} {f : Nat → List Ver} {n : Nat} (h : Sht B w sb G f n) : Inv f n := by
  obtain ⟨g, o, cap, h⟩ := h
  exact h.inv
theorem Sht.lt {B : Nat} {w : World} {sb : Nat} {G : List Nat} {f : Nat → List Ver} {n : Nat} (h : Sht B w sb G f n) : sb < w.heap.size := by
  obtain ⟨g, o, cap, h⟩ := h
  exact (h.lo sb h.sG).2
def crt0 (sb : Nat) : Array Value := #[.pointer (some ⟨sb, 0, none⟩), .slice none 0 0, .slice none 0 0, .pointer none, .pointer none, .pointer none, .pointer none, .pointer none]
theorem crt_new {w w1 : World} {sb : Nat} {Gs : List Nat} {f : Nat → List Ver} {n : Nat} (h1 : Sht w.heap.size w1 sb Gs f n) (k1 : Kp [] w w1) :
    Crt w.heap.size (w1.alloc (.cells (crt0 sb) 61)) w1.heap.size sb (w1.heap.size :: Gs) [w1.heap.size] Gs (crt0 sb) f n [] [] (fun _ => none) := by
  have ka : Kp [] w1 (w1.alloc (.cells (crt0 sb) 61)) := (Kp.refl [] w1).alloc _
  have hs1 := k1.size
  have hsa : (w1.alloc (.cells (crt0 sb) 61)).heap.size = w1.heap.size + 1 := by simp
  refine ⟨⟨none, 0, [], none, 0, ⟨heap_alloc_new w1 _, rfl, rfl, ownE_nil _ _, fun e he => by simp at he, byt_nil _ _, fun _ => ⟨rfl, rfl⟩, by simp [ob], by simp [ob], by simp, by simp [ob], fun x hx => ?_, linv_nil, by simp, by omega⟩, rfl⟩, rfl, fun i hi => ?_, rfl, h1.kp0 ka, fun x hx hm => ?_, fun x hx => by simp at hx; simp [hx], fun x hx => by simp [hx], fun x hx => ?_⟩
  · simp at hx; omega
  · have : i = 0 ∨ i = 1 ∨ i = 2 ∨ i = 3 ∨ i = 4 := by omega
    rcases this with e | e | e | e | e <;> subst e <;> rfl
  · simp at hx
    have := (h1.lo x hm).2
    omega
  · rw [hsa]
    rcases List.mem_cons.1 hx with e | e
    · omega
    · have := h1.lo x e; omega

set_option maxHeartbeats 400000 in
theorem cnew (w : World) : Calls Try.prog 16 #[] w fun e w' => ∃ cb sb G, e = .returned (.pointer (some ⟨cb, 0, none⟩)) ∧ (CrtT cb sb (fun _ => [dv]) 0 [] [] (fun _ => none)).holds w.heap.size w' G ∧ Kp [] w w' := by
  go_enter Try.func16, Try.ntmps16
  go_wp2_with fail
  refine (snew55 w).mono ?_
  rintro e w1 ⟨rfl, ⟨Gs, hT⟩, hk1⟩
  have HT := hide hT
  have HK1 := hide hk1
  clear hT hk1
  generalize ht : w.heap.size = sb at HT ⊢
  have HTB := hide ht
  clear ht
  go_wp2_with fail
  go_ret
  have e1 := (unhide HTB).symm
  subst e1
  exact ⟨_, _, _, rfl, ⟨_, _, _, crt_new (unhide HT) (unhide HK1)⟩, (unhide HK1).alloc _⟩

theorem wrk_new (w : World) (md y : Int) : Wrk w.heap.size (w.alloc (.cells #[.int .i64 md, .int .i64 y, .slice none 0 0, .slice none 0 0] 66)) w.heap.size [w.heap.size] md y [] [] :=
  ⟨none, 0, none, 0, heap_alloc_new _ _, World.ownsRow_nil _ _ _ _, World.ownsRow_nil _ _ _ _, fun g hg => by simp [Value.ownBlock] at hg, fun g hg => by simp [Value.ownBlock] at hg, fun g g' hg => by simp [Value.ownBlock] at hg, by simp, fun x hx => by simp at hx; simp; omega⟩

/-- What Begin of the court tells, and leaves. -/
def CbEnd (f : Nat → List Ver) (n : Nat) (md at_ : Int) (w : World) (e : Ending) (w' : World) : Prop :=
  (bcode f n md at_ = 0 ∧ ∃ D H, e = .returned (.tuple #[.pointer (some ⟨D, 0, none⟩), .int .i64 0]) ∧ Wrk w.heap.size w' D H md (bat n md at_) [] [] ∧ Kp [] w w') ∨
  (¬ bcode f n md at_ = 0 ∧ e = .returned (.tuple #[.pointer none, .int .i64 (bcode f n md at_)]) ∧ Kp [] w w')

theorem cbEnd_bad {f : Nat → List Ver} {n : Nat} {md at_ c : Int} {w w' : World} (hb : bcode f n md at_ = c) (hc : c ≠ 0) (hk : Kp [] w w') : CbEnd f n md at_ w (.returned (.tuple #[.pointer none, .int .i64 c])) w' := .inr ⟨by rw [hb]; exact hc, by rw [hb], hk⟩
theorem cbEnd_ok {f : Nat → List Ver} {n : Nat} {md at_ : Int} {w w' : World} {D : Nat} {H : List Nat} (hb : bcode f n md at_ = 0) (hd : Wrk w.heap.size w' D H md (bat n md at_) [] []) (hk : Kp [] w w') : CbEnd f n md at_ w (.returned (.tuple #[.pointer (some ⟨D, 0, none⟩), .int .i64 0])) w' := .inl ⟨hb, D, H, rfl, hd, hk⟩

set_option maxHeartbeats 1000000 in
theorem cbegin {B cb sb n : Nat} {G Gr Gs : List Nat} {bx : Array Value} {f : Nat → List Ver} {cs : List (List Ver)} {torn : List UInt8} {st : Nat → Option Addr} (md at_ : Int) (w : World) (h : Crt B w cb sb G Gr Gs bx f n cs torn st) :
    Calls Try.prog 60 #[.pointer (some ⟨cb, 0, none⟩), .int .i64 md, .int .i64 at_] w fun e w' => CbEnd f n md at_ w e w' := by
  have c0 := h.c0
  have n0 := h.s.ncell
  have HT := hide h.s
  obtain ⟨x0, x1⟩ := fmx_le h.s.inv 8 (Nat.le_refl _)
  have hn40 := h.s.inv.n40
  clear h
  by_cases hm : 1 ≤ md ∧ md ≤ 3
  · have hm1 : ¬ md < 1 := by omega
    have hm3 : ¬ 3 < md := by omega
    by_cases h3 : md = 3
    · subst h3
      by_cases hr : at_ < 0 ∨ (n : Int) < at_
      · have hb : bcode f n 3 at_ = 1 := by unfold bcode; rw [if_pos (by omega), if_pos rfl, if_pos hr]
        have HBB := hide hb
        clear hb
        rcases hr with hr | hr
        · go_enter Try.func60, Try.ntmps60
          go_wp2_with fail
          go_ret2
          exact cbEnd_bad (unhide HBB) (by omega) (Kp.refl _ _)
        · have hr0 : ¬ at_ < 0 := by omega
          go_enter Try.func60, Try.ntmps60
          go_wp2_with fail
          go_ret2
          exact cbEnd_bad (unhide HBB) (by omega) (Kp.refl _ _)
      · have hr0 : ¬ at_ < 0 := by omega
        have hr1 : ¬ (n : Int) < at_ := by omega
        by_cases ho : at_ < fmx f 8
        · have hb : bcode f n 3 at_ = 12 := by unfold bcode; rw [if_pos (by omega), if_pos rfl, if_neg hr, if_pos ho]
          have HBB := hide hb
          clear hb
          go_enter Try.func60, Try.ntmps60
          go_wp2_with fail
          refine (sfirst43 w (unhide HT)).mono ?_
          rintro e w2 ⟨rfl, hw⟩
          subst w2
          go_wp2_with fail
          go_ret2
          exact cbEnd_bad (unhide HBB) (by omega) (Kp.refl _ _)
        · have hb : bcode f n 3 at_ = 0 := by unfold bcode; rw [if_pos (by omega), if_pos rfl, if_neg hr, if_neg ho]
          have HBB := hide hb
          clear hb
          go_enter Try.func60, Try.ntmps60
          go_wp2_with fail
          refine (sfirst43 w (unhide HT)).mono ?_
          rintro e w2 ⟨rfl, hw⟩
          subst w2
          go_wp2_with fail
          go_ret2
          exact cbEnd_ok (unhide HBB) (by rw [show bat n 3 at_ = at_ from if_pos rfl]; exact wrk_new w 3 at_) ((Kp.refl [] w).alloc _)
    · have hb : bcode f n md at_ = 0 := by unfold bcode; rw [if_pos hm, if_neg h3]
      have HBB := hide hb
      clear hb
      have hr0 : ¬ (n : Int) < 0 := by omega
      have hr1 : ¬ (n : Int) < (n : Int) := by omega
      have hr2 : ¬ (n : Int) < fmx f 8 := by omega
      go_enter Try.func60, Try.ntmps60
      go_wp2_with fail
      refine (sfirst43 w (unhide HT)).mono ?_
      rintro e w2 ⟨rfl, hw⟩
      subst w2
      go_wp2_with fail
      go_ret2
      exact cbEnd_ok (unhide HBB) (by rw [show bat n md at_ = n from if_neg h3]; exact wrk_new w md n) ((Kp.refl [] w).alloc _)
  · have hb : bcode f n md at_ = 3 := by unfold bcode; rw [if_neg hm]
    have HBB := hide hb
    clear hb
    by_cases hm1 : md < 1
    · go_enter Try.func60, Try.ntmps60
      go_wp2_with fail
      go_ret2
      exact cbEnd_bad (unhide HBB) (by omega) (Kp.refl _ _)
    · have hm3 : 3 < md := by omega
      go_enter Try.func60, Try.ntmps60
      go_wp2_with fail
      go_ret2
      exact cbEnd_bad (unhide HBB) (by omega) (Kp.refl _ _)

set_option maxHeartbeats 1000000 in
theorem ccommit {B cb sb n wb : Nat} {G Gr Gs H : List Nat} {bx : Array Value} {f : Nat → List Ver} {cs : List (List Ver)} {st : Nat → Option Addr} {md y : Int} {rs : List Int} {ws : List Ver} (w : World) (h : Crt B w cb sb G Gr Gs bx f n cs [] st) (hv : VI f n cs) (hd : Wrk B w wb H md y rs ws) (hw : WOk ws) (hrl : rs.length ≤ 900) (hwl : ws.length ≤ 900) :
    Calls Try.prog 64 #[.pointer (some ⟨cb, 0, none⟩), .pointer (some ⟨wb, 0, none⟩)] w fun e w' => e = .returned (.tuple #[.int .i64 (vnum f n cs md y rs ws), .int .i64 (vcode f cs md y rs ws)]) ∧ Ch (CrtT cb sb (vf f n cs md y rs ws) (vn f n cs md y rs ws) (vcs f cs md y rs ws) [] st) B w G w' := by
  have HM := hide (wmay69 w h.s hd hrl hwl)
  have HD := hide hd
  have HV := hide h
  have c0 := h.c0
  have hpl := wk_len ws 8
  have HP := hide hw.pf
  have HR := hide hv
  have hn40 := h.s.inv.n40
  clear h hd hw hv
  by_cases hz : dm f md y rs ws = 0
  · rw [hz] at HM
    by_cases hl : (wk ws 8).length = 0
    · obtain ⟨e1, e2⟩ := v_none (cs := cs) hz hl
      obtain ⟨e3, e4, e5, e6⟩ := v_not (n := n) e2
      rw [e1, e3, e4, e5, e6]
      clear e1 e2 e3 e4 e5 e6 HR HP
      go_enter Try.func64, Try.ntmps64
      go_wp2_with fail
      refine (unhide HM).mono ?_
      rintro e w0 ⟨rfl, hk0⟩
      have HK0 := hide hk0
      clear hk0 HM
      go_wp2_with fail
      refine (wwrites67 w0 ((unhide HD).kp0 (unhide HK0)) hwl).mono ?_
      rintro e w1 ⟨a, cap, rfl, _, hk⟩
      rw [hl]
      have HK := hide ((unhide HK0).trans0 hk)
      clear hk hl
      go_wp2_with fail
      go_ret2
      exact ⟨rfl, Ch.same ⟨Gr, Gs, bx, unhide HV⟩ (unhide HK)⟩
    · have HL := hide hl
      by_cases hc : lcode cs (wk ws 8) = 0
      · obtain ⟨e1, e2⟩ := v_yes hz hl hc
        obtain ⟨e3, e4, e5, e6⟩ := v_did (n := n) e2
        rw [e1, e3, e4, e5, e6]
        clear e1 e2 e3 e4 e5 e6
        obtain ⟨q1, q2, q3⟩ := (unhide HR).room hc
        have hlp : lput cs (wk ws 8) = cs ++ [wk ws 8] := by unfold lput; rw [if_pos hc]
        have HLP := hide hlp
        have HC := hide hc
        have HQ := hide (And.intro q1 (And.intro q2 q3))
        clear q1 q2 q3 hlp hc hz
        have HWW := hide (fun w0 (hk0 : Kp [] w w0) => wwrites67 w0 ((unhide HD).kp0 hk0) hwl)
        generalize wk ws 8 = ps at *
        go_enter Try.func64, Try.ntmps64
        go_wp2_with fail
        refine (unhide HM).mono ?_
        rintro e w0 ⟨rfl, hk0⟩
        have HK0 := hide hk0
        clear hk0 HM
        go_wp2_with fail
        refine (unhide HWW w0 (unhide HK0)).mono ?_
        rintro e w1 ⟨a, cap, rfl, ho0, hk1⟩
        have ho := own_base ho0 (unhide HK0).size
        have hk := (unhide HK0).trans0 hk1
        have h1 := (unhide HV).kp0 hk
        have HPR := hide (slo_prs (slo_own ho rfl) (unhide HP))
        have HO := hide ho
        have H1 := hide h1
        have HK := hide hk
        clear ho ho0 h1 hk hk1 HWW HK0
        go_wp2_with fail
        refine (rxput a cap ps w1 (unhide H1).r (unhide HPR) (by omega)).mono ?_
        rintro e w2 ⟨rfl, hL⟩
        rw [unhide HC]
        rw [unhide HLP] at hL
        obtain ⟨G2, ⟨Gr2, Gs2, bx2, h2⟩, k2, s2⟩ := (unhide H1).roll hL
        have hfar : ∀ g o, a = some ⟨g, o, none⟩ → g ∉ G := fun g o ea hm => by
          have h3 := (own_addr1 (unhide HO) g o ea).1
          have h4 := ((unhide HV).lo g hm).2
          omega
        have hfar2 : ∀ g o, a = some ⟨g, o, none⟩ → g ∉ Gs2 := fun g o ea hm => by
          rcases s2 g (h2.sG g hm) with e | e
          · exact hfar g o ea e
          · have h3 := (own_addr1 (unhide HO) g o ea).2
            omega
        have HPR2 := hide ((unhide HPR).kp k2 hfar)
        have HFAR := hide hfar2
        have d0 := h2.c0
        have H2 := hide h2
        have K2 := hide k2
        have S2 := hide s2
        clear h2 k2 s2 hL hfar hfar2 c0
        go_wp2_with fail
        refine (swrite56 a cap ps w2 (unhide H2).s (unhide HPR2) (fun _ => unhide HFAR) (by omega)).mono ?_
        rintro e w3 ⟨rfl, Gs3, hT, hk3, hs3⟩
        rw [(unhide HQ).1, (unhide HQ).2.2]
        rw [(unhide HQ).2.1] at hT
        have HZ := hide (Ch.after (unhide HK) (Ch.trans (unhide K2) (unhide S2) ((unhide H2).sheet hT hk3 hs3)))
        clear hT hk3 hs3
        go_wp2_with fail
        go_ret2
        exact ⟨rfl, unhide HZ⟩
      · obtain ⟨e1, e2⟩ := v_full hz hl hc
        obtain ⟨e3, e4, e5, e6⟩ := v_not (n := n) e2
        rw [e1, e3, e4, e5, e6]
        clear e1 e2 e3 e4 e5 e6
        have hlp : lput cs (wk ws 8) = cs := by unfold lput; rw [if_neg hc]
        have HLP := hide hlp
        clear hlp hz
        generalize hzz : lcode cs (wk ws 8) = z at *
        have HZZ := hide hzz
        clear hzz
        have HWW := hide (fun w0 (hk0 : Kp [] w w0) => wwrites67 w0 ((unhide HD).kp0 hk0) hwl)
        generalize wk ws 8 = ps at *
        go_enter Try.func64, Try.ntmps64
        go_wp2_with fail
        refine (unhide HM).mono ?_
        rintro e w0 ⟨rfl, hk0⟩
        have HK0 := hide hk0
        clear hk0 HM
        go_wp2_with fail
        refine (unhide HWW w0 (unhide HK0)).mono ?_
        rintro e w1 ⟨a, cap, rfl, ho, hk1⟩
        have hk := (unhide HK0).trans0 hk1
        have h1 := (unhide HV).kp0 hk
        have HPR := hide (slo_prs (slo_own ho rfl) (unhide HP))
        have H1 := hide h1
        have HK := hide hk
        clear ho h1 hk hk1 HWW HK0
        go_wp2_with fail
        refine (rxput a cap ps w1 (unhide H1).r (unhide HPR) (by omega)).mono ?_
        rintro e w2 ⟨rfl, hL⟩
        rw [unhide HZZ]
        rw [unhide HLP] at hL
        have HX := hide (Ch.after (unhide HK) ((unhide H1).roll hL))
        clear hL c0
        go_wp2_with fail
        go_ret2
        exact ⟨rfl, unhide HX⟩
  · obtain ⟨e1, e2⟩ := v_may (cs := cs) hz
    obtain ⟨e3, e4, e5, e6⟩ := v_not (n := n) e2
    rw [e1, e3, e4, e5, e6]
    clear e1 e2 e3 e4 e5 e6 HR HP
    generalize dm f md y rs ws = z at *
    go_enter Try.func64, Try.ntmps64
    go_wp2_with fail
    refine (unhide HM).mono ?_
    rintro e w1 ⟨rfl, hk⟩
    have HK := hide hk
    clear hk HM
    go_wp2_with fail
    go_ret2
    exact ⟨rfl, Ch.same ⟨Gr, Gs, bx, unhide HV⟩ (unhide HK)⟩

end Go.Proofs.Ytapmlleemopcnac

/- The document's court: again, by its contract. -/
namespace Go.Proofs.Ytapmlleemopcnac
open Go.RowKit
set_option maxRecDepth 20000
attribute [local go_sem ↓] Go.wp_at_zero Go.wp_at_succ

/-- Another sheet in its place. -/
theorem Crt.newS {B : Nat} {w W : World} {cb sb sb' : Nat} {G Gr Gs Gs' : List Nat} {bx : Array Value} {f f' : Nat → List Ver} {n n' : Nat} {cs : List (List Ver)} {torn : List UInt8} {st : Nat → Option Addr} (h : Crt B w cb sb G Gr Gs bx f n cs torn st) (hW : Kp [] w W) (k1 : Sht w.heap.size W sb' Gs' f' n') :
    Ch (CrtT cb sb' f' n' cs torn st) B w G (W.setCell ⟨cb, 0, none⟩ (.pointer (some ⟨sb', 0, none⟩))) := by
  have hcb := (h.lo cb h.cG).2
  have hBw : B ≤ w.heap.size := by have := (h.lo cb h.cG).1; omega
  have hk3 : Kp [cb] W (W.setCell ⟨cb, 0, none⟩ (.pointer (some ⟨sb', 0, none⟩))) := (Kp.refl [cb] W).setCell (.inl (by simp)) _
  have hW1 := h.kp0 hW
  have hne : ∀ x, x ∈ Gs' → x ≠ cb := fun x hx e => by have := (k1.lo x hx).1; omega
  refine ⟨Gr ++ Gs', ⟨Gr, Gs', bx.setIfInBounds 0 (.pointer (some ⟨sb', 0, none⟩)), hW1.r.other 0 _ (by omega) (by omega), set_here h.b0 _, fun i hi => set_there (h.bs i hi) (by omega) _, by simp [h.sz], (k1.base hBw).kp hk3 (fun x hx e => hne x hx (List.mem_singleton.1 e)), fun x hx hm => ?_, fun x hx => by simp [hx], fun x hx => by simp [hx], fun x hx => ?_⟩, (hW.mono (fun x hx => by simp at hx)).trans hk3 (fun x hx => .inl (by rw [List.mem_singleton.1 hx]; exact h.cG)), fun x hx => ?_⟩
  · have h1 := (k1.lo x hm).1
    have h2 := (h.lo x (h.rG x hx)).2
    omega
  · rcases List.mem_append.1 hx with e | e
    · exact ⟨(h.lo x (h.rG x e)).1, Nat.lt_of_lt_of_le (hW1.lo x (h.rG x e)).2 hk3.size⟩
    · exact ⟨Nat.le_trans hBw (k1.lo x e).1, Nat.lt_of_lt_of_le (k1.lo x e).2 hk3.size⟩
  · rcases List.mem_append.1 hx with e | e
    · exact .inl (h.rG x e)
    · exact .inr (k1.lo x e).1

/-- At the head of a round of again: the first i commits are written. -/
structure AgL (B : Nat) (w : World) (G : List Nat) (cb sb : Nat) (bx : Array Value) (st : Nat → Option Addr) (aL : Option Addr) (capL : Nat) (xs : List El) (i : Nat) (wr : World) (Gr Gs : List Nat) : Prop where
  r : ∃ aT cT, RxL B wr cb 1 bx 61 Gr aL capL xs aT cT []
  s : Sht B wr sb Gs (wal0 ((cps xs).take i)) i
  rs : ∀ x, x ∈ Gr → x ∉ Gs
  b0 : bx[0]? = some (.pointer (some ⟨sb, 0, none⟩))
  bs : ∀ j, j < 5 → bx[3 + j]? = some (.pointer (st j))
  sz : bx.size = 8
  kp : Kp G w wr
  rG : ∀ x, x ∈ Gr → x ∈ G ∨ w.heap.size ≤ x
  sG : ∀ x, x ∈ Gs → x ∈ G ∨ w.heap.size ≤ x
def Ag (B : Nat) (w : World) (G : List Nat) (cb sb : Nat) (bx : Array Value) (st : Nat → Option Addr) (aL : Option Addr) (capL : Nat) (xs : List El) (i : Nat) (wr : World) : Prop := ∃ Gr Gs, AgL B w G cb sb bx st aL capL xs i wr Gr Gs
section
variable {B : Nat} {w wr w' : World} {G : List Nat} {cb sb : Nat} {bx : Array Value} {st : Nat → Option Addr} {aL : Option Addr} {capL : Nat} {xs : List El} {i : Nat}
theorem Ag.kp0 (h : Ag B w G cb sb bx st aL capL xs i wr) (hk : Kp [] wr w') : Ag B w G cb sb bx st aL capL xs i w' := by
  obtain ⟨Gr, Gs, h⟩ := h
  obtain ⟨aT, cT, hr⟩ := h.r
  exact ⟨Gr, Gs, ⟨aT, cT, hr.kp hk (fun _ _ => by simp)⟩, h.s.kp0 hk, h.rs, h.b0, h.bs, h.sz, h.kp.trans0 hk, h.rG, h.sG⟩
theorem Ag.c0 (h : Ag B w G cb sb bx st aL capL xs i wr) : wr.cell? ⟨cb, 0, none⟩ = some (.pointer (some ⟨sb, 0, none⟩)) := by
  obtain ⟨Gr, Gs, h⟩ := h
  obtain ⟨aT, cT, hr⟩ := h.r
  exact cell_of_block hr.box h.b0
theorem Ag.c1 (h : Ag B w G cb sb bx st aL capL xs i wr) : wr.cell? ⟨cb, 1, none⟩ = some (.slice aL xs.length capL) := by
  obtain ⟨Gr, Gs, h⟩ := h
  obtain ⟨aT, cT, hr⟩ := h.r
  exact hr.c0
theorem Ag.at_ (h : Ag B w G cb sb bx st aL capL xs i wr) {k : Nat} (hk : k < xs.length) : ∃ g, aL = some ⟨g, 0, none⟩ ∧ wr.cell? ⟨g, k, none⟩ = some (.slice (eat xs k).a (eat xs k).ps.length (eat xs k).c) := by
  obtain ⟨Gr, Gs, h⟩ := h
  obtain ⟨aT, cT, hr⟩ := h.r
  exact hr.own.cell hk
theorem ag_write (h : Ag B w G cb sb bx st aL capL xs i wr) (hi : i < xs.length) {W : World} (hW : Kp [] wr W) :
    Calls Try.prog 108 #[.pointer (some ⟨sb, 0, none⟩), .slice (eat xs i).a (eat xs i).ps.length (eat xs i).c] W fun e w' => ∃ a b, e = .returned (.tuple #[.int .i64 a, .int .i64 b]) ∧ Hid (Ag B w G cb sb bx st aL capL xs (i + 1) w') := by
  obtain ⟨Gr, Gs, h⟩ := h.kp0 hW
  obtain ⟨aT, cT, hr⟩ := h.r
  have hpf : pf (-1) (eat xs i).ps = 0 := by rw [← cps_at hi]; exact hr.inv.at_ (by rw [cps_length]; exact hi)
  have hpr : Prs W (eat xs i).a (eat xs i).ps := slo_prs (hr.els _ (eat_mem hi)).1 hpf
  have h8 := pf_len8 hpf
  have hn40 := hr.inv.n40
  rw [cps_length] at hn40
  obtain ⟨q1, q2⟩ := wcode_ok (n := i) hpf (by omega)
  refine (swrite56 _ _ _ W h.s hpr (fun _ g o e hg => ?_) (by omega)).mono ?_
  · have := ((hr.els _ (eat_mem hi)).2 g (by rw [e]; simp [ob])).1
    exact h.rs g this hg
  · rintro e w' ⟨rfl, Gs', k1, k2, k3⟩
    refine ⟨_, _, rfl, Gr, Gs', ⟨aT, cT, hr.kp k2 (fun x hx hh => h.rs x hx hh)⟩, ?_, fun x hx hm => ?_, h.b0, h.bs, h.sz, h.kp.trans k2 h.sG, h.rG, fun x hx => ?_⟩
    · rw [q2] at k1
      have e1 : (cps xs).take (i + 1) = (cps xs).take i ++ [(eat xs i).ps] := by
        rw [List.take_succ_eq_append_getElem (by rw [cps_length]; exact hi), ← cps_at hi]
        simp [List.getD_eq_getElem?_getD, cps_length, hi]
      rw [e1, wal0_snoc]
      have e2 : ((cps xs).take i).length = i := by rw [List.length_take, cps_length]; omega
      rw [e2]
      exact k1
    · rcases k3 x hm with e | e
      · exact h.rs x hx e
      · have := (hr.lo x hx).2; omega
    · rcases k3 x hx with e | e
      · exact h.sG x e
      · exact .inr (Nat.le_trans h.kp.size e)
theorem Ag.crt (h : Ag B w G cb sb bx st aL capL xs i wr) (hi : i = xs.length) : Ch (CrtT cb sb (wal0 (cps xs)) (cps xs).length (cps xs) [] st) B w G wr := by
  obtain ⟨Gr, Gs, h⟩ := h
  obtain ⟨aT, cT, hr⟩ := h.r
  have hs := h.s
  rw [hi, ← cps_length, List.take_length] at hs
  refine ⟨Gr ++ Gs, ⟨Gr, Gs, bx, ⟨aL, capL, xs, aT, cT, hr, rfl⟩, h.b0, h.bs, h.sz, hs, h.rs, fun x hx => by simp [hx], fun x hx => by simp [hx], fun x hx => ?_⟩, h.kp, fun x hx => ?_⟩
  · rcases List.mem_append.1 hx with e | e
    · exact hr.lo x e
    · exact hs.lo x e
  · rcases List.mem_append.1 hx with e | e
    · exact h.rG x e
    · exact h.sG x e
end
theorem ag_start {B : Nat} {w w1 : World} {G : List Nat} {cb sb : Nat} {cs : List (List Ver)} {st : Nat → Option Addr} (h : Ch (CrtT cb sb (fun _ => [dv]) 0 cs [] st) B w G w1) : ∃ bx aL capL xs, cs = cps xs ∧ Ag B w G cb sb bx st aL capL xs 0 w1 := by
  obtain ⟨G1, ⟨Gr, Gs, bx, h1⟩, h2, h3⟩ := h
  obtain ⟨aL, capL, xs, aT, cT, hr, e⟩ := h1.r
  exact ⟨bx, aL, capL, xs, e, Gr, Gs, ⟨aT, cT, hr⟩, h1.s, h1.rs, h1.b0, h1.bs, h1.sz, h2, fun x hx => h3 x (h1.rG x hx), fun x hx => h3 x (h1.sG x hx)⟩
/-- Nobody sits. -/
theorem Crt.stand {B : Nat} {w : World} {cb sb : Nat} {G Gr Gs : List Nat} {bx : Array Value} {f : Nat → List Ver} {n : Nat} {cs : List (List Ver)} {torn : List UInt8} {st : Nat → Option Addr} (h : Crt B w cb sb G Gr Gs bx f n cs torn st) :
    Ch (CrtT cb sb f n cs torn (fun _ => none)) B w G (((((w.setCell ⟨cb, 3, none⟩ (.pointer none)).setCell ⟨cb, 4, none⟩ (.pointer none)).setCell ⟨cb, 5, none⟩ (.pointer none)).setCell ⟨cb, 6, none⟩ (.pointer none)).setCell ⟨cb, 7, none⟩ (.pointer none)) := by
  have h5 := (h.sit (i := 0) (by omega) none).to fun G1 ⟨Gr1, Gs1, bx1, h1⟩ => (h1.sit (i := 1) (by omega) none).to fun G2 ⟨Gr2, Gs2, bx2, h2⟩ => (h2.sit (i := 2) (by omega) none).to fun G3 ⟨Gr3, Gs3, bx3, h3⟩ => (h3.sit (i := 3) (by omega) none).to fun G4 ⟨Gr4, Gs4, bx4, h4⟩ => h4.sit (i := 4) (by omega) none
  obtain ⟨F', ⟨Gr', Gs', bx', k⟩, k2, k3⟩ := h5
  refine ⟨F', ⟨Gr', Gs', bx', k.r, k.b0, fun i hi => ?_, k.sz, k.s, k.rs, k.rG, k.sG, k.lo⟩, k2, k3⟩
  rw [k.bs i hi]
  have : i = 0 ∨ i = 1 ∨ i = 2 ∨ i = 3 ∨ i = 4 := by omega
  rcases this with e | e | e | e | e <;> subst e <;> rfl

set_option maxHeartbeats 1000000 in
theorem cagain {B cb sb n : Nat} {G Gr Gs : List Nat} {bx : Array Value} {f : Nat → List Ver} {cs : List (List Ver)} {torn : List UInt8} {st : Nat → Option Addr} (w : World) (h : Crt B w cb sb G Gr Gs bx f n cs torn st) :
    Calls Try.prog 59 #[.pointer (some ⟨cb, 0, none⟩)] w fun e w' => e = .returned (.tuple #[]) ∧ ∃ sb', Ch (CrtT cb sb' (wal0 cs) cs.length cs [] (fun _ => none)) B w G w' := by
  have HV := hide h
  have HR := hide h.r
  have hn40 := h.r.inv.n40
  clear h
  go_enter Try.func59, Try.ntmps59
  go_wp2_with fail
  refine (rxmend w (unhide HR)).mono ?_
  rintro e w1 ⟨rfl, hL⟩
  obtain ⟨G1, ⟨Gr1, Gs1, bx1, h1⟩, k1, s1⟩ := (unhide HV).roll hL
  have H1 := hide h1
  have K1 := hide k1
  have S1 := hide s1
  clear h1 k1 s1 hL HR
  go_wp2_with fail
  refine (snew55 w1).mono ?_
  rintro e w2 ⟨rfl, ⟨Gs2, hT⟩, hk2⟩
  have h2 := (unhide H1).kp0 hk2
  have d0 := h2.c0
  have f0 := h2.fz 0
  have HCH := hide (Ch.trans (unhide K1) (unhide S1) ((unhide H1).newS hk2 hT))
  clear h2 hT hk2
  generalize w1.heap.size = sb2 at *
  generalize hW3 : w2.setCell ⟨cb, 0, none⟩ (.pointer (some ⟨sb2, 0, none⟩)) = w3 at HCH
  obtain ⟨bx, aL, capL, xs, hcs, hag⟩ := ag_start (unhide HCH)
  have HAG := hide hag
  have HCS := hide hcs
  have hlen : cs.length = xs.length := by rw [hcs, cps_length]
  have hx40 : xs.length ≤ 40 := by omega
  have HW3 := hide hW3
  have HLEN := hide hlen
  clear hag hcs hlen hn40 hW3
  go_wp2_with fail
  rw [unhide HW3]
  go_loopw [2] (fun i wr => ∃ k : Nat, k ≤ xs.length ∧ i = .int .i64 k ∧ Hid (Ag B w G cb sb2 bx st aL capL xs k wr)) (fun i _ => xs.length - (intOf i).toNat)
  case atStart => exact ⟨0, by omega, rfl, HAG⟩
  case round =>
    obtain ⟨k, hk, rfl, HI⟩ := hrel
    have r0 := (unhide HI).c1
    by_cases hlt : k < xs.length
    · have i0 : (0 : Int) ≤ (k : Int) := by omega
      have i1 : (k : Int) < (xs.length : Int) := by omega
      have q0 := (unhide HI).c0
      obtain ⟨gL, rfl, q1⟩ := (unhide HI).at_ hlt
      have q1' : wr.cell? ⟨gL, 0 + k, none⟩ = some (.slice (eat xs k).a (eat xs k).ps.length (eat xs k).c) := by rw [Nat.zero_add]; exact q1
      go_wp2_with fail
      go_region_with (go_at_call 108; refine (ag_write (unhide HI) hlt (Kp.refl [] wr).drew).mono ?_; rintro e w4 ⟨za, zb, rfl, HI4⟩)
      all_goals
        go_wp2_with fail
        exact ⟨⟨k + 1, by omega, by go_num, HI4⟩, by simp [intOf]; omega⟩
    · have hkk : k = xs.length := by omega
      have HC5 := hide ((unhide HI).crt hkk)
      obtain ⟨G5, ⟨Gr5, Gs5, bx5, h5⟩, k5, s5⟩ := (unhide HI).crt hkk
      have y0 := h5.seat (i := 0) (by omega)
      have y1 := h5.seat (i := 1) (by omega)
      have y2 := h5.seat (i := 2) (by omega)
      have y3 := h5.seat (i := 3) (by omega)
      have y4 := h5.seat (i := 4) (by omega)
      have z0 := h5.fz 3
      have z1 := h5.fz 4
      have z2 := h5.fz 5
      have z3 := h5.fz 6
      have z4 := h5.fz 7
      have HX := hide (Ch.trans k5 s5 h5.stand)
      clear h5 k5 s5 hkk
      go_wp2_with fail
      go_end0
      rw [← unhide HCS] at HX
      exact ⟨rfl, sb2, unhide HX⟩

end Go.Proofs.Ytapmlleemopcnac

/- The document's court: Do of SCrash, SCommit and STear, by contracts. -/
namespace Go.Proofs.Ytapmlleemopcnac
open Go.RowKit
set_option maxRecDepth 20000
attribute [local go_sem ↓] Go.wp_at_zero Go.wp_at_succ

def seatB (s : Int) : Bool := decide (0 ≤ s ∧ s < 5)
set_option maxHeartbeats 400000 in
theorem isseat (k : Int) (w : World) : Calls Try.prog 26 #[.int .i64 k] w fun e w' => e = .returned (.bool (seatB k)) ∧ w' = w := by
  go_enter Try.func26, Try.ntmps26
  go_wp2
  all_goals
    go_ret
    exact ⟨ret_bool (by simp [seatB]; omega), rfl⟩

/-- A call that leaves a thing, and what is stored behind it into a new block. -/
theorem Ch.side {o' : Thing} {B : Nat} {w W w1 w' : World} {G : List Nat} {p : Nat} (h : Ch o' B W G w1) (hW : Kp [] w W) (hG : ∀ x, x ∈ G → x < w.heap.size) (hp : w.heap.size ≤ p) (hp2 : p < W.heap.size) (hk : Kp [p] w1 w') : Ch o' B w G w' := by
  obtain ⟨F1, h1, h2, h3⟩ := h
  have hpF : ∀ x, x ∈ F1 → x ≠ p := fun x hx e => by
    subst e
    rcases h3 x hx with q | q
    · have := hG x q; omega
    · omega
  refine ⟨F1, o'.kp h1 hk (fun x hx e => hpF x hx (List.mem_singleton.1 e)), ((hW.mono (fun x hx => by simp at hx)).trans h2 (fun x hx => .inl hx)).trans hk (fun x hx => .inr (by rw [List.mem_singleton.1 hx]; exact hp)), fun x hx => ?_⟩
  rcases h3 x hx with q | q
  · exact .inl q
  · exact .inr (Nat.le_trans hW.size q)
theorem Ch.far {o' : Thing} {B : Nat} {W w1 : World} {G : List Nat} (h : Ch o' B W G w1) {p : Nat} {o : Obj} (hp : p ∉ G) (hb : W.heap[p]? = some o) : w1.heap[p]? = some o := by
  obtain ⟨F1, h1, h2, h3⟩ := h
  rw [h2.block p (lt_of_block hb) hp]; exact hb

theorem two_alloc (w : World) (o1 o2 : Obj) : ((w.alloc o1).alloc o2).heap[w.heap.size + 1]? = some o2 := by
  have h : (w.alloc o1).heap.size = w.heap.size + 1 := by simp
  rw [← h]
  exact heap_alloc_new _ _

/-- An event in a variable. -/
def EvB (w : World) (p : Nat) : Prop := w.heap[p]? = some (.cells #[.int .i64 0, .int .i64 0, .bool false, .string ⟨#[]⟩, .slice none 0 0] 34 (0, 0))
structure EvC (w : World) (p : Nat) : Prop where
  c0 : w.cell? ⟨p, 0, none⟩ = some (.int .i64 0)
  c1 : w.cell? ⟨p, 1, none⟩ = some (.int .i64 0)
  c2 : w.cell? ⟨p, 2, none⟩ = some (.bool false)
  c3 : w.cell? ⟨p, 3, none⟩ = some (.string ⟨#[]⟩)
  c4 : w.cell? ⟨p, 4, none⟩ = some (.slice none 0 0)
  f0 : w.frozen? ⟨p, 0, none⟩ = false
  f1 : w.frozen? ⟨p, 1, none⟩ = false
  f2 : w.frozen? ⟨p, 2, none⟩ = false
  f3 : w.frozen? ⟨p, 3, none⟩ = false
  f4 : w.frozen? ⟨p, 4, none⟩ = false
theorem EvB.c {w : World} {p : Nat} (h : EvB w p) : EvC w p :=
  ⟨cell_of_block h rfl, cell_of_block h rfl, cell_of_block h rfl, cell_of_block h rfl, cell_of_block h rfl, frozen_of_block _ h, frozen_of_block _ h, frozen_of_block _ h, frozen_of_block _ h, frozen_of_block _ h⟩
theorem ev5 {w1 : World} {p : Nat} (a b c d e : Value) : Kp [p] w1 (((((w1.setCell ⟨p, 0, none⟩ a).setCell ⟨p, 1, none⟩ b).setCell ⟨p, 2, none⟩ c).setCell ⟨p, 3, none⟩ d).setCell ⟨p, 4, none⟩ e) :=
  (((((Kp.refl [p] w1).setCell (.inl (by simp)) _).setCell (.inl (by simp)) _).setCell (.inl (by simp)) _).setCell (.inl (by simp)) _).setCell (.inl (by simp)) _

set_option maxHeartbeats 1000000 in
theorem cdo9 {B cb sb n : Nat} {G Gr Gs : List Nat} {bx : Array Value} {f : Nat → List Ver} {cs : List (List Ver)} {torn : List UInt8} {st : Nat → Option Addr} (w : World) (h : Crt B w cb sb G Gr Gs bx f n cs torn st) :
    Calls Try.prog 19 #[.pointer (some ⟨cb, 0, none⟩), .agg #[.int .i64 9, .int .i64 0, .int .i64 0, .int .i64 0, .int .i64 0, .int .i64 0, .int .i64 0, .string ⟨#[]⟩]] w fun e w' => e = .returned (.agg #[.int .i64 0, .int .i64 0, .bool false, .string ⟨#[]⟩, .slice none 0 0]) ∧ ∃ sb', Ch (CrtT cb sb' (wal0 cs) cs.length cs [] (fun _ => none)) B w G w' := by
  have HV := hide h
  have HLO := hide (fun x (hx : x ∈ G) => (h.lo x hx).2)
  clear h
  go_enter Try.func19, Try.ntmps19
  go_wp2_with fail
  refine (cagain _ ((unhide HV).kp0 (((Kp.refl [] w).alloc _).alloc _))).mono ?_
  rintro e w1 ⟨rfl, sb', hCh⟩
  have hev : EvB w1 (w.heap.size + 1) := hCh.far (fun hm => by have := unhide HLO _ hm; omega) (two_alloc _ _ _)
  have HC := hide hCh
  obtain ⟨e0, e1, e2, e3, e4, g0, g1, g2, g3, g4⟩ := hev.c
  clear hev hCh
  go_wp2_with fail
  refine bodyPost_ret (v := .agg #[.int .i64 0, .int .i64 0, .bool false, .string ⟨#[]⟩, .slice none 0 0]) (by simp [results, Try.results19, go_sem, e0, e1, e2, e3, e4]) rfl ⟨rfl, sb', ?_⟩
  exact (unhide HC).side (((Kp.refl [] w).alloc _).alloc _) (unhide HLO) (Nat.le_succ _) (by simp) (ev5 _ _ _ _ _)

/-- The cells of a step in a variable that are looked at. -/
structure StpC (w : World) (q : Nat) (k keep : Int) : Prop where
  c0 : w.cell? ⟨q, 0, none⟩ = some (.int .i64 k)
  c1 : w.cell? ⟨q, 1, none⟩ = some (.int .i64 0)
  c6 : w.cell? ⟨q, 6, none⟩ = some (.int .i64 keep)
def StpB (w : World) (q : Nat) (k keep : Int) : Prop := w.heap[q]? = some (.cells #[.int .i64 k, .int .i64 0, .int .i64 0, .int .i64 0, .int .i64 0, .int .i64 0, .int .i64 keep, .string ⟨#[]⟩] 37 (0, 0))
theorem StpB.c {w : World} {q : Nat} {k keep : Int} (h : StpB w q k keep) : StpC w q k keep := ⟨cell_of_block h rfl, cell_of_block h rfl, cell_of_block h rfl⟩
/-- The world in which Do begins: the step and the event lie in new variables. -/
structure DoW (w W : World) (q p : Nat) (k keep : Int) : Prop where
  kp : Kp [] w W
  s : StpB W q k keep
  e : EvB W p
  hq : q = w.heap.size
  hp : p = w.heap.size + 1
theorem doW (w : World) (k keep : Int) : DoW w ((w.alloc (.cells #[.int .i64 k, .int .i64 0, .int .i64 0, .int .i64 0, .int .i64 0, .int .i64 0, .int .i64 keep, .string ⟨#[]⟩] 37)).alloc (.cells #[.int .i64 0, .int .i64 0, .bool false, .string ⟨#[]⟩, .slice none 0 0] 34)) w.heap.size (w.heap.size + 1) k keep :=
  ⟨((Kp.refl [] w).alloc _).alloc _, by
    show ((w.alloc _).alloc _).heap[w.heap.size]? = _
    rw [Below.heap_alloc _ _ _ (by simp)]
    exact heap_alloc_new _ _, two_alloc _ _ _, rfl, rfl⟩
theorem DoW.kp0 {w W W' : World} {q p : Nat} {k keep : Int} (h : DoW w W q p k keep) (hk : Kp [] W W') : DoW w W' q p k keep :=
  ⟨h.kp.trans0 hk, by show W'.heap[q]? = _; rw [hk.block q (lt_of_block h.s) (by simp)]; exact h.s, by show W'.heap[p]? = _; rw [hk.block p (lt_of_block h.e) (by simp)]; exact h.e, h.hq, h.hp⟩
/-- Behind a call that changed a thing of before. -/
theorem DoW.ch {w W w1 : World} {q p : Nat} {k keep : Int} {o' : Thing} {B : Nat} {G : List Nat} (h : DoW w W q p k keep) (hc : Ch o' B W G w1) (hG : ∀ x, x ∈ G → x < w.heap.size) : StpB w1 q k keep ∧ EvB w1 p :=
  ⟨hc.far (fun hm => by have := hG _ hm; have := h.hq; omega) h.s, hc.far (fun hm => by have := hG _ hm; have := h.hp; omega) h.e⟩

set_option maxHeartbeats 1000000 in
theorem cdo6 {B cb sb n wb : Nat} {G Gr Gs H : List Nat} {bx : Array Value} {f : Nat → List Ver} {cs : List (List Ver)} {st : Nat → Option Addr} {md y : Int} {rs : List Int} {ws : List Ver} (w : World) (h : Crt B w cb sb G Gr Gs bx f n cs [] st) (hv : VI f n cs) (hd : Wrk B w wb H md y rs ws) (hw : WOk ws) (hrl : rs.length ≤ 900) (hwl : ws.length ≤ 900) (hst : st 0 = some ⟨wb, 0, none⟩) :
    Calls Try.prog 19 #[.pointer (some ⟨cb, 0, none⟩), .agg #[.int .i64 6, .int .i64 0, .int .i64 0, .int .i64 0, .int .i64 0, .int .i64 0, .int .i64 0, .string ⟨#[]⟩]] w fun e w' => e = .returned (.agg #[.int .i64 (vcode f cs md y rs ws), .int .i64 (vnum f n cs md y rs ws), .bool false, .string ⟨#[]⟩, .slice none 0 0]) ∧ Ch (CrtT cb sb (vf f n cs md y rs ws) (vn f n cs md y rs ws) (vcs f cs md y rs ws) [] (upd st 0 none)) B w G w' := by
  have HV := hide h
  have HLO := hide (fun x (hx : x ∈ G) => (h.lo x hx).2)
  have HCM := hide (fun W (hk : Kp [] w W) => ccommit W (h.kp0 hk) hv (hd.kp0 hk) hw hrl hwl)
  have HDO := hide (doW w 6 0)
  have s0 := h.seat (i := 0) (by omega)
  rw [hst] at s0
  have hcb := (h.lo cb h.cG).2
  clear h hv hd hw hrl hwl hst
  generalize vcode f cs md y rs ws = zc at *
  generalize vnum f n cs md y rs ws = zn at *
  generalize vf f n cs md y rs ws = f2 at *
  generalize vn f n cs md y rs ws = n2 at *
  generalize vcs f cs md y rs ws = cs2 at *
  go_enter Try.func19, Try.ntmps19
  go_wp2_with fail
  generalize hW : (w.alloc (.cells #[.int .i64 6, .int .i64 0, .int .i64 0, .int .i64 0, .int .i64 0, .int .i64 0, .int .i64 0, .string ⟨#[]⟩] 37)).alloc (.cells #[.int .i64 0, .int .i64 0, .bool false, .string ⟨#[]⟩, .slice none 0 0] 34) = W at HDO ⊢
  clear hW
  generalize hq : w.heap.size = q at HDO hcb ⊢
  have HQ := hide hq
  clear hq
  generalize q + 1 = p at HDO ⊢
  obtain ⟨x0, x1, x6⟩ := (unhide HDO).s.c
  have s1 : W.cell? ⟨cb, 3 + 0, none⟩ = some (.pointer (some ⟨wb, 0, none⟩)) := (unhide HDO).kp.cell (by simp) s0
  have s2 : W.cell? ⟨cb, 3, none⟩ = some (.pointer (some ⟨wb, 0, none⟩)) := s1
  clear s0
  refine (isseat 0 _).mono ?_
  rintro e w' ⟨rfl, hw'⟩
  subst w'
  rw [show seatB 0 = true from rfl]
  go_wp2_with fail
  go_quiet (fail)
  go_wp2_with fail
  refine (unhide HCM _ ((unhide HDO).kp.drewN _)).mono ?_
  rintro e w1 ⟨rfl, hCh⟩
  obtain ⟨hst1, hev1⟩ := ((unhide HDO).kp0 ((Kp.refl [] W).drewN nq)).ch hCh (unhide HLO)
  obtain ⟨G1, ⟨Gr1, Gs1, bx1, h1⟩, k1, t1⟩ := hCh
  obtain ⟨y0, y1, y6⟩ := hst1.c
  have z0 := h1.seat (i := 0) (by omega)
  have z1 : w1.cell? ⟨cb, 3, none⟩ = some (.pointer (st 0)) := z0
  have z2 := h1.fz 3
  have z3 : w1.frozen? ⟨cb, 3 + 0, none⟩ = false := z2
  have hpc : p ≠ cb := by have := (unhide HDO).hp; have := unhide HQ; omega
  have hcp : cb ≠ p := fun e => hpc e.symm
  obtain ⟨e0, e1, e2, e3, e4, g0, g1, g2, g3, g4⟩ := hev1.c
  have HX := hide (Ch.trans k1 t1 (h1.sit (i := 0) (by omega) none))
  clear hst1 hev1 h1 k1 t1 x0 x1 x6 s1 s2
  go_wp2_with fail
  go_region
  all_goals
    go_wp2_with fail
    refine bodyPost_ret (v := .agg #[.int .i64 zc, .int .i64 zn, .bool false, .string ⟨#[]⟩, .slice none 0 0]) (by simp [results, Try.results19, go_sem, e0, e1, e2, e3, e4]) rfl ⟨rfl, ?_⟩
    exact (unhide HX).side ((unhide HDO).kp.drewN nq) (unhide HLO) (by have := (unhide HDO).hp; omega) (lt_of_block (unhide HDO).e) ((ev5 _ _ _ _ _).drew)

set_option maxHeartbeats 2000000 in
theorem cdo10 {B cb sb n wb : Nat} {G Gr Gs H : List Nat} {bx : Array Value} {f : Nat → List Ver} {cs : List (List Ver)} {st : Nat → Option Addr} {md y : Int} {rs : List Int} {ws : List Ver} (keep : Int) (w : World) (h : Crt B w cb sb G Gr Gs bx f n cs [] st) (hv : VI f n cs) (hd : Wrk B w wb H md y rs ws) (hw : WOk ws) (hrl : rs.length ≤ 900) (hwl : ws.length ≤ 900) (hst : st 0 = some ⟨wb, 0, none⟩) :
    Calls Try.prog 19 #[.pointer (some ⟨cb, 0, none⟩), .agg #[.int .i64 10, .int .i64 0, .int .i64 0, .int .i64 0, .int .i64 0, .int .i64 0, .int .i64 keep, .string ⟨#[]⟩]] w fun e w' => e = .returned (.agg #[.int .i64 (vcode f cs md y rs ws), .int .i64 (tnum f cs md y rs ws keep), .bool false, .string ⟨#[]⟩, .slice none 0 0]) ∧ ∃ sb', Ch (CrtT cb sb' (wal0 (tcs f cs md y rs ws keep)) (tcs f cs md y rs ws keep).length (tcs f cs md y rs ws keep) [] (fun _ => none)) B w G w' := by
  have HV := hide h
  have HLO := hide (fun x (hx : x ∈ G) => (h.lo x hx).2)
  have HMY := hide (fun W (hk : Kp [] w W) => wmay69 W (h.s.kp0 hk) (hd.kp0 hk) hrl hwl)
  have HWR := hide (fun W (hk : Kp [] w W) => wwrites67 W (hd.kp0 hk) hwl)
  have HDO := hide (doW w 10 keep)
  have s0 := h.seat (i := 0) (by omega)
  rw [hst] at s0
  have u0 := h.c0
  have u8 := h.s.ncell
  have hcb := (h.lo cb h.cG).2
  have hpl := wk_len ws 8
  have HP := hide hw.pf
  have hn40 := h.s.inv.n40
  have hlen := hv.len
  clear h hv hd hw hrl hwl hst
  by_cases hz : dm f md y rs ws = 0
  · rw [hz] at HMY
    by_cases hl : (wk ws 8).length = 0
    · rw [(v_none (cs := cs) hz hl).1, tnum_same (t_none (f := f) (cs := cs) (md := md) (y := y) (rs := rs) (keep := keep) hl), t_none (f := f) (cs := cs) (md := md) (y := y) (rs := rs) (keep := keep) hl]
      clear HP
      go_enter Try.func19, Try.ntmps19
      go_wp2_with fail
      generalize hW : (w.alloc (.cells #[.int .i64 10, .int .i64 0, .int .i64 0, .int .i64 0, .int .i64 0, .int .i64 0, .int .i64 keep, .string ⟨#[]⟩] 37)).alloc (.cells #[.int .i64 0, .int .i64 0, .bool false, .string ⟨#[]⟩, .slice none 0 0] 34) = W at HDO ⊢
      clear hW
      generalize hq : w.heap.size = q at HDO hcb ⊢
      have HQ := hide hq
      clear hq
      generalize q + 1 = p at HDO ⊢
      obtain ⟨x0, x1, x6⟩ := (unhide HDO).s.c
      have s1 : W.cell? ⟨cb, 3 + 0, none⟩ = some (.pointer (some ⟨wb, 0, none⟩)) := (unhide HDO).kp.cell (by simp) s0
      have s2 : W.cell? ⟨cb, 3, none⟩ = some (.pointer (some ⟨wb, 0, none⟩)) := s1
      have v0 : W.cell? ⟨cb, 0, none⟩ = some (.pointer (some ⟨sb, 0, none⟩)) := (unhide HDO).kp.cell (by simp) u0
      clear s0
      refine (isseat 0 _).mono ?_
      rintro e w' ⟨rfl, hw'⟩
      subst w'
      rw [show seatB 0 = true from rfl]
      go_wp2_with fail
      go_quiet (fail)
      go_wp2_with fail
      refine (unhide HMY _ ((unhide HDO).kp.drewN _)).mono ?_
      rintro e w1 ⟨rfl, hk1⟩
      have hK1 := ((unhide HDO).kp.drewN nq).trans0 hk1
      have HD1 := hide (((unhide HDO).kp0 ((Kp.refl [] W).drewN nq)).kp0 hk1)
      have a0 : w1.cell? ⟨cb, 0, none⟩ = some (.pointer (some ⟨sb, 0, none⟩)) := hK1.cell (by simp) u0
      have a8 : w1.cell? ⟨sb, 8, none⟩ = some (.int .i64 n) := hK1.cell (by simp) u8
      have HK1 := hide hK1
      clear hk1 hK1 x0 x1 x6 s1 s2 v0
      obtain ⟨x0, x1, x6⟩ := (unhide HD1).s.c
      go_wp2_with fail
      refine (unhide HWR w1 (unhide HK1)).mono ?_
      rintro e w2 ⟨a, cap, rfl, ho, hk2⟩
      have HD2 := hide ((unhide HD1).kp0 hk2)
      have HK2 := hide ((unhide HK1).trans0 hk2)
      have HO := hide (own_base ho (unhide HK1).size)
      clear ho hk2 x0 x1 x6 a0 a8
      obtain ⟨x0, x1, x6⟩ := (unhide HD2).s.c
      rw [hl]
      clear HO
      go_wp2_with fail
      refine (cagain w2 ((unhide HV).kp0 (unhide HK2))).mono ?_
      rintro e w4 ⟨rfl, sb4, hCh⟩
      obtain ⟨_, hev4⟩ := (unhide HD2).ch hCh (unhide HLO)
      have HX := hide hCh
      obtain ⟨G4, ⟨Gr4, Gs4, bx4, h4⟩, k4, t4⟩ := hCh
      have b0 := h4.c0
      have b8 := h4.s.ncell
      have hnn : ¬ (n : Int) < (cs.length : Int) := by omega
      obtain ⟨e0, e1, e2, e3, e4, g0, g1, g2, g3, g4⟩ := hev4.c
      have HLEN := hide hlen
      clear hev4 h4 k4 t4 x0 x1 x6 hlen
      go_wp2_with fail
      refine bodyPost_ret (v := .agg #[.int .i64 0, .int .i64 0, .bool false, .string ⟨#[]⟩, .slice none 0 0]) (by simp [results, Try.results19, go_sem, e0, e1, e2, e3, e4]) rfl ⟨rfl, sb4, ?_⟩
      exact (unhide HX).side (unhide HK2) (unhide HLO) (by have := (unhide HDO).hp; omega) (lt_of_block (unhide HD2).e) (ev5 _ _ _ _ _)
    · have hvc : vcode f cs md y rs ws = lcode cs (wk ws 8) := by unfold vcode; rw [if_pos hz, if_neg hl]
      have htt := t_tear (f := f) (cs := cs) (md := md) (y := y) (rs := rs) (keep := keep) hz hl
      rcases tcs_cases (f := f) (cs := cs) (md := md) (y := y) (rs := rs) (ws := ws) (keep := keep) with hcs | ⟨hcs, -, -⟩
      · rw [tnum_same hcs, hvc, hcs]
        rw [htt] at hcs
        have HCS := hide hcs
        clear hcs hvc htt hz
        generalize hzz : lcode cs (wk ws 8) = z at *
        have HZZ := hide hzz
        clear hzz
        generalize wk ws 8 = ps at *
        go_enter Try.func19, Try.ntmps19
        go_wp2_with fail
        generalize hW : (w.alloc (.cells #[.int .i64 10, .int .i64 0, .int .i64 0, .int .i64 0, .int .i64 0, .int .i64 0, .int .i64 keep, .string ⟨#[]⟩] 37)).alloc (.cells #[.int .i64 0, .int .i64 0, .bool false, .string ⟨#[]⟩, .slice none 0 0] 34) = W at HDO ⊢
        clear hW
        generalize hq : w.heap.size = q at HDO hcb ⊢
        have HQ := hide hq
        clear hq
        generalize q + 1 = p at HDO ⊢
        obtain ⟨x0, x1, x6⟩ := (unhide HDO).s.c
        have s1 : W.cell? ⟨cb, 3 + 0, none⟩ = some (.pointer (some ⟨wb, 0, none⟩)) := (unhide HDO).kp.cell (by simp) s0
        have s2 : W.cell? ⟨cb, 3, none⟩ = some (.pointer (some ⟨wb, 0, none⟩)) := s1
        have v0 : W.cell? ⟨cb, 0, none⟩ = some (.pointer (some ⟨sb, 0, none⟩)) := (unhide HDO).kp.cell (by simp) u0
        clear s0
        refine (isseat 0 _).mono ?_
        rintro e w' ⟨rfl, hw'⟩
        subst w'
        rw [show seatB 0 = true from rfl]
        go_wp2_with fail
        go_quiet (fail)
        go_wp2_with fail
        refine (unhide HMY _ ((unhide HDO).kp.drewN _)).mono ?_
        rintro e w1 ⟨rfl, hk1⟩
        have hK1 := ((unhide HDO).kp.drewN nq).trans0 hk1
        have HD1 := hide (((unhide HDO).kp0 ((Kp.refl [] W).drewN nq)).kp0 hk1)
        have a0 : w1.cell? ⟨cb, 0, none⟩ = some (.pointer (some ⟨sb, 0, none⟩)) := hK1.cell (by simp) u0
        have a8 : w1.cell? ⟨sb, 8, none⟩ = some (.int .i64 n) := hK1.cell (by simp) u8
        have HK1 := hide hK1
        clear hk1 hK1 x0 x1 x6 s1 s2 v0
        obtain ⟨x0, x1, x6⟩ := (unhide HD1).s.c
        go_wp2_with fail
        refine (unhide HWR w1 (unhide HK1)).mono ?_
        rintro e w2 ⟨a, cap, rfl, ho, hk2⟩
        have HD2 := hide ((unhide HD1).kp0 hk2)
        have HK2 := hide ((unhide HK1).trans0 hk2)
        have HO := hide (own_base ho (unhide HK1).size)
        clear ho hk2 x0 x1 x6 a0 a8
        obtain ⟨x0, x1, x6⟩ := (unhide HD2).s.c
        have hlp : (0 : Int) < (ps.length : Int) := by omega
        have h2 := (unhide HV).kp0 (unhide HK2)
        have H2 := hide h2
        have HPR := hide (slo_prs (slo_own (unhide HO) rfl) (unhide HP))
        have hfar : ∀ g o, a = some ⟨g, o, none⟩ → g ∉ Gr := fun g o ea hm => by
          have h3 := (own_addr1 (unhide HO) g o ea).1
          have h4 := ((unhide HV).lo g ((unhide HV).rG g hm)).2
          omega
        have HF := hide hfar
        clear h2 hfar
        go_wp2_with fail
        go_region_with (go_at_call 67; refine (rxtear a cap ps keep _ ((unhide H2).r.kp0 (Kp.refl [] w2).drew) ((unhide HPR).kp0 (Kp.refl [] w2).drew) (fun _ => unhide HF) (by omega)).mono ?_; rintro e w3 ⟨rfl, hL⟩)
        all_goals
          rw [unhide HCS] at hL
          obtain ⟨G3, ⟨Gr3, Gs3, bx3, h3⟩, k3, t3⟩ := ((unhide H2).kp0 (Kp.refl [] w2).drew).roll hL
          have H3 := hide h3
          have K3 := hide k3
          have T3 := hide t3
          clear h3 k3 t3 hL
          rw [unhide HZZ]
          go_wp2_with fail
          refine (cagain w3 (unhide H3)).mono ?_
          rintro e w4 ⟨rfl, sb4, hCh0⟩
          have hCh := Ch.trans (unhide K3) (unhide T3) hCh0
          obtain ⟨_, hev4⟩ := ((unhide HD2).kp0 (Kp.refl [] w2).drew).ch hCh (unhide HLO)
          have HX := hide hCh
          obtain ⟨G4, ⟨Gr4, Gs4, bx4, h4⟩, k4, t4⟩ := hCh
          have b0 := h4.c0
          have b8 := h4.s.ncell
          have hnn : ¬ (n : Int) < (cs.length : Int) := by omega
          obtain ⟨e0, e1, e2, e3, e4, g0, g1, g2, g3, g4⟩ := hev4.c
          have HLEN := hide hlen
          clear hev4 h4 k4 t4 x0 x1 x6 hlen hCh0
          go_wp2_with fail
          refine bodyPost_ret (v := .agg #[.int .i64 z, .int .i64 0, .bool false, .string ⟨#[]⟩, .slice none 0 0]) (by simp [results, Try.results19, go_sem, e0, e1, e2, e3, e4]) rfl ⟨rfl, sb4, ?_⟩
          exact (unhide HX).side (unhide HK2).drew (unhide HLO) (by have := (unhide HDO).hp; omega) (lt_of_block (unhide HD2).e) (ev5 _ _ _ _ _)
      · rw [tnum_more hcs, hvc, hcs]
        rw [htt] at hcs
        have HCS := hide hcs
        clear hcs hvc htt hz
        have hN2 : (cs ++ [wk ws 8]).length = n + 1 := by rw [List.length_append, hlen]; rfl
        obtain ⟨m, hm⟩ : ∃ m, n + 1 = m := ⟨_, rfl⟩
        have hN3 : (cs.length : Int) + 1 = (m : Int) := by omega
        rw [hN3]
        rw [hm] at hN2
        have HN2 := hide hN2
        have hnn : (n : Int) < (m : Int) := by omega
        have HLEN := hide hlen
        clear hN2 hN3 hm hlen
        generalize hzz : lcode cs (wk ws 8) = z at *
        have HZZ := hide hzz
        clear hzz
        generalize wk ws 8 = ps at *
        go_enter Try.func19, Try.ntmps19
        go_wp2_with fail
        generalize hW : (w.alloc (.cells #[.int .i64 10, .int .i64 0, .int .i64 0, .int .i64 0, .int .i64 0, .int .i64 0, .int .i64 keep, .string ⟨#[]⟩] 37)).alloc (.cells #[.int .i64 0, .int .i64 0, .bool false, .string ⟨#[]⟩, .slice none 0 0] 34) = W at HDO ⊢
        clear hW
        generalize hq : w.heap.size = q at HDO hcb ⊢
        have HQ := hide hq
        clear hq
        generalize q + 1 = p at HDO ⊢
        obtain ⟨x0, x1, x6⟩ := (unhide HDO).s.c
        have s1 : W.cell? ⟨cb, 3 + 0, none⟩ = some (.pointer (some ⟨wb, 0, none⟩)) := (unhide HDO).kp.cell (by simp) s0
        have s2 : W.cell? ⟨cb, 3, none⟩ = some (.pointer (some ⟨wb, 0, none⟩)) := s1
        have v0 : W.cell? ⟨cb, 0, none⟩ = some (.pointer (some ⟨sb, 0, none⟩)) := (unhide HDO).kp.cell (by simp) u0
        clear s0
        refine (isseat 0 _).mono ?_
        rintro e w' ⟨rfl, hw'⟩
        subst w'
        rw [show seatB 0 = true from rfl]
        go_wp2_with fail
        go_quiet (fail)
        go_wp2_with fail
        refine (unhide HMY _ ((unhide HDO).kp.drewN _)).mono ?_
        rintro e w1 ⟨rfl, hk1⟩
        have hK1 := ((unhide HDO).kp.drewN nq).trans0 hk1
        have HD1 := hide (((unhide HDO).kp0 ((Kp.refl [] W).drewN nq)).kp0 hk1)
        have a0 : w1.cell? ⟨cb, 0, none⟩ = some (.pointer (some ⟨sb, 0, none⟩)) := hK1.cell (by simp) u0
        have a8 : w1.cell? ⟨sb, 8, none⟩ = some (.int .i64 n) := hK1.cell (by simp) u8
        have HK1 := hide hK1
        clear hk1 hK1 x0 x1 x6 s1 s2 v0
        obtain ⟨x0, x1, x6⟩ := (unhide HD1).s.c
        go_wp2_with fail
        refine (unhide HWR w1 (unhide HK1)).mono ?_
        rintro e w2 ⟨a, cap, rfl, ho, hk2⟩
        have HD2 := hide ((unhide HD1).kp0 hk2)
        have HK2 := hide ((unhide HK1).trans0 hk2)
        have HO := hide (own_base ho (unhide HK1).size)
        clear ho hk2 x0 x1 x6 a0 a8
        obtain ⟨x0, x1, x6⟩ := (unhide HD2).s.c
        have hlp : (0 : Int) < (ps.length : Int) := by omega
        have h2 := (unhide HV).kp0 (unhide HK2)
        have H2 := hide h2
        have HPR := hide (slo_prs (slo_own (unhide HO) rfl) (unhide HP))
        have hfar : ∀ g o, a = some ⟨g, o, none⟩ → g ∉ Gr := fun g o ea hm => by
          have h3 := (own_addr1 (unhide HO) g o ea).1
          have h4 := ((unhide HV).lo g ((unhide HV).rG g hm)).2
          omega
        have HF := hide hfar
        clear h2 hfar
        go_wp2_with fail
        go_region_with (go_at_call 67; refine (rxtear a cap ps keep _ ((unhide H2).r.kp0 (Kp.refl [] w2).drew) ((unhide HPR).kp0 (Kp.refl [] w2).drew) (fun _ => unhide HF) (by omega)).mono ?_; rintro e w3 ⟨rfl, hL⟩)
        all_goals
          rw [unhide HCS] at hL
          obtain ⟨G3, ⟨Gr3, Gs3, bx3, h3⟩, k3, t3⟩ := ((unhide H2).kp0 (Kp.refl [] w2).drew).roll hL
          have H3 := hide h3
          have K3 := hide k3
          have T3 := hide t3
          clear h3 k3 t3 hL
          rw [unhide HZZ]
          go_wp2_with fail
          refine (cagain w3 (unhide H3)).mono ?_
          rintro e w4 ⟨rfl, sb4, hCh0⟩
          have hCh := Ch.trans (unhide K3) (unhide T3) hCh0
          obtain ⟨_, hev4⟩ := ((unhide HD2).kp0 (Kp.refl [] w2).drew).ch hCh (unhide HLO)
          have HX := hide hCh
          obtain ⟨G4, ⟨Gr4, Gs4, bx4, h4⟩, k4, t4⟩ := hCh
          have b0 := h4.c0
          have b8 := h4.s.ncell
          rw [unhide HN2] at b8
          obtain ⟨e0, e1, e2, e3, e4, g0, g1, g2, g3, g4⟩ := hev4.c
          clear hev4 h4 k4 t4 x0 x1 x6 hCh0
          go_wp2_with fail
          refine bodyPost_ret (v := .agg #[.int .i64 z, .int .i64 (m : Int), .bool false, .string ⟨#[]⟩, .slice none 0 0]) (by simp [results, Try.results19, go_sem, e0, e1, e2, e3, e4]) rfl ⟨rfl, sb4, ?_⟩
          exact (unhide HX).side (unhide HK2).drew (unhide HLO) (by have := (unhide HDO).hp; omega) (lt_of_block (unhide HD2).e) (ev5 _ _ _ _ _)
  · rw [(v_may (cs := cs) hz).1, tnum_same (t_may (cs := cs) (keep := keep) hz), t_may (cs := cs) (keep := keep) hz]
    clear HP
    generalize dm f md y rs ws = z at *
    go_enter Try.func19, Try.ntmps19
    go_wp2_with fail
    generalize hW : (w.alloc (.cells #[.int .i64 10, .int .i64 0, .int .i64 0, .int .i64 0, .int .i64 0, .int .i64 0, .int .i64 keep, .string ⟨#[]⟩] 37)).alloc (.cells #[.int .i64 0, .int .i64 0, .bool false, .string ⟨#[]⟩, .slice none 0 0] 34) = W at HDO ⊢
    clear hW
    generalize hq : w.heap.size = q at HDO hcb ⊢
    have HQ := hide hq
    clear hq
    generalize q + 1 = p at HDO ⊢
    obtain ⟨x0, x1, x6⟩ := (unhide HDO).s.c
    have s1 : W.cell? ⟨cb, 3 + 0, none⟩ = some (.pointer (some ⟨wb, 0, none⟩)) := (unhide HDO).kp.cell (by simp) s0
    have s2 : W.cell? ⟨cb, 3, none⟩ = some (.pointer (some ⟨wb, 0, none⟩)) := s1
    have v0 : W.cell? ⟨cb, 0, none⟩ = some (.pointer (some ⟨sb, 0, none⟩)) := (unhide HDO).kp.cell (by simp) u0
    clear s0
    refine (isseat 0 _).mono ?_
    rintro e w' ⟨rfl, hw'⟩
    subst w'
    rw [show seatB 0 = true from rfl]
    go_wp2_with fail
    go_quiet (fail)
    go_wp2_with fail
    refine (unhide HMY _ ((unhide HDO).kp.drewN _)).mono ?_
    rintro e w1 ⟨rfl, hk1⟩
    have hK1 := ((unhide HDO).kp.drewN nq).trans0 hk1
    have HD1 := hide (((unhide HDO).kp0 ((Kp.refl [] W).drewN nq)).kp0 hk1)
    have a0 : w1.cell? ⟨cb, 0, none⟩ = some (.pointer (some ⟨sb, 0, none⟩)) := hK1.cell (by simp) u0
    have a8 : w1.cell? ⟨sb, 8, none⟩ = some (.int .i64 n) := hK1.cell (by simp) u8
    have HK1 := hide hK1
    clear hk1 hK1 x0 x1 x6 s1 s2 v0
    obtain ⟨x0, x1, x6⟩ := (unhide HD1).s.c
    go_wp2_with fail
    refine (unhide HWR w1 (unhide HK1)).mono ?_
    rintro e w2 ⟨a, cap, rfl, ho, hk2⟩
    have HD2 := hide ((unhide HD1).kp0 hk2)
    have HK2 := hide ((unhide HK1).trans0 hk2)
    have HO := hide (own_base ho (unhide HK1).size)
    clear ho hk2 x0 x1 x6 a0 a8
    obtain ⟨x0, x1, x6⟩ := (unhide HD2).s.c
    clear HO
    go_wp2_with fail
    refine (cagain w2 ((unhide HV).kp0 (unhide HK2))).mono ?_
    rintro e w4 ⟨rfl, sb4, hCh⟩
    obtain ⟨_, hev4⟩ := (unhide HD2).ch hCh (unhide HLO)
    have HX := hide hCh
    obtain ⟨G4, ⟨Gr4, Gs4, bx4, h4⟩, k4, t4⟩ := hCh
    have b0 := h4.c0
    have b8 := h4.s.ncell
    have hnn : ¬ (n : Int) < (cs.length : Int) := by omega
    obtain ⟨e0, e1, e2, e3, e4, g0, g1, g2, g3, g4⟩ := hev4.c
    have HLEN := hide hlen
    clear hev4 h4 k4 t4 x0 x1 x6 hlen
    go_wp2_with fail
    refine bodyPost_ret (v := .agg #[.int .i64 z, .int .i64 0, .bool false, .string ⟨#[]⟩, .slice none 0 0]) (by simp [results, Try.results19, go_sem, e0, e1, e2, e3, e4]) rfl ⟨rfl, sb4, ?_⟩
    exact (unhide HX).side (unhide HK2) (unhide HLO) (by have := (unhide HDO).hp; omega) (lt_of_block (unhide HD2).e) (ev5 _ _ _ _ _)

end Go.Proofs.Ytapmlleemopcnac

/- A house: a vault, a court, and deeds of both; its memory, and what calls leave of it. -/
namespace Go.Proofs.Ytapmlleemopcnac
open Go.RowKit
set_option maxRecDepth 20000

/-- A variable: a block that is known whole. -/
def BoxT (q : Nat) (cs : Array Value) (T : TypeId) : Thing where
  holds B w F := w.heap[q]? = some (.cells cs T (0, 0)) ∧ F = [q] ∧ B ≤ q
  kp := fun ⟨h1, h2, h3⟩ hk hS => ⟨by rw [hk.block q (lt_of_block h1) (hS q (by rw [h2]; simp))]; exact h1, h2, h3⟩
  lo := fun ⟨h1, h2, h3⟩ x hx => by rw [h2] at hx; simp at hx; rw [hx]; exact ⟨h3, lt_of_block h1⟩
  base := fun ⟨h1, h2, h3⟩ hC => ⟨h1, h2, Nat.le_trans hC h3⟩

section
variable {w0 w w' : World} {o o1 o2 o3 : Thing} {r : List Thing}
theorem zoo_at3 (h : Zoo w0 w (o1 :: o2 :: o3 :: o :: r)) : ∃ F, o.holds w0.heap.size w F ∧ ∀ (o' : Thing) (w' : World), Ch o' w0.heap.size w F w' → Zoo w0 w' (o1 :: o2 :: o3 :: o' :: r) := Zoo.at_ (l1 := [o1, o2, o3]) h
theorem Zoo.box (h : Zoo w0 w r) (cs : Array Value) (T : TypeId) : Zoo w0 (w.alloc (.cells cs T)) (BoxT w.heap.size cs T :: r) :=
  h.cons (F := [w.heap.size]) ⟨heap_alloc_new w _, rfl, Nat.le_refl _⟩ ((Kp.refl [] w).alloc _)
theorem Zoo.var {q : Nat} {cs : Array Value} {T : TypeId} (h : Zoo w0 w (BoxT q cs T :: r)) : w.heap[q]? = some (.cells cs T (0, 0)) := by
  obtain ⟨F, h1, _⟩ := zoo_at0 h
  exact h1.1
theorem Zoo.base (h : Zoo w0 w r) : w0.heap.size ≤ w.heap.size := h.kp.size
end

def ptrs (bs : List Nat) : List Value := bs.map fun b => .pointer (some ⟨b, 0, none⟩)
theorem ptrs_one (bs : List Nat) : ∀ u ∈ ptrs bs, u.oneCell' = true := by
  intro u hu
  obtain ⟨_, _, rfl⟩ := List.mem_map.1 hu
  rfl
theorem ptrs_length (bs : List Nat) : (ptrs bs).length = bs.length := by simp [ptrs]
theorem ptrs_append (xs bs : List Nat) : ptrs (xs ++ bs) = ptrs xs ++ ptrs bs := by simp [ptrs]
theorem ptrs_at {l1 l2 : List Nat} {x k : Nat} (hk : k = l1.length) : (ptrs (l1 ++ x :: l2))[k]? = some (.pointer (some ⟨x, 0, none⟩)) := by
  subst hk
  simp [ptrs]

section
variable {B : Nat} {w w' W : World} {hb : Nat} {F S : List Nat} {vb cb : Nat} {da a' : Option Addr} {dc c' : Nat} {wa : Option Addr} {wc dn wn : Nat} {dbs wbs l : List Nat}
end
theorem Try.info40 : (Try.prog.info? 40).map (fun i => (i.zero, i.size, i.bytes)) = some (some (.pointer none), 1, 8) := by kernel_rfl
theorem Try.info58 : (Try.prog.info? 58).map (fun i => (i.zero, i.size, i.bytes)) = some (some (.pointer none), 1, 8) := by kernel_rfl

/-- A deed of a house, both. -/
structure Dd where
  db : Nat
  wb : Nat
  md : Int
  y : Int
  rs : List Int
  ws : List Ver
def prt (d : Dd) : Thing := PrT d.db d.wb d.md d.y d.rs d.rs d.ws d.ws
def dOk (i : Nat) (d : Dd) : Prop := WOk d.ws ∧ d.rs.length ≤ i ∧ d.ws.length ≤ i
theorem dOk.mono {i j : Nat} {d : Dd} (h : dOk i d) (hij : i ≤ j) : dOk j d := ⟨h.1, Nat.le_trans h.2.1 hij, Nat.le_trans h.2.2 hij⟩

end Go.Proofs.Ytapmlleemopcnac

/- Rows of elements of some cells each, of one's own: append onto them; as things. -/
namespace Go.Proofs.Ytapmlleemopcnac
open Go.RowKit
set_option maxRecDepth 20000

/-- n elements of k cells lie from the beginning of a block of one's own on. -/
def KRow (e : TypeId) (k : Nat) (B : Nat) (w : World) (a : Option Addr) (n cap : Nat) (xs : List Value) : Prop :=
  xs.length = n * k ∧ ((a = none ∧ n = 0 ∧ cap = 0) ∨ ∃ g cur, a = some ⟨g, 0, none⟩ ∧ B ≤ g ∧ w.heap[g]? = some (.cells cur e (0, 0)) ∧ n ≤ cap ∧ cap ≤ maxLen ∧ cap * k ≤ cur.size ∧ cur.toList.take (n * k) = xs)

section
variable {e : TypeId} {k B : Nat} {w w' : World} {a : Option Addr} {n cap : Nat} {xs : List Value}
theorem krow_nil (e : TypeId) (k B : Nat) (w : World) : KRow e k B w none 0 0 [] := ⟨by simp, .inl ⟨rfl, rfl, rfl⟩⟩
theorem KRow.le (h : KRow e k B w a n cap xs) : n ≤ cap := by
  rcases h.2 with ⟨_, e1, e2⟩ | ⟨g, cur, _, _, _, h1, _⟩
  · omega
  · exact h1
theorem KRow.lo (h : KRow e k B w a n cap xs) : ∀ x ∈ ob a, B ≤ x ∧ x < w.heap.size := by
  intro x hx
  rcases h.2 with ⟨rfl, _⟩ | ⟨g, cur, rfl, h1, h2, _⟩
  · simp [ob] at hx
  · simp [ob] at hx
    have := lt_of_block h2
    omega
theorem KRow.kp {S : List Nat} (h : KRow e k B w a n cap xs) (hk : Kp S w w') (hS : ∀ x ∈ ob a, x ∉ S) : KRow e k B w' a n cap xs := by
  refine ⟨h.1, ?_⟩
  rcases h.2 with hn | ⟨g, cur, rfl, h1, h2, h3⟩
  · exact .inl hn
  · exact .inr ⟨g, cur, rfl, h1, by rw [hk.block g (lt_of_block h2) (hS g (by simp [ob]))]; exact h2, h3⟩
theorem KRow.kp0 (h : KRow e k B w a n cap xs) (hk : Kp [] w w') : KRow e k B w' a n cap xs := h.kp hk (fun _ _ => by simp)
theorem KRow.base {C : Nat} (h : KRow e k B w a n cap xs) (hC : C ≤ B) : KRow e k C w a n cap xs := by
  refine ⟨h.1, ?_⟩
  rcases h.2 with hn | ⟨g, cur, rfl, h1, h2⟩
  · exact .inl hn
  · exact .inr ⟨g, cur, rfl, by omega, h2⟩
theorem KRow.cell (h : KRow e k B w a n cap xs) {j : Nat} {v : Value} (hj : xs[j]? = some v) : ∃ g, a = some ⟨g, 0, none⟩ ∧ w.cell? ⟨g, j, none⟩ = some v := by
  have hl : j < n * k := by rw [← h.1]; exact (List.getElem?_eq_some_iff.1 hj).1
  rcases h.2 with ⟨_, e1, _⟩ | ⟨g, cur, rfl, h1, h2, h3, h4, h5, h6⟩
  · subst e1; omega
  · refine ⟨g, rfl, cell_of_block h2 ?_⟩
    rw [← h6, List.getElem?_take] at hj
    rw [if_pos hl] at hj
    simpa using hj
theorem krow_app {t : TypeId} {z : Value} {by_ : Nat} (hu : Try.prog.underlying t = some (.slice e)) (hi : (Try.prog.info? e).map (fun i => (i.zero, i.size, i.bytes)) = some (some z, k, by_)) (hz : z.cells.size = k) (hby : by_ ≤ 1000)
    (h : KRow e k B w a n cap xs) (hB : B ≤ w.heap.size) (ty : TypeId) (x : Value) (news : List Value) (m : Nat) (hs : Src Try.prog k t x m news w) (hl : n + m ≤ 100000) :
    ∃ a' cap' w', (Builtin.append_ #[t, t] ty #[.slice a n cap, x]).run Try.prog w = .ok (.slice a' (n + m) cap') w' ∧ KRow e k B w' a' (n + m) cap' (xs ++ news) ∧ Kp (ob a) w w' ∧ ∀ y ∈ ob a', y ∈ ob a ∨ w.heap.size ≤ y := by
  obtain ⟨i0, hi0, hz0, hz1, hz2⟩ := info_parts hi
  have hs' : Src Try.prog i0.size t x m news w := by rw [hz1]; exact hs
  have hnl : news.length = m * k := hs.newsLen
  have hxl := h.1
  have hle := h.le
  have hall : (xs ++ news).length = (n + m) * k := by rw [List.length_append, hxl, hnl, Nat.add_mul]
  by_cases hp : m = 0
  · subst hp
    have e0 : news = [] := List.eq_nil_of_length_eq_zero (by rw [hnl]; omega)
    subst e0
    have hr := run_append_nothing (P := Try.prog) w t t ty e i0 hu hi0 a n cap hle x hs'
    exact ⟨a, cap, w, hr, by rw [List.append_nil]; exact h, Kp.refl _ _, fun y hy => .inl hy⟩
  have hold : (Builtin.firstCells i0.size n (.slice a n cap)).run Try.prog w.drew = .ok xs.toArray w.drew := by
    rcases h.2 with ⟨rfl, rfl, rfl⟩ | ⟨g, cur, rfl, h1, h2, h3, h4, h5, h6⟩
    · have : xs = [] := List.eq_nil_of_length_eq_zero (by rw [hxl]; omega)
      subst this
      exact run_firstCells_none w.drew i0.size 0 0 0
    · refine run_firstCells_some (P := Try.prog) w.drew i0.size n ⟨g, 0, none⟩ n cap xs (by rw [hz1, hxl]) (fun j u hj => ?_)
      obtain ⟨g', e', hc⟩ := h.cell hj
      simp only [Option.some.injEq, Addr.mk.injEq, and_true] at e'
      subst e'
      rw [addr_add, Nat.zero_add]
      exact hc
  by_cases hroom : n + m ≤ cap
  · rcases h.2 with ⟨_, _, _⟩ | ⟨g, cur, rfl, h1, h2, h3, h4, h5, h6⟩
    · omega
    · have hcm : (n + m) * k ≤ cap * k := Nat.mul_le_mul_right k hroom
      have hst := run_storeCells_at Try.prog g (n * k) e news 0 cur w h2 (by rw [hnl]; rw [Nat.add_mul] at hcm; omega) hs.one
      simp only [Nat.add_zero] at hst
      refine ⟨some ⟨g, 0, none⟩, cap, w.setRow g (cur.toList.take (n * k) ++ news ++ cur.toList.drop (n * k + news.length)).toArray, ?_, ⟨hall, .inr ⟨g, _, rfl, h1, setRow_heap w g cur _ e _ h2, hroom, h4, ?_, ?_⟩⟩, ?_, fun y hy => .inl hy⟩
      · rcases hs'.kind with ⟨e', hk⟩ | hk <;> simp [Builtin.append_, run_underlying hu, sizeOf, typeInfo, hi0, hz1, hs.len, hroom, hs.cells, Addr.add_lit, hst]
      · simp only [List.size_toArray, List.length_append, List.length_take, List.length_drop, Array.length_toList]
        rw [Nat.add_mul] at hcm
        omega
      · rw [h6, ← hall]
        exact List.take_left
      · exact ⟨rfl, rfl, rfl, by simp, fun k _ hn => setRow_other w g k _ (by simpa [ob] using hn)⟩
  · have hge := grownCap_ge w (n + m) cap e
    have hfit : Builtin.nextslicecap (n + m) cap * i0.bytes ≤ 281474976710656 := growslice_fits (by omega) (by
      rw [hz2]
      have := Nat.mul_le_mul hl hby
      omega)
    have hr := run_append_grow_src (P := Try.prog) w t t ty e i0 _ hu hi0 hz0 a n cap xs hold x m news hs' (by omega) (by omega) hfit
    refine ⟨_, _, _, hr, ⟨hall, .inr ⟨w.heap.size, _, rfl, hB, heap_alloc_new w.drew _, hge, grownCap_le_maxLen w _ _ _ (by unfold maxLen; omega), ?_, ?_⟩⟩, (Kp.refl _ w).drew.alloc _, fun y hy => .inr (by simp [ob] at hy; omega)⟩
    · rw [Array.size_append, size_zeroCells, hz]
      simp only [List.size_toArray, hall]
      rw [← Nat.add_mul]
      exact Nat.mul_le_mul_right k (by omega)
    · simp only [Array.toList_append]
      rw [← hall]
      exact List.take_left
end

theorem wpList_krow {ops : Array Oper} {rest : List Oper} {o : Oper} {ac : Act} {w : World} {Q : Exit → Act → World → Prop} (hw : Region.wanted o (yielded ops ac.tmps) = true) (s x : Operand) (t : TypeId)
    (ho : o.op = .call { callee := .builtin .append, args := #[s, x], argTypes := #[t, t] }) {e : TypeId} {k by_ : Nat} {z : Value} (hu : Try.prog.underlying t = some (.slice e)) (hi : (Try.prog.info? e).map (fun i => (i.zero, i.size, i.bytes)) = some (some z, k, by_)) (hz : z.cells.size = k) (hby : by_ ≤ 1000)
    {B : Nat} {a : Option Addr} {n cap : Nat} {xs : List Value} (h : KRow e k B w a n cap xs) (hB : B ≤ w.heap.size) (xv : Value) (news : List Value) (m : Nat)
    (hs : ac.eval s = .slice a n cap) (hx : ac.eval x = xv) (hsrc : Src Try.prog k t xv m news w) (hm : n + m ≤ 100000) (N : Nat) (hN : n + m = N)
    (kk : ∀ a' cap' w', Hid (KRow e k B w' a' N cap' (xs ++ news)) → Hid (Kp (ob a) w w') → Hid (∀ x ∈ ob a', x ∈ ob a ∨ w.heap.size ≤ x) → wpList Try.prog ops Q rest (ac.put o.dst (.slice a' N cap')) w') : wpList Try.prog ops Q (o :: rest) ac w := by
  subst hN
  obtain ⟨a', cap', w', hr, h1, h2, h3⟩ := krow_app hu hi hz hby h hB o.type xv news m hsrc hm
  refine wpList_step fun K hK => ?_
  rw [if_pos hw]
  unfold Oper.wp execOp
  simp only [ho, resolve, invoke, builtin, Sem.run_bind, Sem.run_pure, Result.andThen_ok, List.map_toArray, List.map_cons, List.map_nil, hs, hx, hr]
  exact hK _ _ (kk a' cap' w' h1 h2 h3)
/-- One element that was just built. -/
theorem src_built {t e : TypeId} {k : Nat} (hu : Try.prog.underlying t = some (.slice e)) {w : World} {g c : Nat} {cs : Array Value} {T : TypeId} {fr : Nat × Nat} (h : w.heap[g]? = some (.cells cs T fr)) (hl : cs.size = k) (h1 : ∀ u ∈ cs.toList, u.oneCell' = true) : Src Try.prog k t (.slice (some ⟨g, 0, none⟩) 1 c) 1 cs.toList w := by
  refine Src.ofSlice w hu ⟨g, 0, none⟩ 1 c cs.toList (by simp [hl]) (fun j u hj => ?_) h1
  rw [addr_add, Nat.zero_add, cell_of_row w g j _ _ _ h]
  simpa using hj

/-- A row of one's own as a thing. -/
def KwT (e : TypeId) (k : Nat) (a : Option Addr) (n cap : Nat) (xs : List Value) : Thing where
  holds B w F := KRow e k B w a n cap xs ∧ F = ob a
  kp := fun ⟨h1, h2⟩ hk hS => ⟨h1.kp hk (fun x hx => hS x (by rw [h2]; exact hx)), h2⟩
  lo := fun ⟨h1, h2⟩ x hx => h1.lo x (by rw [← h2]; exact hx)
  base := fun ⟨h1, h2⟩ hC => ⟨h1.base hC, h2⟩
section
variable {w0 w w' : World} {l1 r : List Thing} {e : TypeId} {k : Nat} {a a' : Option Addr} {n cap n' cap' : Nat} {xs ys : List Value}
theorem kw_nil (e : TypeId) (k : Nat) (hz : Zoo w0 w r) : Zoo w0 w (KwT e k none 0 0 [] :: r) := by
  obtain ⟨X, h1, hk⟩ := hz
  exact ⟨X, ⟨[], X, ⟨krow_nil _ _ _ _, rfl⟩, h1, fun _ hx => by simp at hx, rfl⟩, hk⟩
theorem kw_row (hz : Zoo w0 w (l1 ++ KwT e k a n cap xs :: r)) : KRow e k w0.heap.size w a n cap xs := by
  obtain ⟨F, h1, _⟩ := hz.at_
  exact h1.1
theorem kw_app (hz : Zoo w0 w (l1 ++ KwT e k a n cap xs :: r)) (h1 : KRow e k w0.heap.size w' a' n' cap' ys) (h2 : Kp (ob a) w w') (h3 : ∀ x ∈ ob a', x ∈ ob a ∨ w.heap.size ≤ x) : Zoo w0 w' (l1 ++ KwT e k a' n' cap' ys :: r) := by
  obtain ⟨F, ⟨g1, g2⟩, k2⟩ := hz.at_
  subst g2
  exact k2 _ _ ⟨ob a', ⟨h1, rfl⟩, h2, h3⟩
end
end Go.Proofs.Ytapmlleemopcnac

/- The values of all keys, as an array by value: its cells, and that it equals itself. -/
namespace Go.Proofs.Ytapmlleemopcnac
open Go.RowKit
set_option maxRecDepth 20000

/-- The cells of all keys' values. -/
def wagg (v : Nat → Ver) : Array Value :=
  #[.bool (v 0).t, .string (v 0).s, .bool (v 1).t, .string (v 1).s, .bool (v 2).t, .string (v 2).s, .bool (v 3).t, .string (v 3).s, .bool (v 4).t, .string (v 4).s, .bool (v 5).t, .string (v 5).s, .bool (v 6).t, .string (v 6).s, .bool (v 7).t, .string (v 7).s]

theorem wagg_at0 (v : Nat → Ver) {k : Nat} (hk : k < 8) : (wagg v)[k * 2]? = some (.bool (v k).t) := by
  rcases lt8 hk with rfl | rfl | rfl | rfl | rfl | rfl | rfl | rfl <;> rfl
theorem wagg_at1 (v : Nat → Ver) {k : Nat} (hk : k < 8) : (wagg v)[k * 2 + 1]? = some (.string (v k).s) := by
  rcases lt8 hk with rfl | rfl | rfl | rfl | rfl | rfl | rfl | rfl <;> rfl
theorem wagg_set (v : Nat → Ver) {k : Nat} (hk : k < 8) (u : Ver) : ((wagg v).setIfInBounds (k * 2) (.bool u.t)).setIfInBounds (k * 2 + 1) (.string u.s) = wagg (upd v k u) := by
  rcases lt8 hk with rfl | rfl | rfl | rfl | rfl | rfl | rfl | rfl <;> rfl
theorem wagg_congr {v u : Nat → Ver} (h : ∀ k, k < 8 → (v k).t = (u k).t ∧ (v k).s = (u k).s) : wagg v = wagg u := by
  unfold wagg
  rw [(h 0 (by omega)).1, (h 0 (by omega)).2, (h 1 (by omega)).1, (h 1 (by omega)).2, (h 2 (by omega)).1, (h 2 (by omega)).2, (h 3 (by omega)).1, (h 3 (by omega)).2, (h 4 (by omega)).1, (h 4 (by omega)).2, (h 5 (by omega)).1, (h 5 (by omega)).2, (h 6 (by omega)).1, (h 6 (by omega)).2, (h 7 (by omega)).1, (h 7 (by omega)).2]
theorem wagg_one (v : Nat → Ver) : (wagg v).all (·.oneCell') = true := by
  simp [wagg, Value.oneCell']

theorem Try.info31 : (Try.prog.info? 31).map (fun i => (i.zero, i.size, i.bytes)) = some (some (.agg #[.bool false, .string ByteArray.empty]), 2, 24) := by kernel_rfl
theorem Try.size72 : (Try.prog.info? 72).map (·.size) = some 16 := by kernel_rfl
theorem Try.cel31 : Try.prog.cellsOf 31 = 2 := by kernel_rfl
theorem Try.held31 : Try.prog.stoodInHeld 31 = false := by kernel_rfl

theorem part24 (v : Nat → Ver) {k : Nat} (hk : k < 8) (w : World) : (part 31 (wagg v) (k * 2)).run Try.prog w = .ok (.agg #[.bool (v k).t, .string (v k).s]) w := by
  have h1 : (isAgg 31).run Try.prog w = .ok true w := by
    unfold isAgg
    rw [Sem.run_bind, run_underlying Try.underlying31 w]
    rfl
  have h3 : (wagg v).extract (k * 2) (k * 2 + 2) = #[.bool (v k).t, .string (v k).s] := by
    rcases lt8 hk with rfl | rfl | rfl | rfl | rfl | rfl | rfl | rfl <;> rfl
  unfold part
  simp [Sem.run_bind, h1, h3]

theorem eq24 (d : Nat) (t : Bool) (s : ByteArray) (w : World) : (Op.equalIn (d + 2) 31 (.agg #[.bool t, .string s]) (.agg #[.bool t, .string s])).run Try.prog w = .ok true w := by
  have hu : Try.prog.underlying 31 = some (.struct (Try.prog.fieldsOf 31)) := by simp [Program.fieldsOf, Try.underlying31]
  rw [run_equalIn_struct w (d + 1) 31 _ _ hu Try.held31]
  simp [Program.fieldsOf, Try.underlying31, Op.eqFields, go_sem, Try.underlying4, Try.underlying9]

theorem items24 (d : Nat) (v : Nat → Ver) : ∀ (is : List Nat) (w : World), (∀ i, i ∈ is → i < 8) → (Op.eqItems (d + 2) 31 2 (wagg v) (wagg v) is).run Try.prog w = .ok true w := by
  intro is
  induction is with
  | nil => intro w _; simp [Op.eqItems]
  | cons i is ih =>
    intro w h
    have hi := h i (by simp)
    simp only [Op.eqItems, Sem.run_bind, part24 v hi w, eq24, Result.andThen_ok]
    simpa using ih w (fun j hj => h j (by simp [hj]))

theorem eq66 (v : Nat → Ver) (w : World) : (Op.equalIn 10000 72 (.agg (wagg v)) (.agg (wagg v))).run Try.prog w = .ok true w := by
  obtain ⟨i0, hi0, hz0, hz1, hz2⟩ := info_parts Try.info31
  have h := run_equalIn_array (P := Try.prog) w 9999 (wagg v) (wagg v) Try.underlying72 hi0
  rw [Try.cel31] at h
  rw [show (10000 : Nat) = 9999 + 1 from rfl, h]
  exact items24 9997 v (List.range 8) w (fun i hi => List.mem_range.1 hi)

theorem wload {w : World} {p : Nat} {v : Nat → Ver} (h : w.heap[p]? = some (.cells (wagg v) 72 (0, 0))) : (loadVar 72 ⟨p, 0, none⟩).run Try.prog w = .ok (.agg (wagg v)) w :=
  run_loadVar_row w p 72 72 (wagg v) (0, 0) _ h Try.underlying72 rfl Try.size72
end Go.Proofs.Ytapmlleemopcnac

/- sheet: what all keys had behind a commit, by its contract. -/
namespace Go.Proofs.Ytapmlleemopcnac
open Go.RowKit
set_option maxRecDepth 20000
attribute [local go_sem ↓] Go.wp_at_zero Go.wp_at_succ

/-- What sheet has of the first k keys. -/
def shw (f : Nat → List Ver) (n : Nat) (y : Int) (k : Nat) : Nat → Ver := fun j => if j < k then tr f n j y else dv
/-- k: how many keys, from the first on, tell no code. -/
structure ShK (f : Nat → List Ver) (n : Nat) (y : Int) (k : Nat) : Prop where
  le : k ≤ 8
  lo : ∀ j : Nat, j < k → (tr f n j y).a = 0
  hi : k < 8 → (tr f n k y).a ≠ 0
theorem ShK.uniq {f : Nat → List Ver} {n : Nat} {y : Int} {k l : Nat} (h : ShK f n y k) (h' : ShK f n y l) : k = l := by
  rcases Nat.lt_trichotomy k l with e | e | e
  · exact absurd (h'.lo k e) (h.hi (by have := h'.le; omega))
  · exact e
  · exact absurd (h.lo l e) (h'.hi (by have := h.le; omega))
def ShEnd (f : Nat → List Ver) (n : Nat) (y : Int) (w : World) (e : Ending) (w' : World) : Prop :=
  ∃ k, ShK f n y k ∧ e = .returned (.tuple #[.agg (wagg (shw f n y k)), .bool (decide (k = 8))]) ∧ Kp [] w w'

/-- What stands at the head of a round of sheet. -/
structure ShI (f : Nat → List Ver) (n : Nat) (y : Int) (w : World) (p q k : Nat) (wr : World) : Prop where
  kp : Kp [] w wr
  res : wr.heap[p]? = some (.cells (wagg (fun _ => dv)) 72 (0, 0))
  var : wr.heap[q]? = some (.cells (wagg (shw f n y k)) 72 (0, 0))
  ne : p ≠ q
  hp : w.heap.size ≤ p
  hq : w.heap.size ≤ q
  lo : ∀ j : Nat, j < k → (tr f n j y).a = 0

theorem ShI.kp0 {f : Nat → List Ver} {n : Nat} {y : Int} {w : World} {p q k : Nat} {wr w1 : World} (h : ShI f n y w p q k wr) (hk : Kp [] wr w1) : ShI f n y w p q k w1 :=
  ⟨h.kp.trans0 hk, by rw [hk.block p (lt_of_block h.res) (by simp)]; exact h.res, by rw [hk.block q (lt_of_block h.var) (by simp)]; exact h.var, h.ne, h.hp, h.hq, h.lo⟩

theorem ShI.next {f : Nat → List Ver} {n : Nat} {y : Int} {w : World} {p q k : Nat} {wr : World} (h : ShI f n y w p q k wr) (hk : k < 8) (h0 : (tr f n k y).a = 0) :
    ShI f n y w p q (k + 1) ((wr.setCell ⟨q, k * 2, none⟩ (.bool (tr f n k y).t)).setCell ⟨q, k * 2 + 1, none⟩ (.string (tr f n k y).s)) := by
  have k1 : Kp [q] wr ((wr.setCell ⟨q, k * 2, none⟩ (.bool (tr f n k y).t)).setCell ⟨q, k * 2 + 1, none⟩ (.string (tr f n k y).s)) := ((Kp.refl [q] wr).setCell (.inl (by simp)) _).setCell (.inl (by simp)) _
  refine ⟨h.kp.trans k1 (fun x hx => .inr (by have : x = q := by simpa using hx
                                              rw [this]; exact h.hq)), ?_, ?_, h.ne, h.hp, h.hq, fun j hj => ?_⟩
  · rw [k1.block p (lt_of_block h.res) (by simp; exact h.ne)]; exact h.res
  · rw [heap_setCell_at _ _ (heap_setCell_at _ _ h.var), wagg_set _ hk]
    congr 2
    refine wagg_congr (fun j hj => ?_)
    by_cases e : j = k
    · subst e; rw [upd_same]; simp [shw]
    · rw [upd_other _ _ _ e]
      unfold shw
      by_cases e2 : j < k
      · rw [if_pos e2, if_pos (by omega)]; exact ⟨rfl, rfl⟩
      · rw [if_neg e2, if_neg (by omega)]; exact ⟨rfl, rfl⟩
  · rcases Nat.lt_or_ge j k with e | e
    · exact h.lo j e
    · have : j = k := by omega
      rw [this]; exact h0

theorem setRow_kp {w : World} {p : Nat} {old cs : Array Value} {t : TypeId} (h : w.heap[p]? = some (.cells old t (0, 0))) : (w.setRow p cs).heap[p]? = some (.cells cs t (0, 0)) ∧ Kp [p] w (w.setRow p cs) := by
  refine ⟨setRow_heap w p old cs t (0, 0) h, rfl, rfl, rfl, by simp [World.setRow], fun k hk hn => ?_⟩
  have hne : p ≠ k := fun e => hn (by simp [e])
  simp only [World.setRow, Array.getElem?_modify]
  rw [if_neg hne]

theorem sh_start (f : Nat → List Ver) (n : Nat) (y : Int) (w : World) : ShI f n y w w.heap.size (w.heap.size + 1) 0 ((w.alloc (.cells (wagg (fun _ => dv)) 72)).alloc (.cells (wagg (fun _ => dv)) 72)) := by
  have h1 := heap_alloc_new w (.cells (wagg (fun _ => dv)) 72)
  have h2 := heap_alloc_new (w.alloc (.cells (wagg (fun _ => dv)) 72)) (.cells (wagg (fun _ => dv)) 72)
  refine ⟨((Kp.refl [] w).alloc _).alloc _, ?_, ?_, by omega, by omega, by omega, fun j hj => by omega⟩
  · rw [heap_alloc_old _ _ (by simp)]; exact h1
  · have e : shw f n y 0 = fun _ => dv := by funext j; simp [shw]
    rw [e]
    simpa using h2

set_option maxHeartbeats 2000000 in
theorem sheet44 {B tb n : Nat} {F : List Nat} {f : Nat → List Ver} (y : Int) (w : World) (h : Tbl B w tb F f n) :
    Calls Try.prog 37 #[.pointer (some ⟨tb, 0, none⟩), .int .i64 y] w fun e w' => ShEnd f n y w e w' := by
  have HT := hide h
  have H0 := hide (sh_start f n y w)
  clear h
  go_enter Try.func37, Try.ntmps37
  go_wp2_with fail
  generalize hp : w.heap.size = p at *
  have HP := hide hp
  clear hp
  generalize p + 1 = q at *
  go_loopw [7] (fun i wr => ∃ k : Nat, k ≤ 8 ∧ i = .int .i64 k ∧ Hid (ShI f n y w p q k wr)) (fun i _ => 8 - (intOf i).toNat)
  case atStart => exact ⟨0, by omega, rfl, H0⟩
  case round =>
    obtain ⟨k, hk, rfl, HI⟩ := hrel
    by_cases hlt : k < 8
    · have i0 : (0 : Int) ≤ (k : Int) := by omega
      have i1 : (k : Int) < 8 := by omega
      go_wp2_with fail
      refine (tread32 k y _ ((unhide HT).kp0 (unhide HI).kp)).mono ?_
      rintro e w1 ⟨rfl, hk1⟩
      have HI1 := hide ((unhide HI).kp0 (hk1.alloc (.cells #[.bool (tr f n k y).t, .string (tr f n k y).s] 31)))
      have hq := lt_of_block ((unhide HI).kp0 hk1).var
      have hqn : q ≠ w1.heap.size := by omega
      clear hk1 hq
      by_cases h0 : (tr f n k y).a = 0
      · have HI2 := hide ((unhide HI1).next hlt h0)
        rw [h0]
        clear h0
        have c0 := cell_of_block (unhide HI1).var (wagg_at0 _ hlt)
        have c1 := cell_of_block (unhide HI1).var (wagg_at1 _ hlt)
        have f0 := frozen_of_block (k * 2) (unhide HI1).var
        have f1 := frozen_of_block (k * 2 + 1) (unhide HI1).var
        go_wp2_with fail
        exact ⟨⟨k + 1, by omega, by go_num, HI2⟩, by simp [intOf]; omega⟩
      · have HN := hide h0
        generalize hcode : (tr f n k y).a = code at *
        go_wp2_with (first | (refine wpList_load_row rfl 72 _ rfl q rfl 72 _ (0, 0) _ (unhide HI1).var Try.underlying72 rfl Try.size72 ?_) | (refine wpList_store_row rfl 72 _ _ rfl p (wagg (shw f n y k)) rfl rfl 72 _ (unhide HI1).res Try.size72 rfl (wagg_one _) ?_))
        obtain ⟨z1, z2⟩ := setRow_kp (cs := wagg (shw f n y k)) (unhide HI1).res
        have hld := wload z1
        have e8 : decide (k = 8) = false := decide_eq_false (by omega)
        refine bodyPost_ret (v := .tuple #[.agg (wagg (shw f n y k)), .bool (decide (k = 8))]) (by rw [results_cell_tmp Try.results37]; simp [asAddr, Result.andThen, hld, e8]) rfl ⟨k, ⟨hk, (unhide HI1).lo, fun _ => by rw [hcode]; exact h0⟩, rfl, ?_⟩
        exact (unhide HI1).kp.trans z2 (fun x hx => .inr (by have : x = p := by simpa using hx
                                                             rw [this]; exact (unhide HI1).hp))
    · have e8 : k = 8 := by omega
      subst e8
      go_wp2_with (first | (refine wpList_load_row rfl 72 _ rfl q rfl 72 _ (0, 0) _ (unhide HI).var Try.underlying72 rfl Try.size72 ?_) | (refine wpList_store_row rfl 72 _ _ rfl p (wagg (shw f n y 8)) rfl rfl 72 _ (unhide HI).res Try.size72 rfl (wagg_one _) ?_))
      obtain ⟨z1, z2⟩ := setRow_kp (cs := wagg (shw f n y 8)) (unhide HI).res
      have hld := wload z1
      refine bodyPost_ret (v := .tuple #[.agg (wagg (shw f n y 8)), .bool (decide (8 = 8))]) (by rw [results_cell_tmp Try.results37]; simp [asAddr, Result.andThen, hld]) rfl ⟨8, ⟨hk, (unhide HI).lo, fun h => by omega⟩, rfl, ?_⟩
      exact (unhide HI).kp.trans z2 (fun x hx => .inr (by have : x = p := by simpa using hx
                                                          rw [this]; exact (unhide HI).hp))
end Go.Proofs.Ytapmlleemopcnac

/- A table since w0, and blocks beside it that are not its own; each call with what it keeps of them. -/
namespace Go.Proofs.Ytapmlleemopcnac
open Go.RowKit
set_option maxRecDepth 20000

/-- A table that was made since w0, all that was there as it was; the blocks of X are later ones, and none of its own. -/
def Tbx (w0 w : World) (tb : Nat) (f : Nat → List Ver) (n : Nat) (X : List Nat) : Prop :=
  ∃ F, Tbl w0.heap.size w tb F f n ∧ Kp [] w0 w ∧ ∀ x, x ∈ X → x ∉ F ∧ w0.heap.size ≤ x ∧ x < w.heap.size
/-- The blocks of X are as they were. -/
def SameX (X : List Nat) (w w' : World) : Prop := ∀ x, x ∈ X → w'.heap[x]? = w.heap[x]?

section
variable {w0 w w' : World} {tb : Nat} {f : Nat → List Ver} {n : Nat} {X : List Nat}
theorem Tbx.kp (h : Tbx w0 w tb f n X) : Kp [] w0 w := by
  obtain ⟨_, _, h, _⟩ := h
  exact h
theorem Tbx.inv (h : Tbx w0 w tb f n X) : Inv f n := by
  obtain ⟨_, h, _, _⟩ := h
  exact h.inv
theorem Tbx.lo (h : Tbx w0 w tb f n X) : ∀ x, x ∈ X → w0.heap.size ≤ x ∧ x < w.heap.size := by
  obtain ⟨F, h1, h2, h3⟩ := h
  exact fun x hx => (h3 x hx).2
theorem Tbx.kp0 (h : Tbx w0 w tb f n X) (hk : Kp [] w w') : Tbx w0 w' tb f n X := by
  obtain ⟨F, h1, h2, h3⟩ := h
  exact ⟨F, h1.kp0 hk, h2.trans0 hk, fun x hx => ⟨(h3 x hx).1, (h3 x hx).2.1, Nat.lt_of_lt_of_le (h3 x hx).2.2 hk.size⟩⟩
theorem Tbx.sub {Y : List Nat} (h : Tbx w0 w tb f n X) (hY : ∀ x, x ∈ Y → x ∈ X) : Tbx w0 w tb f n Y := by
  obtain ⟨F, h1, h2, h3⟩ := h
  exact ⟨F, h1, h2, fun x hx => h3 x (hY x hx)⟩
theorem Tbx.fresh (h : Tbx w0 w tb f n X) (hk : Kp [] w w') {b : Nat} (hb : w.heap.size ≤ b) (hb' : b < w'.heap.size) : Tbx w0 w' tb f n (b :: X) := by
  obtain ⟨F, h1, h2, h3⟩ := h
  refine ⟨F, h1.kp0 hk, h2.trans0 hk, fun x hx => ?_⟩
  rcases List.mem_cons.1 hx with e | e
  · subst e
    refine ⟨fun hF => ?_, Nat.le_trans h2.size hb, hb'⟩
    have := (h1.lo x hF).2
    omega
  · exact ⟨(h3 x e).1, (h3 x e).2.1, Nat.lt_of_lt_of_le (h3 x e).2.2 hk.size⟩
theorem Tbx.alloc (h : Tbx w0 w tb f n X) (o : Obj) : Tbx w0 (w.alloc o) tb f n (w.heap.size :: X) := h.fresh ((Kp.refl [] w).alloc o) (Nat.le_refl _) (by simp)
theorem Tbx.set (h : Tbx w0 w tb f n X) {S : List Nat} (hk : Kp S w w') (hS : ∀ x, x ∈ S → x ∈ X) : Tbx w0 w' tb f n X := by
  obtain ⟨F, h1, h2, h3⟩ := h
  exact ⟨F, h1.kp hk (fun x hx hs => (h3 x (hS x hs)).1 hx), h2.trans hk (fun x hx => .inr (h3 x (hS x hx)).2.1), fun x hx => ⟨(h3 x hx).1, (h3 x hx).2.1, Nat.lt_of_lt_of_le (h3 x hx).2.2 hk.size⟩⟩
theorem SameX.of_kp (h : Tbx w0 w tb f n X) (hk : Kp [] w w') : SameX X w w' := fun x hx => hk.block x (h.lo x hx).2 (by simp)
theorem tbx_turn {F F' : List Nat} {f' : Nat → List Ver} {n' : Nat} (h1 : Tbl w0.heap.size w tb F f n) (h2 : Kp [] w0 w) (h3 : ∀ x, x ∈ X → x ∉ F ∧ w0.heap.size ≤ x ∧ x < w.heap.size)
    (k1 : Tbl w0.heap.size w' tb F' f' n') (k2 : Kp F w w') (k3 : ∀ x, x ∈ F' → x ∈ F ∨ w.heap.size ≤ x) : Tbx w0 w' tb f' n' X ∧ SameX X w w' := by
  refine ⟨⟨F', k1, h2.trans k2 (fun x hx => .inr (h1.lo x hx).1), fun x hx => ⟨fun hf => ?_, (h3 x hx).2.1, Nat.lt_of_lt_of_le (h3 x hx).2.2 k2.size⟩⟩, fun x hx => k2.block x (h3 x hx).2.2 (h3 x hx).1⟩
  rcases k3 x hf with e | e
  · exact (h3 x hx).1 e
  · have := (h3 x hx).2.2; omega
end
theorem Bth.tbx {w0 wr : World} {tb sb : Nat} {f g : Nat → List Ver} {n m : Nat} (h : Bth w0 wr tb sb f g n m) : Tbx w0 wr tb f n [] := by
  obtain ⟨F, G, h1, h2, h3, h4⟩ := h
  exact ⟨F, h1, h4, fun x hx => by simp at hx⟩

theorem tbx_new (w0 w : World) (h : Kp [] w0 w) : Calls Try.prog 93 #[] w fun e w' => ∃ tb, e = .returned (.pointer (some ⟨tb, 0, none⟩)) ∧ Hid (Tbx w0 w' tb (fun _ => [dv]) 0 []) := by
  refine (tnew47 w).mono ?_
  rintro e w' ⟨rfl, ⟨F, b, g, cap, ht⟩, hk⟩
  have hs := h.size
  refine ⟨_, rfl, F, ⟨b, g, cap, ht.box, fun k hk8 => ?_, ht.bb, ht.gg, ht.bg, ht.tne, ht.tF, ht.bF, ht.gF, fun x hx => ⟨Nat.le_trans hs (ht.lo x hx).1, (ht.lo x hx).2⟩, ht.inv, Nat.le_trans hs ht.hB⟩, h.trans0 hk, fun x hx => by simp at hx⟩
  have hc := ht.chn k hk8
  exact ⟨own_base hc.own hs, hc.box, hc.ne, Nat.le_trans hs hc.hb, hc.pos⟩

section
variable {w0 w : World} {tb : Nat} {f : Nat → List Ver} {n : Nat} {X : List Nat}
theorem tbx_write (a : Option Addr) (c : Nat) (ps : List Ver) (h : Tbx w0 w tb f n X) (hp : Prs w a ps) (hm : ps.length ≤ 1000) (hf : 0 < ps.length → ∀ g o, a = some ⟨g, o, none⟩ → g < w0.heap.size ∨ g ∈ X) :
    Calls Try.prog 124 #[.pointer (some ⟨tb, 0, none⟩), .slice a ps.length c] w fun e w' => e = .returned (.tuple #[.int .i64 (wnum n ps), .int .i64 (wcode n ps)]) ∧ Hid (Tbx w0 w' tb (wst f n ps) (wn n ps) X) ∧ Hid (SameX X w w') := by
  obtain ⟨F, h1, h2, h3⟩ := h
  refine (twrite45 a c ps w h1 hp (fun hp0 g o e hg => ?_) hm).mono ?_
  · rcases hf hp0 g o e with q | q
    · have := (h1.lo g hg).1; omega
    · exact (h3 g q).1 hg
  · rintro e w' ⟨rfl, F', k1, k2, k3⟩
    exact ⟨rfl, tbx_turn h1 h2 h3 k1 k2 k3⟩
theorem tbx_clear (y : Int) (h : Tbx w0 w tb f n X) :
    Calls Try.prog 52 #[.pointer (some ⟨tb, 0, none⟩), .int .i64 y] w fun e w' => e = .returned (.int .i64 (cln f y 8 : Nat)) ∧ Hid (Tbx w0 w' tb (clm f y 8) n X) ∧ Hid (SameX X w w') := by
  obtain ⟨F, h1, h2, h3⟩ := h
  refine (tclear46 y w h1).mono ?_
  rintro e w' ⟨rfl, F', k1, k2, k3⟩
  exact ⟨rfl, tbx_turn h1 h2 h3 k1 k2 k3⟩
theorem tbx_read (k y : Int) (h : Tbx w0 w tb f n X) (v : Ver) (hv : tr f n k y = v) :
    Calls Try.prog 31 #[.pointer (some ⟨tb, 0, none⟩), .int .i64 k, .int .i64 y] w fun e w' => e = .returned (.tuple #[.agg #[.bool v.t, .string v.s], .int .i64 v.a]) ∧ Hid (Tbx w0 w' tb f n X) ∧ Hid (Kp [] w w') := by
  obtain ⟨F, h1, h2⟩ := h
  refine (tread32 k y w h1).mono ?_
  rintro e w' ⟨rfl, hk⟩
  exact ⟨by rw [hv], Tbx.kp0 ⟨F, h1, h2⟩ hk, hk⟩
theorem tbx_since (k : Int) (h : Tbx w0 w tb f n X) (v : Int) (hv : snc f k = v) :
    Calls Try.prog 33 #[.pointer (some ⟨tb, 0, none⟩), .int .i64 k] w fun e w' => e = .returned (.int .i64 v) ∧ Hid (Tbx w0 w' tb f n X) ∧ Hid (Kp [] w w') := by
  obtain ⟨F, h1, h2⟩ := h
  refine (tsince40 k w h1).mono ?_
  rintro e w' ⟨rfl, hk⟩
  exact ⟨by rw [hv], Tbx.kp0 ⟨F, h1, h2⟩ hk, hk⟩
theorem tbx_last (h : Tbx w0 w tb f n X) : Calls Try.prog 20 #[.pointer (some ⟨tb, 0, none⟩)] w fun e w' => e = .returned (.int .i64 n) ∧ w' = w := by
  obtain ⟨F, h1, h2⟩ := h
  exact tlast38 w h1
theorem tbx_first (h : Tbx w0 w tb f n X) (v : Int) (hv : fmx f 8 = v) : Calls Try.prog 21 #[.pointer (some ⟨tb, 0, none⟩)] w fun e w' => e = .returned (.int .i64 v) ∧ w' = w := by
  obtain ⟨F, h1, h2⟩ := h
  subst hv
  exact tfirst42 w h1
theorem tbx_sheet (y : Int) (h : Tbx w0 w tb f n X) :
    Calls Try.prog 37 #[.pointer (some ⟨tb, 0, none⟩), .int .i64 y] w fun e w' => ∃ k, Hid (ShK f n y k) ∧ e = .returned (.tuple #[.agg (wagg (shw f n y k)), .bool (decide (k = 8))]) ∧ Hid (Tbx w0 w' tb f n X) ∧ Hid (Kp [] w w') := by
  obtain ⟨F, h1, h2⟩ := h
  refine (sheet44 y w h1).mono ?_
  rintro e w' ⟨k, hk, rfl, hkp⟩
  exact ⟨k, hk, rfl, Tbx.kp0 ⟨F, h1, h2⟩ hkp, hkp⟩
end

theorem prs_one {w : World} {b : Nat} (k : Int) (t : Bool) (s : ByteArray) (hs : s.size ≤ maxLen) (h : w.heap[b]? = some (.cells #[.int .i64 k, .bool t, .string s] 79 (0, 0))) : Prs w (some ⟨b, 0, none⟩) [⟨k, t, s⟩] := by
  refine ⟨by simp [maxLen], fun j hj => ?_, fun _ => ⟨b, 0, rfl, fun j u hu => ?_⟩⟩
  · have : j = 0 := by simp at hj; omega
    subst this; exact hs
  · rw [Nat.zero_add]
    refine cell_of_block h ?_
    have e : (#[Value.int IntKind.i64 k, Value.bool t, Value.string s] : Array Value)[j]? = [Value.int IntKind.i64 k, Value.bool t, Value.string s][j]? := by simp
    exact e.trans hu

theorem tbx_write_lit {w0 W : World} {tb : Nat} {f : Nat → List Ver} {n : Nat} {X : List Nat} (k : Int) (t : Bool) (s : ByteArray) (hs : s.size ≤ maxLen) (h : Tbx w0 W tb f n X) :
    Calls Try.prog 124 #[.pointer (some ⟨tb, 0, none⟩), .slice (some ⟨W.heap.size, 0, none⟩) 1 1] (W.alloc (.cells #[.int .i64 k, .bool t, .string s] 79)) fun e w' =>
      e = .returned (.tuple #[.int .i64 (wnum n [⟨k, t, s⟩]), .int .i64 (wcode n [⟨k, t, s⟩])]) ∧ Hid (Tbx w0 w' tb (wst f n [⟨k, t, s⟩]) (wn n [⟨k, t, s⟩]) X) := by
  refine (tbx_write (some ⟨W.heap.size, 0, none⟩) 1 [⟨k, t, s⟩] (h.alloc (.cells #[.int .i64 k, .bool t, .string s] 79)) (prs_one k t s hs (heap_alloc_new _ _)) (by simp) (fun _ g o e => ?_)).mono ?_
  · right
    simp only [Option.some.injEq, Addr.mk.injEq, and_true] at e
    simp [e.1]
  · rintro e w' ⟨rfl, h1, _⟩
    exact ⟨rfl, (unhide h1).sub (fun x hx => by simp [hx])⟩
end Go.Proofs.Ytapmlleemopcnac

/- What a commit makes of the versions of all keys, key by key. -/
namespace Go.Proofs.Ytapmlleemopcnac

def fnd (ps : List Ver) (k : Nat) : Option Ver := ps.find? (fun p => p.a == (k : Int))

theorem pf_consX {a : Int} {p : Ver} {r : List Ver} (h : pf a (p :: r) = 0) : 0 ≤ p.a ∧ p.a < 8 ∧ a < p.a ∧ chk p.t p.s = 0 ∧ pf p.a r = 0 := by
  unfold pf at h
  split at h
  · simp at h
  · rename_i hk
    split at h
    · simp at h
    · split at h
      · simp [keyB] at hk
        exact ⟨by omega, by omega, by omega, by assumption, h⟩
      · rename_i h1; exact absurd h h1
theorem pf_gt {a : Int} {ps : List Ver} (h : pf a ps = 0) : ∀ q, q ∈ ps → a < q.a := by
  induction ps generalizing a with
  | nil => intro q hq; simp at hq
  | cons p r ih =>
    obtain ⟨h1, h2, h3, h4, h5⟩ := pf_consX h
    intro q hq
    rcases List.mem_cons.1 hq with e | e
    · subst e; exact h3
    · have := ih h5 q e; omega
theorem pvers_put {vs : List Ver} {x : Int} {t : Bool} {s : ByteArray} (hc : chk t s = 0) (hl : va vs (vs.length - 1) < x) : pvers vs x t s = vs ++ [⟨x, t, s⟩] := by
  have : pcode vs x t s = 0 := by unfold pcode; rw [if_pos hc, if_neg (by omega)]
  unfold pvers; rw [if_pos this]

theorem wrs_get {a x : Int} {ps : List Ver} {f : Nat → List Ver} (h : pf a ps = 0) (hl : ∀ j : Nat, a < j → j < 8 → va (f j) ((f j).length - 1) < x) (k : Nat) :
    wrs f x ps k = match fnd ps k with | none => f k | some p => f k ++ [⟨x, p.t, p.s⟩] := by
  induction ps generalizing a f with
  | nil => rfl
  | cons p r ih =>
    obtain ⟨h1, h2, h3, h4, h5⟩ := pf_consX h
    show wrs (wr1 f x p) x r k = _
    have hput : pvers (f p.a.toNat) x p.t p.s = f p.a.toNat ++ [⟨x, p.t, p.s⟩] := pvers_put h4 (hl p.a.toNat (by omega) (by omega))
    have ih1 := ih (f := wr1 f x p) h5 (fun j hj hj8 => by
      unfold wr1
      rw [upd_other _ _ _ (show j ≠ p.a.toNat by omega)]
      exact hl j (by omega) hj8)
    rw [ih1]
    by_cases e : p.a = (k : Int)
    · have hn : fnd r k = none := by
        unfold fnd
        rw [List.find?_eq_none]
        intro q hq
        have := pf_gt h5 q hq
        simp
        omega
      have hs : fnd (p :: r) k = some p := by simp [fnd, e]
      have hk : p.a.toNat = k := by omega
      rw [hn, hs]
      show wr1 f x p k = _
      unfold wr1
      rw [hk, upd_same, ← hk]
      rw [hput]
    · have hs : fnd (p :: r) k = fnd r k := by simp [fnd, e]
      have hk : k ≠ p.a.toNat := by omega
      have hw : wr1 f x p k = f k := by unfold wr1; rw [upd_other _ _ _ hk]
      rw [hs, hw]

theorem wst_get {f : Nat → List Ver} {n : Nat} {ps : List Ver} (hi : Inv f n) (hc : wcode n ps = 0) {k : Nat} : wst f n ps k = match fnd ps k with | none => f k | some p => f k ++ [⟨(n : Int) + 1, p.t, p.s⟩] := by
  unfold wst
  rw [if_pos hc]
  exact wrs_get (wcode_zero hc).1 (fun j _ hj8 => by have := hi.hi j hj8; omega) k

theorem wst_not {f : Nat → List Ver} {n : Nat} {ps : List Ver} (hc : ¬ wcode n ps = 0) : wst f n ps = f ∧ wn n ps = n ∧ wnum n ps = 0 := by
  unfold wst wn wnum
  rw [if_neg hc, if_neg hc, if_neg hc]
  exact ⟨rfl, rfl, rfl⟩
theorem wst_yes {n : Nat} {ps : List Ver} (hc : wcode n ps = 0) : wn n ps = n + 1 ∧ wnum n ps = (n : Int) + 1 := by
  unfold wn wnum
  rw [if_pos hc, if_pos hc]
  exact ⟨rfl, rfl⟩

theorem fnd_none {ps : List Ver} {k : Nat} (h : fnd ps k = none) : ∀ i, i < ps.length → va ps i ≠ (k : Int) := by
  intro i hi e
  unfold fnd at h
  rw [List.find?_eq_none] at h
  have := h ps[i] (List.getElem_mem hi)
  simp [va, List.getD_eq_getElem?_getD, List.getElem?_eq_getElem hi] at e
  simp [e] at this
theorem fnd_some {ps : List Ver} {k : Nat} {p : Ver} (h : fnd ps k = some p) : ∃ i, i < ps.length ∧ va ps i = (k : Int) ∧ vt ps i = p.t ∧ vb ps i = p.s := by
  unfold fnd at h
  have hm := List.mem_of_find?_eq_some h
  have hp := List.find?_some h
  obtain ⟨i, hi, e⟩ := List.getElem_of_mem hm
  refine ⟨i, hi, ?_, ?_, ?_⟩
  all_goals simp [va, vt, vb, List.getD_eq_getElem?_getD, List.getElem?_eq_getElem hi, e]
  simpa using hp

/-- What since is behind the first j pairs. -/
def sj (ps : List Ver) (k x s0 : Int) : Nat → Int
  | 0 => s0
  | j + 1 => if va ps j = k then x else sj ps k x s0 j
theorem sj_no {ps : List Ver} {k x s0 : Int} : ∀ j, (∀ i, i < j → va ps i ≠ k) → sj ps k x s0 j = s0 := by
  intro j
  induction j with
  | zero => intro _; rfl
  | succ j ih =>
    intro h
    simp only [sj]
    rw [if_neg (h j (by omega))]
    exact ih (fun i hi => h i (by omega))
theorem sj_yes {ps : List Ver} {k x s0 : Int} {i : Nat} (hv : va ps i = k) : ∀ j, i < j → sj ps k x s0 j = x := by
  intro j
  induction j with
  | zero => intro h; omega
  | succ j ih =>
    intro h
    simp only [sj]
    by_cases e : va ps j = k
    · rw [if_pos e]
    · rw [if_neg e]
      refine ih ?_
      rcases Nat.lt_or_ge i j with q | q
      · exact q
      · have : i = j := by omega
        subst this; exact absurd hv e

theorem snc_write {f : Nat → List Ver} {n : Nat} {ps : List Ver} (hi : Inv f n) (hc : wcode n ps = 0) {k : Nat} (hk : k < 8) : snc (wst f n ps) k = sj ps k ((n : Int) + 1) (snc f k) ps.length := by
  have hkb : keyB (k : Int) = true := by simp [keyB]; omega
  unfold snc
  rw [if_pos hkb, if_pos hkb, Int.toNat_natCast, wst_get hi hc]
  cases hf : fnd ps k with
  | none =>
    simp only
    rw [sj_no _ (fnd_none hf)]
  | some p =>
    obtain ⟨i, hi1, hi2, _⟩ := fnd_some hf
    simp only
    rw [sj_yes hi2 _ hi1]
    simp only [List.length_append, List.length_cons, List.length_nil, Nat.zero_add, Nat.add_sub_cancel]
    exact va_concat _ _
theorem snc_clm {f : Nat → List Ver} {n : Nat} (hi : Inv f n) (y : Int) {k : Nat} (hk : k < 8) : snc (clm f y 8) k = snc f k := by
  have hkb : keyB (k : Int) = true := by simp [keyB]; omega
  unfold snc
  rw [if_pos hkb, if_pos hkb, Int.toNat_natCast]
  unfold clm
  rw [if_pos hk, va_drop, List.length_drop]
  have := cd_lt y (hi.rise k hk) (hi.pos k hk)
  congr 1
  omega
end Go.Proofs.Ytapmlleemopcnac

/- What Clear leaves to be read; what is read of the last commit, and behind a later one. -/
namespace Go.Proofs.Ytapmlleemopcnac

theorem vt_drop (vs : List Ver) (d i : Nat) : vt (vs.drop d) i = vt vs (d + i) := by simp [vt, List.getD_eq_getElem?_getD, List.getElem?_drop]
theorem vb_drop (vs : List Ver) (d i : Nat) : vb (vs.drop d) i = vb vs (d + i) := by simp [vb, List.getD_eq_getElem?_getD, List.getElem?_drop]

theorem IsCnt.drop {vs : List Ver} {y : Int} {c d : Nat} (h : IsCnt vs y c) (hd : d ≤ c) : IsCnt (vs.drop d) y (c - d) := by
  have hl := h.le
  refine ⟨by simp; omega, fun k hk => ?_, fun k h1 h2 => ?_⟩
  · rw [va_drop]; exact h.lo _ (by omega)
  · rw [va_drop]; simp only [List.length_drop] at h2; exact h.hi _ (by omega) (by omega)
theorem IsCnt.mono {vs : List Ver} {x y : Int} {c d : Nat} (h : IsCnt vs x c) (k : IsCnt vs y d) (hxy : x ≤ y) : c ≤ d := by
  rcases Nat.lt_or_ge d c with e | e
  · have h1 := h.lo d e
    have h2 := k.hi d (Nat.le_refl _) (by have := h.le; omega)
    omega
  · exact e

theorem cd_again {vs : List Ver} (y : Int) (hr : Rise vs) : cd (vs.drop (cd vs y)) y = 0 := by
  have hc := cntf_is y hr
  have h2 := (hc.drop (d := cd vs y) (by unfold cd; omega)).eqf (hr.drop _)
  unfold cd at h2 ⊢
  omega
theorem cln_again {f : Nat → List Ver} {n : Nat} (h : Inv f n) (y : Int) : ∀ m, m ≤ 8 → cln (clm f y 8) y m = 0 := by
  intro m
  induction m with
  | zero => intro _; rfl
  | succ m ih =>
    intro hm
    simp only [cln]
    rw [ih (by omega)]
    have : clm f y 8 m = (f m).drop (cd (f m) y) := by unfold clm; rw [if_pos (by omega)]
    rw [this, cd_again y (h.rise m (by omega))]

theorem rd3_drop {vs : List Ver} {l y : Int} (hr : Rise vs) (hp : 0 < vs.length) (hly : l ≤ y) : rd3 (vs.drop (cd vs l)) y = rd3 vs y := by
  have hl := cntf_is l hr
  have hy := cntf_is y hr
  have hle := hl.mono hy hly
  have hd := (hy.drop (d := cd vs l) (by unfold cd; omega)).eqf (hr.drop _)
  unfold rd3
  by_cases h0 : y < 0
  · rw [if_pos h0, if_pos h0]
  · rw [if_neg h0, if_neg h0]
    by_cases h1 : y < va vs 0
    · have hz : cd vs l = 0 := by
        have : cntf vs l = 0 := by
          rcases Nat.eq_zero_or_pos (cntf vs l) with e | e
          · exact e
          · have := hl.lo 0 e; omega
        unfold cd; omega
      rw [hz, List.drop_zero]
    · have h2 : ¬ y < va (vs.drop (cd vs l)) 0 := by
        rw [va_drop, Nat.add_zero]
        rcases Nat.eq_zero_or_pos (cd vs l) with e | e
        · rw [e]; exact h1
        · have := hl.lo (cd vs l) (by unfold cd at e ⊢; omega)
          omega
      have hpos := hy.pos hp (by omega)
      rw [if_neg h1, if_neg h2, ← hd, vt_drop, vb_drop]
      have e : cd vs l + (cntf vs y - cd vs l - 1) = cntf vs y - 1 := by unfold cd; omega
      rw [e]

theorem tr_clm {f : Nat → List Ver} {n : Nat} (h : Inv f n) {l y : Int} (hly : l ≤ y) {j : Nat} (hj : j < 8) : tr (clm f l 8) n j y = tr f n j y := by
  unfold tr
  split
  · rw [Int.toNat_natCast]
    have : clm f l 8 j = (f j).drop (cd (f j) l) := by unfold clm; rw [if_pos hj]
    rw [this, rd3_drop (h.rise j hj) (h.pos j hj) hly]
  · rfl

theorem ShK.congr {f g : Nat → List Ver} {n m : Nat} {y : Int} {k : Nat} (h : ShK f n y k) (he : ∀ j : Nat, j < 8 → tr g m j y = tr f n j y) : ShK g m y k :=
  ⟨h.le, fun j hj => by rw [he j (by have := h.le; omega)]; exact h.lo j hj, fun hk => by rw [he k hk]; exact h.hi hk⟩
theorem shw_congr {f g : Nat → List Ver} {n m : Nat} {y : Int} {k : Nat} (hk : k ≤ 8) (he : ∀ j : Nat, j < 8 → tr g m j y = tr f n j y) : shw g m y k = shw f n y k := by
  funext j
  unfold shw
  split
  · exact he j (by omega)
  · rfl

theorem cntf_all {vs : List Ver} {y : Int} (hr : Rise vs) (hp : 0 < vs.length) (hy : va vs (vs.length - 1) ≤ y) : cntf vs y = vs.length := by
  have h : IsCnt vs y vs.length := ⟨Nat.le_refl _, fun k hk => by have := hr.le (show k ≤ vs.length - 1 by omega) (by omega); omega, fun k h1 h2 => by omega⟩
  exact (h.eqf hr).symm

/-- What is read of the last commit. -/
theorem tr_last {f : Nat → List Ver} {n : Nat} (h : Inv f n) {j : Nat} (hj : j < 8) : tr f n j n = ⟨0, vt (f j) ((f j).length - 1), vb (f j) ((f j).length - 1)⟩ := by
  have hkb : keyB (j : Int) = true := by simp [keyB]; omega
  have hp := h.pos j hj
  have h1 := (h.rise j hj).le (Nat.zero_le ((f j).length - 1)) (by omega)
  have h2 := h.hi j hj
  unfold tr
  rw [if_pos ⟨hkb, Int.le_refl _⟩, Int.toNat_natCast]
  unfold rd3
  rw [if_neg (by omega), if_neg (by omega), cntf_all (h.rise j hj) hp h2]
theorem shk_last {f : Nat → List Ver} {n : Nat} (h : Inv f n) : ShK f n n 8 := ⟨Nat.le_refl _, fun j hj => by rw [tr_last h hj], fun h => by omega⟩

theorem rd3_append {vs : List Ver} {v : Ver} {y : Int} (hr : Rise vs) (hr2 : Rise (vs ++ [v])) (hp : 0 < vs.length) (hv : y < v.a) : rd3 (vs ++ [v]) y = rd3 vs y := by
  have hc := cntf_is y hr
  have hl := hc.le
  have h2 : IsCnt (vs ++ [v]) y (cntf vs y) := by
    refine ⟨by simp; omega, fun k hk => ?_, fun k h1 h2 => ?_⟩
    · rw [va_append_left _ _ (by omega)]; exact hc.lo k hk
    · rcases Nat.lt_or_ge k vs.length with e | e
      · rw [va_append_left _ _ e]; exact hc.hi k h1 e
      · have : k = vs.length := by simp at h2; omega
        rw [this, va_concat]; exact hv
  have he := h2.eqf hr2
  unfold rd3
  rw [va_append_left _ _ hp, ← he]
  by_cases h0 : y < 0
  · rw [if_pos h0, if_pos h0]
  · rw [if_neg h0, if_neg h0]
    by_cases h1 : y < va vs 0
    · rw [if_pos h1, if_pos h1]
    · have hpos := hc.pos hp (by omega)
      rw [if_neg h1, if_neg h1, vt_append_left _ _ (by omega), vb_append_left _ _ (by omega)]

/-- A later commit changes nothing of what is read behind an earlier one. -/
theorem tr_later {f : Nat → List Ver} {n : Nat} (h : Inv f n) (ps : List Ver) {y : Int} (hy : y ≤ n) {j : Nat} (hj : j < 8) : tr (wst f n ps) (wn n ps) j y = tr f n j y := by
  by_cases hc : wcode n ps = 0
  · have hw := (h.write ps).rise j hj
    have e := (wst_yes hc).1
    unfold tr
    by_cases hk : keyB (j : Int) = true
    · rw [if_pos ⟨hk, by rw [e]; push_cast; omega⟩, if_pos ⟨hk, hy⟩, Int.toNat_natCast]
      rw [wst_get h hc] at hw ⊢
      cases hf : fnd ps j with
      | none => rfl
      | some p =>
        rw [hf] at hw
        simp only at hw ⊢
        exact rd3_append (h.rise j hj) hw (h.pos j hj) (by show y < (n : Int) + 1; omega)
    · rw [if_neg (fun h => hk h.1), if_neg (fun h => hk h.1)]
  · obtain ⟨e1, e2, _⟩ := wst_not (f := f) hc
    rw [e1, e2]

/-- The values of all keys with pairs laid over them. -/
def wvs (v : Nat → Ver) : List Ver → Nat → Ver
  | [] => v
  | p :: r => wvs (upd v p.a.toNat ⟨0, p.t, p.s⟩) r
theorem wvs_get {a : Int} {ps : List Ver} {v : Nat → Ver} (h : pf a ps = 0) (k : Nat) : wvs v ps k = match fnd ps k with | none => v k | some p => ⟨0, p.t, p.s⟩ := by
  induction ps generalizing a v with
  | nil => rfl
  | cons p r ih =>
    obtain ⟨h1, h2, h3, h4, h5⟩ := pf_consX h
    show wvs (upd v p.a.toNat ⟨0, p.t, p.s⟩) r k = _
    rw [ih (v := upd v p.a.toNat ⟨0, p.t, p.s⟩) h5]
    by_cases e : p.a = (k : Int)
    · have hn : fnd r k = none := by
        unfold fnd
        rw [List.find?_eq_none]
        intro q hq
        have := pf_gt h5 q hq
        simp
        omega
      have hs : fnd (p :: r) k = some p := by simp [fnd, e]
      have hk : p.a.toNat = k := by omega
      rw [hn, hs, hk]
      exact upd_same _ _ _
    · have hs : fnd (p :: r) k = fnd r k := by simp [fnd, e]
      have hk : k ≠ p.a.toNat := by omega
      rw [hs, upd_other _ _ _ hk]
theorem wvs_at {v : Nat → Ver} {ps : List Ver} {k : Nat} (h : k < ps.length) : wvs v (ps.drop k) = wvs (upd v (va ps k).toNat ⟨0, vt ps k, vb ps k⟩) (ps.drop (k + 1)) := by
  rw [ver_drop h]; rfl

/-- Behind a commit all keys have what they had, but those that it wrote. -/
theorem shots_now {f : Nat → List Ver} {n : Nat} {ps : List Ver} (h : Inv f n) (hc : wcode n ps = 0) : wagg (wvs (shw f n n 8) ps) = wagg (shw (wst f n ps) (n + 1) ((n : Int) + 1) 8) := by
  have hi := h.write ps
  rw [(wst_yes hc).1] at hi
  refine wagg_congr (fun k hk => ?_)
  have e1 : shw (wst f n ps) (n + 1) ((n : Int) + 1) 8 k = ⟨0, vt (wst f n ps k) ((wst f n ps k).length - 1), vb (wst f n ps k) ((wst f n ps k).length - 1)⟩ := by
    unfold shw
    rw [if_pos hk]
    have := tr_last hi hk
    push_cast at this
    exact this
  have e2 : shw f n n 8 k = ⟨0, vt (f k) ((f k).length - 1), vb (f k) ((f k).length - 1)⟩ := by
    unfold shw
    rw [if_pos hk, tr_last h hk]
  rw [wvs_get (wcode_zero hc).1, e1, wst_get h hc]
  cases hf : fnd ps k with
  | none => simp only; rw [e2]; exact ⟨rfl, rfl⟩
  | some p =>
    simp only [List.length_append, List.length_cons, List.length_nil, Nat.zero_add, Nat.add_sub_cancel]
    rw [vt_concat, vb_concat]
    exact ⟨rfl, rfl⟩
end Go.Proofs.Ytapmlleemopcnac

/- tables, as the laws meet it; an array of all keys' values in a variable: its cells, one by one. -/
namespace Go.Proofs.Ytapmlleemopcnac
open Go.RowKit
set_option maxRecDepth 20000

structure W16 (w : World) (p : Nat) (v : Nat → Ver) : Prop where
  c0 : w.cell? ⟨p, 0, none⟩ = some (.bool (v 0).t)
  c1 : w.cell? ⟨p, 1, none⟩ = some (.string (v 0).s)
  c2 : w.cell? ⟨p, 2, none⟩ = some (.bool (v 1).t)
  c3 : w.cell? ⟨p, 3, none⟩ = some (.string (v 1).s)
  c4 : w.cell? ⟨p, 4, none⟩ = some (.bool (v 2).t)
  c5 : w.cell? ⟨p, 5, none⟩ = some (.string (v 2).s)
  c6 : w.cell? ⟨p, 6, none⟩ = some (.bool (v 3).t)
  c7 : w.cell? ⟨p, 7, none⟩ = some (.string (v 3).s)
  c8 : w.cell? ⟨p, 8, none⟩ = some (.bool (v 4).t)
  c9 : w.cell? ⟨p, 9, none⟩ = some (.string (v 4).s)
  c10 : w.cell? ⟨p, 10, none⟩ = some (.bool (v 5).t)
  c11 : w.cell? ⟨p, 11, none⟩ = some (.string (v 5).s)
  c12 : w.cell? ⟨p, 12, none⟩ = some (.bool (v 6).t)
  c13 : w.cell? ⟨p, 13, none⟩ = some (.string (v 6).s)
  c14 : w.cell? ⟨p, 14, none⟩ = some (.bool (v 7).t)
  c15 : w.cell? ⟨p, 15, none⟩ = some (.string (v 7).s)
theorem w16 {w : World} {p : Nat} {v : Nat → Ver} (h : w.heap[p]? = some (.cells (wagg v) 72 (0, 0))) : W16 w p v :=
  ⟨cell_of_block h rfl, cell_of_block h rfl, cell_of_block h rfl, cell_of_block h rfl, cell_of_block h rfl, cell_of_block h rfl, cell_of_block h rfl, cell_of_block h rfl, cell_of_block h rfl, cell_of_block h rfl, cell_of_block h rfl, cell_of_block h rfl, cell_of_block h rfl, cell_of_block h rfl, cell_of_block h rfl, cell_of_block h rfl⟩

theorem eq66' (v : Nat → Ver) : ∀ w : World, (Op.equalIn 10000 72 (.agg #[.bool (v 0).t, .string (v 0).s, .bool (v 1).t, .string (v 1).s, .bool (v 2).t, .string (v 2).s, .bool (v 3).t, .string (v 3).s, .bool (v 4).t, .string (v 4).s, .bool (v 5).t, .string (v 5).s, .bool (v 6).t, .string (v 6).s, .bool (v 7).t, .string (v 7).s]) (.agg #[.bool (v 0).t, .string (v 0).s, .bool (v 1).t, .string (v 1).s, .bool (v 2).t, .string (v 2).s, .bool (v 3).t, .string (v 3).s, .bool (v 4).t, .string (v 4).s, .bool (v 5).t, .string (v 5).s, .bool (v 6).t, .string (v 6).s, .bool (v 7).t, .string (v 7).s])).run Try.prog w = .ok true w := fun w => eq66 v w

theorem tbx_var {w0 w : World} {tb : Nat} {f : Nat → List Ver} {n : Nat} {X : List Nat} (h : Tbx w0 w tb f n X) (v : Nat → Ver) :
    Hid (Tbx w0 (w.alloc (.cells (wagg v) 72)) tb f n (w.heap.size :: X)) ∧ Hid ((w.alloc (.cells (wagg v) 72)).heap[w.heap.size]? = some (.cells (wagg v) 72 (0, 0))) :=
  ⟨h.alloc _, heap_alloc_new w _⟩
end Go.Proofs.Ytapmlleemopcnac

/- What stands at the heads of the loops of TableShots. -/
namespace Go.Proofs.Ytapmlleemopcnac
open Go.RowKit
set_option maxRecDepth 20000

theorem inside_of {w0 : World} {a : Option Addr} {ps : List Ver} (h : Prs w0 a ps) (X : List Nat) : 0 < ps.length → ∀ g o, a = some ⟨g, o, none⟩ → g < w0.heap.size ∨ g ∈ X := by
  intro hp g o e
  obtain ⟨g', o', e', hs⟩ := h.mem hp
  rw [e] at e'
  simp only [Option.some.injEq, Addr.mk.injEq, and_true] at e'
  have := hs.lt hp
  left; omega

/-- was is turned pair by pair; now stands. -/
structure Lp1 (w wr : World) (tb : Nat) (f : Nat → List Ver) (m p r : Nat) (v u : Nat → Ver) (ps : List Ver) (i : Nat) : Prop where
  tbx : Tbx w wr tb f m [r, p]
  now : wr.heap[r]? = some (.cells (wagg u) 72 (0, 0))
  ne : p ≠ r
  was : ∃ vk, wr.heap[p]? = some (.cells (wagg vk) 72 (0, 0)) ∧ wvs vk (ps.drop i) = wvs v ps

theorem Lp1.next {w wr W : World} {tb : Nat} {f : Nat → List Ver} {m p r : Nat} {v u : Nat → Ver} {ps : List Ver} {i j : Nat} (h : Lp1 w wr tb f m p r v u ps i) (hW : Kp [] wr W) (hi : i < ps.length) (hj : j < 8) (hv : va ps i = (j : Int)) :
    (∃ x, W.cell? ⟨p, j * 2, none⟩ = some x) ∧ (∃ x, W.cell? ⟨p, j * 2 + 1, none⟩ = some x) ∧ W.frozen? ⟨p, j * 2, none⟩ = false ∧ W.frozen? ⟨p, j * 2 + 1, none⟩ = false ∧
      Hid (Lp1 w ((W.setCell ⟨p, j * 2, none⟩ (.bool (vt ps i))).setCell ⟨p, j * 2 + 1, none⟩ (.string (vb ps i))) tb f m p r v u ps (i + 1)) := by
  obtain ⟨vk, h1, h2⟩ := h.was
  have hb : W.heap[p]? = some (.cells (wagg vk) 72 (0, 0)) := by rw [hW.block p (lt_of_block h1) (by simp)]; exact h1
  have hr : W.heap[r]? = some (.cells (wagg u) 72 (0, 0)) := by rw [hW.block r (lt_of_block h.now) (by simp)]; exact h.now
  have hk : Kp [p] W ((W.setCell ⟨p, j * 2, none⟩ (.bool (vt ps i))).setCell ⟨p, j * 2 + 1, none⟩ (.string (vb ps i))) := ((Kp.refl [p] W).setCell (.inl (by simp)) _).setCell (.inl (by simp)) _
  refine ⟨⟨_, cell_of_block hb (wagg_at0 _ hj)⟩, ⟨_, cell_of_block hb (wagg_at1 _ hj)⟩, frozen_of_block _ hb, frozen_of_block _ hb, (h.tbx.kp0 hW).set hk (by simp), ?_, h.ne, upd vk j ⟨0, vt ps i, vb ps i⟩, ?_, ?_⟩
  · rw [hk.block r (lt_of_block hr) (by simp; exact fun e => h.ne e.symm)]; exact hr
  · rw [heap_setCell_at _ _ (heap_setCell_at _ _ hb)]
    rw [wagg_set vk hj ⟨0, vt ps i, vb ps i⟩]
  · rw [← h2, wvs_at hi, hv, Int.toNat_natCast]

theorem Lp1.done {w wr : World} {tb : Nat} {f : Nat → List Ver} {m p r : Nat} {v u : Nat → Ver} {ps : List Ver} {i : Nat} (h : Lp1 w wr tb f m p r v u ps i) (hi : ps.length ≤ i) (he : wagg (wvs v ps) = wagg u) : wr.heap[p]? = some (.cells (wagg u) 72 (0, 0)) := by
  obtain ⟨vk, h1, h2⟩ := h.was
  rw [List.drop_eq_nil_of_le hi] at h2
  rw [← he, ← h2]; exact h1

theorem shots_now' {f : Nat → List Ver} {n : Nat} {ps : List Ver} (h : Inv f n) (hc : wcode n ps = 0) : wagg (wvs (shw f n n 8) ps) = wagg (shw (wst f n ps) (n + 1) ((n + 1 : Nat) : Int) 8) := by
  have := shots_now h hc
  push_cast
  exact this

/-- Later commits: what was read behind the commit m stands. -/
def Lp2 (w wr : World) (tb r : Nat) (u : Nat → Ver) (f : Nat → List Ver) (m : Nat) : Prop :=
  ∃ f2 m2, Tbx w wr tb f2 m2 [r] ∧ wr.heap[r]? = some (.cells (wagg u) 72 (0, 0)) ∧ m ≤ m2 ∧ ∀ j : Nat, j < 8 → tr f2 m2 j m = tr f m j m

theorem lp2_write {w wr : World} {tb r : Nat} {u : Nat → Ver} {f : Nat → List Ver} {m : Nat} {b o n1 k : Nat} {st : Nat → TStep} (h : Lp2 w wr tb r u f m) (hs : StT w b o n1 st) (hk : k < n1) (h50 : (st k).ps.length ≤ 50) :
    Calls Try.prog 124 #[.pointer (some ⟨tb, 0, none⟩), .slice (st k).a (st k).ps.length (st k).c] wr fun e w' => ∃ x y, e = .returned (.tuple #[.int .i64 x, .int .i64 y]) ∧ Hid (Lp2 w w' tb r u f m) := by
  obtain ⟨f2, m2, h1, h2, h3, h4⟩ := h
  refine (tbx_write (st k).a (st k).c (st k).ps h1 ((hs.kp0 h1.kp) k hk).2.2.2 (by omega) (inside_of (hs k hk).2.2.2 _)).mono ?_
  rintro e w' ⟨rfl, t1, t2⟩
  refine ⟨_, _, rfl, _, _, unhide t1, ((unhide t2) r (by simp)).trans h2, ?_, fun j hj => ?_⟩
  · unfold wn; split <;> omega
  · rw [tr_later h1.inv _ (by omega) hj]; exact h4 j hj

theorem lp2_sheet {w wr : World} {tb r : Nat} {f : Nat → List Ver} {m : Nat} (h : Lp2 w wr tb r (shw f m m 8) f m) (hi : Inv f m) :
    Calls Try.prog 37 #[.pointer (some ⟨tb, 0, none⟩), .int .i64 m] wr fun e w' => e = .returned (.tuple #[.agg (wagg (shw f m m 8)), .bool true]) ∧ w'.heap[r]? = some (.cells (wagg (shw f m m 8)) 72 (0, 0)) ∧ Hid (Kp [] w w') := by
  obtain ⟨f2, m2, h1, h2, h3, h4⟩ := h
  refine (tbx_sheet (m : Int) h1).mono ?_
  rintro e w' ⟨k, hk, rfl, t1, t2⟩
  have e8 := (unhide hk).uniq ((shk_last hi).congr h4)
  subst e8
  refine ⟨by rw [shw_congr (Nat.le_refl _) h4]; simp, ?_, (unhide t1).kp⟩
  rw [(unhide t2).block r (lt_of_block h2) (by simp)]; exact h2

/-- A whole array out of a variable, behind a guard too. -/
theorem wpList_load66 {ops : Array Oper} {rest : List Oper} {o : Oper} {a : Act} {w : World} {Q : Exit → Act → World → Prop} (hw : Region.wanted o (yielded ops a.tmps) = true) (x : Operand) (ho : o.op = .load 72 x)
    (g : Nat) (hx : a.eval x = .pointer (some ⟨g, 0, none⟩)) (v : Nat → Ver) (hg : w.heap[g]? = some (.cells (wagg v) 72 (0, 0))) (h : wpList Try.prog ops Q rest (a.put o.dst (.agg (wagg v))) w) : wpList Try.prog ops Q (o :: rest) a w :=
  wpList_step fun K hK => by
    rw [if_pos hw]
    exact wp_load_row 72 x ho g hx 72 (wagg v) (0, 0) _ hg Try.underlying72 rfl Try.size72 (hK _ _ h)

theorem tbx_sheet_last {w0 w : World} {tb : Nat} {f : Nat → List Ver} {n : Nat} {X : List Nat} (h : Tbx w0 w tb f n X) :
    Calls Try.prog 37 #[.pointer (some ⟨tb, 0, none⟩), .int .i64 n] w fun e w' => e = .returned (.tuple #[.agg (wagg (shw f n n 8)), .bool true]) ∧ Hid (Tbx w0 w' tb f n X) ∧ Hid (SameX X w w') := by
  refine (tbx_sheet (n : Int) h).mono ?_
  rintro e w' ⟨k, hk, rfl, t1, t2⟩
  have e8 := (unhide hk).uniq (shk_last h.inv)
  subst e8
  exact ⟨by simp, t1, SameX.of_kp h (unhide t2)⟩
end Go.Proofs.Ytapmlleemopcnac
