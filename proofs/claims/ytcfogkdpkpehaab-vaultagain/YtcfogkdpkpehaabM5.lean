/- Vc, G5, Cc, Cd, Ce, Ho, Hp, Hq, Hs5, Hs1, Hs2: bound together for a claim. -/
import Derived.Test.YtcfogkdpkpehaabM4
/- Package vault, by contracts: New, Log, Crash, Begin, writes, Commit, tearLog, Tear. -/
namespace Go.Proofs.Ytcfogkdpkpehaab
open Go.RowKit
set_option maxRecDepth 20000
attribute [local go_sem ↓] Go.wp_at_zero Go.wp_at_succ

theorem vlt_new {w w1 w2 : World} {tb gb : Nat} {Ft Fg : List Nat} {f : Nat → List Ver} {n : Nat} {cs : List (List Ver)} {torn : List UInt8} (h1 : Tbl w.heap.size w1 tb Ft f n) (k1 : Kp [] w w1) (h2 : Lg w1.heap.size w2 gb Fg cs torn) (k2 : Kp [] w1 w2) :
    Vlt w.heap.size (w2.alloc (.cells #[.pointer (some ⟨tb, 0, none⟩), .pointer (some ⟨gb, 0, none⟩)] 86)) w2.heap.size tb gb (w2.heap.size :: (Ft ++ Fg)) Ft Fg f n cs torn := by
  have ka : Kp [] w2 (w2.alloc (.cells #[.pointer (some ⟨tb, 0, none⟩), .pointer (some ⟨gb, 0, none⟩)] 86)) := (Kp.refl [] w2).alloc _
  have hs1 := k1.size
  have hs2 := k2.size
  have hsa : (w2.alloc (.cells #[.pointer (some ⟨tb, 0, none⟩), .pointer (some ⟨gb, 0, none⟩)] 86)).heap.size = w2.heap.size + 1 := by simp
  refine ⟨heap_alloc_new w2 _, (h1.kp0 k2).kp0 ka, (h2.base hs1).kp0 ka, fun hm => ?_, fun hm => ?_, fun x hx hm => ?_, by simp, fun x hx => by simp [hx], fun x hx => by simp [hx], fun x hx => ?_⟩
  · have := (h1.lo _ hm).2; omega
  · have := (h2.lo _ hm).2; omega
  · have := (h1.lo x hx).2
    have := (h2.lo x hm).1
    omega
  · rw [hsa]
    rcases List.mem_cons.1 hx with e | e
    · omega
    · rcases List.mem_append.1 e with e | e
      · have := h1.lo x e; omega
      · have := h2.lo x e; omega

theorem own_addr1 {B : Nat} {w : World} {e : TypeId} {size n cap : Nat} {a : Option Addr} {xs : List Value} (h : w.ownsRow B e size (.slice a n cap) n xs) : ∀ g o, a = some ⟨g, o, none⟩ → B ≤ g ∧ g < w.heap.size := by
  intro g o ea
  subst ea
  exact h.lt g rfl
theorem addr_ob {a : Option Addr} {P : Nat → Prop} (h : ∀ x ∈ ob a, P x) : ∀ g o, a = some ⟨g, o, none⟩ → P g := by
  rintro g o rfl
  exact h g (by simp [ob])

set_option maxHeartbeats 400000 in
theorem vnew (w : World) : Calls Try.prog 72 #[] w fun e w' => ∃ vb tb gb F, e = .returned (.pointer (some ⟨vb, 0, none⟩)) ∧ (VltT vb tb gb (fun _ => [dv]) 0 [] []).holds w.heap.size w' F ∧ Kp [] w w' := by
  go_enter Try.func72, Try.ntmps72
  go_wp2_with fail
  refine (tnew47 w).mono ?_
  rintro e w1 ⟨rfl, ⟨Ft, hT⟩, hk1⟩
  have HT := hide hT
  have HK1 := hide hk1
  clear hT hk1
  generalize ht : w.heap.size = tb at HT ⊢
  have HTB := hide ht
  clear ht
  go_wp2_with fail
  refine (lnew w1).mono ?_
  rintro e w2 ⟨rfl, hL, hk2⟩
  have HL := hide hL
  have HK2 := hide hk2
  clear hL hk2
  generalize hg : w1.heap.size = gb at HL ⊢
  have HGB := hide hg
  clear hg
  go_wp2_with fail
  go_ret
  have e1 := (unhide HTB).symm
  subst e1
  have e2 := (unhide HGB).symm
  subst e2
  exact ⟨_, _, _, _, rfl, ⟨_, _, vlt_new (unhide HT) (unhide HK1) (unhide HL) (unhide HK2)⟩, ((unhide HK1).trans0 (unhide HK2)).alloc _⟩

set_option maxHeartbeats 400000 in
theorem vlog {B vb tb gb n : Nat} {F Ft Fg : List Nat} {f : Nat → List Ver} {cs : List (List Ver)} {torn : List UInt8} (w : World) (h : Vlt B w vb tb gb F Ft Fg f n cs torn) :
    Calls Try.prog 45 #[.pointer (some ⟨vb, 0, none⟩)] w fun e w' => BtEnd (lb cs ++ torn) w e w' := by
  have c1 := h.c1
  have HG := hide h.g
  clear h
  go_enter Try.func45, Try.ntmps45
  go_wp2_with fail
  refine (lbytes w (unhide HG)).mono ?_
  rintro e w1 ⟨a, nb, cap, rfl, q⟩
  have HQ := hide q
  clear q
  go_wp2_with fail
  go_ret
  exact ⟨a, nb, cap, rfl, unhide HQ⟩

set_option maxHeartbeats 400000 in
theorem vcrash {B vb tb gb n : Nat} {F Ft Fg : List Nat} {f : Nat → List Ver} {cs : List (List Ver)} {torn : List UInt8} (w : World) (h : Vlt B w vb tb gb F Ft Fg f n cs torn) :
    Calls Try.prog 47 #[.pointer (some ⟨vb, 0, none⟩)] w fun e w' => e = .returned (.tuple #[]) ∧ ∃ tb', Ch (VltT vb tb' gb (wal0 cs) cs.length cs []) B w F w' := by
  have c1 := h.c1
  have HI := hide h.g.inv
  have HV := hide h
  have HG := hide h.g
  clear h
  go_enter Try.func47, Try.ntmps47
  go_wp2_with fail
  refine (lmend w (unhide HG)).mono ?_
  rintro e w1 ⟨rfl, hL, hk⟩
  obtain ⟨F1, ⟨Ft1, Fg1, h1⟩, k1, s1⟩ := (unhide HV).log ⟨Fg, hL, hk, fun x hx => .inl hx⟩
  have d1 := h1.c1
  have H1 := hide h1
  have K1 := hide k1
  have S1 := hide s1
  clear h1 k1 s1 c1 HG HV hL hk
  go_wp2_with fail
  refine (lbytes w1 (unhide H1).g).mono ?_
  rintro e w2 ⟨a, nb, cap, rfl, hn, hcap, hbyt, hk2⟩
  have HN := hide hn
  have HB := hide hbyt
  have K2 := hide hk2
  have HC := hide hcap
  clear hn hbyt hk2 hcap
  go_wp2_with fail
  refine (ltable25 a nb cap (lb cs ++ []) w2 (unhide HB) (unhide HN) (unhide HC) (by rw [List.append_nil]; have := (unhide HI).b3000; omega)).mono ?_
  rintro e w3 ⟨tb', Ft', p, rfl, hp, hT, hk3⟩
  have K3 := hide hk3
  have HT := hide hT
  rw [List.append_nil, dcs_all (unhide HI)] at HT
  have h3 := (unhide H1).kp0 ((unhide K2).trans0 hk3)
  have d0 := h3.c0
  have f0 := h3.fz 0
  clear h3 hT hk3 hp d1
  go_wp2_with fail
  go_end0
  exact ⟨rfl, tb', Ch.trans (unhide K1) (unhide S1) ((unhide H1).put ((unhide K2).trans0 (unhide K3)) ((unhide HT).base (unhide K2).size))⟩

set_option maxHeartbeats 400000 in
theorem vwrites {B vb tb gb n db : Nat} {F Ft Fg : List Nat} {f : Nat → List Ver} {cs : List (List Ver)} {torn : List UInt8} {md y : Int} {rs : List Int} {ws : List Ver} (w : World) (h : Vlt B w vb tb gb F Ft Fg f n cs torn) (hd : Ded w db md y rs ws) :
    Calls Try.prog 86 #[.pointer (some ⟨vb, 0, none⟩), .pointer (some ⟨db, 0, none⟩)] w fun e w' => LstEnd (if dm f md y rs ws = 0 then wk ws 8 else [], dm f md y rs ws) w e w' := by
  have c0 := h.c0
  have HM := hide (dmay68 w h.t hd)
  have HD := hide hd
  clear h hd
  generalize dm f md y rs ws = z at *
  by_cases hz : z = 0
  · subst hz
    rw [if_pos rfl]
    go_enter Try.func86, Try.ntmps86
    go_wp2_with fail
    refine (unhide HM).mono ?_
    rintro e w1 ⟨rfl, hk1⟩
    have HK1 := hide hk1
    clear hk1 HM
    go_wp2_with fail
    refine (dwrites66 w1 ((unhide HD).kp0 (unhide HK1))).mono ?_
    rintro e w2 ⟨a, cap, rfl, ho, hk2⟩
    have HO := hide ho
    have HK2 := hide hk2
    clear ho hk2
    go_wp2_with fail
    go_ret2
    exact ⟨a, cap, rfl, own_base (unhide HO) (unhide HK1).size, (unhide HK1).trans0 (unhide HK2)⟩
  · rw [if_neg hz]
    go_enter Try.func86, Try.ntmps86
    go_wp2_with fail
    refine (unhide HM).mono ?_
    rintro e w1 ⟨rfl, hk1⟩
    have HK1 := hide hk1
    clear hk1 HM
    go_wp2_with fail
    go_ret2
    exact ⟨none, 0, rfl, World.ownsRow_nil _ _ _ _, unhide HK1⟩

/-- What Begin tells, and leaves. -/
def VbEnd (f : Nat → List Ver) (n : Nat) (md at_ : Int) (w : World) (e : Ending) (w' : World) : Prop :=
  (bcode f n md at_ = 0 ∧ ∃ D, e = .returned (.tuple #[.pointer (some ⟨D, 0, none⟩), .int .i64 0]) ∧ w.heap.size ≤ D ∧ Ded w' D md (bat n md at_) [] [] ∧ Kp [] w w') ∨
  (¬ bcode f n md at_ = 0 ∧ e = .returned (.tuple #[.pointer none, .int .i64 (bcode f n md at_)]) ∧ Kp [] w w')

set_option maxHeartbeats 1000000 in
theorem vbegin {B vb tb gb n : Nat} {F Ft Fg : List Nat} {f : Nat → List Ver} {cs : List (List Ver)} {torn : List UInt8} (md at_ : Int) (w : World) (h : Vlt B w vb tb gb F Ft Fg f n cs torn) :
    Calls Try.prog 48 #[.pointer (some ⟨vb, 0, none⟩), .int .i64 md, .int .i64 at_] w fun e w' => VbEnd f n md at_ w e w' := by
  have c0 := h.c0
  have HT := hide h.t
  obtain ⟨x0, x1⟩ := fmx_le h.t.inv 8 (Nat.le_refl _)
  have hn40 := h.t.inv.n40
  clear h
  by_cases hm : 1 ≤ md ∧ md ≤ 3
  · by_cases h3 : md = 3
    · subst h3
      by_cases hr : at_ < 0 ∨ (n : Int) < at_
      · have hb : bcode f n 3 at_ = 1 := by unfold bcode; rw [if_pos (by omega), if_pos rfl, if_pos hr]
        unfold VbEnd
        rw [hb]
        clear hb
        rcases hr with hr | hr
        · go_enter Try.func48, Try.ntmps48
          go_wp2_with fail
          refine (dnew54 3 at_ w).mono ?_
          rintro e w1 (⟨_, _, rfl, hd, hk⟩ | ⟨hc, _, _⟩)
          rotate_left
          · exact (hc ⟨by omega, by omega⟩).elim
          have HD := hide hd
          have HK := hide hk
          have HT1 := hide ((unhide HT).kp0 hk)
          have d0 : w1.cell? ⟨vb, 0, none⟩ = some (.pointer (some ⟨tb, 0, none⟩)) := hk.cell (by simp) c0
          clear hd hk c0 HT
          generalize hD : w.heap.size = D at HD ⊢
          have HE := hide hD
          clear hD
          go_wp2_with fail
          go_ret2
          exact .inr ⟨by omega, rfl, unhide HK⟩
        · have hr0 : ¬ at_ < 0 := by omega
          go_enter Try.func48, Try.ntmps48
          go_wp2_with fail
          refine (dnew54 3 at_ w).mono ?_
          rintro e w1 (⟨_, _, rfl, hd, hk⟩ | ⟨hc, _, _⟩)
          rotate_left
          · exact (hc ⟨by omega, by omega⟩).elim
          have HD := hide hd
          have HK := hide hk
          have HT1 := hide ((unhide HT).kp0 hk)
          have d0 : w1.cell? ⟨vb, 0, none⟩ = some (.pointer (some ⟨tb, 0, none⟩)) := hk.cell (by simp) c0
          clear hd hk c0 HT
          generalize hD : w.heap.size = D at HD ⊢
          have HE := hide hD
          clear hD
          go_wp2_with fail
          refine (tlast38 w1 (unhide HT1)).mono ?_
          rintro e w2 ⟨rfl, hw⟩
          subst w2
          go_wp2_with fail
          go_ret2
          exact .inr ⟨by omega, rfl, unhide HK⟩
      · by_cases ho : at_ < fmx f 8
        · have hb : bcode f n 3 at_ = 12 := by unfold bcode; rw [if_pos (by omega), if_pos rfl, if_neg hr, if_pos ho]
          unfold VbEnd
          rw [hb]
          clear hb
          have hr0 : ¬ at_ < 0 := by omega
          have hr1 : ¬ (n : Int) < at_ := by omega
          go_enter Try.func48, Try.ntmps48
          go_wp2_with fail
          refine (dnew54 3 at_ w).mono ?_
          rintro e w1 (⟨_, _, rfl, hd, hk⟩ | ⟨hc, _, _⟩)
          rotate_left
          · exact (hc ⟨by omega, by omega⟩).elim
          have HD := hide hd
          have HK := hide hk
          have HT1 := hide ((unhide HT).kp0 hk)
          have d0 : w1.cell? ⟨vb, 0, none⟩ = some (.pointer (some ⟨tb, 0, none⟩)) := hk.cell (by simp) c0
          clear hd hk c0 HT
          generalize hD : w.heap.size = D at HD ⊢
          have HE := hide hD
          clear hD
          go_wp2_with fail
          refine (tlast38 w1 (unhide HT1)).mono ?_
          rintro e w2 ⟨rfl, hw⟩
          subst w2
          go_wp2_with fail
          refine (tfirst42 w1 (unhide HT1)).mono ?_
          rintro e w2 ⟨rfl, hw⟩
          subst w2
          go_wp2_with fail
          go_ret2
          exact .inr ⟨by omega, rfl, unhide HK⟩
        · have hb : bcode f n 3 at_ = 0 := by unfold bcode; rw [if_pos (by omega), if_pos rfl, if_neg hr, if_neg ho]
          unfold VbEnd
          rw [hb]
          clear hb
          have hr0 : ¬ at_ < 0 := by omega
          have hr1 : ¬ (n : Int) < at_ := by omega
          go_enter Try.func48, Try.ntmps48
          go_wp2_with fail
          refine (dnew54 3 at_ w).mono ?_
          rintro e w1 (⟨_, _, rfl, hd, hk⟩ | ⟨hc, _, _⟩)
          rotate_left
          · exact (hc ⟨by omega, by omega⟩).elim
          have HD := hide hd
          have HK := hide hk
          have HT1 := hide ((unhide HT).kp0 hk)
          have d0 : w1.cell? ⟨vb, 0, none⟩ = some (.pointer (some ⟨tb, 0, none⟩)) := hk.cell (by simp) c0
          clear hd hk c0 HT
          generalize hD : w.heap.size = D at HD ⊢
          have HE := hide hD
          clear hD
          go_wp2_with fail
          refine (tlast38 w1 (unhide HT1)).mono ?_
          rintro e w2 ⟨rfl, hw⟩
          subst w2
          go_wp2_with fail
          refine (tfirst42 w1 (unhide HT1)).mono ?_
          rintro e w2 ⟨rfl, hw⟩
          subst w2
          go_wp2_with fail
          go_ret2
          exact .inl ⟨by trivial, D, rfl, by have := unhide HE; omega, by rw [show bat n 3 at_ = at_ from if_pos rfl]; exact unhide HD, unhide HK⟩
    · have hb : bcode f n md at_ = 0 := by unfold bcode; rw [if_pos hm, if_neg h3]
      unfold VbEnd
      rw [hb]
      clear hb
      have hr0 : ¬ (n : Int) < 0 := by omega
      have hr1 : ¬ (n : Int) < (n : Int) := by omega
      have hr2 : ¬ (n : Int) < fmx f 8 := by omega
      go_enter Try.func48, Try.ntmps48
      go_wp2_with fail
      refine (tlast38 w (unhide HT)).mono ?_
      rintro e w0 ⟨rfl, hw⟩
      subst w0
      go_wp2_with fail
      refine (dnew54 md n w).mono ?_
      rintro e w1 (⟨_, _, rfl, hd, hk⟩ | ⟨hc, _, _⟩)
      rotate_left
      · exact (hc ⟨by omega, by omega⟩).elim
      have HD := hide hd
      have HK := hide hk
      have HT1 := hide ((unhide HT).kp0 hk)
      have d0 : w1.cell? ⟨vb, 0, none⟩ = some (.pointer (some ⟨tb, 0, none⟩)) := hk.cell (by simp) c0
      clear hd hk c0 HT
      generalize hD : w.heap.size = D at HD ⊢
      have HE := hide hD
      clear hD
      go_wp2_with fail
      refine (tlast38 w1 (unhide HT1)).mono ?_
      rintro e w2 ⟨rfl, hw⟩
      subst w2
      go_wp2_with fail
      refine (tfirst42 w1 (unhide HT1)).mono ?_
      rintro e w2 ⟨rfl, hw⟩
      subst w2
      go_wp2_with fail
      go_ret2
      exact .inl ⟨by trivial, D, rfl, by have := unhide HE; omega, by rw [show bat n md at_ = n from if_neg h3]; exact unhide HD, unhide HK⟩
  · have hb : bcode f n md at_ = 3 := by unfold bcode; rw [if_neg hm]
    have h3 : ¬ md = 3 := by omega
    unfold VbEnd
    rw [hb]
    clear hb
    go_enter Try.func48, Try.ntmps48
    go_wp2_with fail
    refine (tlast38 w (unhide HT)).mono ?_
    rintro e w0 ⟨rfl, hw⟩
    subst w0
    go_wp2_with fail
    refine (dnew54 md n w).mono ?_
    rintro e w1 (⟨q1, q2, _⟩ | ⟨_, rfl, hw⟩)
    · exact (hm ⟨q1, q2⟩).elim
    subst w1
    go_wp2_with fail
    go_ret2
    exact .inr ⟨by omega, rfl, Kp.refl _ _⟩

set_option maxHeartbeats 1000000 in
theorem vcommit {B vb tb gb n db : Nat} {F Ft Fg : List Nat} {f : Nat → List Ver} {cs : List (List Ver)} {md y : Int} {rs : List Int} {ws : List Ver} (w : World) (h : Vlt B w vb tb gb F Ft Fg f n cs []) (hv : VI f n cs) (hd : Ded w db md y rs ws) (hw : WOk ws) :
    Calls Try.prog 54 #[.pointer (some ⟨vb, 0, none⟩), .pointer (some ⟨db, 0, none⟩)] w fun e w' => e = .returned (.tuple #[.int .i64 (vnum f n cs md y rs ws), .int .i64 (vcode f cs md y rs ws)]) ∧ Ch (VltT vb tb gb (vf f n cs md y rs ws) (vn f n cs md y rs ws) (vcs f cs md y rs ws) []) B w F w' := by
  have HW := hide (vwrites w h hd)
  have HV := hide h
  have hpl := wk_len ws 8
  have HP := hide hw.pf
  have HR := hide hv
  have hn40 := h.t.inv.n40
  clear h hd hw hv
  by_cases hz : dm f md y rs ws = 0
  · rw [if_pos hz, hz] at HW
    by_cases hl : (wk ws 8).length = 0
    · obtain ⟨e1, e2⟩ := v_none (cs := cs) hz hl
      obtain ⟨e3, e4, e5, e6⟩ := v_not (n := n) e2
      rw [e1, e3, e4, e5, e6]
      clear e1 e2 e3 e4 e5 e6 HR HP
      go_enter Try.func54, Try.ntmps54
      go_wp2_with fail
      refine (unhide HW).mono ?_
      rintro e w1 ⟨a, cap, rfl, _, hk⟩
      rw [hl]
      have HK := hide hk
      clear hk hl
      go_wp2_with fail
      go_ret2
      exact ⟨rfl, Ch.same ⟨Ft, Fg, unhide HV⟩ (unhide HK)⟩
    · have HL := hide hl
      by_cases hc : lcode cs (wk ws 8) = 0
      · obtain ⟨e1, e2⟩ := v_yes hz hl hc
        obtain ⟨e3, e4, e5, e6⟩ := v_did (n := n) e2
        rw [e1, e3, e4, e5, e6]
        clear e1 e2 e3 e4 e5 e6
        obtain ⟨q1, q2, q3⟩ := (unhide HR).room hc
        have hlp : lput cs (wk ws 8) = cs ++ [wk ws 8] := by unfold lput; rw [if_pos hc]
        have HLP := hide hlp
        have HC := hide hc
        have HQ := hide (And.intro q1 (And.intro q2 q3))
        clear q1 q2 q3 hlp hc hz
        generalize wk ws 8 = ps at *
        go_enter Try.func54, Try.ntmps54
        go_wp2_with fail
        refine (unhide HW).mono ?_
        rintro e w1 ⟨a, cap, rfl, ho, hk⟩
        dsimp only at ho ⊢
        have h1 := (unhide HV).kp0 hk
        have d1 := h1.c1
        have HPR := hide (slo_prs (slo_own ho rfl) (unhide HP))
        have HO := hide ho
        have H1 := hide h1
        have HK := hide hk
        clear ho h1 hk HW
        go_wp2_with fail
        refine (lput31 a cap ps w1 (unhide H1).g (unhide HPR) (by omega)).mono ?_
        rintro e w2 ⟨rfl, hL⟩
        rw [unhide HC]
        rw [unhide HLP] at hL
        obtain ⟨F2, ⟨Ft2, Fg2, h2⟩, k2, s2⟩ := (unhide H1).log hL
        have hfar : ∀ g o, a = some ⟨g, o, none⟩ → g ∉ F := fun g o ea hm => by
          have h3 := (own_addr1 (unhide HO) g o ea).1
          have h4 := ((unhide HV).lo g hm).2
          omega
        have hfar2 : ∀ g o, a = some ⟨g, o, none⟩ → g ∉ Ft2 := fun g o ea hm => by
          rcases s2 g (h2.tF g hm) with e | e
          · exact hfar g o ea e
          · have h3 := (own_addr1 (unhide HO) g o ea).2
            omega
        have HPR2 := hide ((unhide HPR).kp k2 hfar)
        have HFAR := hide hfar2
        have d0 := h2.c0
        have H2 := hide h2
        have K2 := hide k2
        have S2 := hide s2
        clear h2 k2 s2 hL hfar hfar2 d1
        go_wp2_with fail
        refine (twrite45 a cap ps w2 (unhide H2).t (unhide HPR2) (fun _ => unhide HFAR) (by omega)).mono ?_
        rintro e w3 ⟨rfl, Ft3, hT, hk3, hs3⟩
        rw [(unhide HQ).1, (unhide HQ).2.2]
        rw [(unhide HQ).2.1] at hT
        have HZ := hide (Ch.after (unhide HK) (Ch.trans (unhide K2) (unhide S2) ((unhide H2).table hT hk3 hs3)))
        clear hT hk3 hs3
        go_wp2_with fail
        go_ret2
        exact ⟨rfl, unhide HZ⟩
      · obtain ⟨e1, e2⟩ := v_full hz hl hc
        obtain ⟨e3, e4, e5, e6⟩ := v_not (n := n) e2
        rw [e1, e3, e4, e5, e6]
        clear e1 e2 e3 e4 e5 e6
        have hlp : lput cs (wk ws 8) = cs := by unfold lput; rw [if_neg hc]
        have HLP := hide hlp
        clear hlp hz
        generalize hzz : lcode cs (wk ws 8) = z at *
        have HZZ := hide hzz
        clear hzz
        generalize wk ws 8 = ps at *
        go_enter Try.func54, Try.ntmps54
        go_wp2_with fail
        refine (unhide HW).mono ?_
        rintro e w1 ⟨a, cap, rfl, ho, hk⟩
        dsimp only at ho ⊢
        have h1 := (unhide HV).kp0 hk
        have d1 := h1.c1
        have HPR := hide (slo_prs (slo_own ho rfl) (unhide HP))
        have H1 := hide h1
        have HK := hide hk
        clear ho h1 hk HW
        go_wp2_with fail
        refine (lput31 a cap ps w1 (unhide H1).g (unhide HPR) (by omega)).mono ?_
        rintro e w2 ⟨rfl, hL⟩
        rw [unhide HZZ]
        rw [unhide HLP] at hL
        have HX := hide (Ch.after (unhide HK) ((unhide H1).log hL))
        clear hL d1
        go_wp2_with fail
        go_ret2
        exact ⟨rfl, unhide HX⟩
  · rw [if_neg hz] at HW
    obtain ⟨e1, e2⟩ := v_may (cs := cs) hz
    obtain ⟨e3, e4, e5, e6⟩ := v_not (n := n) e2
    rw [e1, e3, e4, e5, e6]
    clear e1 e2 e3 e4 e5 e6 HR HP
    generalize dm f md y rs ws = z at *
    go_enter Try.func54, Try.ntmps54
    go_wp2_with fail
    refine (unhide HW).mono ?_
    rintro e w1 ⟨a, cap, rfl, _, hk⟩
    have HK := hide hk
    clear hk HW
    go_wp2_with fail
    go_ret2
    exact ⟨rfl, Ch.same ⟨Ft, Fg, unhide HV⟩ (unhide HK)⟩

set_option maxHeartbeats 1000000 in
theorem vtearLog {B vb tb gb n db : Nat} {F Ft Fg : List Nat} {f : Nat → List Ver} {cs : List (List Ver)} {md y : Int} {rs : List Int} {ws : List Ver} (keep : Int) (w : World) (h : Vlt B w vb tb gb F Ft Fg f n cs []) (hd : Ded w db md y rs ws) (hw : WOk ws) :
    Calls Try.prog 85 #[.pointer (some ⟨vb, 0, none⟩), .pointer (some ⟨db, 0, none⟩), .int .i64 keep] w fun e w' => e = .returned (.int .i64 (vcode f cs md y rs ws)) ∧ ∃ torn, Ch (VltT vb tb gb f n (tcs f cs md y rs ws keep) torn) B w F w' := by
  have HW := hide (vwrites w h hd)
  have HV := hide h
  have hpl := wk_len ws 8
  have HP := hide hw.pf
  clear h hd hw
  by_cases hz : dm f md y rs ws = 0
  · rw [if_pos hz, hz] at HW
    by_cases hl : (wk ws 8).length = 0
    · rw [(v_none (cs := cs) hz hl).1, t_none (f := f) (cs := cs) (md := md) (y := y) (rs := rs) (keep := keep) hl]
      clear HP
      go_enter Try.func85, Try.ntmps85
      go_wp2_with fail
      refine (unhide HW).mono ?_
      rintro e w1 ⟨a, cap, rfl, _, hk⟩
      rw [hl]
      have HK := hide hk
      clear hk hl
      go_wp2_with fail
      go_ret
      exact ⟨rfl, [], Ch.same ⟨Ft, Fg, unhide HV⟩ (unhide HK)⟩
    · have hvc : vcode f cs md y rs ws = lcode cs (wk ws 8) := by unfold vcode; rw [if_pos hz, if_neg hl]
      rw [hvc, t_tear hz hl]
      clear hvc hz
      generalize wk ws 8 = ps at *
      go_enter Try.func85, Try.ntmps85
      go_wp2_with fail
      refine (unhide HW).mono ?_
      rintro e w1 ⟨a, cap, rfl, ho, hk⟩
      dsimp only at ho ⊢
      have h1 := (unhide HV).kp0 hk
      have d1 := h1.c1
      have HPR := hide (slo_prs (slo_own ho rfl) (unhide HP))
      have H1 := hide h1
      have HK := hide hk
      clear ho h1 hk HW
      go_wp2_with fail
      refine (ltear30 a cap ps keep w1 (unhide H1).g (unhide HPR) (by omega)).mono ?_
      rintro e w2 ⟨rfl, hL⟩
      have HX := hide (Ch.after (unhide HK) ((unhide H1).log hL))
      clear hL d1
      go_wp2_with fail
      go_ret
      exact ⟨rfl, _, unhide HX⟩
  · rw [if_neg hz] at HW
    rw [(v_may (cs := cs) hz).1, t_may hz]
    clear HP
    generalize dm f md y rs ws = z at *
    go_enter Try.func85, Try.ntmps85
    go_wp2_with fail
    refine (unhide HW).mono ?_
    rintro e w1 ⟨a, cap, rfl, _, hk⟩
    have HK := hide hk
    clear hk HW
    go_wp2_with fail
    go_ret
    exact ⟨rfl, [], Ch.same ⟨Ft, Fg, unhide HV⟩ (unhide HK)⟩

set_option maxHeartbeats 1000000 in
theorem vtear {B vb tb gb n db : Nat} {F Ft Fg : List Nat} {f : Nat → List Ver} {cs : List (List Ver)} {md y : Int} {rs : List Int} {ws : List Ver} (keep : Int) (w : World) (h : Vlt B w vb tb gb F Ft Fg f n cs []) (hv : VI f n cs) (hd : Ded w db md y rs ws) (hw : WOk ws) :
    Calls Try.prog 52 #[.pointer (some ⟨vb, 0, none⟩), .pointer (some ⟨db, 0, none⟩), .int .i64 keep] w fun e w' => e = .returned (.tuple #[.int .i64 (tnum f cs md y rs ws keep), .int .i64 (vcode f cs md y rs ws)]) ∧ ∃ tb', Ch (VltT vb tb' gb (wal0 (tcs f cs md y rs ws keep)) (tcs f cs md y rs ws keep).length (tcs f cs md y rs ws keep) []) B w F w' := by
  have HG := hide (vtearLog keep w h hd hw)
  have c0 := h.c0
  have HV := hide h
  have hn40 := h.t.inv.n40
  have hlen := hv.len
  clear h hd hw hv
  rcases tcs_cases (f := f) (cs := cs) (md := md) (y := y) (rs := rs) (ws := ws) (keep := keep) with hcs | ⟨hcs, hc0, _⟩
  · rw [tnum_same hcs]
    have HCS := hide hcs
    rw [hcs]
    clear hcs
    have HLEN := hide hlen
    clear hlen
    generalize hzz : vcode f cs md y rs ws = z at *
    clear hzz
    by_cases hz : z = 0
    · subst hz
      go_enter Try.func52, Try.ntmps52
      go_wp2_with fail
      refine (tlast38 w (unhide HV).t).mono ?_
      rintro e w0 ⟨rfl, hw0⟩
      subst w0
      go_wp2_with fail
      refine (unhide HG).mono ?_
      rintro e w1 ⟨rfl, torn, F1, ⟨Ft1, Fg1, h1⟩, k1, s1⟩
      have H1 := hide h1
      have K1 := hide k1
      have S1 := hide s1
      clear h1 k1 s1 HG
      rw [unhide HCS] at H1
      go_wp2_with fail
      refine (vcrash w1 (unhide H1)).mono ?_
      rintro e w2 ⟨rfl, tb2, F2, ⟨Ft2, Fg2, h2⟩, k2, s2⟩
      have d0 := h2.c0
      have H2 := hide h2
      have HX := hide (Ch.trans (o' := VltT vb tb2 gb (wal0 cs) cs.length cs []) (unhide K1) (unhide S1) ⟨F2, ⟨Ft2, Fg2, h2⟩, k2, s2⟩)
      clear h2 k2 s2 c0
      go_wp2_with fail
      refine (tlast38 w2 (unhide H2).t).mono ?_
      rintro e w3 ⟨rfl, hw3⟩
      subst w3
      rw [← unhide HLEN]
      go_wp2_with fail
      go_ret2
      exact ⟨rfl, tb2, unhide HX⟩
    · go_enter Try.func52, Try.ntmps52
      go_wp2_with fail
      refine (tlast38 w (unhide HV).t).mono ?_
      rintro e w0 ⟨rfl, hw0⟩
      subst w0
      go_wp2_with fail
      refine (unhide HG).mono ?_
      rintro e w1 ⟨rfl, torn, F1, ⟨Ft1, Fg1, h1⟩, k1, s1⟩
      have H1 := hide h1
      have K1 := hide k1
      have S1 := hide s1
      clear h1 k1 s1 HG
      rw [unhide HCS] at H1
      go_wp2_with fail
      refine (vcrash w1 (unhide H1)).mono ?_
      rintro e w2 ⟨rfl, tb2, F2, ⟨Ft2, Fg2, h2⟩, k2, s2⟩
      have d0 := h2.c0
      have H2 := hide h2
      have HX := hide (Ch.trans (o' := VltT vb tb2 gb (wal0 cs) cs.length cs []) (unhide K1) (unhide S1) ⟨F2, ⟨Ft2, Fg2, h2⟩, k2, s2⟩)
      clear h2 k2 s2 c0
      go_wp2_with fail
      go_ret2
      exact ⟨rfl, tb2, unhide HX⟩
  · rw [tnum_more hcs, hc0]
    rw [hc0] at HG
    have HCS := hide hcs
    rw [hcs]
    clear hcs hc0
    have HLEN := hide hlen
    have hN : ¬ ((cs ++ [wk ws 8]).length : Int) = (n : Int) := by have : (cs ++ [wk ws 8]).length = cs.length + 1 := (by simp); omega
    have hN2 : ((cs ++ [wk ws 8]).length : Int) = (cs.length : Int) + 1 := by simp
    generalize cs ++ [wk ws 8] = cs2 at *
    have HN2 := hide hN2
    clear hlen hN2
    go_enter Try.func52, Try.ntmps52
    go_wp2_with fail
    refine (tlast38 w (unhide HV).t).mono ?_
    rintro e w0 ⟨rfl, hw0⟩
    subst w0
    go_wp2_with fail
    refine (unhide HG).mono ?_
    rintro e w1 ⟨rfl, torn, F1, ⟨Ft1, Fg1, h1⟩, k1, s1⟩
    have H1 := hide h1
    have K1 := hide k1
    have S1 := hide s1
    clear h1 k1 s1 HG
    rw [unhide HCS] at H1
    go_wp2_with fail
    refine (vcrash w1 (unhide H1)).mono ?_
    rintro e w2 ⟨rfl, tb2, F2, ⟨Ft2, Fg2, h2⟩, k2, s2⟩
    have d0 := h2.c0
    have H2 := hide h2
    have HX := hide (Ch.trans (o' := VltT vb tb2 gb (wal0 cs2) cs2.length cs2 []) (unhide K1) (unhide S1) ⟨F2, ⟨Ft2, Fg2, h2⟩, k2, s2⟩)
    clear h2 k2 s2 c0
    go_wp2_with fail
    refine (tlast38 w2 (unhide H2).t).mono ?_
    rintro e w3 ⟨rfl, hw3⟩
    subst w3
    go_wp2_with fail
    refine (tlast38 w2 (unhide H2).t).mono ?_
    rintro e w3 ⟨rfl, hw3⟩
    subst w3
    go_wp2_with fail
    go_ret2
    exact ⟨by rw [unhide HN2]; rfl, tb2, unhide HX⟩

end Go.Proofs.Ytcfogkdpkpehaab

/- May of the document's deed, by its contract. -/
namespace Go.Proofs.Ytcfogkdpkpehaab
open Go.RowKit
set_option maxRecDepth 20000
attribute [local go_sem ↓] Go.wp_at_zero Go.wp_at_succ

theorem snc_key {f : Nat → List Ver} {k : Nat} (hk : k < 8) : snc f k = va (f k) ((f k).length - 1) := by
  unfold snc
  rw [if_pos (by simp [keyB]; omega), Int.toNat_natCast]
theorem sl_last {B : Nat} {w : World} {sb : Nat} {G : List Nat} {g o cap : Nat → Nat} {f : Nat → List Ver} {n : Nat} {k : Nat} (W : World) (h : ShtL B w sb G g o cap f n) (hW : Kp [] w W) (hk : k < 8) (s : Int) (hs : snc f k = s) :
    Calls Try.prog 91 #[.slice (some ⟨g k, o k, none⟩) (f k).length (cap k)] W fun e w' => e = .returned (.int .i64 s) ∧ w' = W := by
  have h' := h.kp hW (fun _ _ => by simp)
  refine (llast16 (g k) (o k) (cap k) W (h'.sla k hk) (h'.inv.pos k hk) (by have := h'.inv.len41 hk; omega)).mono ?_
  rintro e w' ⟨rfl, rfl⟩
  exact ⟨by rw [← hs, snc_key hk], rfl⟩

set_option maxHeartbeats 2000000 in
theorem wmay69 {B sb n wb : Nat} {G H : List Nat} {f : Nat → List Ver} {md y : Int} {rs : List Int} {ws : List Ver} (w : World) (h : Sht B w sb G f n) (hd : Wrk B w wb H md y rs ws) (hrl : rs.length ≤ 900) (hwl : ws.length ≤ 900) :
    Calls Try.prog 97 #[.pointer (some ⟨wb, 0, none⟩), .pointer (some ⟨sb, 0, none⟩)] w fun e w' => e = .returned (.int .i64 (dm f md y rs ws)) ∧ Kp [] w w' := by
  obtain ⟨g, o, cap, h⟩ := h
  have HT := hide h
  have HD := hide hd
  clear h hd
  have HC0 : Hid (cls f y ws 0 = false) := rfl
  go_enter Try.func97, Try.ntmps97
  go_wp2_with fail
  go_loopw [5] (fun i wr => ∃ k : Nat, k ≤ 8 ∧ i = .int .i64 k ∧ Hid (cls f y ws k = false) ∧ Hid (Kp [] w wr)) (fun i _ => 8 - (intOf i).toNat)
  case atStart => exact ⟨0, by omega, rfl, HC0, Kp.refl _ _⟩
  case round =>
    obtain ⟨k, hk, rfl, HC, HK⟩ := hrel
    by_cases hlt8 : k < 8
    · have i0 : (0 : Int) ≤ (k : Int) := by omega
      have i1 : (k : Int) < 8 := by omega
      go_wp2_with fail
      refine (wlast81 k _ ((unhide HD).kp0 (unhide HK)) (by omega)).mono ?_
      rintro e w1 ⟨rfl, hkp⟩
      have hk1 := (unhide HK).trans0 hkp
      generalize hsn : snc f k = sn at *
      have HSN := hide hsn
      clear hsn
      cases hv : lwr ws k with
      | some v =>
        simp only [Option.isSome_some, Option.getD_some]
        have hk2 := hk1.alloc (.cells #[.bool v.t, .string v.s] 38)
        obtain ⟨ra, rc, wa, wc, hw1⟩ := (unhide HD).kp0 hk1
        have ht1 := (unhide HT).kp hk1 (fun _ _ => by simp)
        have qL := ht1.kcell hlt8
        have qy := hw1.c1
        have hlb := lt_of_block hw1.box
        have hls := (ht1.lo sb ht1.sG).2
        have HK2 := hide hk2
        have HV := hide hv
        clear hkp hk1 hk2 hw1 ht1 hv
        by_cases hgt : y < sn
        · have HN := hide (dm_clash (md := md) (rs := rs) (cls_mono (cls_yes (unhide HV) (by rw [unhide HSN]; exact hgt)) 8 (by omega)))
          go_wp2_with fail
          go_quiet ((go_at_call 91; exact Calls.quiet_of_same (sl_last _ (unhide HT) ((unhide HK2).drewN _) hlt8 sn (unhide HSN))))
          go_wp2
          go_ret
          exact ⟨ret_int (unhide HN).symm, (unhide HK2).drewN _⟩
        · have HN := hide (cls_old (ws := ws) (f := f) (y := y) (k := k) (by rw [unhide HSN]; omega))
          have hle : sn ≤ y := by omega
          go_wp2_with fail
          go_quiet ((go_at_call 91; exact Calls.quiet_of_same (sl_last _ (unhide HT) ((unhide HK2).drewN _) hlt8 sn (unhide HSN))))
          go_wp2
          exact ⟨⟨k + 1, by omega, by go_num, by rw [unhide HN]; exact HC, (unhide HK2).drewN _⟩, by simp [intOf]; omega⟩
      | none =>
        simp only [Option.isSome_none, Option.getD_none]
        have HK2 := hide (hk1.alloc (.cells #[.bool dv.t, .string dv.s] 38))
        have HN := hide (cls_no (f := f) (y := y) hv)
        clear hkp hk1 hv
        go_wp2_with fail
        go_quiet (fail)
        go_wp2
        exact ⟨⟨k + 1, by omega, by go_num, by rw [unhide HN]; exact HC, (unhide HK2).drewN _⟩, by simp [intOf]; omega⟩
    · have e : k = 8 := by omega
      subst e
      have HE := hide (dm_end (md := md) (rs := rs) (unhide HC))
      have HM0 : Hid (mcd f md y rs 0 = 0) := by simp [mcd, stl]; exact trivial
      have HK0 := HK
      clear HC
      go_wp2_with fail
      go_loopw [8] (fun i wr => ∃ k : Nat, k ≤ 8 ∧ i = .int .i64 k ∧ Hid (mcd f md y rs k = 0) ∧ Hid (Kp [] w wr)) (fun i _ => 8 - (intOf i).toNat)
      case atStart => exact ⟨0, by omega, rfl, HM0, HK0⟩
      case round =>
        obtain ⟨k, hk, rfl, HC, HK⟩ := hrel
        by_cases hlt8 : k < 8
        · have i0 : (0 : Int) ≤ (k : Int) := by omega
          have i1 : (k : Int) < 8 := by omega
          obtain ⟨ra, rc, wa, wc, hw1⟩ := (unhide HD).kp0 (unhide HK)
          have ht1 := (unhide HT).kp (unhide HK) (fun _ _ => by simp)
          have qL := ht1.kcell hlt8
          have qm := hw1.c0
          have qy := hw1.c1
          have qr := hw1.c2
          have HS := hide hw1.rsl
          clear hw1 ht1
          generalize hsn : snc f k = sn at *
          have HSN := hide hsn
          clear hsn
          by_cases hm : md = 2
          · by_cases hr : (k : Int) ∈ rs
            · have hd : decide ((k : Int) ∈ rs) = true := by simp [hr]
              have HD2 := hide hd
              by_cases hgt : y < sn
              · have HN : Hid (dm f md y rs ws = 11) := (unhide HE).trans (mcd_yes hm (stl_mono (stl_yes hr (by rw [unhide HSN]; exact hgt)) 8 (by omega)))
                subst hm
                clear hr hd
                go_wp2_with fail
                go_quiet ((first | (go_at_call 107; exact Calls.quiet_of_same ((in72 ra rc k _ ((unhide HS).kp0 ((Kp.refl [] _).drewN _)) (by omega)).mono (fun e w' q => ⟨by rw [q.1, unhide HD2], q.2⟩))) | (go_at_call 91; exact Calls.quiet_of_same (sl_last _ (unhide HT) ((unhide HK).drewN _) hlt8 sn (unhide HSN)))))
                go_wp2
                go_ret
                exact ⟨ret_int (unhide HN).symm, (unhide HK).drewN _⟩
              · have HN := hide ((mcd_eq (md := md) (stl_old (rs := rs) (f := f) (y := y) (k := k) (by rw [unhide HSN]; omega))).trans (unhide HC))
                have hle : sn ≤ y := by omega
                subst hm
                clear hr hd
                go_wp2_with fail
                go_quiet ((first | (go_at_call 107; exact Calls.quiet_of_same ((in72 ra rc k _ ((unhide HS).kp0 ((Kp.refl [] _).drewN _)) (by omega)).mono (fun e w' q => ⟨by rw [q.1, unhide HD2], q.2⟩))) | (go_at_call 91; exact Calls.quiet_of_same (sl_last _ (unhide HT) ((unhide HK).drewN _) hlt8 sn (unhide HSN)))))
                go_wp2
                refine ⟨⟨_, _, _, _, _, _, _, _, _, _, _, _, _, _, _, _, _, _, _, _, _, _, _, _, _, _, _, _, _, _, _, _, _, ?_, rfl⟩, by simp [intOf]; omega⟩
                exact ⟨k + 1, by omega, by go_num, HN, (unhide HK).drewN _⟩
            · have hd : decide ((k : Int) ∈ rs) = false := by simp [hr]
              have HD2 := hide hd
              have HN := hide ((mcd_eq (md := md) (stl_no (f := f) (y := y) hr)).trans (unhide HC))
              subst hm
              clear hr hd
              go_wp2_with fail
              go_quiet ((go_at_call 107; exact Calls.quiet_of_same ((in72 ra rc k _ ((unhide HS).kp0 ((Kp.refl [] _).drewN _)) (by omega)).mono (fun e w' q => ⟨by rw [q.1, unhide HD2], q.2⟩))))
              go_wp2
              exact ⟨⟨k + 1, by omega, by go_num, HN, (unhide HK).drewN _⟩, by simp [intOf]; omega⟩
          · have HN := hide (mcd_not (f := f) (y := y) (rs := rs) (k := k + 1) hm)
            have em : (md == 2) = false := beq_eq_false_iff_ne.2 hm
            clear hm
            go_wp2_with fail
            go_quiet (fail)
            go_wp2
            exact ⟨⟨k + 1, by omega, by go_num, HN, (unhide HK).drewN _⟩, by simp [intOf]; omega⟩
        · have e : k = 8 := by omega
          subst e
          have HN := hide ((unhide HE).trans (unhide HC))
          go_wp2_with fail
          go_ret
          exact ⟨ret_int (unhide HN).symm, unhide HK⟩
end Go.Proofs.Ytcfogkdpkpehaab

/- The document's court, by contracts: NewCourt, Begin, commit, again. -/
namespace Go.Proofs.Ytcfogkdpkpehaab
open Go.RowKit
set_option maxRecDepth 20000
attribute [local go_sem ↓] Go.wp_at_zero Go.wp_at_succ

theorem Sht.ncell {B : Nat} {w : World} {sb : Nat} {G : List Nat} {f : Nat → List Ver} {n : Nat} (h : Sht B w sb G f n) : w.cell? ⟨sb, 8, none⟩ = some (.int .i64 n) := by
  obtain ⟨g, o, cap, h⟩ := h
  exact h.ncell
theorem Sht.inv {B : Nat} {w : World} {sb : Nat} {G : List Nat} {f : Nat → List Ver} {n : Nat} (h : Sht B w sb G f n) : Inv f n := by
  obtain ⟨g, o, cap, h⟩ := h
  exact h.inv
theorem Sht.lt {B : Nat} {w : World} {sb : Nat} {G : List Nat} {f : Nat → List Ver} {n : Nat} (h : Sht B w sb G f n) : sb < w.heap.size := by
  obtain ⟨g, o, cap, h⟩ := h
  exact (h.lo sb h.sG).2
def crt0 (sb : Nat) : Array Value := #[.pointer (some ⟨sb, 0, none⟩), .slice none 0 0, .slice none 0 0, .pointer none, .pointer none, .pointer none, .pointer none, .pointer none]
theorem crt_new {w w1 : World} {sb : Nat} {Gs : List Nat} {f : Nat → List Ver} {n : Nat} (h1 : Sht w.heap.size w1 sb Gs f n) (k1 : Kp [] w w1) :
    Crt w.heap.size (w1.alloc (.cells (crt0 sb) 137)) w1.heap.size sb (w1.heap.size :: Gs) [w1.heap.size] Gs (crt0 sb) f n [] [] (fun _ => none) := by
  have ka : Kp [] w1 (w1.alloc (.cells (crt0 sb) 137)) := (Kp.refl [] w1).alloc _
  have hs1 := k1.size
  have hsa : (w1.alloc (.cells (crt0 sb) 137)).heap.size = w1.heap.size + 1 := by simp
  refine ⟨⟨none, 0, [], none, 0, ⟨heap_alloc_new w1 _, rfl, rfl, ownE_nil _ _, fun e he => by simp at he, byt_nil _ _, fun _ => ⟨rfl, rfl⟩, by simp [ob], by simp [ob], by simp, by simp [ob], fun x hx => ?_, linv_nil, by simp, by omega⟩, rfl⟩, rfl, fun i hi => ?_, rfl, h1.kp0 ka, fun x hx hm => ?_, fun x hx => by simp at hx; simp [hx], fun x hx => by simp [hx], fun x hx => ?_⟩
  · simp at hx; omega
  · have : i = 0 ∨ i = 1 ∨ i = 2 ∨ i = 3 ∨ i = 4 := by omega
    rcases this with e | e | e | e | e <;> subst e <;> rfl
  · simp at hx
    have := (h1.lo x hm).2
    omega
  · rw [hsa]
    rcases List.mem_cons.1 hx with e | e
    · omega
    · have := h1.lo x e; omega

set_option maxHeartbeats 400000 in
theorem cnew (w : World) : Calls Try.prog 73 #[] w fun e w' => ∃ cb sb G, e = .returned (.pointer (some ⟨cb, 0, none⟩)) ∧ (CrtT cb sb (fun _ => [dv]) 0 [] [] (fun _ => none)).holds w.heap.size w' G ∧ Kp [] w w' := by
  go_enter Try.func73, Try.ntmps73
  go_wp2_with fail
  refine (snew55 w).mono ?_
  rintro e w1 ⟨rfl, ⟨Gs, hT⟩, hk1⟩
  have HT := hide hT
  have HK1 := hide hk1
  clear hT hk1
  generalize ht : w.heap.size = sb at HT ⊢
  have HTB := hide ht
  clear ht
  go_wp2_with fail
  go_ret
  have e1 := (unhide HTB).symm
  subst e1
  exact ⟨_, _, _, rfl, ⟨_, _, _, crt_new (unhide HT) (unhide HK1)⟩, (unhide HK1).alloc _⟩

theorem wrk_new (w : World) (md y : Int) : Wrk w.heap.size (w.alloc (.cells #[.int .i64 md, .int .i64 y, .slice none 0 0, .slice none 0 0] 133)) w.heap.size [w.heap.size] md y [] [] :=
  ⟨none, 0, none, 0, heap_alloc_new _ _, World.ownsRow_nil _ _ _ _, World.ownsRow_nil _ _ _ _, fun g hg => by simp [Value.ownBlock] at hg, fun g hg => by simp [Value.ownBlock] at hg, fun g g' hg => by simp [Value.ownBlock] at hg, by simp, fun x hx => by simp at hx; simp; omega⟩

/-- What Begin of the court tells, and leaves. -/
def CbEnd (f : Nat → List Ver) (n : Nat) (md at_ : Int) (w : World) (e : Ending) (w' : World) : Prop :=
  (bcode f n md at_ = 0 ∧ ∃ D H, e = .returned (.tuple #[.pointer (some ⟨D, 0, none⟩), .int .i64 0]) ∧ Wrk w.heap.size w' D H md (bat n md at_) [] [] ∧ Kp [] w w') ∨
  (¬ bcode f n md at_ = 0 ∧ e = .returned (.tuple #[.pointer none, .int .i64 (bcode f n md at_)]) ∧ Kp [] w w')

theorem cbEnd_bad {f : Nat → List Ver} {n : Nat} {md at_ c : Int} {w w' : World} (hb : bcode f n md at_ = c) (hc : c ≠ 0) (hk : Kp [] w w') : CbEnd f n md at_ w (.returned (.tuple #[.pointer none, .int .i64 c])) w' := .inr ⟨by rw [hb]; exact hc, by rw [hb], hk⟩
theorem cbEnd_ok {f : Nat → List Ver} {n : Nat} {md at_ : Int} {w w' : World} {D : Nat} {H : List Nat} (hb : bcode f n md at_ = 0) (hd : Wrk w.heap.size w' D H md (bat n md at_) [] []) (hk : Kp [] w w') : CbEnd f n md at_ w (.returned (.tuple #[.pointer (some ⟨D, 0, none⟩), .int .i64 0])) w' := .inl ⟨hb, D, H, rfl, hd, hk⟩

set_option maxHeartbeats 1000000 in
theorem cbegin {B cb sb n : Nat} {G Gr Gs : List Nat} {bx : Array Value} {f : Nat → List Ver} {cs : List (List Ver)} {torn : List UInt8} {st : Nat → Option Addr} (md at_ : Int) (w : World) (h : Crt B w cb sb G Gr Gs bx f n cs torn st) :
    Calls Try.prog 74 #[.pointer (some ⟨cb, 0, none⟩), .int .i64 md, .int .i64 at_] w fun e w' => CbEnd f n md at_ w e w' := by
  have c0 := h.c0
  have n0 := h.s.ncell
  have HT := hide h.s
  obtain ⟨x0, x1⟩ := fmx_le h.s.inv 8 (Nat.le_refl _)
  have hn40 := h.s.inv.n40
  clear h
  by_cases hm : 1 ≤ md ∧ md ≤ 3
  · have hm1 : ¬ md < 1 := by omega
    have hm3 : ¬ 3 < md := by omega
    by_cases h3 : md = 3
    · subst h3
      by_cases hr : at_ < 0 ∨ (n : Int) < at_
      · have hb : bcode f n 3 at_ = 1 := by unfold bcode; rw [if_pos (by omega), if_pos rfl, if_pos hr]
        have HBB := hide hb
        clear hb
        rcases hr with hr | hr
        · go_enter Try.func74, Try.ntmps74
          go_wp2_with fail
          go_ret2
          exact cbEnd_bad (unhide HBB) (by omega) (Kp.refl _ _)
        · have hr0 : ¬ at_ < 0 := by omega
          go_enter Try.func74, Try.ntmps74
          go_wp2_with fail
          go_ret2
          exact cbEnd_bad (unhide HBB) (by omega) (Kp.refl _ _)
      · have hr0 : ¬ at_ < 0 := by omega
        have hr1 : ¬ (n : Int) < at_ := by omega
        by_cases ho : at_ < fmx f 8
        · have hb : bcode f n 3 at_ = 12 := by unfold bcode; rw [if_pos (by omega), if_pos rfl, if_neg hr, if_pos ho]
          have HBB := hide hb
          clear hb
          go_enter Try.func74, Try.ntmps74
          go_wp2_with fail
          refine (sfirst43 w (unhide HT)).mono ?_
          rintro e w2 ⟨rfl, hw⟩
          subst w2
          go_wp2_with fail
          go_ret2
          exact cbEnd_bad (unhide HBB) (by omega) (Kp.refl _ _)
        · have hb : bcode f n 3 at_ = 0 := by unfold bcode; rw [if_pos (by omega), if_pos rfl, if_neg hr, if_neg ho]
          have HBB := hide hb
          clear hb
          go_enter Try.func74, Try.ntmps74
          go_wp2_with fail
          refine (sfirst43 w (unhide HT)).mono ?_
          rintro e w2 ⟨rfl, hw⟩
          subst w2
          go_wp2_with fail
          go_ret2
          exact cbEnd_ok (unhide HBB) (by rw [show bat n 3 at_ = at_ from if_pos rfl]; exact wrk_new w 3 at_) ((Kp.refl [] w).alloc _)
    · have hb : bcode f n md at_ = 0 := by unfold bcode; rw [if_pos hm, if_neg h3]
      have HBB := hide hb
      clear hb
      have hr0 : ¬ (n : Int) < 0 := by omega
      have hr1 : ¬ (n : Int) < (n : Int) := by omega
      have hr2 : ¬ (n : Int) < fmx f 8 := by omega
      go_enter Try.func74, Try.ntmps74
      go_wp2_with fail
      refine (sfirst43 w (unhide HT)).mono ?_
      rintro e w2 ⟨rfl, hw⟩
      subst w2
      go_wp2_with fail
      go_ret2
      exact cbEnd_ok (unhide HBB) (by rw [show bat n md at_ = n from if_neg h3]; exact wrk_new w md n) ((Kp.refl [] w).alloc _)
  · have hb : bcode f n md at_ = 3 := by unfold bcode; rw [if_neg hm]
    have HBB := hide hb
    clear hb
    by_cases hm1 : md < 1
    · go_enter Try.func74, Try.ntmps74
      go_wp2_with fail
      go_ret2
      exact cbEnd_bad (unhide HBB) (by omega) (Kp.refl _ _)
    · have hm3 : 3 < md := by omega
      go_enter Try.func74, Try.ntmps74
      go_wp2_with fail
      go_ret2
      exact cbEnd_bad (unhide HBB) (by omega) (Kp.refl _ _)

set_option maxHeartbeats 1000000 in
theorem ccommit {B cb sb n wb : Nat} {G Gr Gs H : List Nat} {bx : Array Value} {f : Nat → List Ver} {cs : List (List Ver)} {st : Nat → Option Addr} {md y : Int} {rs : List Int} {ws : List Ver} (w : World) (h : Crt B w cb sb G Gr Gs bx f n cs [] st) (hv : VI f n cs) (hd : Wrk B w wb H md y rs ws) (hw : WOk ws) (hrl : rs.length ≤ 900) (hwl : ws.length ≤ 900) :
    Calls Try.prog 96 #[.pointer (some ⟨cb, 0, none⟩), .pointer (some ⟨wb, 0, none⟩)] w fun e w' => e = .returned (.tuple #[.int .i64 (vnum f n cs md y rs ws), .int .i64 (vcode f cs md y rs ws)]) ∧ Ch (CrtT cb sb (vf f n cs md y rs ws) (vn f n cs md y rs ws) (vcs f cs md y rs ws) [] st) B w G w' := by
  have HM := hide (wmay69 w h.s hd hrl hwl)
  have HD := hide hd
  have HV := hide h
  have c0 := h.c0
  have hpl := wk_len ws 8
  have HP := hide hw.pf
  have HR := hide hv
  have hn40 := h.s.inv.n40
  clear h hd hw hv
  by_cases hz : dm f md y rs ws = 0
  · rw [hz] at HM
    by_cases hl : (wk ws 8).length = 0
    · obtain ⟨e1, e2⟩ := v_none (cs := cs) hz hl
      obtain ⟨e3, e4, e5, e6⟩ := v_not (n := n) e2
      rw [e1, e3, e4, e5, e6]
      clear e1 e2 e3 e4 e5 e6 HR HP
      go_enter Try.func96, Try.ntmps96
      go_wp2_with fail
      refine (unhide HM).mono ?_
      rintro e w0 ⟨rfl, hk0⟩
      have HK0 := hide hk0
      clear hk0 HM
      go_wp2_with fail
      refine (wwrites67 w0 ((unhide HD).kp0 (unhide HK0)) hwl).mono ?_
      rintro e w1 ⟨a, cap, rfl, _, hk⟩
      rw [hl]
      have HK := hide ((unhide HK0).trans0 hk)
      clear hk hl
      go_wp2_with fail
      go_ret2
      exact ⟨rfl, Ch.same ⟨Gr, Gs, bx, unhide HV⟩ (unhide HK)⟩
    · have HL := hide hl
      by_cases hc : lcode cs (wk ws 8) = 0
      · obtain ⟨e1, e2⟩ := v_yes hz hl hc
        obtain ⟨e3, e4, e5, e6⟩ := v_did (n := n) e2
        rw [e1, e3, e4, e5, e6]
        clear e1 e2 e3 e4 e5 e6
        obtain ⟨q1, q2, q3⟩ := (unhide HR).room hc
        have hlp : lput cs (wk ws 8) = cs ++ [wk ws 8] := by unfold lput; rw [if_pos hc]
        have HLP := hide hlp
        have HC := hide hc
        have HQ := hide (And.intro q1 (And.intro q2 q3))
        clear q1 q2 q3 hlp hc hz
        have HWW := hide (fun w0 (hk0 : Kp [] w w0) => wwrites67 w0 ((unhide HD).kp0 hk0) hwl)
        generalize wk ws 8 = ps at *
        go_enter Try.func96, Try.ntmps96
        go_wp2_with fail
        refine (unhide HM).mono ?_
        rintro e w0 ⟨rfl, hk0⟩
        have HK0 := hide hk0
        clear hk0 HM
        go_wp2_with fail
        refine (unhide HWW w0 (unhide HK0)).mono ?_
        rintro e w1 ⟨a, cap, rfl, ho0, hk1⟩
        have ho := own_base ho0 (unhide HK0).size
        have hk := (unhide HK0).trans0 hk1
        have h1 := (unhide HV).kp0 hk
        have HPR := hide (slo_prs (slo_own ho rfl) (unhide HP))
        have HO := hide ho
        have H1 := hide h1
        have HK := hide hk
        clear ho ho0 h1 hk hk1 HWW HK0
        go_wp2_with fail
        refine (rxput a cap ps w1 (unhide H1).r (unhide HPR) (by omega)).mono ?_
        rintro e w2 ⟨rfl, hL⟩
        rw [unhide HC]
        rw [unhide HLP] at hL
        obtain ⟨G2, ⟨Gr2, Gs2, bx2, h2⟩, k2, s2⟩ := (unhide H1).roll hL
        have hfar : ∀ g o, a = some ⟨g, o, none⟩ → g ∉ G := fun g o ea hm => by
          have h3 := (own_addr1 (unhide HO) g o ea).1
          have h4 := ((unhide HV).lo g hm).2
          omega
        have hfar2 : ∀ g o, a = some ⟨g, o, none⟩ → g ∉ Gs2 := fun g o ea hm => by
          rcases s2 g (h2.sG g hm) with e | e
          · exact hfar g o ea e
          · have h3 := (own_addr1 (unhide HO) g o ea).2
            omega
        have HPR2 := hide ((unhide HPR).kp k2 hfar)
        have HFAR := hide hfar2
        have d0 := h2.c0
        have H2 := hide h2
        have K2 := hide k2
        have S2 := hide s2
        clear h2 k2 s2 hL hfar hfar2 c0
        go_wp2_with fail
        refine (swrite56 a cap ps w2 (unhide H2).s (unhide HPR2) (fun _ => unhide HFAR) (by omega)).mono ?_
        rintro e w3 ⟨rfl, Gs3, hT, hk3, hs3⟩
        rw [(unhide HQ).1, (unhide HQ).2.2]
        rw [(unhide HQ).2.1] at hT
        have HZ := hide (Ch.after (unhide HK) (Ch.trans (unhide K2) (unhide S2) ((unhide H2).sheet hT hk3 hs3)))
        clear hT hk3 hs3
        go_wp2_with fail
        go_ret2
        exact ⟨rfl, unhide HZ⟩
      · obtain ⟨e1, e2⟩ := v_full hz hl hc
        obtain ⟨e3, e4, e5, e6⟩ := v_not (n := n) e2
        rw [e1, e3, e4, e5, e6]
        clear e1 e2 e3 e4 e5 e6
        have hlp : lput cs (wk ws 8) = cs := by unfold lput; rw [if_neg hc]
        have HLP := hide hlp
        clear hlp hz
        generalize hzz : lcode cs (wk ws 8) = z at *
        have HZZ := hide hzz
        clear hzz
        have HWW := hide (fun w0 (hk0 : Kp [] w w0) => wwrites67 w0 ((unhide HD).kp0 hk0) hwl)
        generalize wk ws 8 = ps at *
        go_enter Try.func96, Try.ntmps96
        go_wp2_with fail
        refine (unhide HM).mono ?_
        rintro e w0 ⟨rfl, hk0⟩
        have HK0 := hide hk0
        clear hk0 HM
        go_wp2_with fail
        refine (unhide HWW w0 (unhide HK0)).mono ?_
        rintro e w1 ⟨a, cap, rfl, ho, hk1⟩
        have hk := (unhide HK0).trans0 hk1
        have h1 := (unhide HV).kp0 hk
        have HPR := hide (slo_prs (slo_own ho rfl) (unhide HP))
        have H1 := hide h1
        have HK := hide hk
        clear ho h1 hk hk1 HWW HK0
        go_wp2_with fail
        refine (rxput a cap ps w1 (unhide H1).r (unhide HPR) (by omega)).mono ?_
        rintro e w2 ⟨rfl, hL⟩
        rw [unhide HZZ]
        rw [unhide HLP] at hL
        have HX := hide (Ch.after (unhide HK) ((unhide H1).roll hL))
        clear hL c0
        go_wp2_with fail
        go_ret2
        exact ⟨rfl, unhide HX⟩
  · obtain ⟨e1, e2⟩ := v_may (cs := cs) hz
    obtain ⟨e3, e4, e5, e6⟩ := v_not (n := n) e2
    rw [e1, e3, e4, e5, e6]
    clear e1 e2 e3 e4 e5 e6 HR HP
    generalize dm f md y rs ws = z at *
    go_enter Try.func96, Try.ntmps96
    go_wp2_with fail
    refine (unhide HM).mono ?_
    rintro e w1 ⟨rfl, hk⟩
    have HK := hide hk
    clear hk HM
    go_wp2_with fail
    go_ret2
    exact ⟨rfl, Ch.same ⟨Gr, Gs, bx, unhide HV⟩ (unhide HK)⟩

end Go.Proofs.Ytcfogkdpkpehaab

/- The document's court: again, by its contract. -/
namespace Go.Proofs.Ytcfogkdpkpehaab
open Go.RowKit
set_option maxRecDepth 20000
attribute [local go_sem ↓] Go.wp_at_zero Go.wp_at_succ

/-- Another sheet in its place. -/
theorem Crt.newS {B : Nat} {w W : World} {cb sb sb' : Nat} {G Gr Gs Gs' : List Nat} {bx : Array Value} {f f' : Nat → List Ver} {n n' : Nat} {cs : List (List Ver)} {torn : List UInt8} {st : Nat → Option Addr} (h : Crt B w cb sb G Gr Gs bx f n cs torn st) (hW : Kp [] w W) (k1 : Sht w.heap.size W sb' Gs' f' n') :
    Ch (CrtT cb sb' f' n' cs torn st) B w G (W.setCell ⟨cb, 0, none⟩ (.pointer (some ⟨sb', 0, none⟩))) := by
  have hcb := (h.lo cb h.cG).2
  have hBw : B ≤ w.heap.size := by have := (h.lo cb h.cG).1; omega
  have hk3 : Kp [cb] W (W.setCell ⟨cb, 0, none⟩ (.pointer (some ⟨sb', 0, none⟩))) := (Kp.refl [cb] W).setCell (.inl (by simp)) _
  have hW1 := h.kp0 hW
  have hne : ∀ x, x ∈ Gs' → x ≠ cb := fun x hx e => by have := (k1.lo x hx).1; omega
  refine ⟨Gr ++ Gs', ⟨Gr, Gs', bx.setIfInBounds 0 (.pointer (some ⟨sb', 0, none⟩)), hW1.r.other 0 _ (by omega) (by omega), set_here h.b0 _, fun i hi => set_there (h.bs i hi) (by omega) _, by simp [h.sz], (k1.base hBw).kp hk3 (fun x hx e => hne x hx (List.mem_singleton.1 e)), fun x hx hm => ?_, fun x hx => by simp [hx], fun x hx => by simp [hx], fun x hx => ?_⟩, (hW.mono (fun x hx => by simp at hx)).trans hk3 (fun x hx => .inl (by rw [List.mem_singleton.1 hx]; exact h.cG)), fun x hx => ?_⟩
  · have h1 := (k1.lo x hm).1
    have h2 := (h.lo x (h.rG x hx)).2
    omega
  · rcases List.mem_append.1 hx with e | e
    · exact ⟨(h.lo x (h.rG x e)).1, Nat.lt_of_lt_of_le (hW1.lo x (h.rG x e)).2 hk3.size⟩
    · exact ⟨Nat.le_trans hBw (k1.lo x e).1, Nat.lt_of_lt_of_le (k1.lo x e).2 hk3.size⟩
  · rcases List.mem_append.1 hx with e | e
    · exact .inl (h.rG x e)
    · exact .inr (k1.lo x e).1

/-- At the head of a round of again: the first i commits are written. -/
structure AgL (B : Nat) (w : World) (G : List Nat) (cb sb : Nat) (bx : Array Value) (st : Nat → Option Addr) (aL : Option Addr) (capL : Nat) (xs : List El) (i : Nat) (wr : World) (Gr Gs : List Nat) : Prop where
  r : ∃ aT cT, RxL B wr cb 1 bx 137 Gr aL capL xs aT cT []
  s : Sht B wr sb Gs (wal0 ((cps xs).take i)) i
  rs : ∀ x, x ∈ Gr → x ∉ Gs
  b0 : bx[0]? = some (.pointer (some ⟨sb, 0, none⟩))
  bs : ∀ j, j < 5 → bx[3 + j]? = some (.pointer (st j))
  sz : bx.size = 8
  kp : Kp G w wr
  rG : ∀ x, x ∈ Gr → x ∈ G ∨ w.heap.size ≤ x
  sG : ∀ x, x ∈ Gs → x ∈ G ∨ w.heap.size ≤ x
def Ag (B : Nat) (w : World) (G : List Nat) (cb sb : Nat) (bx : Array Value) (st : Nat → Option Addr) (aL : Option Addr) (capL : Nat) (xs : List El) (i : Nat) (wr : World) : Prop := ∃ Gr Gs, AgL B w G cb sb bx st aL capL xs i wr Gr Gs
section
variable {B : Nat} {w wr w' : World} {G : List Nat} {cb sb : Nat} {bx : Array Value} {st : Nat → Option Addr} {aL : Option Addr} {capL : Nat} {xs : List El} {i : Nat}
theorem Ag.kp0 (h : Ag B w G cb sb bx st aL capL xs i wr) (hk : Kp [] wr w') : Ag B w G cb sb bx st aL capL xs i w' := by
  obtain ⟨Gr, Gs, h⟩ := h
  obtain ⟨aT, cT, hr⟩ := h.r
  exact ⟨Gr, Gs, ⟨aT, cT, hr.kp hk (fun _ _ => by simp)⟩, h.s.kp0 hk, h.rs, h.b0, h.bs, h.sz, h.kp.trans0 hk, h.rG, h.sG⟩
theorem Ag.c0 (h : Ag B w G cb sb bx st aL capL xs i wr) : wr.cell? ⟨cb, 0, none⟩ = some (.pointer (some ⟨sb, 0, none⟩)) := by
  obtain ⟨Gr, Gs, h⟩ := h
  obtain ⟨aT, cT, hr⟩ := h.r
  exact cell_of_block hr.box h.b0
theorem Ag.c1 (h : Ag B w G cb sb bx st aL capL xs i wr) : wr.cell? ⟨cb, 1, none⟩ = some (.slice aL xs.length capL) := by
  obtain ⟨Gr, Gs, h⟩ := h
  obtain ⟨aT, cT, hr⟩ := h.r
  exact hr.c0
theorem Ag.at_ (h : Ag B w G cb sb bx st aL capL xs i wr) {k : Nat} (hk : k < xs.length) : ∃ g, aL = some ⟨g, 0, none⟩ ∧ wr.cell? ⟨g, k, none⟩ = some (.slice (eat xs k).a (eat xs k).ps.length (eat xs k).c) := by
  obtain ⟨Gr, Gs, h⟩ := h
  obtain ⟨aT, cT, hr⟩ := h.r
  exact hr.own.cell hk
theorem ag_write (h : Ag B w G cb sb bx st aL capL xs i wr) (hi : i < xs.length) {W : World} (hW : Kp [] wr W) :
    Calls Try.prog 38 #[.pointer (some ⟨sb, 0, none⟩), .slice (eat xs i).a (eat xs i).ps.length (eat xs i).c] W fun e w' => ∃ a b, e = .returned (.tuple #[.int .i64 a, .int .i64 b]) ∧ Hid (Ag B w G cb sb bx st aL capL xs (i + 1) w') := by
  obtain ⟨Gr, Gs, h⟩ := h.kp0 hW
  obtain ⟨aT, cT, hr⟩ := h.r
  have hpf : pf (-1) (eat xs i).ps = 0 := by rw [← cps_at hi]; exact hr.inv.at_ (by rw [cps_length]; exact hi)
  have hpr : Prs W (eat xs i).a (eat xs i).ps := slo_prs (hr.els _ (eat_mem hi)).1 hpf
  have h8 := pf_len8 hpf
  have hn40 := hr.inv.n40
  rw [cps_length] at hn40
  obtain ⟨q1, q2⟩ := wcode_ok (n := i) hpf (by omega)
  refine (swrite56 _ _ _ W h.s hpr (fun _ g o e hg => ?_) (by omega)).mono ?_
  · have := ((hr.els _ (eat_mem hi)).2 g (by rw [e]; simp [ob])).1
    exact h.rs g this hg
  · rintro e w' ⟨rfl, Gs', k1, k2, k3⟩
    refine ⟨_, _, rfl, Gr, Gs', ⟨aT, cT, hr.kp k2 (fun x hx hh => h.rs x hx hh)⟩, ?_, fun x hx hm => ?_, h.b0, h.bs, h.sz, h.kp.trans k2 h.sG, h.rG, fun x hx => ?_⟩
    · rw [q2] at k1
      have e1 : (cps xs).take (i + 1) = (cps xs).take i ++ [(eat xs i).ps] := by
        rw [List.take_succ_eq_append_getElem (by rw [cps_length]; exact hi), ← cps_at hi]
        simp [List.getD_eq_getElem?_getD, cps_length, hi]
      rw [e1, wal0_snoc]
      have e2 : ((cps xs).take i).length = i := by rw [List.length_take, cps_length]; omega
      rw [e2]
      exact k1
    · rcases k3 x hm with e | e
      · exact h.rs x hx e
      · have := (hr.lo x hx).2; omega
    · rcases k3 x hx with e | e
      · exact h.sG x e
      · exact .inr (Nat.le_trans h.kp.size e)
theorem Ag.crt (h : Ag B w G cb sb bx st aL capL xs i wr) (hi : i = xs.length) : Ch (CrtT cb sb (wal0 (cps xs)) (cps xs).length (cps xs) [] st) B w G wr := by
  obtain ⟨Gr, Gs, h⟩ := h
  obtain ⟨aT, cT, hr⟩ := h.r
  have hs := h.s
  rw [hi, ← cps_length, List.take_length] at hs
  refine ⟨Gr ++ Gs, ⟨Gr, Gs, bx, ⟨aL, capL, xs, aT, cT, hr, rfl⟩, h.b0, h.bs, h.sz, hs, h.rs, fun x hx => by simp [hx], fun x hx => by simp [hx], fun x hx => ?_⟩, h.kp, fun x hx => ?_⟩
  · rcases List.mem_append.1 hx with e | e
    · exact hr.lo x e
    · exact hs.lo x e
  · rcases List.mem_append.1 hx with e | e
    · exact h.rG x e
    · exact h.sG x e
end
theorem ag_start {B : Nat} {w w1 : World} {G : List Nat} {cb sb : Nat} {cs : List (List Ver)} {st : Nat → Option Addr} (h : Ch (CrtT cb sb (fun _ => [dv]) 0 cs [] st) B w G w1) : ∃ bx aL capL xs, cs = cps xs ∧ Ag B w G cb sb bx st aL capL xs 0 w1 := by
  obtain ⟨G1, ⟨Gr, Gs, bx, h1⟩, h2, h3⟩ := h
  obtain ⟨aL, capL, xs, aT, cT, hr, e⟩ := h1.r
  exact ⟨bx, aL, capL, xs, e, Gr, Gs, ⟨aT, cT, hr⟩, h1.s, h1.rs, h1.b0, h1.bs, h1.sz, h2, fun x hx => h3 x (h1.rG x hx), fun x hx => h3 x (h1.sG x hx)⟩
/-- Nobody sits. -/
theorem Crt.stand {B : Nat} {w : World} {cb sb : Nat} {G Gr Gs : List Nat} {bx : Array Value} {f : Nat → List Ver} {n : Nat} {cs : List (List Ver)} {torn : List UInt8} {st : Nat → Option Addr} (h : Crt B w cb sb G Gr Gs bx f n cs torn st) :
    Ch (CrtT cb sb f n cs torn (fun _ => none)) B w G (((((w.setCell ⟨cb, 3, none⟩ (.pointer none)).setCell ⟨cb, 4, none⟩ (.pointer none)).setCell ⟨cb, 5, none⟩ (.pointer none)).setCell ⟨cb, 6, none⟩ (.pointer none)).setCell ⟨cb, 7, none⟩ (.pointer none)) := by
  have h5 := (h.sit (i := 0) (by omega) none).to fun G1 ⟨Gr1, Gs1, bx1, h1⟩ => (h1.sit (i := 1) (by omega) none).to fun G2 ⟨Gr2, Gs2, bx2, h2⟩ => (h2.sit (i := 2) (by omega) none).to fun G3 ⟨Gr3, Gs3, bx3, h3⟩ => (h3.sit (i := 3) (by omega) none).to fun G4 ⟨Gr4, Gs4, bx4, h4⟩ => h4.sit (i := 4) (by omega) none
  obtain ⟨F', ⟨Gr', Gs', bx', k⟩, k2, k3⟩ := h5
  refine ⟨F', ⟨Gr', Gs', bx', k.r, k.b0, fun i hi => ?_, k.sz, k.s, k.rs, k.rG, k.sG, k.lo⟩, k2, k3⟩
  rw [k.bs i hi]
  have : i = 0 ∨ i = 1 ∨ i = 2 ∨ i = 3 ∨ i = 4 := by omega
  rcases this with e | e | e | e | e <;> subst e <;> rfl

set_option maxHeartbeats 1000000 in
theorem cagain {B cb sb n : Nat} {G Gr Gs : List Nat} {bx : Array Value} {f : Nat → List Ver} {cs : List (List Ver)} {torn : List UInt8} {st : Nat → Option Addr} (w : World) (h : Crt B w cb sb G Gr Gs bx f n cs torn st) :
    Calls Try.prog 93 #[.pointer (some ⟨cb, 0, none⟩)] w fun e w' => e = .returned (.tuple #[]) ∧ ∃ sb', Ch (CrtT cb sb' (wal0 cs) cs.length cs [] (fun _ => none)) B w G w' := by
  have HV := hide h
  have HR := hide h.r
  have hn40 := h.r.inv.n40
  clear h
  go_enter Try.func93, Try.ntmps93
  go_wp2_with fail
  refine (rxmend w (unhide HR)).mono ?_
  rintro e w1 ⟨rfl, hL⟩
  obtain ⟨G1, ⟨Gr1, Gs1, bx1, h1⟩, k1, s1⟩ := (unhide HV).roll hL
  have H1 := hide h1
  have K1 := hide k1
  have S1 := hide s1
  clear h1 k1 s1 hL HR
  go_wp2_with fail
  refine (snew55 w1).mono ?_
  rintro e w2 ⟨rfl, ⟨Gs2, hT⟩, hk2⟩
  have h2 := (unhide H1).kp0 hk2
  have d0 := h2.c0
  have f0 := h2.fz 0
  have HCH := hide (Ch.trans (unhide K1) (unhide S1) ((unhide H1).newS hk2 hT))
  clear h2 hT hk2
  generalize w1.heap.size = sb2 at *
  generalize hW3 : w2.setCell ⟨cb, 0, none⟩ (.pointer (some ⟨sb2, 0, none⟩)) = w3 at HCH
  obtain ⟨bx, aL, capL, xs, hcs, hag⟩ := ag_start (unhide HCH)
  have HAG := hide hag
  have HCS := hide hcs
  have hlen : cs.length = xs.length := by rw [hcs, cps_length]
  have hx40 : xs.length ≤ 40 := by omega
  have HW3 := hide hW3
  have HLEN := hide hlen
  clear hag hcs hlen hn40 hW3
  go_wp2_with fail
  rw [unhide HW3]
  go_loopw [2] (fun i wr => ∃ k : Nat, k ≤ xs.length ∧ i = .int .i64 k ∧ Hid (Ag B w G cb sb2 bx st aL capL xs k wr)) (fun i _ => xs.length - (intOf i).toNat)
  case atStart => exact ⟨0, by omega, rfl, HAG⟩
  case round =>
    obtain ⟨k, hk, rfl, HI⟩ := hrel
    have r0 := (unhide HI).c1
    by_cases hlt : k < xs.length
    · have i0 : (0 : Int) ≤ (k : Int) := by omega
      have i1 : (k : Int) < (xs.length : Int) := by omega
      have q0 := (unhide HI).c0
      obtain ⟨gL, rfl, q1⟩ := (unhide HI).at_ hlt
      have q1' : wr.cell? ⟨gL, 0 + k, none⟩ = some (.slice (eat xs k).a (eat xs k).ps.length (eat xs k).c) := by rw [Nat.zero_add]; exact q1
      go_wp2_with fail
      go_region_with (go_at_call 38; refine (ag_write (unhide HI) hlt (Kp.refl [] wr).drew).mono ?_; rintro e w4 ⟨za, zb, rfl, HI4⟩)
      all_goals
        go_wp2_with fail
        exact ⟨⟨k + 1, by omega, by go_num, HI4⟩, by simp [intOf]; omega⟩
    · have hkk : k = xs.length := by omega
      have HC5 := hide ((unhide HI).crt hkk)
      obtain ⟨G5, ⟨Gr5, Gs5, bx5, h5⟩, k5, s5⟩ := (unhide HI).crt hkk
      have y0 := h5.seat (i := 0) (by omega)
      have y1 := h5.seat (i := 1) (by omega)
      have y2 := h5.seat (i := 2) (by omega)
      have y3 := h5.seat (i := 3) (by omega)
      have y4 := h5.seat (i := 4) (by omega)
      have z0 := h5.fz 3
      have z1 := h5.fz 4
      have z2 := h5.fz 5
      have z3 := h5.fz 6
      have z4 := h5.fz 7
      have HX := hide (Ch.trans k5 s5 h5.stand)
      clear h5 k5 s5 hkk
      go_wp2_with fail
      go_end0
      rw [← unhide HCS] at HX
      exact ⟨rfl, sb2, unhide HX⟩

end Go.Proofs.Ytcfogkdpkpehaab

/- The document's court: Do of SCrash, SCommit and STear, by contracts. -/
namespace Go.Proofs.Ytcfogkdpkpehaab
open Go.RowKit
set_option maxRecDepth 20000
attribute [local go_sem ↓] Go.wp_at_zero Go.wp_at_succ

def seatB (s : Int) : Bool := decide (0 ≤ s ∧ s < 5)
set_option maxHeartbeats 400000 in
theorem isseat (k : Int) (w : World) : Calls Try.prog 94 #[.int .i64 k] w fun e w' => e = .returned (.bool (seatB k)) ∧ w' = w := by
  go_enter Try.func94, Try.ntmps94
  go_wp2
  all_goals
    go_ret
    exact ⟨ret_bool (by simp [seatB]; omega), rfl⟩

/-- A call that leaves a thing, and what is stored behind it into a new block. -/
theorem Ch.side {o' : Thing} {B : Nat} {w W w1 w' : World} {G : List Nat} {p : Nat} (h : Ch o' B W G w1) (hW : Kp [] w W) (hG : ∀ x, x ∈ G → x < w.heap.size) (hp : w.heap.size ≤ p) (hp2 : p < W.heap.size) (hk : Kp [p] w1 w') : Ch o' B w G w' := by
  obtain ⟨F1, h1, h2, h3⟩ := h
  have hpF : ∀ x, x ∈ F1 → x ≠ p := fun x hx e => by
    subst e
    rcases h3 x hx with q | q
    · have := hG x q; omega
    · omega
  refine ⟨F1, o'.kp h1 hk (fun x hx e => hpF x hx (List.mem_singleton.1 e)), ((hW.mono (fun x hx => by simp at hx)).trans h2 (fun x hx => .inl hx)).trans hk (fun x hx => .inr (by rw [List.mem_singleton.1 hx]; exact hp)), fun x hx => ?_⟩
  rcases h3 x hx with q | q
  · exact .inl q
  · exact .inr (Nat.le_trans hW.size q)
theorem Ch.far {o' : Thing} {B : Nat} {W w1 : World} {G : List Nat} (h : Ch o' B W G w1) {p : Nat} {o : Obj} (hp : p ∉ G) (hb : W.heap[p]? = some o) : w1.heap[p]? = some o := by
  obtain ⟨F1, h1, h2, h3⟩ := h
  rw [h2.block p (lt_of_block hb) hp]; exact hb

theorem two_alloc (w : World) (o1 o2 : Obj) : ((w.alloc o1).alloc o2).heap[w.heap.size + 1]? = some o2 := by
  have h : (w.alloc o1).heap.size = w.heap.size + 1 := by simp
  rw [← h]
  exact heap_alloc_new _ _

/-- An event in a variable. -/
def EvB (w : World) (p : Nat) : Prop := w.heap[p]? = some (.cells #[.int .i64 0, .int .i64 0, .bool false, .string ⟨#[]⟩, .slice none 0 0] 127 (0, 0))
structure EvC (w : World) (p : Nat) : Prop where
  c0 : w.cell? ⟨p, 0, none⟩ = some (.int .i64 0)
  c1 : w.cell? ⟨p, 1, none⟩ = some (.int .i64 0)
  c2 : w.cell? ⟨p, 2, none⟩ = some (.bool false)
  c3 : w.cell? ⟨p, 3, none⟩ = some (.string ⟨#[]⟩)
  c4 : w.cell? ⟨p, 4, none⟩ = some (.slice none 0 0)
  f0 : w.frozen? ⟨p, 0, none⟩ = false
  f1 : w.frozen? ⟨p, 1, none⟩ = false
  f2 : w.frozen? ⟨p, 2, none⟩ = false
  f3 : w.frozen? ⟨p, 3, none⟩ = false
  f4 : w.frozen? ⟨p, 4, none⟩ = false
theorem EvB.c {w : World} {p : Nat} (h : EvB w p) : EvC w p :=
  ⟨cell_of_block h rfl, cell_of_block h rfl, cell_of_block h rfl, cell_of_block h rfl, cell_of_block h rfl, frozen_of_block _ h, frozen_of_block _ h, frozen_of_block _ h, frozen_of_block _ h, frozen_of_block _ h⟩
theorem ev5 {w1 : World} {p : Nat} (a b c d e : Value) : Kp [p] w1 (((((w1.setCell ⟨p, 0, none⟩ a).setCell ⟨p, 1, none⟩ b).setCell ⟨p, 2, none⟩ c).setCell ⟨p, 3, none⟩ d).setCell ⟨p, 4, none⟩ e) :=
  (((((Kp.refl [p] w1).setCell (.inl (by simp)) _).setCell (.inl (by simp)) _).setCell (.inl (by simp)) _).setCell (.inl (by simp)) _).setCell (.inl (by simp)) _

set_option maxHeartbeats 1000000 in
theorem cdo9 {B cb sb n : Nat} {G Gr Gs : List Nat} {bx : Array Value} {f : Nat → List Ver} {cs : List (List Ver)} {torn : List UInt8} {st : Nat → Option Addr} (w : World) (h : Crt B w cb sb G Gr Gs bx f n cs torn st) :
    Calls Try.prog 75 #[.pointer (some ⟨cb, 0, none⟩), .agg #[.int .i64 9, .int .i64 0, .int .i64 0, .int .i64 0, .int .i64 0, .int .i64 0, .int .i64 0, .string ⟨#[]⟩]] w fun e w' => e = .returned (.agg #[.int .i64 0, .int .i64 0, .bool false, .string ⟨#[]⟩, .slice none 0 0]) ∧ ∃ sb', Ch (CrtT cb sb' (wal0 cs) cs.length cs [] (fun _ => none)) B w G w' := by
  have HV := hide h
  have HLO := hide (fun x (hx : x ∈ G) => (h.lo x hx).2)
  clear h
  go_enter Try.func75, Try.ntmps75
  go_wp2_with fail
  refine (cagain _ ((unhide HV).kp0 (((Kp.refl [] w).alloc _).alloc _))).mono ?_
  rintro e w1 ⟨rfl, sb', hCh⟩
  have hev : EvB w1 (w.heap.size + 1) := hCh.far (fun hm => by have := unhide HLO _ hm; omega) (two_alloc _ _ _)
  have HC := hide hCh
  obtain ⟨e0, e1, e2, e3, e4, g0, g1, g2, g3, g4⟩ := hev.c
  clear hev hCh
  go_wp2_with fail
  refine bodyPost_ret (v := .agg #[.int .i64 0, .int .i64 0, .bool false, .string ⟨#[]⟩, .slice none 0 0]) (by simp [results, Try.results75, go_sem, e0, e1, e2, e3, e4]) rfl ⟨rfl, sb', ?_⟩
  exact (unhide HC).side (((Kp.refl [] w).alloc _).alloc _) (unhide HLO) (Nat.le_succ _) (by simp) (ev5 _ _ _ _ _)

/-- The cells of a step in a variable that are looked at. -/
structure StpC (w : World) (q : Nat) (k keep : Int) : Prop where
  c0 : w.cell? ⟨q, 0, none⟩ = some (.int .i64 k)
  c1 : w.cell? ⟨q, 1, none⟩ = some (.int .i64 0)
  c6 : w.cell? ⟨q, 6, none⟩ = some (.int .i64 keep)
def StpB (w : World) (q : Nat) (k keep : Int) : Prop := w.heap[q]? = some (.cells #[.int .i64 k, .int .i64 0, .int .i64 0, .int .i64 0, .int .i64 0, .int .i64 0, .int .i64 keep, .string ⟨#[]⟩] 130 (0, 0))
theorem StpB.c {w : World} {q : Nat} {k keep : Int} (h : StpB w q k keep) : StpC w q k keep := ⟨cell_of_block h rfl, cell_of_block h rfl, cell_of_block h rfl⟩
/-- The world in which Do begins: the step and the event lie in new variables. -/
structure DoW (w W : World) (q p : Nat) (k keep : Int) : Prop where
  kp : Kp [] w W
  s : StpB W q k keep
  e : EvB W p
  hq : q = w.heap.size
  hp : p = w.heap.size + 1
theorem doW (w : World) (k keep : Int) : DoW w ((w.alloc (.cells #[.int .i64 k, .int .i64 0, .int .i64 0, .int .i64 0, .int .i64 0, .int .i64 0, .int .i64 keep, .string ⟨#[]⟩] 130)).alloc (.cells #[.int .i64 0, .int .i64 0, .bool false, .string ⟨#[]⟩, .slice none 0 0] 127)) w.heap.size (w.heap.size + 1) k keep :=
  ⟨((Kp.refl [] w).alloc _).alloc _, by
    show ((w.alloc _).alloc _).heap[w.heap.size]? = _
    rw [Below.heap_alloc _ _ _ (by simp)]
    exact heap_alloc_new _ _, two_alloc _ _ _, rfl, rfl⟩
theorem DoW.kp0 {w W W' : World} {q p : Nat} {k keep : Int} (h : DoW w W q p k keep) (hk : Kp [] W W') : DoW w W' q p k keep :=
  ⟨h.kp.trans0 hk, by show W'.heap[q]? = _; rw [hk.block q (lt_of_block h.s) (by simp)]; exact h.s, by show W'.heap[p]? = _; rw [hk.block p (lt_of_block h.e) (by simp)]; exact h.e, h.hq, h.hp⟩
/-- Behind a call that changed a thing of before. -/
theorem DoW.ch {w W w1 : World} {q p : Nat} {k keep : Int} {o' : Thing} {B : Nat} {G : List Nat} (h : DoW w W q p k keep) (hc : Ch o' B W G w1) (hG : ∀ x, x ∈ G → x < w.heap.size) : StpB w1 q k keep ∧ EvB w1 p :=
  ⟨hc.far (fun hm => by have := hG _ hm; have := h.hq; omega) h.s, hc.far (fun hm => by have := hG _ hm; have := h.hp; omega) h.e⟩

set_option maxHeartbeats 1000000 in
theorem cdo6 {B cb sb n wb : Nat} {G Gr Gs H : List Nat} {bx : Array Value} {f : Nat → List Ver} {cs : List (List Ver)} {st : Nat → Option Addr} {md y : Int} {rs : List Int} {ws : List Ver} (w : World) (h : Crt B w cb sb G Gr Gs bx f n cs [] st) (hv : VI f n cs) (hd : Wrk B w wb H md y rs ws) (hw : WOk ws) (hrl : rs.length ≤ 900) (hwl : ws.length ≤ 900) (hst : st 0 = some ⟨wb, 0, none⟩) :
    Calls Try.prog 75 #[.pointer (some ⟨cb, 0, none⟩), .agg #[.int .i64 6, .int .i64 0, .int .i64 0, .int .i64 0, .int .i64 0, .int .i64 0, .int .i64 0, .string ⟨#[]⟩]] w fun e w' => e = .returned (.agg #[.int .i64 (vcode f cs md y rs ws), .int .i64 (vnum f n cs md y rs ws), .bool false, .string ⟨#[]⟩, .slice none 0 0]) ∧ Ch (CrtT cb sb (vf f n cs md y rs ws) (vn f n cs md y rs ws) (vcs f cs md y rs ws) [] (upd st 0 none)) B w G w' := by
  have HV := hide h
  have HLO := hide (fun x (hx : x ∈ G) => (h.lo x hx).2)
  have HCM := hide (fun W (hk : Kp [] w W) => ccommit W (h.kp0 hk) hv (hd.kp0 hk) hw hrl hwl)
  have HDO := hide (doW w 6 0)
  have s0 := h.seat (i := 0) (by omega)
  rw [hst] at s0
  have hcb := (h.lo cb h.cG).2
  clear h hv hd hw hrl hwl hst
  generalize vcode f cs md y rs ws = zc at *
  generalize vnum f n cs md y rs ws = zn at *
  generalize vf f n cs md y rs ws = f2 at *
  generalize vn f n cs md y rs ws = n2 at *
  generalize vcs f cs md y rs ws = cs2 at *
  go_enter Try.func75, Try.ntmps75
  go_wp2_with fail
  generalize hW : (w.alloc (.cells #[.int .i64 6, .int .i64 0, .int .i64 0, .int .i64 0, .int .i64 0, .int .i64 0, .int .i64 0, .string ⟨#[]⟩] 130)).alloc (.cells #[.int .i64 0, .int .i64 0, .bool false, .string ⟨#[]⟩, .slice none 0 0] 127) = W at HDO ⊢
  clear hW
  generalize hq : w.heap.size = q at HDO hcb ⊢
  have HQ := hide hq
  clear hq
  generalize q + 1 = p at HDO ⊢
  obtain ⟨x0, x1, x6⟩ := (unhide HDO).s.c
  have s1 : W.cell? ⟨cb, 3 + 0, none⟩ = some (.pointer (some ⟨wb, 0, none⟩)) := (unhide HDO).kp.cell (by simp) s0
  have s2 : W.cell? ⟨cb, 3, none⟩ = some (.pointer (some ⟨wb, 0, none⟩)) := s1
  clear s0
  refine (isseat 0 _).mono ?_
  rintro e w' ⟨rfl, hw'⟩
  subst w'
  rw [show seatB 0 = true from rfl]
  go_wp2_with fail
  go_quiet (fail)
  go_wp2_with fail
  refine (unhide HCM _ ((unhide HDO).kp.drewN _)).mono ?_
  rintro e w1 ⟨rfl, hCh⟩
  obtain ⟨hst1, hev1⟩ := ((unhide HDO).kp0 ((Kp.refl [] W).drewN nq)).ch hCh (unhide HLO)
  obtain ⟨G1, ⟨Gr1, Gs1, bx1, h1⟩, k1, t1⟩ := hCh
  obtain ⟨y0, y1, y6⟩ := hst1.c
  have z0 := h1.seat (i := 0) (by omega)
  have z1 : w1.cell? ⟨cb, 3, none⟩ = some (.pointer (st 0)) := z0
  have z2 := h1.fz 3
  have z3 : w1.frozen? ⟨cb, 3 + 0, none⟩ = false := z2
  have hpc : p ≠ cb := by have := (unhide HDO).hp; have := unhide HQ; omega
  have hcp : cb ≠ p := fun e => hpc e.symm
  obtain ⟨e0, e1, e2, e3, e4, g0, g1, g2, g3, g4⟩ := hev1.c
  have HX := hide (Ch.trans k1 t1 (h1.sit (i := 0) (by omega) none))
  clear hst1 hev1 h1 k1 t1 x0 x1 x6 s1 s2
  go_wp2_with fail
  go_region
  all_goals
    go_wp2_with fail
    refine bodyPost_ret (v := .agg #[.int .i64 zc, .int .i64 zn, .bool false, .string ⟨#[]⟩, .slice none 0 0]) (by simp [results, Try.results75, go_sem, e0, e1, e2, e3, e4]) rfl ⟨rfl, ?_⟩
    exact (unhide HX).side ((unhide HDO).kp.drewN nq) (unhide HLO) (by have := (unhide HDO).hp; omega) (lt_of_block (unhide HDO).e) ((ev5 _ _ _ _ _).drew)

set_option maxHeartbeats 2000000 in
theorem cdo10 {B cb sb n wb : Nat} {G Gr Gs H : List Nat} {bx : Array Value} {f : Nat → List Ver} {cs : List (List Ver)} {st : Nat → Option Addr} {md y : Int} {rs : List Int} {ws : List Ver} (keep : Int) (w : World) (h : Crt B w cb sb G Gr Gs bx f n cs [] st) (hv : VI f n cs) (hd : Wrk B w wb H md y rs ws) (hw : WOk ws) (hrl : rs.length ≤ 900) (hwl : ws.length ≤ 900) (hst : st 0 = some ⟨wb, 0, none⟩) :
    Calls Try.prog 75 #[.pointer (some ⟨cb, 0, none⟩), .agg #[.int .i64 10, .int .i64 0, .int .i64 0, .int .i64 0, .int .i64 0, .int .i64 0, .int .i64 keep, .string ⟨#[]⟩]] w fun e w' => e = .returned (.agg #[.int .i64 (vcode f cs md y rs ws), .int .i64 (tnum f cs md y rs ws keep), .bool false, .string ⟨#[]⟩, .slice none 0 0]) ∧ ∃ sb', Ch (CrtT cb sb' (wal0 (tcs f cs md y rs ws keep)) (tcs f cs md y rs ws keep).length (tcs f cs md y rs ws keep) [] (fun _ => none)) B w G w' := by
  have HV := hide h
  have HLO := hide (fun x (hx : x ∈ G) => (h.lo x hx).2)
  have HMY := hide (fun W (hk : Kp [] w W) => wmay69 W (h.s.kp0 hk) (hd.kp0 hk) hrl hwl)
  have HWR := hide (fun W (hk : Kp [] w W) => wwrites67 W (hd.kp0 hk) hwl)
  have HDO := hide (doW w 10 keep)
  have s0 := h.seat (i := 0) (by omega)
  rw [hst] at s0
  have u0 := h.c0
  have u8 := h.s.ncell
  have hcb := (h.lo cb h.cG).2
  have hpl := wk_len ws 8
  have HP := hide hw.pf
  have hn40 := h.s.inv.n40
  have hlen := hv.len
  clear h hv hd hw hrl hwl hst
  by_cases hz : dm f md y rs ws = 0
  · rw [hz] at HMY
    by_cases hl : (wk ws 8).length = 0
    · rw [(v_none (cs := cs) hz hl).1, tnum_same (t_none (f := f) (cs := cs) (md := md) (y := y) (rs := rs) (keep := keep) hl), t_none (f := f) (cs := cs) (md := md) (y := y) (rs := rs) (keep := keep) hl]
      clear HP
      go_enter Try.func75, Try.ntmps75
      go_wp2_with fail
      generalize hW : (w.alloc (.cells #[.int .i64 10, .int .i64 0, .int .i64 0, .int .i64 0, .int .i64 0, .int .i64 0, .int .i64 keep, .string ⟨#[]⟩] 130)).alloc (.cells #[.int .i64 0, .int .i64 0, .bool false, .string ⟨#[]⟩, .slice none 0 0] 127) = W at HDO ⊢
      clear hW
      generalize hq : w.heap.size = q at HDO hcb ⊢
      have HQ := hide hq
      clear hq
      generalize q + 1 = p at HDO ⊢
      obtain ⟨x0, x1, x6⟩ := (unhide HDO).s.c
      have s1 : W.cell? ⟨cb, 3 + 0, none⟩ = some (.pointer (some ⟨wb, 0, none⟩)) := (unhide HDO).kp.cell (by simp) s0
      have s2 : W.cell? ⟨cb, 3, none⟩ = some (.pointer (some ⟨wb, 0, none⟩)) := s1
      have v0 : W.cell? ⟨cb, 0, none⟩ = some (.pointer (some ⟨sb, 0, none⟩)) := (unhide HDO).kp.cell (by simp) u0
      clear s0
      refine (isseat 0 _).mono ?_
      rintro e w' ⟨rfl, hw'⟩
      subst w'
      rw [show seatB 0 = true from rfl]
      go_wp2_with fail
      go_quiet (fail)
      go_wp2_with fail
      refine (unhide HMY _ ((unhide HDO).kp.drewN _)).mono ?_
      rintro e w1 ⟨rfl, hk1⟩
      have hK1 := ((unhide HDO).kp.drewN nq).trans0 hk1
      have HD1 := hide (((unhide HDO).kp0 ((Kp.refl [] W).drewN nq)).kp0 hk1)
      have a0 : w1.cell? ⟨cb, 0, none⟩ = some (.pointer (some ⟨sb, 0, none⟩)) := hK1.cell (by simp) u0
      have a8 : w1.cell? ⟨sb, 8, none⟩ = some (.int .i64 n) := hK1.cell (by simp) u8
      have HK1 := hide hK1
      clear hk1 hK1 x0 x1 x6 s1 s2 v0
      obtain ⟨x0, x1, x6⟩ := (unhide HD1).s.c
      go_wp2_with fail
      refine (unhide HWR w1 (unhide HK1)).mono ?_
      rintro e w2 ⟨a, cap, rfl, ho, hk2⟩
      have HD2 := hide ((unhide HD1).kp0 hk2)
      have HK2 := hide ((unhide HK1).trans0 hk2)
      have HO := hide (own_base ho (unhide HK1).size)
      clear ho hk2 x0 x1 x6 a0 a8
      obtain ⟨x0, x1, x6⟩ := (unhide HD2).s.c
      rw [hl]
      clear HO
      go_wp2_with fail
      refine (cagain w2 ((unhide HV).kp0 (unhide HK2))).mono ?_
      rintro e w4 ⟨rfl, sb4, hCh⟩
      obtain ⟨_, hev4⟩ := (unhide HD2).ch hCh (unhide HLO)
      have HX := hide hCh
      obtain ⟨G4, ⟨Gr4, Gs4, bx4, h4⟩, k4, t4⟩ := hCh
      have b0 := h4.c0
      have b8 := h4.s.ncell
      have hnn : ¬ (n : Int) < (cs.length : Int) := by omega
      obtain ⟨e0, e1, e2, e3, e4, g0, g1, g2, g3, g4⟩ := hev4.c
      have HLEN := hide hlen
      clear hev4 h4 k4 t4 x0 x1 x6 hlen
      go_wp2_with fail
      refine bodyPost_ret (v := .agg #[.int .i64 0, .int .i64 0, .bool false, .string ⟨#[]⟩, .slice none 0 0]) (by simp [results, Try.results75, go_sem, e0, e1, e2, e3, e4]) rfl ⟨rfl, sb4, ?_⟩
      exact (unhide HX).side (unhide HK2) (unhide HLO) (by have := (unhide HDO).hp; omega) (lt_of_block (unhide HD2).e) (ev5 _ _ _ _ _)
    · have hvc : vcode f cs md y rs ws = lcode cs (wk ws 8) := by unfold vcode; rw [if_pos hz, if_neg hl]
      have htt := t_tear (f := f) (cs := cs) (md := md) (y := y) (rs := rs) (keep := keep) hz hl
      rcases tcs_cases (f := f) (cs := cs) (md := md) (y := y) (rs := rs) (ws := ws) (keep := keep) with hcs | ⟨hcs, -, -⟩
      · rw [tnum_same hcs, hvc, hcs]
        rw [htt] at hcs
        have HCS := hide hcs
        clear hcs hvc htt hz
        generalize hzz : lcode cs (wk ws 8) = z at *
        have HZZ := hide hzz
        clear hzz
        generalize wk ws 8 = ps at *
        go_enter Try.func75, Try.ntmps75
        go_wp2_with fail
        generalize hW : (w.alloc (.cells #[.int .i64 10, .int .i64 0, .int .i64 0, .int .i64 0, .int .i64 0, .int .i64 0, .int .i64 keep, .string ⟨#[]⟩] 130)).alloc (.cells #[.int .i64 0, .int .i64 0, .bool false, .string ⟨#[]⟩, .slice none 0 0] 127) = W at HDO ⊢
        clear hW
        generalize hq : w.heap.size = q at HDO hcb ⊢
        have HQ := hide hq
        clear hq
        generalize q + 1 = p at HDO ⊢
        obtain ⟨x0, x1, x6⟩ := (unhide HDO).s.c
        have s1 : W.cell? ⟨cb, 3 + 0, none⟩ = some (.pointer (some ⟨wb, 0, none⟩)) := (unhide HDO).kp.cell (by simp) s0
        have s2 : W.cell? ⟨cb, 3, none⟩ = some (.pointer (some ⟨wb, 0, none⟩)) := s1
        have v0 : W.cell? ⟨cb, 0, none⟩ = some (.pointer (some ⟨sb, 0, none⟩)) := (unhide HDO).kp.cell (by simp) u0
        clear s0
        refine (isseat 0 _).mono ?_
        rintro e w' ⟨rfl, hw'⟩
        subst w'
        rw [show seatB 0 = true from rfl]
        go_wp2_with fail
        go_quiet (fail)
        go_wp2_with fail
        refine (unhide HMY _ ((unhide HDO).kp.drewN _)).mono ?_
        rintro e w1 ⟨rfl, hk1⟩
        have hK1 := ((unhide HDO).kp.drewN nq).trans0 hk1
        have HD1 := hide (((unhide HDO).kp0 ((Kp.refl [] W).drewN nq)).kp0 hk1)
        have a0 : w1.cell? ⟨cb, 0, none⟩ = some (.pointer (some ⟨sb, 0, none⟩)) := hK1.cell (by simp) u0
        have a8 : w1.cell? ⟨sb, 8, none⟩ = some (.int .i64 n) := hK1.cell (by simp) u8
        have HK1 := hide hK1
        clear hk1 hK1 x0 x1 x6 s1 s2 v0
        obtain ⟨x0, x1, x6⟩ := (unhide HD1).s.c
        go_wp2_with fail
        refine (unhide HWR w1 (unhide HK1)).mono ?_
        rintro e w2 ⟨a, cap, rfl, ho, hk2⟩
        have HD2 := hide ((unhide HD1).kp0 hk2)
        have HK2 := hide ((unhide HK1).trans0 hk2)
        have HO := hide (own_base ho (unhide HK1).size)
        clear ho hk2 x0 x1 x6 a0 a8
        obtain ⟨x0, x1, x6⟩ := (unhide HD2).s.c
        have hlp : (0 : Int) < (ps.length : Int) := by omega
        have h2 := (unhide HV).kp0 (unhide HK2)
        have H2 := hide h2
        have HPR := hide (slo_prs (slo_own (unhide HO) rfl) (unhide HP))
        have hfar : ∀ g o, a = some ⟨g, o, none⟩ → g ∉ Gr := fun g o ea hm => by
          have h3 := (own_addr1 (unhide HO) g o ea).1
          have h4 := ((unhide HV).lo g ((unhide HV).rG g hm)).2
          omega
        have HF := hide hfar
        clear h2 hfar
        go_wp2_with fail
        go_region_with (go_at_call 62; refine (rxtear a cap ps keep _ ((unhide H2).r.kp0 (Kp.refl [] w2).drew) ((unhide HPR).kp0 (Kp.refl [] w2).drew) (fun _ => unhide HF) (by omega)).mono ?_; rintro e w3 ⟨rfl, hL⟩)
        all_goals
          rw [unhide HCS] at hL
          obtain ⟨G3, ⟨Gr3, Gs3, bx3, h3⟩, k3, t3⟩ := ((unhide H2).kp0 (Kp.refl [] w2).drew).roll hL
          have H3 := hide h3
          have K3 := hide k3
          have T3 := hide t3
          clear h3 k3 t3 hL
          rw [unhide HZZ]
          go_wp2_with fail
          refine (cagain w3 (unhide H3)).mono ?_
          rintro e w4 ⟨rfl, sb4, hCh0⟩
          have hCh := Ch.trans (unhide K3) (unhide T3) hCh0
          obtain ⟨_, hev4⟩ := ((unhide HD2).kp0 (Kp.refl [] w2).drew).ch hCh (unhide HLO)
          have HX := hide hCh
          obtain ⟨G4, ⟨Gr4, Gs4, bx4, h4⟩, k4, t4⟩ := hCh
          have b0 := h4.c0
          have b8 := h4.s.ncell
          have hnn : ¬ (n : Int) < (cs.length : Int) := by omega
          obtain ⟨e0, e1, e2, e3, e4, g0, g1, g2, g3, g4⟩ := hev4.c
          have HLEN := hide hlen
          clear hev4 h4 k4 t4 x0 x1 x6 hlen hCh0
          go_wp2_with fail
          refine bodyPost_ret (v := .agg #[.int .i64 z, .int .i64 0, .bool false, .string ⟨#[]⟩, .slice none 0 0]) (by simp [results, Try.results75, go_sem, e0, e1, e2, e3, e4]) rfl ⟨rfl, sb4, ?_⟩
          exact (unhide HX).side (unhide HK2).drew (unhide HLO) (by have := (unhide HDO).hp; omega) (lt_of_block (unhide HD2).e) (ev5 _ _ _ _ _)
      · rw [tnum_more hcs, hvc, hcs]
        rw [htt] at hcs
        have HCS := hide hcs
        clear hcs hvc htt hz
        have hN2 : (cs ++ [wk ws 8]).length = n + 1 := by rw [List.length_append, hlen]; rfl
        obtain ⟨m, hm⟩ : ∃ m, n + 1 = m := ⟨_, rfl⟩
        have hN3 : (cs.length : Int) + 1 = (m : Int) := by omega
        rw [hN3]
        rw [hm] at hN2
        have HN2 := hide hN2
        have hnn : (n : Int) < (m : Int) := by omega
        have HLEN := hide hlen
        clear hN2 hN3 hm hlen
        generalize hzz : lcode cs (wk ws 8) = z at *
        have HZZ := hide hzz
        clear hzz
        generalize wk ws 8 = ps at *
        go_enter Try.func75, Try.ntmps75
        go_wp2_with fail
        generalize hW : (w.alloc (.cells #[.int .i64 10, .int .i64 0, .int .i64 0, .int .i64 0, .int .i64 0, .int .i64 0, .int .i64 keep, .string ⟨#[]⟩] 130)).alloc (.cells #[.int .i64 0, .int .i64 0, .bool false, .string ⟨#[]⟩, .slice none 0 0] 127) = W at HDO ⊢
        clear hW
        generalize hq : w.heap.size = q at HDO hcb ⊢
        have HQ := hide hq
        clear hq
        generalize q + 1 = p at HDO ⊢
        obtain ⟨x0, x1, x6⟩ := (unhide HDO).s.c
        have s1 : W.cell? ⟨cb, 3 + 0, none⟩ = some (.pointer (some ⟨wb, 0, none⟩)) := (unhide HDO).kp.cell (by simp) s0
        have s2 : W.cell? ⟨cb, 3, none⟩ = some (.pointer (some ⟨wb, 0, none⟩)) := s1
        have v0 : W.cell? ⟨cb, 0, none⟩ = some (.pointer (some ⟨sb, 0, none⟩)) := (unhide HDO).kp.cell (by simp) u0
        clear s0
        refine (isseat 0 _).mono ?_
        rintro e w' ⟨rfl, hw'⟩
        subst w'
        rw [show seatB 0 = true from rfl]
        go_wp2_with fail
        go_quiet (fail)
        go_wp2_with fail
        refine (unhide HMY _ ((unhide HDO).kp.drewN _)).mono ?_
        rintro e w1 ⟨rfl, hk1⟩
        have hK1 := ((unhide HDO).kp.drewN nq).trans0 hk1
        have HD1 := hide (((unhide HDO).kp0 ((Kp.refl [] W).drewN nq)).kp0 hk1)
        have a0 : w1.cell? ⟨cb, 0, none⟩ = some (.pointer (some ⟨sb, 0, none⟩)) := hK1.cell (by simp) u0
        have a8 : w1.cell? ⟨sb, 8, none⟩ = some (.int .i64 n) := hK1.cell (by simp) u8
        have HK1 := hide hK1
        clear hk1 hK1 x0 x1 x6 s1 s2 v0
        obtain ⟨x0, x1, x6⟩ := (unhide HD1).s.c
        go_wp2_with fail
        refine (unhide HWR w1 (unhide HK1)).mono ?_
        rintro e w2 ⟨a, cap, rfl, ho, hk2⟩
        have HD2 := hide ((unhide HD1).kp0 hk2)
        have HK2 := hide ((unhide HK1).trans0 hk2)
        have HO := hide (own_base ho (unhide HK1).size)
        clear ho hk2 x0 x1 x6 a0 a8
        obtain ⟨x0, x1, x6⟩ := (unhide HD2).s.c
        have hlp : (0 : Int) < (ps.length : Int) := by omega
        have h2 := (unhide HV).kp0 (unhide HK2)
        have H2 := hide h2
        have HPR := hide (slo_prs (slo_own (unhide HO) rfl) (unhide HP))
        have hfar : ∀ g o, a = some ⟨g, o, none⟩ → g ∉ Gr := fun g o ea hm => by
          have h3 := (own_addr1 (unhide HO) g o ea).1
          have h4 := ((unhide HV).lo g ((unhide HV).rG g hm)).2
          omega
        have HF := hide hfar
        clear h2 hfar
        go_wp2_with fail
        go_region_with (go_at_call 62; refine (rxtear a cap ps keep _ ((unhide H2).r.kp0 (Kp.refl [] w2).drew) ((unhide HPR).kp0 (Kp.refl [] w2).drew) (fun _ => unhide HF) (by omega)).mono ?_; rintro e w3 ⟨rfl, hL⟩)
        all_goals
          rw [unhide HCS] at hL
          obtain ⟨G3, ⟨Gr3, Gs3, bx3, h3⟩, k3, t3⟩ := ((unhide H2).kp0 (Kp.refl [] w2).drew).roll hL
          have H3 := hide h3
          have K3 := hide k3
          have T3 := hide t3
          clear h3 k3 t3 hL
          rw [unhide HZZ]
          go_wp2_with fail
          refine (cagain w3 (unhide H3)).mono ?_
          rintro e w4 ⟨rfl, sb4, hCh0⟩
          have hCh := Ch.trans (unhide K3) (unhide T3) hCh0
          obtain ⟨_, hev4⟩ := ((unhide HD2).kp0 (Kp.refl [] w2).drew).ch hCh (unhide HLO)
          have HX := hide hCh
          obtain ⟨G4, ⟨Gr4, Gs4, bx4, h4⟩, k4, t4⟩ := hCh
          have b0 := h4.c0
          have b8 := h4.s.ncell
          rw [unhide HN2] at b8
          obtain ⟨e0, e1, e2, e3, e4, g0, g1, g2, g3, g4⟩ := hev4.c
          clear hev4 h4 k4 t4 x0 x1 x6 hCh0
          go_wp2_with fail
          refine bodyPost_ret (v := .agg #[.int .i64 z, .int .i64 (m : Int), .bool false, .string ⟨#[]⟩, .slice none 0 0]) (by simp [results, Try.results75, go_sem, e0, e1, e2, e3, e4]) rfl ⟨rfl, sb4, ?_⟩
          exact (unhide HX).side (unhide HK2).drew (unhide HLO) (by have := (unhide HDO).hp; omega) (lt_of_block (unhide HD2).e) (ev5 _ _ _ _ _)
  · rw [(v_may (cs := cs) hz).1, tnum_same (t_may (cs := cs) (keep := keep) hz), t_may (cs := cs) (keep := keep) hz]
    clear HP
    generalize dm f md y rs ws = z at *
    go_enter Try.func75, Try.ntmps75
    go_wp2_with fail
    generalize hW : (w.alloc (.cells #[.int .i64 10, .int .i64 0, .int .i64 0, .int .i64 0, .int .i64 0, .int .i64 0, .int .i64 keep, .string ⟨#[]⟩] 130)).alloc (.cells #[.int .i64 0, .int .i64 0, .bool false, .string ⟨#[]⟩, .slice none 0 0] 127) = W at HDO ⊢
    clear hW
    generalize hq : w.heap.size = q at HDO hcb ⊢
    have HQ := hide hq
    clear hq
    generalize q + 1 = p at HDO ⊢
    obtain ⟨x0, x1, x6⟩ := (unhide HDO).s.c
    have s1 : W.cell? ⟨cb, 3 + 0, none⟩ = some (.pointer (some ⟨wb, 0, none⟩)) := (unhide HDO).kp.cell (by simp) s0
    have s2 : W.cell? ⟨cb, 3, none⟩ = some (.pointer (some ⟨wb, 0, none⟩)) := s1
    have v0 : W.cell? ⟨cb, 0, none⟩ = some (.pointer (some ⟨sb, 0, none⟩)) := (unhide HDO).kp.cell (by simp) u0
    clear s0
    refine (isseat 0 _).mono ?_
    rintro e w' ⟨rfl, hw'⟩
    subst w'
    rw [show seatB 0 = true from rfl]
    go_wp2_with fail
    go_quiet (fail)
    go_wp2_with fail
    refine (unhide HMY _ ((unhide HDO).kp.drewN _)).mono ?_
    rintro e w1 ⟨rfl, hk1⟩
    have hK1 := ((unhide HDO).kp.drewN nq).trans0 hk1
    have HD1 := hide (((unhide HDO).kp0 ((Kp.refl [] W).drewN nq)).kp0 hk1)
    have a0 : w1.cell? ⟨cb, 0, none⟩ = some (.pointer (some ⟨sb, 0, none⟩)) := hK1.cell (by simp) u0
    have a8 : w1.cell? ⟨sb, 8, none⟩ = some (.int .i64 n) := hK1.cell (by simp) u8
    have HK1 := hide hK1
    clear hk1 hK1 x0 x1 x6 s1 s2 v0
    obtain ⟨x0, x1, x6⟩ := (unhide HD1).s.c
    go_wp2_with fail
    refine (unhide HWR w1 (unhide HK1)).mono ?_
    rintro e w2 ⟨a, cap, rfl, ho, hk2⟩
    have HD2 := hide ((unhide HD1).kp0 hk2)
    have HK2 := hide ((unhide HK1).trans0 hk2)
    have HO := hide (own_base ho (unhide HK1).size)
    clear ho hk2 x0 x1 x6 a0 a8
    obtain ⟨x0, x1, x6⟩ := (unhide HD2).s.c
    clear HO
    go_wp2_with fail
    refine (cagain w2 ((unhide HV).kp0 (unhide HK2))).mono ?_
    rintro e w4 ⟨rfl, sb4, hCh⟩
    obtain ⟨_, hev4⟩ := (unhide HD2).ch hCh (unhide HLO)
    have HX := hide hCh
    obtain ⟨G4, ⟨Gr4, Gs4, bx4, h4⟩, k4, t4⟩ := hCh
    have b0 := h4.c0
    have b8 := h4.s.ncell
    have hnn : ¬ (n : Int) < (cs.length : Int) := by omega
    obtain ⟨e0, e1, e2, e3, e4, g0, g1, g2, g3, g4⟩ := hev4.c
    have HLEN := hide hlen
    clear hev4 h4 k4 t4 x0 x1 x6 hlen
    go_wp2_with fail
    refine bodyPost_ret (v := .agg #[.int .i64 z, .int .i64 0, .bool false, .string ⟨#[]⟩, .slice none 0 0]) (by simp [results, Try.results75, go_sem, e0, e1, e2, e3, e4]) rfl ⟨rfl, sb4, ?_⟩
    exact (unhide HX).side (unhide HK2) (unhide HLO) (by have := (unhide HDO).hp; omega) (lt_of_block (unhide HD2).e) (ev5 _ _ _ _ _)

end Go.Proofs.Ytcfogkdpkpehaab

/- A house: a vault, a court, and deeds of both; its memory, and what calls leave of it. -/
namespace Go.Proofs.Ytcfogkdpkpehaab
open Go.RowKit
set_option maxRecDepth 20000

/-- A variable: a block that is known whole. -/
def BoxT (q : Nat) (cs : Array Value) (T : TypeId) : Thing where
  holds B w F := w.heap[q]? = some (.cells cs T (0, 0)) ∧ F = [q] ∧ B ≤ q
  kp := fun ⟨h1, h2, h3⟩ hk hS => ⟨by rw [hk.block q (lt_of_block h1) (hS q (by rw [h2]; simp))]; exact h1, h2, h3⟩
  lo := fun ⟨h1, h2, h3⟩ x hx => by rw [h2] at hx; simp at hx; rw [hx]; exact ⟨h3, lt_of_block h1⟩
  base := fun ⟨h1, h2, h3⟩ hC => ⟨h1, h2, Nat.le_trans hC h3⟩

section
variable {w0 w w' : World} {o o1 o2 o3 : Thing} {r : List Thing}
theorem zoo_at3 (h : Zoo w0 w (o1 :: o2 :: o3 :: o :: r)) : ∃ F, o.holds w0.heap.size w F ∧ ∀ (o' : Thing) (w' : World), Ch o' w0.heap.size w F w' → Zoo w0 w' (o1 :: o2 :: o3 :: o' :: r) := Zoo.at_ (l1 := [o1, o2, o3]) h
theorem Zoo.box (h : Zoo w0 w r) (cs : Array Value) (T : TypeId) : Zoo w0 (w.alloc (.cells cs T)) (BoxT w.heap.size cs T :: r) :=
  h.cons (F := [w.heap.size]) ⟨heap_alloc_new w _, rfl, Nat.le_refl _⟩ ((Kp.refl [] w).alloc _)
theorem Zoo.var {q : Nat} {cs : Array Value} {T : TypeId} (h : Zoo w0 w (BoxT q cs T :: r)) : w.heap[q]? = some (.cells cs T (0, 0)) := by
  obtain ⟨F, h1, _⟩ := zoo_at0 h
  exact h1.1
theorem Zoo.base (h : Zoo w0 w r) : w0.heap.size ≤ w.heap.size := h.kp.size
end

def ptrs (bs : List Nat) : List Value := bs.map fun b => .pointer (some ⟨b, 0, none⟩)
theorem ptrs_one (bs : List Nat) : ∀ u ∈ ptrs bs, u.oneCell' = true := by
  intro u hu
  obtain ⟨_, _, rfl⟩ := List.mem_map.1 hu
  rfl
theorem ptrs_length (bs : List Nat) : (ptrs bs).length = bs.length := by simp [ptrs]
theorem ptrs_append (xs bs : List Nat) : ptrs (xs ++ bs) = ptrs xs ++ ptrs bs := by simp [ptrs]
theorem ptrs_at {l1 l2 : List Nat} {x k : Nat} (hk : k = l1.length) : (ptrs (l1 ++ x :: l2))[k]? = some (.pointer (some ⟨x, 0, none⟩)) := by
  subst hk
  simp [ptrs]

/-- A house's memory: its box holds the vault, the court, and the rows of the deeds. -/
structure Hbx (B : Nat) (w : World) (hb : Nat) (F : List Nat) (vb cb : Nat) (da : Option Addr) (dc : Nat) (wa : Option Addr) (wc : Nat) (dn wn : Nat) (dbs wbs : List Nat) : Prop where
  box : w.heap[hb]? = some (.cells #[.pointer (some ⟨vb, 0, none⟩), .pointer (some ⟨cb, 0, none⟩), .slice da dn dc, .slice wa wn wc] 81 (0, 0))
  rd : PRow 92 B w da dn dc (ptrs dbs)
  rw_ : PRow 123 B w wa wn wc (ptrs wbs)
  hd : hb ∉ ob da
  hw : hb ∉ ob wa
  dw : ∀ x ∈ ob da, x ∉ ob wa
  hF : hb ∈ F
  dF : ∀ x ∈ ob da, x ∈ F
  wF : ∀ x ∈ ob wa, x ∈ F
  lo : ∀ x ∈ F, B ≤ x ∧ x < w.heap.size
section
variable {B : Nat} {w w' W : World} {hb : Nat} {F S : List Nat} {vb cb : Nat} {da a' : Option Addr} {dc c' : Nat} {wa : Option Addr} {wc dn wn : Nat} {dbs wbs l : List Nat}
theorem Hbx.kp (h : Hbx B w hb F vb cb da dc wa wc dn wn dbs wbs) (hk : Kp S w w') (hS : ∀ x, x ∈ F → x ∉ S) : Hbx B w' hb F vb cb da dc wa wc dn wn dbs wbs :=
  ⟨by rw [hk.block hb (h.lo hb h.hF).2 (hS _ h.hF)]; exact h.box, h.rd.kp hk (fun x hx => hS x (h.dF x hx)), h.rw_.kp hk (fun x hx => hS x (h.wF x hx)), h.hd, h.hw, h.dw, h.hF, h.dF, h.wF, fun x hx => ⟨(h.lo x hx).1, Nat.lt_of_lt_of_le (h.lo x hx).2 hk.size⟩⟩
theorem Hbx.kp0 (h : Hbx B w hb F vb cb da dc wa wc dn wn dbs wbs) (hk : Kp [] w w') : Hbx B w' hb F vb cb da dc wa wc dn wn dbs wbs := h.kp hk (fun _ _ => by simp)
theorem Hbx.base {C : Nat} (h : Hbx B w hb F vb cb da dc wa wc dn wn dbs wbs) (hC : C ≤ B) : Hbx C w hb F vb cb da dc wa wc dn wn dbs wbs :=
  ⟨h.box, h.rd.base hC, h.rw_.base hC, h.hd, h.hw, h.dw, h.hF, h.dF, h.wF, fun x hx => ⟨Nat.le_trans hC (h.lo x hx).1, (h.lo x hx).2⟩⟩
theorem Hbx.c0 (h : Hbx B w hb F vb cb da dc wa wc dn wn dbs wbs) : w.cell? ⟨hb, 0, none⟩ = some (.pointer (some ⟨vb, 0, none⟩)) := cell_of_block h.box rfl
theorem Hbx.c1 (h : Hbx B w hb F vb cb da dc wa wc dn wn dbs wbs) : w.cell? ⟨hb, 1, none⟩ = some (.pointer (some ⟨cb, 0, none⟩)) := cell_of_block h.box rfl
theorem Hbx.c2 (h : Hbx B w hb F vb cb da dc wa wc dn wn dbs wbs) : w.cell? ⟨hb, 2, none⟩ = some (.slice da dn dc) := cell_of_block h.box rfl
theorem Hbx.c3 (h : Hbx B w hb F vb cb da dc wa wc dn wn dbs wbs) : w.cell? ⟨hb, 3, none⟩ = some (.slice wa wn wc) := cell_of_block h.box rfl
theorem Hbx.fz (h : Hbx B w hb F vb cb da dc wa wc dn wn dbs wbs) (i : Nat) : w.frozen? ⟨hb, i, none⟩ = false := frozen_of_block i h.box
/-- Another row of deeds: it was made upon the old one. -/
theorem Hbx.setD (h : Hbx B w hb F vb cb da dc wa wc dn wn dbs wbs) (hk : Kp (ob da) w W) {m : Nat} (ho : PRow 92 B W a' m c' (ptrs l)) (hn : ∀ x ∈ ob a', x ∈ ob da ∨ w.heap.size ≤ x) :
    ∃ F', Hbx B (W.setCell ⟨hb, 2, none⟩ (.slice a' m c')) hb F' vb cb a' c' wa wc m wn l wbs ∧ Kp F w (W.setCell ⟨hb, 2, none⟩ (.slice a' m c')) ∧ ∀ x, x ∈ F' → x ∈ F ∨ w.heap.size ≤ x := by
  have hhb := (h.lo hb h.hF).2
  have hk3 : Kp [hb] W (W.setCell ⟨hb, 2, none⟩ (.slice a' m c')) := (Kp.refl [hb] W).setCell (.inl (by simp)) _
  have hkF : Kp F w (W.setCell ⟨hb, 2, none⟩ (.slice a' m c')) := (hk.mono (fun x hx => .inl (h.dF x hx))).trans hk3 (fun x hx => .inl (by rw [List.mem_singleton.1 hx]; exact h.hF))
  have hne : hb ∉ ob a' := fun hm => by
    rcases hn hb hm with e | e
    · exact h.hd e
    · omega
  refine ⟨F ++ ob a', ⟨?_, ho.kp hk3 (fun x hx e => hne (by rw [← List.mem_singleton.1 e]; exact hx)), (h.rw_.kp hk (fun x hx hm => h.dw x hm hx)).kp hk3 (fun x hx e => h.hw (by rw [← List.mem_singleton.1 e]; exact hx)), hne, h.hw, fun x hx hm => ?_, by simp [h.hF], fun x hx => by simp [hx], fun x hx => by simp [h.wF x hx], fun x hx => ?_⟩, hkF, fun x hx => ?_⟩
  · have hb1 : W.heap[hb]? = some (.cells #[.pointer (some ⟨vb, 0, none⟩), .pointer (some ⟨cb, 0, none⟩), .slice da dn dc, .slice wa wn wc] 81 (0, 0)) := by rw [hk.block hb hhb h.hd]; exact h.box
    exact heap_setCell_at 2 _ hb1
  · rcases hn x hx with e | e
    · exact h.dw x e hm
    · have := (h.lo x (h.wF x hm)).2; omega
  · rcases List.mem_append.1 hx with e | e
    · exact ⟨(h.lo x e).1, Nat.lt_of_lt_of_le (h.lo x e).2 hkF.size⟩
    · exact ⟨(ho.lo x e).1, Nat.lt_of_lt_of_le (ho.lo x e).2 hk3.size⟩
  · rcases List.mem_append.1 hx with e | e
    · exact .inl e
    · rcases hn x e with e | e
      · exact .inl (h.dF x e)
      · exact .inr e
theorem Hbx.setW (h : Hbx B w hb F vb cb da dc wa wc dn wn dbs wbs) (hk : Kp (ob wa) w W) {m : Nat} (ho : PRow 123 B W a' m c' (ptrs l)) (hn : ∀ x ∈ ob a', x ∈ ob wa ∨ w.heap.size ≤ x) :
    ∃ F', Hbx B (W.setCell ⟨hb, 3, none⟩ (.slice a' m c')) hb F' vb cb da dc a' c' dn m dbs l ∧ Kp F w (W.setCell ⟨hb, 3, none⟩ (.slice a' m c')) ∧ ∀ x, x ∈ F' → x ∈ F ∨ w.heap.size ≤ x := by
  have hhb := (h.lo hb h.hF).2
  have hk3 : Kp [hb] W (W.setCell ⟨hb, 3, none⟩ (.slice a' m c')) := (Kp.refl [hb] W).setCell (.inl (by simp)) _
  have hkF : Kp F w (W.setCell ⟨hb, 3, none⟩ (.slice a' m c')) := (hk.mono (fun x hx => .inl (h.wF x hx))).trans hk3 (fun x hx => .inl (by rw [List.mem_singleton.1 hx]; exact h.hF))
  have hne : hb ∉ ob a' := fun hm => by
    rcases hn hb hm with e | e
    · exact h.hw e
    · omega
  refine ⟨F ++ ob a', ⟨?_, (h.rd.kp hk (fun x hx hm => h.dw x hx hm)).kp hk3 (fun x hx e => h.hd (by rw [← List.mem_singleton.1 e]; exact hx)), ho.kp hk3 (fun x hx e => hne (by rw [← List.mem_singleton.1 e]; exact hx)), h.hd, hne, fun x hx hm => ?_, by simp [h.hF], fun x hx => by simp [h.dF x hx], fun x hx => by simp [hx], fun x hx => ?_⟩, hkF, fun x hx => ?_⟩
  · have hb1 : W.heap[hb]? = some (.cells #[.pointer (some ⟨vb, 0, none⟩), .pointer (some ⟨cb, 0, none⟩), .slice da dn dc, .slice wa wn wc] 81 (0, 0)) := by rw [hk.block hb hhb h.hw]; exact h.box
    exact heap_setCell_at 3 _ hb1
  · rcases hn x hm with e | e
    · exact h.dw x hx e
    · have := (h.lo x (h.dF x hx)).2; omega
  · rcases List.mem_append.1 hx with e | e
    · exact ⟨(h.lo x e).1, Nat.lt_of_lt_of_le (h.lo x e).2 hkF.size⟩
    · exact ⟨(ho.lo x e).1, Nat.lt_of_lt_of_le (ho.lo x e).2 hk3.size⟩
  · rcases List.mem_append.1 hx with e | e
    · exact .inl e
    · rcases hn x e with e | e
      · exact .inl (h.wF x e)
      · exact .inr e
end
def HbT (hb vb cb dn wn : Nat) (dbs wbs : List Nat) : Thing where
  holds B w F := ∃ da dc wa wc, Hbx B w hb F vb cb da dc wa wc dn wn dbs wbs
  kp := fun ⟨da, dc, wa, wc, h⟩ hk hS => ⟨da, dc, wa, wc, h.kp hk hS⟩
  lo := fun ⟨_, _, _, _, h⟩ => h.lo
  base := fun ⟨da, dc, wa, wc, h⟩ hC => ⟨da, dc, wa, wc, h.base hC⟩
/-- A house just laid. -/
theorem hbx_new (w : World) (vb cb : Nat) : Hbx w.heap.size (w.alloc (.cells #[.pointer (some ⟨vb, 0, none⟩), .pointer (some ⟨cb, 0, none⟩), .slice none 0 0, .slice none 0 0] 81)) w.heap.size [w.heap.size] vb cb none 0 none 0 0 0 [] [] :=
  ⟨heap_alloc_new _ _, prow_nil _ _ _, prow_nil _ _ _, by simp [ob], by simp [ob], by simp [ob], by simp, by simp [ob], by simp [ob], fun x hx => by simp at hx; simp; omega⟩

theorem Try.info92 : (Try.prog.info? 92).map (fun i => (i.zero, i.size, i.bytes)) = some (some (.pointer none), 1, 8) := by kernel_rfl
theorem Try.info123 : (Try.prog.info? 123).map (fun i => (i.zero, i.size, i.bytes)) = some (some (.pointer none), 1, 8) := by kernel_rfl

/-- A deed of a house, both. -/
structure Dd where
  db : Nat
  wb : Nat
  md : Int
  y : Int
  rs : List Int
  ws : List Ver
def prt (d : Dd) : Thing := PrT d.db d.wb d.md d.y d.rs d.rs d.ws d.ws
def dOk (i : Nat) (d : Dd) : Prop := WOk d.ws ∧ d.rs.length ≤ i ∧ d.ws.length ≤ i
theorem dOk.mono {i j : Nat} {d : Dd} (h : dOk i d) (hij : i ≤ j) : dOk j d := ⟨h.1, Nat.le_trans h.2.1 hij, Nat.le_trans h.2.2 hij⟩

/-- A house since w0: vault and court tell the same, deed by deed. -/
structure House (w0 w : World) (hb vb cb i : Nat) (tb gb sb : Nat) (f : Nat → List Ver) (n : Nat) (cs : List (List Ver)) (st : Nat → Option Addr) (ds : List Dd) : Prop where
  zoo : Zoo w0 w (HbT hb vb cb ds.length ds.length (ds.map Dd.db) (ds.map Dd.wb) :: VltT vb tb gb f n cs [] :: CrtT cb sb f n cs [] st :: ds.map prt)
  vi : VI f n cs
  six : ds.length ≤ 6
  ok : ∀ d ∈ ds, dOk i d
def Hou (w0 w : World) (hb vb cb i : Nat) : Prop := ∃ tb gb sb f n cs st ds, House w0 w hb vb cb i tb gb sb f n cs st ds
end Go.Proofs.Ytcfogkdpkpehaab

/- newHouse and drop of a house, by contracts. -/
namespace Go.Proofs.Ytcfogkdpkpehaab
open Go.RowKit
set_option maxRecDepth 20000
attribute [local go_sem ↓] Go.wp_at_zero Go.wp_at_succ

set_option maxHeartbeats 400000 in
theorem newHouse (w : World) : Calls Try.prog 41 #[] w fun e w' => ∃ hb vb cb, e = .returned (.pointer (some ⟨hb, 0, none⟩)) ∧ w'.cell? ⟨hb, 0, none⟩ = some (.pointer (some ⟨vb, 0, none⟩)) ∧ Hid (Hou w w' hb vb cb 0) := by
  go_enter Try.func41, Try.ntmps41
  go_wp2_with fail
  refine (vnew w).mono ?_
  rintro e w1 ⟨vb, tb, gb, F, rfl, h1, k1⟩
  have H1 := hide ((zoo_nil (Kp.refl [] w)).cons h1 k1)
  clear h1 k1
  go_wp2_with fail
  refine (cnew w1).mono ?_
  rintro e w2 ⟨cb, sb, G, rfl, h2, k2⟩
  have H2 := hide (Zoo.put_ (l1 := [VltT vb tb gb (fun _ => [dv]) 0 [] []]) (l2 := []) (unhide H1) h2 k2)
  clear h2 k2 H1
  go_wp2_with fail
  go_ret
  exact ⟨_, _, _, rfl, cell_of_block (heap_alloc_new w2 _) rfl, tb, gb, sb, _, 0, [], fun _ => none, [], (unhide H2).cons ⟨none, 0, none, 0, hbx_new w2 vb cb⟩ ((Kp.refl [] w2).alloc _), vi_new, by simp, fun d hd => by simp at hd⟩

theorem drop_mid {l1 l2 : List Nat} {x k : Nat} (hk : k = l1.length) : (ptrs (l1 ++ x :: l2)).take k = ptrs l1 ∧ (ptrs (l1 ++ x :: l2)).drop (k + 1) = ptrs l2 := by
  subst hk
  refine ⟨by simp [ptrs], ?_⟩
  rw [show l1 ++ x :: l2 = (l1 ++ [x]) ++ l2 by simp, ptrs_append]
  exact List.drop_left' (by simp [ptrs])


theorem uD : Try.prog.underlying 78 = some (.slice (Try.prog.elem 78)) := by kernel_rfl
theorem uW : Try.prog.underlying 79 = some (.slice (Try.prog.elem 79)) := by kernel_rfl
theorem eD : Try.prog.elem 78 = 92 := by kernel_rfl
theorem eW : Try.prog.elem 79 = 123 := by kernel_rfl
theorem szD (W : World) : (sizeOf 92).run Try.prog W = .ok 1 W := by
  obtain ⟨i0, hi0, hz0, hz1, hz2⟩ := info_parts Try.info92
  simp [sizeOf, typeInfo, hi0, hz1]
theorem szW (W : World) : (sizeOf 123).run Try.prog W = .ok 1 W := by
  obtain ⟨i0, hi0, hz0, hz1, hz2⟩ := info_parts Try.info123
  simp [sizeOf, typeInfo, hi0, hz1]
theorem cut_row (t e : TypeId) (hu : Try.prog.underlying t = some (.slice (Try.prog.elem t))) (he : Try.prog.elem t = e) (hs : ∀ W, (sizeOf e).run Try.prog W = .ok 1 W) (g n c k : Nat) (hk : k ≤ c) (W : World) :
    (Instr.slice t (.slice (some ⟨g, 0, none⟩) n c) none (some (.int .i64 (k : Int))) (some (.int .i64 (k : Int)))).run Try.prog W = .ok (.slice (some ⟨g, 0, none⟩) k k) W := by
  rw [run_slice_hm W t (some ⟨g, 0, none⟩) n c hu .i64 .i64 _ _ (by omega) (by omega) (by omega), he, hs]
  simp [Result.andThen, sliced, addr_add]
theorem rest_row (t e : TypeId) (hu : Try.prog.underlying t = some (.slice (Try.prog.elem t))) (he : Try.prog.elem t = e) (hs : ∀ W, (sizeOf e).run Try.prog W = .ok 1 W) (g n c k : Nat) (hk : k ≤ n) (x : Int) (hx : x = k) (W : World) :
    (Instr.slice t (.slice (some ⟨g, 0, none⟩) n c) (some (.int .i64 x)) none none).run Try.prog W = .ok (sliced (some ⟨g, 0, none⟩) k n c 1) W := by
  subst hx
  rw [run_slice_l W t (some ⟨g, 0, none⟩) n c hu .i64 _ (by omega) (by omega), he, hs]
  simp [Result.andThen]

theorem rest_src {t e : TypeId} (hu : Try.prog.underlying t = some (.slice e)) {B : Nat} {w : World} {g n c : Nat} {xs : List Value} (h : PRow e B w (some ⟨g, 0, none⟩) n c xs) (hx : ∀ u ∈ xs, u.oneCell' = true) (k : Nat) (hk : k ≤ n) :
    ∃ ar m cr, (if c = k then some (⟨g, 0, none⟩ : Addr) else some ⟨g, k, none⟩) = ar ∧ n - k = m ∧ c - k = cr ∧ ∀ W, Kp [] w W → Src Try.prog 1 t (.slice ar m cr) m (xs.drop k) W := by
  refine ⟨_, _, _, rfl, rfl, rfl, fun W hW => ?_⟩
  by_cases hc : c = k
  · have hle := h.le
    have hnk : n = k := by omega
    have : xs.drop k = [] := by apply List.drop_eq_nil_of_le; rw [h.1]; omega
    rw [this, if_pos hc, hnk, Nat.sub_self]
    exact Src.ofSlice W hu ⟨g, 0, none⟩ 0 _ [] (by simp) (by simp) (by simp)
  · rw [if_neg hc]
    exact (h.kp0 hW).src hu hx rfl rfl hk

set_option maxHeartbeats 2000000 in
theorem hdrop {B hb vb cb : Nat} {F : List Nat} {d1 d2 w1 w2 : List Nat} {x y k n : Nat} (w : World) (h : (HbT hb vb cb n n (d1 ++ x :: d2) (w1 ++ y :: w2)).holds B w F) (hd : k = d1.length) (hw : k = w1.length) (hn : n = k + 1 + d2.length) (hn2 : d2.length = w2.length) (h6 : n ≤ 6) :
    Calls Try.prog 80 #[.pointer (some ⟨hb, 0, none⟩), .int .i64 k] w fun e w' => e = .returned (.tuple #[]) ∧ Ch (HbT hb vb cb (k + d2.length) (k + d2.length) (d1 ++ d2) (w1 ++ w2)) B w F w' := by
  obtain ⟨da, dc, wa, wc, h⟩ := h
  have hB : B ≤ w.heap.size := by have := h.lo hb h.hF; omega
  have q2 := h.c2
  have f2 := h.fz 2
  have hbl := (h.lo hb h.hF).2
  obtain ⟨gd, rfl, _⟩ := h.rd.cell (ptrs_at (l1 := d1) (x := x) (l2 := d2) hd)
  have hgd : hb ≠ gd := by have := h.hd; simpa [ob] using this
  obtain ⟨j, hj⟩ : ∃ j, k + 1 = j := ⟨_, rfl⟩
  have hwr : IntKind.i64.wrap ((k : Int) + 1) = (j : Int) := by rw [wrap_i64_id _ (by omega) (by omega)]; omega
  have j0 : (0 : Int) ≤ (j : Int) := by omega
  have j1 : (j : Int) ≤ (n : Int) := by omega
  obtain ⟨ar, m, cr, hif, hmj, hcj, hsr⟩ := rest_src Try.underlying78 h.rd (ptrs_one _) j (by omega)
  rw [← hj, (drop_mid hd).2] at hsr
  have hcut := h.rd.cut k (by omega)
  rw [(drop_mid hd).1] at hcut
  have hct := cut_row 78 92 uD eD szD gd n dc k (by have := h.rd.le; omega)
  obtain ⟨N, hN⟩ : ∃ N, k + m = N := ⟨_, rfl⟩
  have hN2 : k + d2.length = N := by omega
  have hm2 : m = d2.length := by omega
  rw [hN2]
  have HV := hide h
  have HSR := hide hsr
  have HCUT := hide hcut
  have HN := hide (And.intro hN (And.intro hm2 hN2))
  have HD := hide hd
  have HWL := hide hw
  have HN2 := hide hn2
  have hk6 : k ≤ 6 := by omega
  have hm6 : m ≤ 6 := by omega
  have HNN := hide hn
  have HJ := hide hj
  clear h hsr hcut hN hN2 hm2 hd hw hn2 hn hj
  go_enter Try.func80, Try.ntmps80
  go_wp2_with fail
  go_region_law (refine step_prow (by rfl) (.tmp 11) (.tmp 18) 78 (by rfl) Try.underlying78 Try.info92 rfl ((unhide HCUT).kp0 (Kp.refl [] w).drew) (by simpa using hB) (.slice ar m cr) (ptrs d2) m (by rfl) (by rfl) (unhide HSR _ (Kp.refl [] w).drew) (by omega) N (unhide HN).1 ?_; intro a3 c3 w3 ho3 hk3 hx3; have p2 : w3.cell? ⟨hb, 2, none⟩ = some (.slice (some ⟨gd, 0, none⟩) n dc) := ((Kp.refl [gd] w).drew.trans (unhide hk3) (fun x hx => .inl hx)).cell (by simpa using hgd) q2; have p3 : w3.frozen? ⟨hb, 2, none⟩ = false := (by rw [((Kp.refl [gd] w).drew.trans (unhide hk3) (fun x hx => .inl hx)).frozen hbl (by simpa using hgd)]; exact f2))
  all_goals
    obtain ⟨F4, h4, k4, s4⟩ := (unhide HV).setD (W := w3) (l := d1 ++ d2) ((Kp.refl _ w).drew.trans (unhide hk3) (fun x hx => .inl hx)) (by rw [ptrs_append]; exact unhide ho3) (fun x hx => unhide hx3 x hx)
    generalize w3.setCell ⟨hb, 2, none⟩ (.slice a3 N c3) = w4 at *
    have r3 := h4.c3
    have g3 := h4.fz 3
    have hbl4 := (h4.lo hb h4.hF).2
    have hB4 : B ≤ w4.heap.size := by have := (h4.lo hb h4.hF).1; omega
    obtain ⟨gw, rfl, _⟩ := h4.rw_.cell (ptrs_at (l1 := w1) (x := y) (l2 := w2) (unhide HWL))
    have hgw : hb ≠ gw := by have := h4.hw; simpa [ob] using this
    have hj := unhide HJ
    obtain ⟨ar2, m2, cr2, hif2, hmj2, hcj2, hsr2⟩ := rest_src Try.underlying79 h4.rw_ (ptrs_one _) j (by omega)
    rw [← hj, (drop_mid (unhide HWL)).2] at hsr2
    have hcut2 := h4.rw_.cut k (by omega)
    rw [(drop_mid (unhide HWL)).1] at hcut2
    have hct2 := cut_row 79 123 uW eW szW gw n wc k (by have := h4.rw_.le; omega)
    have hmm : m2 = m := by omega
    subst hmm
    have H4 := hide h4
    have K4 := hide k4
    have S4 := hide s4
    have HSR2 := hide hsr2
    have HCUT2 := hide hcut2
    clear h4 k4 s4 hsr2 hcut2 p2 p3 hif hct q2 f2 hj hcj
    go_wp2_with fail
    go_region_law (refine step_prow (by rfl) (.tmp 29) (.tmp 36) 79 (by rfl) Try.underlying79 Try.info123 rfl ((unhide HCUT2).kp0 (Kp.refl [] w4).drew) (by simpa using hB4) (.slice ar2 m2 cr2) (ptrs w2) m2 (by rfl) (by rfl) (unhide HSR2 _ (Kp.refl [] w4).drew) (by omega) N (unhide HN).1 ?_; intro a5 c5 w5 ho5 hk5 hx5; have p2 : w5.cell? ⟨hb, 3, none⟩ = some (.slice (some ⟨gw, 0, none⟩) n wc) := ((Kp.refl [gw] w4).drew.trans (unhide hk5) (fun x hx => .inl hx)).cell (by simpa using hgw) r3; have p3 : w5.frozen? ⟨hb, 3, none⟩ = false := (by rw [((Kp.refl [gw] w4).drew.trans (unhide hk5) (fun x hx => .inl hx)).frozen hbl4 (by simpa using hgw)]; exact g3))
    all_goals
      obtain ⟨F6, h6', k6, s6⟩ := (unhide H4).setW (W := w5) (l := w1 ++ w2) ((Kp.refl _ w4).drew.trans (unhide hk5) (fun x hx => .inl hx)) (by rw [ptrs_append]; exact unhide ho5) (fun x hx => unhide hx5 x hx)
      have HZ := hide (Ch.trans (o' := HbT hb vb cb N N (d1 ++ d2) (w1 ++ w2)) (unhide K4) (unhide S4) ⟨F6, ⟨_, _, _, _, h6'⟩, k6, s6⟩)
      clear h6' k6 s6
      go_wp2_with fail
      go_end0
      exact ⟨rfl, unhide HZ⟩
end Go.Proofs.Ytcfogkdpkpehaab

/- What a house's calls leave of all that is beside it: contracts, over the list of things. -/
namespace Go.Proofs.Ytcfogkdpkpehaab
open Go.RowKit
set_option maxRecDepth 20000

section
variable {w0 w : World} {b h v c o : Thing} {r L1 L2 : List Thing} {vb tb gb cb sb : Nat} {f g : Nat → List Ver} {n m : Nat} {cs ds : List (List Ver)} {torn td : List UInt8} {st : Nat → Option Addr} {db wb : Nat} {md y : Int} {rs rs2 : List Int} {ws ws2 : List Ver}
theorem zoo_atD (hz : Zoo w0 w (b :: h :: v :: c :: (L1 ++ o :: L2))) : ∃ F, o.holds w0.heap.size w F ∧ ∀ (o' : Thing) (w' : World), Ch o' w0.heap.size w F w' → Zoo w0 w' (b :: h :: v :: c :: (L1 ++ o' :: L2)) := Zoo.at_ (l1 := b :: h :: v :: c :: L1) hz
theorem zoo_dropD (hz : Zoo w0 w (b :: h :: v :: c :: (L1 ++ o :: L2))) : Zoo w0 w (b :: h :: v :: c :: (L1 ++ L2)) := Zoo.drop_ (l1 := b :: h :: v :: c :: L1) hz
theorem zoo_ded (hz : Zoo w0 w (b :: h :: v :: c :: (L1 ++ PrT db wb md y rs rs2 ws ws2 :: L2))) : Ded w db md y rs ws := by
  obtain ⟨F, ⟨H, k⟩, _⟩ := zoo_atD hz
  exact k.d
theorem zoo_wrk (hz : Zoo w0 w (b :: h :: v :: c :: (L1 ++ PrT db wb md y rs rs2 ws ws2 :: L2))) : ∃ H, Wrk w0.heap.size w wb H md y rs2 ws2 := by
  obtain ⟨F, ⟨H, k⟩, _⟩ := zoo_atD hz
  exact ⟨H, k.k⟩
theorem zoo_tbl (hz : Zoo w0 w (b :: h :: VltT vb tb gb f n cs torn :: r)) : ∃ F, Tbl w0.heap.size w tb F f n := by
  obtain ⟨F, ⟨Ft, Fg, k⟩, _⟩ := zoo_at2 hz
  exact ⟨Ft, k.t⟩
theorem zoo_sht (hz : Zoo w0 w (b :: h :: v :: CrtT cb sb g m ds td st :: r)) : ∃ G, Sht w0.heap.size w sb G g m := by
  obtain ⟨F, ⟨Gr, Gs, bx, k⟩, _⟩ := zoo_at3 hz
  exact ⟨Gs, k.s⟩
theorem zoo_linv (hz : Zoo w0 w (b :: h :: VltT vb tb gb f n cs torn :: r)) : LInv cs := by
  obtain ⟨F, ⟨Ft, Fg, k⟩, _⟩ := zoo_at2 hz
  exact k.g.inv

theorem z_begin (md at_ : Int) (hz : Zoo w0 w (b :: h :: VltT vb tb gb f n cs torn :: r)) :
    Calls Try.prog 48 #[.pointer (some ⟨vb, 0, none⟩), .int .i64 md, .int .i64 at_] w fun e w' => VbEnd f n md at_ w e w' := by
  obtain ⟨F, ⟨Ft, Fg, k⟩, _⟩ := zoo_at2 hz
  exact vbegin md at_ w k
theorem z_cbegin (md at_ : Int) (hz : Zoo w0 w (b :: h :: v :: CrtT cb sb g m ds td st :: r)) :
    Calls Try.prog 74 #[.pointer (some ⟨cb, 0, none⟩), .int .i64 md, .int .i64 at_] w fun e w' => CbEnd g m md at_ w e w' := by
  obtain ⟨F, ⟨Gr, Gs, bx, k⟩, _⟩ := zoo_at3 hz
  exact cbegin md at_ w k
theorem z_log (hz : Zoo w0 w (b :: h :: VltT vb tb gb f n cs torn :: r)) :
    Calls Try.prog 45 #[.pointer (some ⟨vb, 0, none⟩)] w fun e w' => BtEnd (lb cs ++ torn) w e w' := by
  obtain ⟨F, ⟨Ft, Fg, k⟩, _⟩ := zoo_at2 hz
  exact vlog w k
theorem z_rbytes (hz : Zoo w0 w (b :: h :: v :: CrtT cb sb g m ds td st :: r)) :
    Calls Try.prog 28 #[.pointer (some ⟨cb, 1, none⟩)] w fun e w' => BtEnd (lb ds ++ td) w e w' := by
  obtain ⟨F, ⟨Gr, Gs, bx, k⟩, _⟩ := zoo_at3 hz
  exact rxbytes w k.r
theorem z_crash (hz : Zoo w0 w (b :: h :: VltT vb tb gb f n cs torn :: r)) :
    Calls Try.prog 47 #[.pointer (some ⟨vb, 0, none⟩)] w fun e w' => e = .returned (.tuple #[]) ∧ ∃ tb', Hid (Zoo w0 w' (b :: h :: VltT vb tb' gb (wal0 cs) cs.length cs [] :: r)) := by
  obtain ⟨F, ⟨Ft, Fg, k⟩, k2⟩ := zoo_at2 hz
  exact (vcrash w k).mono (fun e w' ⟨he, tb', hc⟩ => ⟨he, tb', k2 _ _ hc⟩)
theorem z_do9 (hz : Zoo w0 w (b :: h :: v :: CrtT cb sb g m ds td st :: r)) :
    Calls Try.prog 75 #[.pointer (some ⟨cb, 0, none⟩), .agg #[.int .i64 9, .int .i64 0, .int .i64 0, .int .i64 0, .int .i64 0, .int .i64 0, .int .i64 0, .string ⟨#[]⟩]] w fun e w' => e = .returned (.agg #[.int .i64 0, .int .i64 0, .bool false, .string ⟨#[]⟩, .slice none 0 0]) ∧ ∃ sb', Hid (Zoo w0 w' (b :: h :: v :: CrtT cb sb' (wal0 ds) ds.length ds [] (fun _ => none) :: r)) := by
  obtain ⟨F, ⟨Gr, Gs, bx, k⟩, k2⟩ := zoo_at3 hz
  exact (cdo9 w k).mono (fun e w' ⟨he, sb', hc⟩ => ⟨he, sb', k2 _ _ hc⟩)
theorem z_last (hz : Zoo w0 w (b :: h :: VltT vb tb gb f n cs torn :: r)) : Calls Try.prog 31 #[.pointer (some ⟨tb, 0, none⟩)] w fun e w' => e = .returned (.int .i64 n) ∧ w' = w := by
  obtain ⟨F, k⟩ := zoo_tbl hz
  exact tlast38 w k
theorem z_first (hz : Zoo w0 w (b :: h :: VltT vb tb gb f n cs torn :: r)) : Calls Try.prog 44 #[.pointer (some ⟨tb, 0, none⟩)] w fun e w' => e = .returned (.int .i64 (fmx f 8)) ∧ w' = w := by
  obtain ⟨F, k⟩ := zoo_tbl hz
  exact tfirst42 w k
theorem z_sfirst (hz : Zoo w0 w (b :: h :: v :: CrtT cb sb g m ds td st :: r)) : Calls Try.prog 81 #[.pointer (some ⟨sb, 0, none⟩)] w fun e w' => e = .returned (.int .i64 (fmx g 8)) ∧ w' = w := by
  obtain ⟨F, k⟩ := zoo_sht hz
  exact sfirst43 w k
theorem z_clear (l : Int) (hz : Zoo w0 w (b :: h :: VltT vb tb gb f n cs torn :: r)) :
    Calls Try.prog 76 #[.pointer (some ⟨tb, 0, none⟩), .int .i64 l] w fun e w' => e = .returned (.int .i64 (cln f l 8 : Nat)) ∧ Hid (Zoo w0 w' (b :: h :: VltT vb tb gb (clm f l 8) n cs torn :: r)) := by
  obtain ⟨F, ⟨Ft, Fg, k⟩, k2⟩ := zoo_at2 hz
  exact (tclear46 l w k.t).mono (fun e w' ⟨he, Ft', h1, h2, h3⟩ => ⟨he, k2 _ _ (k.table h1 h2 h3)⟩)
theorem z_sclear (l : Int) (hz : Zoo w0 w (b :: h :: v :: CrtT cb sb g m ds td st :: r)) :
    Calls Try.prog 77 #[.pointer (some ⟨sb, 0, none⟩), .int .i64 l] w fun e w' => e = .returned (.int .i64 (cln g l 8 : Nat)) ∧ Hid (Zoo w0 w' (b :: h :: v :: CrtT cb sb (clm g l 8) m ds td st :: r)) := by
  obtain ⟨F, ⟨Gr, Gs, bx, k⟩, k2⟩ := zoo_at3 hz
  exact (sclear57 l w k.s).mono (fun e w' ⟨he, Gs', h1, h2, h3⟩ => ⟨he, k2 _ _ (k.sheet h1 h2 h3)⟩)
theorem z_get (k : Int) (hz : Zoo w0 w (b :: h :: VltT vb tb gb f n cs torn :: c :: (L1 ++ PrT db wb md y rs rs2 ws ws2 :: L2))) :
    Calls Try.prog 53 #[.pointer (some ⟨db, 0, none⟩), .pointer (some ⟨tb, 0, none⟩), .int .i64 k] w fun e w' => e = .returned (.tuple #[.agg #[.bool (dg f n y ws k).t, .string (dg f n y ws k).s], .int .i64 (dg f n y ws k).a]) ∧
      Hid (Zoo w0 w' (b :: h :: VltT vb tb gb f n cs torn :: c :: (L1 ++ PrT db wb md y (dr f n y rs ws k) rs2 ws ws2 :: L2))) := by
  obtain ⟨Ft, ht⟩ := zoo_tbl hz
  obtain ⟨F, ⟨H, p⟩, p2⟩ := zoo_atD hz
  exact (dget55 k w ht p.d).mono (fun e w' ⟨he, h1, h2⟩ => ⟨he, p2 _ _ (p.deed h1 h2)⟩)
theorem z_wget (k : Int) (hz : Zoo w0 w (b :: h :: v :: CrtT cb sb g m ds td st :: (L1 ++ PrT db wb md y rs rs2 ws ws2 :: L2))) (hrl : rs2.length ≤ 900) (hwl : ws2.length ≤ 900) :
    Calls Try.prog 78 #[.pointer (some ⟨wb, 0, none⟩), .pointer (some ⟨sb, 0, none⟩), .int .i64 k] w fun e w' => e = .returned (.tuple #[.agg #[.bool (dg g m y ws2 k).t, .string (dg g m y ws2 k).s], .int .i64 (dg g m y ws2 k).a]) ∧
      Hid (Zoo w0 w' (b :: h :: v :: CrtT cb sb g m ds td st :: (L1 ++ PrT db wb md y rs (dr g m y rs2 ws2 k) ws ws2 :: L2))) := by
  obtain ⟨Gs, hs⟩ := zoo_sht hz
  obtain ⟨F, ⟨H, p⟩, p2⟩ := zoo_atD hz
  exact (wget56 k w hs p.k hrl hwl).mono (fun e w' ⟨he, H', h1, h2, h3⟩ => ⟨he, p2 _ _ (p.work h1 h2 h3)⟩)
theorem z_put (k : Int) (t : Bool) (s : ByteArray) (hs : s.size ≤ maxLen) (hz : Zoo w0 w (b :: h :: v :: c :: (L1 ++ PrT db wb md y rs rs2 ws ws2 :: L2))) :
    Calls Try.prog 49 #[.pointer (some ⟨db, 0, none⟩), .int .i64 k, .agg #[.bool t, .string s]] w fun e w' => e = .returned (.int .i64 (dpc md k t s)) ∧ Hid (Zoo w0 w' (b :: h :: v :: c :: (L1 ++ PrT db wb md y rs rs2 (dpw md ws k t s) ws2 :: L2))) := by
  obtain ⟨F, ⟨H, p⟩, p2⟩ := zoo_atD hz
  exact (dput57 k t s w p.d hs).mono (fun e w' ⟨he, h1, h2⟩ => ⟨he, p2 _ _ (p.deed h1 h2)⟩)
theorem z_wput (k : Int) (t : Bool) (s : ByteArray) (hs : s.size ≤ maxLen) (hz : Zoo w0 w (b :: h :: v :: c :: (L1 ++ PrT db wb md y rs rs2 ws ws2 :: L2))) (hwl : ws2.length ≤ 900) :
    Calls Try.prog 79 #[.pointer (some ⟨wb, 0, none⟩), .int .i64 k, .agg #[.bool t, .string s]] w fun e w' => e = .returned (.int .i64 (dpc md k t s)) ∧ Hid (Zoo w0 w' (b :: h :: v :: c :: (L1 ++ PrT db wb md y rs rs2 ws (dpw md ws2 k t s) :: L2))) := by
  obtain ⟨F, ⟨H, p⟩, p2⟩ := zoo_atD hz
  exact (wput58 k t s w p.k hs hwl).mono (fun e w' ⟨he, H', h1, h2, h3⟩ => ⟨he, p2 _ _ (p.work h1 h2 h3)⟩)
theorem z_commit (hv : VI f n cs) (hd : Ded w db md y rs ws) (hw : WOk ws) (hz : Zoo w0 w (b :: h :: VltT vb tb gb f n cs [] :: r)) :
    Calls Try.prog 54 #[.pointer (some ⟨vb, 0, none⟩), .pointer (some ⟨db, 0, none⟩)] w fun e w' => e = .returned (.tuple #[.int .i64 (vnum f n cs md y rs ws), .int .i64 (vcode f cs md y rs ws)]) ∧ Hid (Zoo w0 w' (b :: h :: VltT vb tb gb (vf f n cs md y rs ws) (vn f n cs md y rs ws) (vcs f cs md y rs ws) [] :: r)) := by
  obtain ⟨F, ⟨Ft, Fg, k⟩, k2⟩ := zoo_at2 hz
  exact (vcommit w k hv hd hw).mono (fun e w' ⟨he, hc⟩ => ⟨he, k2 _ _ hc⟩)
theorem z_tear (keep : Int) (hv : VI f n cs) (hd : Ded w db md y rs ws) (hw : WOk ws) (hz : Zoo w0 w (b :: h :: VltT vb tb gb f n cs [] :: r)) :
    Calls Try.prog 52 #[.pointer (some ⟨vb, 0, none⟩), .pointer (some ⟨db, 0, none⟩), .int .i64 keep] w fun e w' => e = .returned (.tuple #[.int .i64 (tnum f cs md y rs ws keep), .int .i64 (vcode f cs md y rs ws)]) ∧ ∃ tb', Hid (Zoo w0 w' (b :: h :: VltT vb tb' gb (wal0 (tcs f cs md y rs ws keep)) (tcs f cs md y rs ws keep).length (tcs f cs md y rs ws keep) [] :: r)) := by
  obtain ⟨F, ⟨Ft, Fg, k⟩, k2⟩ := zoo_at2 hz
  exact (vtear keep w k hv hd hw).mono (fun e w' ⟨he, tb', hc⟩ => ⟨he, tb', k2 _ _ hc⟩)
theorem z_do6 {H : List Nat} (hv : VI g m ds) (hd : Wrk w0.heap.size w wb H md y rs ws) (hw : WOk ws) (hrl : rs.length ≤ 900) (hwl : ws.length ≤ 900) (hst : st 0 = some ⟨wb, 0, none⟩) (hz : Zoo w0 w (b :: h :: v :: CrtT cb sb g m ds [] st :: r)) :
    Calls Try.prog 75 #[.pointer (some ⟨cb, 0, none⟩), .agg #[.int .i64 6, .int .i64 0, .int .i64 0, .int .i64 0, .int .i64 0, .int .i64 0, .int .i64 0, .string ⟨#[]⟩]] w fun e w' => e = .returned (.agg #[.int .i64 (vcode g ds md y rs ws), .int .i64 (vnum g m ds md y rs ws), .bool false, .string ⟨#[]⟩, .slice none 0 0]) ∧
      Hid (Zoo w0 w' (b :: h :: v :: CrtT cb sb (vf g m ds md y rs ws) (vn g m ds md y rs ws) (vcs g ds md y rs ws) [] (upd st 0 none) :: r)) := by
  obtain ⟨F, ⟨Gr, Gs, bx, k⟩, k2⟩ := zoo_at3 hz
  exact (cdo6 w k hv hd hw hrl hwl hst).mono (fun e w' ⟨he, hc⟩ => ⟨he, k2 _ _ hc⟩)
theorem z_do10 {H : List Nat} (keep : Int) (hv : VI g m ds) (hd : Wrk w0.heap.size w wb H md y rs ws) (hw : WOk ws) (hrl : rs.length ≤ 900) (hwl : ws.length ≤ 900) (hst : st 0 = some ⟨wb, 0, none⟩) (hz : Zoo w0 w (b :: h :: v :: CrtT cb sb g m ds [] st :: r)) :
    Calls Try.prog 75 #[.pointer (some ⟨cb, 0, none⟩), .agg #[.int .i64 10, .int .i64 0, .int .i64 0, .int .i64 0, .int .i64 0, .int .i64 0, .int .i64 keep, .string ⟨#[]⟩]] w fun e w' => e = .returned (.agg #[.int .i64 (vcode g ds md y rs ws), .int .i64 (tnum g ds md y rs ws keep), .bool false, .string ⟨#[]⟩, .slice none 0 0]) ∧
      ∃ sb', Hid (Zoo w0 w' (b :: h :: v :: CrtT cb sb' (wal0 (tcs g ds md y rs ws keep)) (tcs g ds md y rs ws keep).length (tcs g ds md y rs ws keep) [] (fun _ => none) :: r)) := by
  obtain ⟨F, ⟨Gr, Gs, bx, k⟩, k2⟩ := zoo_at3 hz
  exact (cdo10 keep w k hv hd hw hrl hwl hst).mono (fun e w' ⟨he, sb', hc⟩ => ⟨he, sb', k2 _ _ hc⟩)
theorem z_sit (p : Option Addr) (hz : Zoo w0 w (b :: h :: v :: CrtT cb sb g m ds td st :: r)) : Zoo w0 (w.setCell ⟨cb, 3, none⟩ (.pointer p)) (b :: h :: v :: CrtT cb sb g m ds td (upd st 0 p) :: r) := by
  obtain ⟨F, ⟨Gr, Gs, bx, k⟩, k2⟩ := zoo_at3 hz
  exact k2 _ _ (k.sit (i := 0) (by omega) p)
theorem z_drop {hb : Nat} {d1 d2 w1 w2 : List Nat} {x z k N : Nat} (hd : k = d1.length) (hw : k = w1.length) (hn : N = k + 1 + d2.length) (hn2 : d2.length = w2.length) (h6 : N ≤ 6) (hz : Zoo w0 w (b :: HbT hb vb cb N N (d1 ++ x :: d2) (w1 ++ z :: w2) :: r)) :
    Calls Try.prog 80 #[.pointer (some ⟨hb, 0, none⟩), .int .i64 k] w fun e w' => e = .returned (.tuple #[]) ∧ Hid (Zoo w0 w' (b :: HbT hb vb cb (k + d2.length) (k + d2.length) (d1 ++ d2) (w1 ++ w2) :: r)) := by
  obtain ⟨F, k1, k2⟩ := zoo_at1 hz
  exact (hdrop w k1 hd hw hn hn2 h6).mono (fun e w' ⟨he, hc⟩ => ⟨he, k2 _ _ hc⟩)

/-- The cells of the boxes. -/
structure HzF (w : World) (hb vb cb tb sb : Nat) : Prop where
  h0 : w.cell? ⟨hb, 0, none⟩ = some (.pointer (some ⟨vb, 0, none⟩))
  h1 : w.cell? ⟨hb, 1, none⟩ = some (.pointer (some ⟨cb, 0, none⟩))
  v0 : w.cell? ⟨vb, 0, none⟩ = some (.pointer (some ⟨tb, 0, none⟩))
  c0 : w.cell? ⟨cb, 0, none⟩ = some (.pointer (some ⟨sb, 0, none⟩))
theorem hz_facts {hb dn wn : Nat} {dbs wbs : List Nat} (hz : Zoo w0 w (b :: HbT hb vb cb dn wn dbs wbs :: VltT vb tb gb f n cs torn :: CrtT cb sb g m ds td st :: r)) : HzF w hb vb cb tb sb := by
  obtain ⟨F1, ⟨da, dc, wa, wc, k1⟩, _⟩ := zoo_at1 hz
  obtain ⟨F2, ⟨Ft, Fg, k2⟩, _⟩ := zoo_at2 hz
  obtain ⟨F3, ⟨Gr, Gs, bx, k3⟩, _⟩ := zoo_at3 hz
  exact ⟨k1.c0, k1.c1, k2.c0, k3.c0⟩
theorem hz_rows {hb dn wn : Nat} {dbs wbs : List Nat} (hz : Zoo w0 w (b :: HbT hb vb cb dn wn dbs wbs :: r)) : ∃ da dc wa wc, w.cell? ⟨hb, 2, none⟩ = some (.slice da dn dc) ∧ w.cell? ⟨hb, 3, none⟩ = some (.slice wa wn wc) ∧ w.frozen? ⟨hb, 2, none⟩ = false ∧ w.frozen? ⟨hb, 3, none⟩ = false ∧ hb < w.heap.size ∧
    (∀ (k x : Nat), dbs[k]? = some x → ∃ g, da = some ⟨g, 0, none⟩ ∧ w.cell? ⟨g, k, none⟩ = some (.pointer (some ⟨x, 0, none⟩))) ∧ (∀ (k x : Nat), wbs[k]? = some x → ∃ g, wa = some ⟨g, 0, none⟩ ∧ w.cell? ⟨g, k, none⟩ = some (.pointer (some ⟨x, 0, none⟩))) := by
  obtain ⟨F1, ⟨da, dc, wa, wc, k1⟩, _⟩ := zoo_at1 hz
  refine ⟨da, dc, wa, wc, k1.c2, k1.c3, k1.fz 2, k1.fz 3, (k1.lo hb k1.hF).2, fun k x hx => k1.rd.cell (by simp [ptrs, hx]), fun k x hx => k1.rw_.cell (by simp [ptrs, hx])⟩
/-- No deeds any more. -/
theorem hz_nil {hb dn wn : Nat} {dbs wbs : List Nat} (hz : Zoo w0 w (b :: HbT hb vb cb dn wn dbs wbs :: r)) : Zoo w0 ((w.setCell ⟨hb, 2, none⟩ (.slice none 0 0)).setCell ⟨hb, 3, none⟩ (.slice none 0 0)) (b :: HbT hb vb cb 0 0 [] [] :: r) := by
  obtain ⟨F1, ⟨da, dc, wa, wc, k1⟩, k2⟩ := zoo_at1 hz
  obtain ⟨F2, h2, q2, s2⟩ := k1.setD (W := w) (l := []) (Kp.refl _ w) (prow_nil _ _ _) (by simp [ob])
  obtain ⟨F3, h3, q3, s3⟩ := h2.setW (l := []) (Kp.refl _ _) (prow_nil _ _ _) (by simp [ob])
  exact k2 _ _ (Ch.trans q2 s2 ⟨F3, ⟨_, _, _, _, h3⟩, q3, s3⟩)
theorem zoo_keep0 (hz : Zoo w0 w (b :: h :: v :: c :: (L1 ++ L2))) : Zoo w0 w (b :: h :: v :: c :: L1) := by
  induction L2 generalizing L1 with
  | nil => simpa using hz
  | cons o L2 ih => exact ih (zoo_dropD hz)
theorem zoo_none (hz : Zoo w0 w (b :: h :: v :: c :: L1)) : Zoo w0 w [b, h, v, c] := zoo_keep0 (L1 := []) hz
end
end Go.Proofs.Ytcfogkdpkpehaab

/- A house's step: Crash. -/
namespace Go.Proofs.Ytcfogkdpkpehaab
open Go.RowKit
set_option maxRecDepth 20000
attribute [local go_sem ↓] Go.wp_at_zero Go.wp_at_succ

/-- What a walk of step begins with. -/
structure St0 (w0 w : World) (hb vb cb tb sb N : Nat) (dbs wbs : List Nat) (xs : Array Value) (T : TypeId) (r : List Thing) (V C : Thing) : Prop where
  z : Zoo w0 (w.alloc (.cells xs T)) (BoxT w.heap.size xs T :: HbT hb vb cb N N dbs wbs :: V :: C :: r)
  h0 : w.cell? ⟨hb, 0, none⟩ = some (.pointer (some ⟨vb, 0, none⟩))
  h1 : w.cell? ⟨hb, 1, none⟩ = some (.pointer (some ⟨cb, 0, none⟩))
  v0 : w.cell? ⟨vb, 0, none⟩ = some (.pointer (some ⟨tb, 0, none⟩))
  c0 : w.cell? ⟨cb, 0, none⟩ = some (.pointer (some ⟨sb, 0, none⟩))
  hl : hb < w.heap.size
  vl : vb < w.heap.size
  cl : cb < w.heap.size
theorem st0_of {w0 w : World} {hb vb cb i tb gb sb : Nat} {f : Nat → List Ver} {n : Nat} {cs : List (List Ver)} {st : Nat → Option Addr} {ds : List Dd} (h : House w0 w hb vb cb i tb gb sb f n cs st ds) (xs : Array Value) (T : TypeId) :
    St0 w0 w hb vb cb tb sb ds.length (ds.map Dd.db) (ds.map Dd.wb) xs T (ds.map prt) (VltT vb tb gb f n cs []) (CrtT cb sb f n cs [] st) := by
  obtain ⟨F1, ⟨da, dc, wa, wc, k1⟩, _⟩ := zoo_at0 h.zoo
  obtain ⟨F2, ⟨Ft, Fg, k2⟩, _⟩ := zoo_at1 h.zoo
  obtain ⟨F3, ⟨Gr, Gs, bx, k3⟩, _⟩ := zoo_at2 h.zoo
  exact ⟨h.zoo.box xs T, k1.c0, k1.c1, k2.c0, k3.c0, (k1.lo hb k1.hF).2, (k2.lo vb k2.vF).2, (k3.lo cb k3.cG).2⟩

set_option maxHeartbeats 1000000 in
theorem hstep5 {w0 : World} {hb vb cb i tb gb sb : Nat} {f : Nat → List Ver} {n : Nat} {cs : List (List Ver)} {st : Nat → Option Addr} {ds : List Dd} (k md at_ key keep : Int) (t : Bool) (s : ByteArray) (w : World) (h : House w0 w hb vb cb i tb gb sb f n cs st ds) :
    Calls Try.prog 42 #[.pointer (some ⟨hb, 0, none⟩), .agg #[.int .i64 5, .int .i64 k, .int .i64 md, .int .i64 at_, .int .i64 key, .int .i64 keep, .bool t, .string s]] w fun e w' => e = .returned (.bool true) ∧ Hid (Hou w0 w' hb vb cb (i + 1)) := by
  obtain ⟨hz, h0, h1, v0, c0, hl, vl, cl⟩ := st0_of h #[.int .i64 5, .int .i64 k, .int .i64 md, .int .i64 at_, .int .i64 key, .int .i64 keep, .bool t, .string s] 84
  have HZ := hide hz
  clear hz h
  go_enter Try.func42, Try.ntmps42
  go_wp2_with fail
  refine (z_crash (unhide HZ)).mono ?_
  rintro e w1 ⟨rfl, tb1, HZ1⟩
  obtain ⟨p0, p1, _, _⟩ := hz_facts (unhide HZ1)
  clear HZ h0 h1 v0 c0 hl vl cl
  go_wp2_with fail
  refine (z_do9 (unhide HZ1)).mono ?_
  rintro e w2 ⟨rfl, sb2, HZ2⟩
  obtain ⟨da, dc, wa, wc, r2, r3, f2, f3, hl, -, -⟩ := hz_rows (unhide HZ2)
  clear HZ1 p0 p1
  go_wp2_with fail
  go_ret
  exact ⟨rfl, tb1, gb, sb2, _, _, cs, _, [], (zoo_none (hz_nil (unhide HZ2))).tail, VI.crash (zoo_linv (unhide HZ2)), by simp, fun d hd => by simp at hd⟩

end Go.Proofs.Ytcfogkdpkpehaab

/- A house's step: Get. -/
namespace Go.Proofs.Ytcfogkdpkpehaab
open Go.RowKit
set_option maxRecDepth 20000
attribute [local go_sem ↓] Go.wp_at_zero Go.wp_at_succ

theorem hz_lt {w0 w : World} {hb vb cb tb gb sb dn wn q n m : Nat} {dbs wbs : List Nat} {xs : Array Value} {T : TypeId} {f g : Nat → List Ver} {cs ds : List (List Ver)} {torn td : List UInt8} {st : Nat → Option Addr} {r : List Thing} (hz : Zoo w0 w (BoxT q xs T :: HbT hb vb cb dn wn dbs wbs :: VltT vb tb gb f n cs torn :: CrtT cb sb g m ds td st :: r)) : q < w.heap.size ∧ hb < w.heap.size ∧ vb < w.heap.size ∧ cb < w.heap.size := by
  obtain ⟨F1, ⟨da, dc, wa, wc, k1⟩, _⟩ := zoo_at1 hz
  obtain ⟨F2, ⟨Ft, Fg, k2⟩, _⟩ := zoo_at2 hz
  obtain ⟨F3, ⟨Gr, Gs, bx, k3⟩, _⟩ := zoo_at3 hz
  exact ⟨lt_of_block hz.var, (k1.lo hb k1.hF).2, (k2.lo vb k2.vF).2, (k3.lo cb k3.cG).2⟩
theorem keep_set2 {w : World} {p a x : Nat} {v y0 y1 : Value} (h : w.cell? ⟨a, x, none⟩ = some v) (hn : a ≠ p) : ((w.setCell ⟨p, 0, none⟩ y0).setCell ⟨p, 1, none⟩ y1).cell? ⟨a, x, none⟩ = some v :=
  (((Kp.refl [p] w).setCell (.inl (by simp)) y0).setCell (.inl (by simp)) y1).cell (by simpa using hn) h
theorem hz_sv {w0 w : World} {hb vb cb tb gb sb dn wn q n m i : Nat} {dbs wbs : List Nat} {xs : Array Value} {T : TypeId} {f g : Nat → List Ver} {cs ds : List (List Ver)} {torn td : List UInt8} {st : Nat → Option Addr} {r : List Thing} {x : Value} (hz : Zoo w0 w (BoxT q xs T :: HbT hb vb cb dn wn dbs wbs :: VltT vb tb gb f n cs torn :: CrtT cb sb g m ds td st :: r)) (hx : xs[i]? = some x) : w.cell? ⟨hb, 0, none⟩ = some (.pointer (some ⟨vb, 0, none⟩)) ∧ w.cell? ⟨vb, 0, none⟩ = some (.pointer (some ⟨tb, 0, none⟩)) ∧ w.cell? ⟨q, i, none⟩ = some x :=
  ⟨(hz_facts hz).h0, (hz_facts hz).v0, cell_of_block hz.var hx⟩
theorem hz_sc {w0 w : World} {hb vb cb tb gb sb dn wn q n m i : Nat} {dbs wbs : List Nat} {xs : Array Value} {T : TypeId} {f g : Nat → List Ver} {cs ds : List (List Ver)} {torn td : List UInt8} {st : Nat → Option Addr} {r : List Thing} {x : Value} (hz : Zoo w0 w (BoxT q xs T :: HbT hb vb cb dn wn dbs wbs :: VltT vb tb gb f n cs torn :: CrtT cb sb g m ds td st :: r)) (hx : xs[i]? = some x) : w.cell? ⟨hb, 1, none⟩ = some (.pointer (some ⟨cb, 0, none⟩)) ∧ w.cell? ⟨cb, 0, none⟩ = some (.pointer (some ⟨sb, 0, none⟩)) ∧ w.cell? ⟨q, i, none⟩ = some x :=
  ⟨(hz_facts hz).h1, (hz_facts hz).c0, cell_of_block hz.var hx⟩
theorem split_at {α : Type} (l : List α) (j : Nat) (h : j < l.length) : ∃ l1 x l2, l = l1 ++ x :: l2 ∧ l1.length = j :=
  ⟨l.take j, l[j], l.drop (j + 1), by rw [← List.drop_eq_getElem_cons h, List.take_append_drop], by simp; omega⟩
theorem zoo_side {w0 w : World} {B b h v c o : Thing} {L1 L2 : List Thing} (hz : Zoo w0 w (B :: b :: h :: v :: c :: (L1 ++ o :: L2))) : Zoo w0 w (b :: h :: v :: c :: (L1 ++ o :: B :: L2)) := by
  have e1 : b :: h :: v :: c :: (L1 ++ o :: L2) = (b :: h :: v :: c :: (L1 ++ [o])) ++ L2 := by simp
  have e2 : b :: h :: v :: c :: (L1 ++ o :: B :: L2) = (b :: h :: v :: c :: (L1 ++ [o])) ++ B :: L2 := by simp
  rw [e1] at hz
  rw [e2]
  exact hz.perm List.perm_middle.symm
theorem zoo_svar {w0 w : World} {b h v c o : Thing} {L1 L2 : List Thing} {p : Nat} {cs : Array Value} {T : TypeId} (hz : Zoo w0 w (b :: h :: v :: c :: (L1 ++ o :: BoxT p cs T :: L2))) : w.heap[p]? = some (.cells cs T (0, 0)) := by
  have e2 : b :: h :: v :: c :: (L1 ++ o :: BoxT p cs T :: L2) = b :: h :: v :: c :: ((L1 ++ [o]) ++ BoxT p cs T :: L2) := by simp
  rw [e2] at hz
  obtain ⟨F, h1, _⟩ := zoo_atD hz
  exact h1.1
theorem zoo_sdrop {w0 w : World} {b h v c o B : Thing} {L1 L2 : List Thing} (hz : Zoo w0 w (b :: h :: v :: c :: (L1 ++ o :: B :: L2))) : Zoo w0 w (b :: h :: v :: c :: (L1 ++ o :: L2)) := by
  have e2 : b :: h :: v :: c :: (L1 ++ o :: B :: L2) = b :: h :: v :: c :: ((L1 ++ [o]) ++ B :: L2) := by simp
  rw [e2] at hz
  have := zoo_dropD hz
  simpa using this
theorem zoo_svar2 {w0 w : World} {b h v c o o2 : Thing} {L1 L2 : List Thing} {p : Nat} {cs : Array Value} {T : TypeId} (hz : Zoo w0 w (b :: h :: v :: c :: (L1 ++ o :: o2 :: BoxT p cs T :: L2))) : w.heap[p]? = some (.cells cs T (0, 0)) := by
  have e2 : b :: h :: v :: c :: (L1 ++ o :: o2 :: BoxT p cs T :: L2) = b :: h :: v :: c :: ((L1 ++ [o]) ++ o2 :: BoxT p cs T :: L2) := by simp
  rw [e2] at hz
  exact zoo_svar hz
theorem zoo_setv {w0 w : World} {b h v c o : Thing} {L1 L2 : List Thing} {p : Nat} {x0 x1 : Value} {T : TypeId} (hz : Zoo w0 w (b :: h :: v :: c :: (L1 ++ o :: BoxT p #[x0, x1] T :: L2))) (y0 y1 : Value) : Zoo w0 ((w.setCell ⟨p, 0, none⟩ y0).setCell ⟨p, 1, none⟩ y1) (b :: h :: v :: c :: (L1 ++ o :: BoxT p #[y0, y1] T :: L2)) := by
  have e1 : b :: h :: v :: c :: (L1 ++ o :: BoxT p #[x0, x1] T :: L2) = b :: h :: v :: c :: ((L1 ++ [o]) ++ BoxT p #[x0, x1] T :: L2) := by simp
  have e2 : b :: h :: v :: c :: (L1 ++ o :: BoxT p #[y0, y1] T :: L2) = b :: h :: v :: c :: ((L1 ++ [o]) ++ BoxT p #[y0, y1] T :: L2) := by simp
  rw [e1] at hz
  rw [e2]
  obtain ⟨F, ⟨h1, h2, h3⟩, h4⟩ := zoo_atD hz
  refine h4 _ _ ⟨F, ⟨?_, h2, h3⟩, ?_, fun x hx => .inl hx⟩
  · have := heap_setCell_at 1 y1 (heap_setCell_at 0 y0 h1)
    exact this
  · subst h2
    exact ((Kp.refl [p] w).setCell (.inl (by simp)) _).setCell (.inl (by simp)) _
/-- A variable of two cells. -/
theorem two_of {w : World} {p : Nat} {x0 x1 : Value} {T : TypeId} (h : w.heap[p]? = some (.cells #[x0, x1] T (0, 0))) : w.cell? ⟨p, 0, none⟩ = some x0 ∧ w.cell? ⟨p, 1, none⟩ = some x1 ∧ w.frozen? ⟨p, 0, none⟩ = false ∧ w.frozen? ⟨p, 1, none⟩ = false :=
  ⟨cell_of_block h rfl, cell_of_block h rfl, frozen_of_block _ h, frozen_of_block _ h⟩
/-- A house with another deed in the place of one. -/
theorem hou_deed {w0 w : World} {hb vb cb i j N tb gb sb : Nat} {f : Nat → List Ver} {n : Nat} {cs : List (List Ver)} {st : Nat → Option Addr} {l1 l2 : List Dd} {d d' : Dd} {b : Thing} (hz : Zoo w0 w (b :: HbT hb vb cb N N (l1.map Dd.db ++ d.db :: l2.map Dd.db) (l1.map Dd.wb ++ d.wb :: l2.map Dd.wb) :: VltT vb tb gb f n cs [] :: CrtT cb sb f n cs [] st :: (l1.map prt ++ prt d' :: l2.map prt)))
    (h1 : d'.db = d.db) (h2 : d'.wb = d.wb) (hN : N = j + 1 + l2.length) (hj : l1.length = j) (h6 : N ≤ 6) (hv : VI f n cs) (hd : dOk (i + 1) d') (o1 : ∀ x ∈ l1, dOk i x) (o2 : ∀ x ∈ l2, dOk i x) : Hou w0 w hb vb cb (i + 1) := by
  have hl : (l1 ++ d' :: l2).length = N := by simp; omega
  refine ⟨tb, gb, sb, f, n, cs, st, l1 ++ d' :: l2, ?_, hv, by omega, fun x hx => ?_⟩
  · rw [hl, List.map_append, List.map_append, List.map_append, List.map_cons, List.map_cons, List.map_cons, h1, h2]
    exact hz.tail
  · rcases List.mem_append.1 hx with e | e
    · exact (o1 x e).mono (by omega)
    · rcases List.mem_cons.1 e with e | e
      · rw [e]; exact hd
      · exact (o2 x e).mono (by omega)

set_option maxHeartbeats 2000000 in
theorem hstep1 {w0 : World} {hb vb cb i tb gb sb : Nat} {f : Nat → List Ver} {n : Nat} {cs : List (List Ver)} {st : Nat → Option Addr} {ds : List Dd} (k md at_ key keep : Int) (t : Bool) (s : ByteArray) (w : World) (h : House w0 w hb vb cb i tb gb sb f n cs st ds) (hN : 0 < ds.length) (hi : i ≤ 150) :
    Calls Try.prog 42 #[.pointer (some ⟨hb, 0, none⟩), .agg #[.int .i64 1, .int .i64 k, .int .i64 md, .int .i64 at_, .int .i64 key, .int .i64 keep, .bool t, .string s]] w fun e w' => e = .returned (.bool true) ∧ Hid (Hou w0 w' hb vb cb (i + 1)) := by
  obtain ⟨M, hM⟩ : ∃ M, ds.length = M + 1 := ⟨ds.length - 1, by omega⟩
  have h6 := h.six
  obtain ⟨j, hj, hjM⟩ := cut_of k (n := M) (by omega)
  rw [show ((M : Int) + 1) = ((ds.length : Nat) : Int) by omega] at hj
  obtain ⟨l1, d, l2, hds, hl1⟩ := split_at ds j (by omega)
  have hok := h.ok
  have hvi := h.vi
  obtain ⟨hz, h0, h1, v0, c0, hl, vl, cl⟩ := st0_of h #[.int .i64 1, .int .i64 k, .int .i64 md, .int .i64 at_, .int .i64 key, .int .i64 keep, .bool t, .string s] 84
  subst hds
  have hlen : (l1 ++ d :: l2).length = j + 1 + l2.length := by simp [hl1]; omega
  simp only [List.map_append, List.map_cons] at hz
  rw [show prt d = PrT d.db d.wb d.md d.y d.rs d.rs d.ws d.ws from rfl] at hz
  generalize (l1 ++ d :: l2).length = N at *
  obtain ⟨hokd, hok1, hok2⟩ : dOk i d ∧ (∀ x ∈ l1, dOk i x) ∧ ∀ x ∈ l2, dOk i x := ⟨hok d (by simp), fun x hx => hok x (by simp [hx]), fun x hx => hok x (by simp [hx])⟩
  have HOK1 := hide hok1
  have HOK2 := hide hok2
  have HVI := hide hvi
  have HOKD := hide hokd
  have HLEN := hide hlen
  have HL1 := hide hl1
  have hNN : ¬ (N : Int) = 0 := by omega
  have hNB : ((N : Int) == 0) = false := beq_eq_false_iff_ne.2 hNN
  have j0 : (0 : Int) ≤ (j : Int) := by omega
  have j1 : (j : Int) < (N : Int) := by omega
  have HZ := hide hz
  clear hz h hok hvi hokd hok1 hok2 hlen hl1 hM hjM
  obtain ⟨da0, dc0, wa0, wc0, t2, t3, -, -, -, -, -⟩ := hz_rows (unhide HZ)
  go_enter Try.func42, Try.ntmps42
  go_wp2_with fail
  clear t2 t3 h0 h1 v0 c0
  generalize hW : w.alloc (.cells #[.int .i64 1, .int .i64 k, .int .i64 md, .int .i64 at_, .int .i64 key, .int .i64 keep, .bool t, .string s] 84) = W at HZ ⊢
  generalize hq : w.heap.size = q at HZ ⊢
  clear hW hq
  obtain ⟨h0, h1, v0, c0⟩ := hz_facts (unhide HZ)
  obtain ⟨da, dc, wa, wc, r2, r3, f2, f3, hhl, rowd, roww⟩ := hz_rows (unhide HZ)
  obtain ⟨g1, rfl, e1⟩ := rowd j d.db (by have := unhide HL1; subst this; simp)
  obtain ⟨g2, rfl, e2⟩ := roww j d.wb (by have := unhide HL1; subst this; simp)
  have e1' : W.cell? ⟨g1, 0 + j, none⟩ = some (.pointer (some ⟨d.db, 0, none⟩)) := by rw [Nat.zero_add]; exact e1
  have e2' : W.cell? ⟨g2, 0 + j, none⟩ = some (.pointer (some ⟨d.wb, 0, none⟩)) := by rw [Nat.zero_add]; exact e2
  have xb := (unhide HZ).var
  have x0 : W.cell? ⟨q, 0, none⟩ = some (.int .i64 1) := cell_of_block xb rfl
  have x1 : W.cell? ⟨q, 1, none⟩ = some (.int .i64 k) := cell_of_block xb rfl
  clear rowd roww xb
  go_quiet (fail)
  generalize nq = n1 at *
  go_wp2_with fail
  go_quiet (fail)
  go_wp2_with fail
  have HZ2 := hide ((unhide HZ).kp0 ((Kp.refl [] W).drewN (n1 + nq)))
  generalize W.drewN (n1 + nq) = W2 at HZ2 ⊢
  clear HZ h0 h1 v0 c0 r2 r3 f2 f3 hhl e1 e2 e1' e2' x0 x1 hj hl vl cl
  obtain ⟨h0, h1, v0, c0⟩ := hz_facts (unhide HZ2)
  obtain ⟨ql, hl, vl, cl⟩ := hz_lt (unhide HZ2)
  have xb := (unhide HZ2).var
  have x4 : W2.cell? ⟨q, 4, none⟩ = some (.int .i64 key) := cell_of_block xb rfl
  clear xb
  have HDL := hide (dr_len f n d.y d.rs d.ws key)
  obtain ⟨v, hv⟩ : ∃ v, dg f n d.y d.ws key = v := ⟨_, rfl⟩
  obtain ⟨rs', hrs⟩ : ∃ rs', dr f n d.y d.rs d.ws key = rs' := ⟨_, rfl⟩
  have HV := hide hv
  have HRS := hide hrs
  clear hv hrs
  have ne1 : hb ≠ W2.heap.size := by omega
  have ne2 : vb ≠ W2.heap.size := by omega
  have ne3 : cb ≠ W2.heap.size := by omega
  have ne4 : q ≠ W2.heap.size := by omega
  have HZA3 := hide ((unhide HZ2).kp0 (Kp.refl [] W2).drew)
  have HZB3 := hide ((zoo_side ((unhide HZ2).box #[.bool false, .string ⟨#[]⟩] 38)).kp0 ((Kp.refl [] (W2.alloc (.cells #[.bool false, .string ⟨#[]⟩] 38))).drew))
  go_region_held3 (fun w' => w'.cell? ⟨hb, 0, none⟩ = some (.pointer (some ⟨vb, 0, none⟩)) ∧ w'.cell? ⟨vb, 0, none⟩ = some (.pointer (some ⟨tb, 0, none⟩)) ∧ w'.cell? ⟨q, 4, none⟩ = some (.int .i64 key)) (first | go_keep | exact SA3 | exact SB3 | exact ⟨keep_set2 SB3.1 ne1, keep_set2 SB3.2.1 ne2, keep_set2 SB3.2.2 ne4⟩)
    ((first | (go_at_call 53; refine (z_get key (unhide HZA3)).mono ?_; rintro e w3 ⟨rfl, HA3⟩; have SA3 := hz_sv (i := 4) (unhide HA3) rfl; obtain ⟨qm, hm, vm, cm⟩ := hz_lt (unhide HA3)) | (go_at_call 53; refine (z_get key (unhide HZB3)).mono ?_; rintro e w3 ⟨rfl, HB3⟩; obtain ⟨y0, y1, y2, y3⟩ := two_of (zoo_svar (unhide HB3)); have SB3 := hz_sv (i := 4) (unhide HB3) rfl; obtain ⟨qm, hm, vm, cm⟩ := hz_lt (unhide HB3))))
  all_goals
    rw [unhide HV]
    first | (rw [unhide HRS] at HA3; have HZ3 := hide (zoo_side ((unhide HA3).box #[.bool v.t, .string v.s] 38)); clear HA3 SA3; generalize w3.alloc (.cells #[.bool v.t, .string v.s] 38) = W3 at HZ3 ⊢; generalize w3.heap.size = p1 at HZ3 ⊢) | (rw [unhide HRS] at HB3; have HZ3 := hide (zoo_setv (unhide HB3) (.bool v.t) (.string v.s)); clear HB3 SB3 y0 y1 y2 y3; generalize (w3.setCell ⟨W2.heap.size, 0, none⟩ (.bool v.t)).setCell ⟨W2.heap.size, 1, none⟩ (.string v.s) = W3 at HZ3 ⊢; generalize W2.heap.size = p1 at HZ3 ⊢)
    clear h0 h1 v0 c0 x4 ql hl vl cl ne1 ne2 ne3 ne4 qm hm vm cm
    obtain ⟨h0, h1, v0, c0⟩ := hz_facts (unhide HZ3)
    obtain ⟨ql, hl, vl, cl⟩ := hz_lt (unhide HZ3)
    have x4 : W3.cell? ⟨q, 4, none⟩ = some (.int .i64 key) := cell_of_block (unhide HZ3).var rfl
    go_wp2_with fail
    have ne1 : hb ≠ W3.heap.size := by omega
    have ne2 : vb ≠ W3.heap.size := by omega
    have ne3 : cb ≠ W3.heap.size := by omega
    have ne4 : q ≠ W3.heap.size := by omega
    have HZA4 := hide ((unhide HZ3).kp0 (Kp.refl [] W3).drew)
    have HZB4 := hide ((zoo_side ((unhide HZ3).box #[.bool false, .string ⟨#[]⟩] 38)).kp0 ((Kp.refl [] (W3.alloc (.cells #[.bool false, .string ⟨#[]⟩] 38))).drew))
    go_region_held3 (fun w' => w'.cell? ⟨hb, 1, none⟩ = some (.pointer (some ⟨cb, 0, none⟩)) ∧ w'.cell? ⟨cb, 0, none⟩ = some (.pointer (some ⟨sb, 0, none⟩)) ∧ w'.cell? ⟨q, 4, none⟩ = some (.int .i64 key)) (first | go_keep | exact SA4 | exact SB4 | exact ⟨keep_set2 SB4.1 ne1, keep_set2 SB4.2.1 ne3, keep_set2 SB4.2.2 ne4⟩)
      ((first | (go_at_call 78; refine (z_wget key (unhide HZA4) (by have := (unhide HOKD).2.1; omega) (by have := (unhide HOKD).2.2; omega)).mono ?_; rintro e w4 ⟨rfl, HA4⟩; have SA4 := hz_sc (i := 4) (unhide HA4) rfl; obtain ⟨qm, hm, vm, cm⟩ := hz_lt (unhide HA4)) | (go_at_call 78; refine (z_wget key (unhide HZB4) (by have := (unhide HOKD).2.1; omega) (by have := (unhide HOKD).2.2; omega)).mono ?_; rintro e w4 ⟨rfl, HB4⟩; obtain ⟨y0, y1, y2, y3⟩ := two_of (zoo_svar (unhide HB4)); have SB4 := hz_sc (i := 4) (unhide HB4) rfl; obtain ⟨qm, hm, vm, cm⟩ := hz_lt (unhide HB4))))
    all_goals
      rw [unhide HV]
      first | (rw [unhide HRS] at HA4; have HZ4 := hide (zoo_side ((unhide HA4).box #[.bool v.t, .string v.s] 38)); clear HA4 SA4; generalize w4.alloc (.cells #[.bool v.t, .string v.s] 38) = W4 at HZ4 ⊢; generalize w4.heap.size = p2 at HZ4 ⊢) | (rw [unhide HRS] at HB4; have HZ4 := hide (zoo_setv (unhide HB4) (.bool v.t) (.string v.s)); clear HB4 SB4 y0 y1 y2 y3; generalize (w4.setCell ⟨W3.heap.size, 0, none⟩ (.bool v.t)).setCell ⟨W3.heap.size, 1, none⟩ (.string v.s) = W4 at HZ4 ⊢; generalize W3.heap.size = p2 at HZ4 ⊢)
      obtain ⟨a0, a1, -, -⟩ := two_of (zoo_svar (unhide HZ4))
      obtain ⟨b0, b1, -, -⟩ := two_of (zoo_svar2 (unhide HZ4))
      clear h0 h1 v0 c0 x4 ql hl vl cl ne1 ne2 ne3 ne4 qm hm vm cm
      go_wp2_with fail
      go_ret
      refine ⟨by trivial, ?_⟩
      exact hou_deed (d := d) (d' := ⟨d.db, d.wb, d.md, d.y, rs', d.ws⟩) (zoo_sdrop (zoo_sdrop (unhide HZ4))) rfl rfl (unhide HLEN) (unhide HL1) h6 (unhide HVI) ⟨(unhide HOKD).1, by have h1 := unhide HDL; rw [unhide HRS] at h1; have h2 := (unhide HOKD).2.1; show rs'.length ≤ i + 1; omega, by have h2 := (unhide HOKD).2.2; show d.ws.length ≤ i + 1; omega⟩ (unhide HOK1) (unhide HOK2)

end Go.Proofs.Ytcfogkdpkpehaab

/- A house's step: Put. -/
namespace Go.Proofs.Ytcfogkdpkpehaab
open Go.RowKit
set_option maxRecDepth 20000
attribute [local go_sem ↓] Go.wp_at_zero Go.wp_at_succ

theorem hz_3 {w0 w : World} {q i j k : Nat} {xs : Array Value} {T : TypeId} {r : List Thing} {x y z : Value} (hz : Zoo w0 w (BoxT q xs T :: r)) (hx : xs[i]? = some x) (hy : xs[j]? = some y) (hw : xs[k]? = some z) : w.cell? ⟨q, i, none⟩ = some x ∧ w.cell? ⟨q, j, none⟩ = some y ∧ w.cell? ⟨q, k, none⟩ = some z :=
  ⟨cell_of_block hz.var hx, cell_of_block hz.var hy, cell_of_block hz.var hw⟩

set_option maxHeartbeats 2000000 in
theorem hstep2 {w0 : World} {hb vb cb i tb gb sb : Nat} {f : Nat → List Ver} {n : Nat} {cs : List (List Ver)} {st : Nat → Option Addr} {ds : List Dd} (k md at_ key keep : Int) (t : Bool) (s : ByteArray) (w : World) (h : House w0 w hb vb cb i tb gb sb f n cs st ds) (hN : 0 < ds.length) (hi : i ≤ 150) (hs : s.size ≤ maxLen) :
    Calls Try.prog 42 #[.pointer (some ⟨hb, 0, none⟩), .agg #[.int .i64 2, .int .i64 k, .int .i64 md, .int .i64 at_, .int .i64 key, .int .i64 keep, .bool t, .string s]] w fun e w' => e = .returned (.bool true) ∧ Hid (Hou w0 w' hb vb cb (i + 1)) := by
  obtain ⟨M, hM⟩ : ∃ M, ds.length = M + 1 := ⟨ds.length - 1, by omega⟩
  have h6 := h.six
  obtain ⟨j, hj, hjM⟩ := cut_of k (n := M) (by omega)
  rw [show ((M : Int) + 1) = ((ds.length : Nat) : Int) by omega] at hj
  obtain ⟨l1, d, l2, hds, hl1⟩ := split_at ds j (by omega)
  have hok := h.ok
  have hvi := h.vi
  obtain ⟨hz, h0, h1, v0, c0, hl, vl, cl⟩ := st0_of h #[.int .i64 2, .int .i64 k, .int .i64 md, .int .i64 at_, .int .i64 key, .int .i64 keep, .bool t, .string s] 84
  subst hds
  have hlen : (l1 ++ d :: l2).length = j + 1 + l2.length := by simp [hl1]; omega
  simp only [List.map_append, List.map_cons] at hz
  rw [show prt d = PrT d.db d.wb d.md d.y d.rs d.rs d.ws d.ws from rfl] at hz
  generalize (l1 ++ d :: l2).length = N at *
  obtain ⟨hokd, hok1, hok2⟩ : dOk i d ∧ (∀ x ∈ l1, dOk i x) ∧ ∀ x ∈ l2, dOk i x := ⟨hok d (by simp), fun x hx => hok x (by simp [hx]), fun x hx => hok x (by simp [hx])⟩
  have HOK1 := hide hok1
  have HOK2 := hide hok2
  have HVI := hide hvi
  have HOKD := hide hokd
  have HLEN := hide hlen
  have HL1 := hide hl1
  have hNN : ¬ (N : Int) = 0 := by omega
  have hNB : ((N : Int) == 0) = false := beq_eq_false_iff_ne.2 hNN
  have j0 : (0 : Int) ≤ (j : Int) := by omega
  have j1 : (j : Int) < (N : Int) := by omega
  have HZ := hide hz
  clear hz h hok hvi hokd hok1 hok2 hlen hl1 hM hjM
  obtain ⟨da0, dc0, wa0, wc0, t2, t3, -, -, -, -, -⟩ := hz_rows (unhide HZ)
  go_enter Try.func42, Try.ntmps42
  go_wp2_with fail
  clear t2 t3 h0 h1 v0 c0
  generalize hW : w.alloc (.cells #[.int .i64 2, .int .i64 k, .int .i64 md, .int .i64 at_, .int .i64 key, .int .i64 keep, .bool t, .string s] 84) = W at HZ ⊢
  generalize hq : w.heap.size = q at HZ ⊢
  clear hW hq
  obtain ⟨h0, h1, v0, c0⟩ := hz_facts (unhide HZ)
  obtain ⟨da, dc, wa, wc, r2, r3, f2, f3, hhl, rowd, roww⟩ := hz_rows (unhide HZ)
  obtain ⟨g1, rfl, e1⟩ := rowd j d.db (by have := unhide HL1; subst this; simp)
  obtain ⟨g2, rfl, e2⟩ := roww j d.wb (by have := unhide HL1; subst this; simp)
  have e1' : W.cell? ⟨g1, 0 + j, none⟩ = some (.pointer (some ⟨d.db, 0, none⟩)) := by rw [Nat.zero_add]; exact e1
  have e2' : W.cell? ⟨g2, 0 + j, none⟩ = some (.pointer (some ⟨d.wb, 0, none⟩)) := by rw [Nat.zero_add]; exact e2
  have xb := (unhide HZ).var
  have x0 : W.cell? ⟨q, 0, none⟩ = some (.int .i64 2) := cell_of_block xb rfl
  have x1 : W.cell? ⟨q, 1, none⟩ = some (.int .i64 k) := cell_of_block xb rfl
  clear rowd roww xb
  go_quiet (fail)
  generalize nq = n1 at *
  go_wp2_with fail
  go_quiet (fail)
  go_wp2_with fail
  have HZ2 := hide ((unhide HZ).kp0 ((Kp.refl [] W).drewN (n1 + nq)))
  generalize W.drewN (n1 + nq) = W2 at HZ2 ⊢
  clear HZ h0 h1 v0 c0 r2 r3 f2 f3 hhl e1 e2 e1' e2' x0 x1 hj hl vl cl
  obtain ⟨h0, h1, v0, c0⟩ := hz_facts (unhide HZ2)
  obtain ⟨ql, hl, vl, cl⟩ := hz_lt (unhide HZ2)
  have xb := (unhide HZ2).var
  have x4 : W2.cell? ⟨q, 4, none⟩ = some (.int .i64 key) := cell_of_block xb rfl
  have x6 : W2.cell? ⟨q, 6, none⟩ = some (.bool t) := cell_of_block xb rfl
  have x7 : W2.cell? ⟨q, 7, none⟩ = some (.string s) := cell_of_block xb rfl
  clear xb
  have HDL := hide (dpw_len d.md d.ws key t s)
  have HWK := hide ((unhide HOKD).1.put d.md key t s)
  obtain ⟨z, hz⟩ : ∃ z, dpc d.md key t s = z := ⟨_, rfl⟩
  obtain ⟨ws', hws⟩ : ∃ ws', dpw d.md d.ws key t s = ws' := ⟨_, rfl⟩
  have HV := hide hz
  have HWS := hide hws
  clear hz hws
  have HZA := hide ((unhide HZ2).kp0 (Kp.refl [] W2).drew)
  go_region_held3 (fun w' => w'.cell? ⟨q, 4, none⟩ = some (.int .i64 key) ∧ w'.cell? ⟨q, 6, none⟩ = some (.bool t) ∧ w'.cell? ⟨q, 7, none⟩ = some (.string s)) (first | go_keep | exact SA | exact SB)
    ((first | (go_at_call 49; refine (z_put key t s hs (unhide HZA)).mono ?_; rintro e w3 ⟨rfl, HA3⟩; have SA := hz_3 (unhide HA3) (i := 4) (j := 6) (k := 7) rfl rfl rfl; rw [unhide HV]) | (go_at_call 79; refine (z_wput key t s hs (unhide HA3) (by have := (unhide HOKD).2.2; omega)).mono ?_; rintro e w4 ⟨rfl, HA4⟩; have SB := hz_3 (unhide HA4) (i := 4) (j := 6) (k := 7) rfl rfl rfl; rw [unhide HV])))
  all_goals
    rw [unhide HWS] at HA4
    clear h0 h1 v0 c0 x4 x6 x7 SA SB
    go_wp2_with fail
    go_ret
    refine ⟨by trivial, ?_⟩
    exact hou_deed (d := d) (d' := ⟨d.db, d.wb, d.md, d.y, d.rs, ws'⟩) (unhide HA4) rfl rfl (unhide HLEN) (unhide HL1) h6 (unhide HVI) ⟨by have := unhide HWK; rw [unhide HWS] at this; exact this, by have h2 := (unhide HOKD).2.1; show d.rs.length ≤ i + 1; omega, by have h1 := unhide HDL; rw [unhide HWS] at h1; have h2 := (unhide HOKD).2.2; show ws'.length ≤ i + 1; omega⟩ (unhide HOK1) (unhide HOK2)

end Go.Proofs.Ytcfogkdpkpehaab
