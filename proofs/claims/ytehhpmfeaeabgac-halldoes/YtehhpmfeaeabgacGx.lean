/- Contracts of the document's deed and court that hold of longer lists of keys read. -/
import Derived.Test.YtehhpmfeaeabgacCg
import Derived.Test.YtehhpmfeaeabgacHl
namespace Go.Proofs.Ytehhpmfeaeabgac
open Go.RowKit
set_option maxRecDepth 20000
attribute [local go_sem ↓] Go.wp_at_zero Go.wp_at_succ

set_option maxHeartbeats 400000 in
theorem in72x {l : List Int} (a : Option Addr) (cap : Nat) (x : Int) (w : World) (h : SlI w a l) (hm : l.length ≤ 5000) :
    Calls Try.prog 39 #[.slice a l.length cap, .int .i64 x] w fun e w' => e = .returned (.bool (decide (x ∈ l))) ∧ w' = w := by
  have HS := hide h
  clear h
  go_enter Try.func39, Try.ntmps39
  go_wp2_with fail
  go_loop [5] (fun i => ∃ d : Nat, d ≤ l.length ∧ i = .int .i64 d ∧ Hid (∀ j, j < d → ig l j ≠ x)) (fun i => l.length - (intOf i).toNat)
  case atStart => exact ⟨0, Nat.zero_le _, rfl, fun j hj => by omega⟩
  case round =>
    obtain ⟨d, hd, rfl, HN⟩ := hrel
    by_cases hlt : d < l.length
    · obtain ⟨g, o, rfl, hs⟩ := unhide HS (by omega)
      have q0 := hs d hlt
      have i0 : (0 : Int) ≤ (d : Int) := by omega
      have i1 : (d : Int) < (l.length : Int) := by omega
      clear hs
      by_cases hx : ig l d = x
      · have HM : Hid (decide (x ∈ l) = true) := decide_eq_true (mem_ig.2 ⟨d, hlt, hx⟩)
        rw [hx] at q0
        clear hx
        go_wp2
        go_ret
        exact ⟨ret_bool (unhide HM).symm, rfl⟩
      · have HN2 : Hid (∀ j, j < d + 1 → ig l j ≠ x) := fun j hj => by
          by_cases e : j = d
          · subst e; exact hx
          · exact unhide HN j (by omega)
        have ex : (ig l d == x) = false := beq_eq_false_iff_ne.2 hx
        clear hx
        go_wp2
        exact ⟨⟨d + 1, by omega, by go_num, HN2⟩, by simp [intOf]; omega⟩
    · have HM : Hid (decide (x ∈ l) = false) := decide_eq_false (fun hm => by
        obtain ⟨j, hj, e⟩ := mem_ig.1 hm
        exact unhide HN j (by omega) e)
      go_wp2
      go_ret
      exact ⟨ret_bool (unhide HM).symm, rfl⟩

set_option maxHeartbeats 2000000 in
theorem wget56x {B sb n wb : Nat} {G H : List Nat} {f : Nat → List Ver} {md y : Int} {rs : List Int} {ws : List Ver} (k : Int) (w : World) (h : Sht B w sb G f n) (hw : Wrk B w wb H md y rs ws) (hrl : rs.length ≤ 3000) (hwl : ws.length ≤ 900) :
    Calls Try.prog 51 #[.pointer (some ⟨wb, 0, none⟩), .pointer (some ⟨sb, 0, none⟩), .int .i64 k] w fun e w' => WgEnd B w wb H md y (dr f n y rs ws k) ws (.tuple #[.agg #[.bool (dg f n y ws k).t, .string (dg f n y ws k).s], .int .i64 (dg f n y ws k).a]) e w' := by
  obtain ⟨in0, hi0, hz0, hz1, hz2⟩ := info_parts Try.info3
  have HT := hide h
  have HW := hide hw
  clear h hw
  by_cases hk : keyB k = true
  · cases hv : lwr ws k with
    | some v =>
      rw [dg_own hk hv, dr_own hv]
      have HV := hide hv
      clear hv
      go_enter Try.func51, Try.ntmps51
      go_wp2_with fail
      refine (key12 _ _).mono ?_
      rintro e w' ⟨rfl, rfl⟩
      rw [hk]
      clear hk
      go_wp2_with fail
      refine (wlast81 k _ ((unhide HW).kp0 ((Kp.refl [] w).alloc _)) (by omega)).mono ?_
      rintro e w1 ⟨rfl, hkp⟩
      rw [unhide HV]
      simp only [Option.isSome_some, Option.getD_some]
      have p0 : w1.cell? ⟨w.heap.size, 0, none⟩ = some (.bool false) := hkp.cell (by simp) (by simp)
      have p1 : w1.cell? ⟨w.heap.size, 1, none⟩ = some (.string ⟨#[]⟩) := hkp.cell (by simp) (by simp)
      have p2 : w1.frozen? ⟨w.heap.size, 0, none⟩ = false := by rw [hkp.frozen (by simp) (by simp)]; simp
      have p3 : w1.frozen? ⟨w.heap.size, 1, none⟩ = false := by rw [hkp.frozen (by simp) (by simp)]; simp
      have hRs : w.heap.size < w1.heap.size := by have := hkp.size; simp at this; omega
      have HK1 := hide (((Kp.refl [] w).alloc (.cells #[.bool false, .string ⟨#[]⟩] 31)).trans0 hkp)
      clear hkp
      go_wp2
      refine bodyPost_ret (v := .tuple #[.agg #[.bool v.t, .string v.s], .int .i64 0]) (by simp [results, Try.results51, go_sem, p0, p1, hRs]) rfl (wgEnd_kp rfl (unhide HW) ?_)
      exact (((unhide HK1).setCell (p := ⟨w.heap.size, 0, none⟩) (.inr (Nat.le_refl _)) _).setCell (p := ⟨w.heap.size, 1, none⟩) (.inr (Nat.le_refl _)) _).alloc _
    | none =>
      rw [dg_tbl hk hv]
      by_cases h0 : (tr f n k y).a = 0
      · rw [dr_tbl hk hv h0, h0]
        have HV := hide hv
        have H0 := hide h0
        clear hv h0
        go_enter Try.func51, Try.ntmps51
        go_wp2_with fail
        refine (key12 _ _).mono ?_
        rintro e w' ⟨rfl, rfl⟩
        rw [hk]
        clear hk
        go_wp2_with fail
        refine (wlast81 k _ ((unhide HW).kp0 ((Kp.refl [] w).alloc _)) (by omega)).mono ?_
        rintro e w1 ⟨rfl, hkp⟩
        rw [unhide HV]
        simp only [Option.isSome_none, Option.getD_none]
        have hkp1 := ((Kp.refl [] w).alloc (.cells #[.bool false, .string ⟨#[]⟩] 31)).trans0 hkp
        have hR := (two_new w false ⟨#[]⟩).kp0 hkp
        obtain ⟨ra, rc, wa, wc, hw1⟩ := (unhide HW).kp0 hkp1
        have q1 := hw1.c1
        have hl1 := lt_of_block hw1.box
        have HW1 := hide hw1
        have HR := hide hR
        have HK1 := hide hkp1
        clear hkp hkp1 hw1 hR
        go_wp2_with fail
        refine (sread33 k y _ ((unhide HT).kp0 ((unhide HK1).alloc _))).mono ?_
        rintro e w2 ⟨rfl, hkp⟩
        have hkp2 := ((Kp.refl [] w1).alloc (.cells #[.bool false, .string ⟨#[]⟩] 31)).trans0 hkp
        have hw2 := (unhide HW1).kp0 hkp2
        have hR := (unhide HR).kp0 hkp2
        have c2 := hw2.c2
        have hlb := lt_of_block hw2.box
        have hlR := hR.lt
        have hHw := (unhide HW).lo
        have hbw : wb < w.heap.size := (hHw wb hw2.bH).2
        have hBb : B ≤ wb := (hHw wb hw2.bH).1
        have n1 : wb ≠ w.heap.size := by omega
        have n2 : wb ≠ w2.heap.size := by omega
        have n3 : w.heap.size ≠ w2.heap.size := by omega
        have hRH : w.heap.size ∉ H := fun hm => by have := (hHw _ hm).2; omega
        rw [unhide H0]
        generalize hvv : tr f n k y = v at *
        have HVV := hide hvv
        have HO := hide (own_kp0 hw2.ro (((Kp.refl [] w2).alloc (.cells #[.bool v.t, .string v.s] 31)).alloc (.cells #[.int .i64 k] 3)))
        have HW2 := hide hw2
        have HR2 := hide hR
        have HRH := hide hRH
        have HHW := hide hHw
        have HK2 := hide ((unhide HK1).trans0 hkp2)
        clear hvv hw2 hR hkp hkp2 hRH hHw q1
        go_wp2_with (at_builtin; refine wpList_append_lies _ rfl _ _ 64 rfl B 3 in0 _ 1 8 Try.underlying64 hi0 hz0 hz1 hz2 rfl (by omega) (.slice ra rs.length rc) rs.length (icells rs) rfl (unhide HO) ⟨w2.heap.size + 1, 0, none⟩ 1 1 [.int .i64 k] (by rfl) (by rfl) (World.news_of_block (cs := #[.int .i64 k]) (t := 3) (fr := (0, 0)) (by have := heap_alloc_new (w2.alloc (.cells #[.bool v.t, .string v.s] 31)) (.cells #[.int .i64 k] 3); simpa using this)) (by simp [Value.oneCell']) (by omega) (by unfold maxLen; omega) (by omega) (by simp; omega) _ rfl ?_; intro g2 cap2 w3 hown hgrow hat hlt3; obtain ⟨r0, r1, r2, r3, r4, r5, r6, r7⟩ := get_far (unhide HW2) (unhide HR2) (unhide HRH) hgrow; have HOW := hide hown; have HGR := hide hgrow; have HAT := hide hat; clear hown hgrow hat c2)
        refine bodyPost_ret (v := .tuple #[.agg #[.bool v.t, .string v.s], .int .i64 0]) (by simp [results, Try.results51, go_sem, r4, r5]) rfl ?_
        exact wget_end (by rw [unhide HVV]) (unhide HW2) (fun x hx => (unhide HHW x hx).2) (unhide HK2) hlR (unhide HOW) (unhide HGR) (unhide HAT) hlt3
      · rw [dr_code h0]
        have HV := hide hv
        have HN0 := hide h0
        clear hv h0
        go_enter Try.func51, Try.ntmps51
        go_wp2_with fail
        refine (key12 _ _).mono ?_
        rintro e w' ⟨rfl, rfl⟩
        rw [hk]
        clear hk
        go_wp2_with fail
        refine (wlast81 k _ ((unhide HW).kp0 ((Kp.refl [] w).alloc _)) (by omega)).mono ?_
        rintro e w1 ⟨rfl, hkp⟩
        rw [unhide HV]
        simp only [Option.isSome_none, Option.getD_none]
        have hkp1 := ((Kp.refl [] w).alloc (.cells #[.bool false, .string ⟨#[]⟩] 31)).trans0 hkp
        have hR := (two_new w false ⟨#[]⟩).kp0 hkp
        obtain ⟨ra, rc, wa, wc, hw1⟩ := (unhide HW).kp0 hkp1
        have q1 := hw1.c1
        have hl1 := lt_of_block hw1.box
        have HW1 := hide hw1
        have HR := hide hR
        have HK1 := hide hkp1
        clear hkp hkp1 hw1 hR
        go_wp2_with fail
        refine (sread33 k y _ ((unhide HT).kp0 ((unhide HK1).alloc _))).mono ?_
        rintro e w2 ⟨rfl, hkp⟩
        have hkp2 := ((Kp.refl [] w1).alloc (.cells #[.bool false, .string ⟨#[]⟩] 31)).trans0 hkp
        have hR := (unhide HR).kp0 hkp2
        have p0 := hR.c0
        have p1 := hR.c1
        have p2 := hR.f0
        have p3 := hR.f1
        have hlR := hR.lt
        have HK2 := hide ((unhide HK1).trans0 hkp2)
        have h0 := unhide HN0
        clear hR hkp hkp2 q1
        generalize hvv : tr f n k y = v at *
        have HVV := hide hvv
        clear hvv
        go_wp2
        refine bodyPost_ret (v := .tuple #[.agg #[.bool v.t, .string v.s], .int .i64 v.a]) (by simp [results, Try.results51, go_sem, p0, p1, hlR]) rfl (wgEnd_kp (by rw [unhide HVV]) (unhide HW) ?_)
        exact (((unhide HK2).setCell (p := ⟨w.heap.size, 0, none⟩) (.inr (Nat.le_refl _)) _).setCell (p := ⟨w.heap.size, 1, none⟩) (.inr (Nat.le_refl _)) _).alloc _
  · have hk2 : keyB k = false := by simpa using hk
    rw [dg_out hk2, dr_out hk2]
    clear hk
    go_enter Try.func51, Try.ntmps51
    go_wp2_with fail
    refine (key12 _ _).mono ?_
    rintro e w' ⟨rfl, rfl⟩
    rw [hk2]
    clear hk2
    go_wp2
    refine bodyPost_ret (v := .tuple #[.agg #[.bool false, .string ByteArray.empty], .int .i64 1]) (by simp [results, Try.results51, go_sem]; rfl) rfl (wgEnd_kp rfl (unhide HW) ?_)
    exact (Kp.refl [] w).alloc _
/-- What List tells, and what it leaves. -/
def WlEnd (L : List Ver × Int × List Int) (B : Nat) (w : World) (wb : Nat) (H : List Nat) (md y : Int) (ws : List Ver) (e : Ending) (w' : World) : Prop :=
  ∃ a cap, e = .returned (.tuple #[.slice a L.1.length cap, .int .i64 L.2.1]) ∧ w'.ownsRow w.heap.size 79 3 (.slice a L.1.length cap) L.1.length (vcells L.1) ∧
    ∃ H', Wrk B w' wb H' md y L.2.2 ws ∧ Kp H w w' ∧ ∀ x, x ∈ H' → x ∈ H ∨ w.heap.size ≤ x
theorem wlEnd_mk {L : List Ver × Int × List Int} {B : Nat} {w w' : World} {wb : Nat} {H H' : List Nat} {md y : Int} {ws : List Ver} (acc : List Ver) (code : Int) (rs : List Int) (a : Option Addr) (cap : Nat) (h : L = (acc, code, rs)) (ho : w'.ownsRow w.heap.size 79 3 (.slice a acc.length cap) acc.length (vcells acc))
    (hd : Wrk B w' wb H' md y rs ws) (hk : Kp H w w') (hs : ∀ x, x ∈ H' → x ∈ H ∨ w.heap.size ≤ x) : WlEnd L B w wb H md y ws (.returned (.tuple #[.slice a acc.length cap, .int .i64 code])) w' := by
  subst h; exact ⟨a, cap, rfl, ho, H', hd, hk, hs⟩

/-- What stands at the head of a round of List. -/
structure WlI (R : List Ver × Int × List Int) (B : Nat) (w : World) (wb : Nat) (H : List Nat) (md y : Int) (f : Nat → List Ver) (n : Nat) (ws : List Ver) (t k : Nat) (acc : List Ver) (rs : List Int) (a : Option Addr) (cap : Nat) (wr : World) (Hk : List Nat) : Prop where
  goes : dgo f n y ws k (t + 1 - k) acc rs = R
  own : wr.ownsRow w.heap.size 79 3 (.slice a acc.length cap) acc.length (vcells acc)
  wrk : Wrk B wr wb Hk md y rs ws
  kp : Kp H w wr
  sub : ∀ x, x ∈ Hk → x ∈ H ∨ w.heap.size ≤ x
  far : ∀ g, (Value.slice a acc.length cap).ownBlock = some g → g ∉ Hk
  len : acc.length ≤ k

theorem own_lt {B : Nat} {w : World} {e : TypeId} {size n g : Nat} {v : Value} {xs : List Value} (h : w.ownsRow B e size v n xs) (hg : v.ownBlock = some g) : g < w.heap.size := by
  rcases h.2 with ⟨hn, _⟩ | ⟨g', cap, cur, rfl, h2, h3, h4⟩
  · subst hn; simp [Value.ownBlock] at hg
  · have : g' = g := by simpa [Value.ownBlock] using hg
    subst this
    exact lt_of_block h3

section
variable {R : List Ver × Int × List Int} {B : Nat} {w wr w1 W w2 : World} {wb : Nat} {H Hk H1 : List Nat} {md y : Int} {f : Nat → List Ver} {n : Nat} {ws : List Ver} {t k : Nat} {acc : List Ver} {rs : List Int} {a : Option Addr} {cap : Nat}
theorem WlI.own1 (h : WlI R B w wb H md y f n ws t k acc rs a cap wr Hk) (hk : Kp Hk wr w1) : w1.ownsRow w.heap.size 79 3 (.slice a acc.length cap) acc.length (vcells acc) := own_kp h.own hk h.far
theorem WlI.far1 (h : WlI R B w wb H md y f n ws t k acc rs a cap wr Hk) (hs : ∀ x, x ∈ H1 → x ∈ Hk ∨ wr.heap.size ≤ x) : ∀ g, (Value.slice a acc.length cap).ownBlock = some g → g ∉ H1 := by
  intro g hg hm
  rcases hs g hm with e | e
  · exact h.far g hg e
  · have := own_lt h.own hg; omega
theorem WlI.sub1 (h : WlI R B w wb H md y f n ws t k acc rs a cap wr Hk) (hs : ∀ x, x ∈ H1 → x ∈ Hk ∨ wr.heap.size ≤ x) : ∀ x, x ∈ H1 → x ∈ H ∨ w.heap.size ≤ x := by
  intro x hx
  rcases hs x hx with e | e
  · exact h.sub x e
  · right; have := h.kp.size; omega
theorem WlI.skip (h : WlI R B w wb H md y f n ws t k acc rs a cap wr Hk) (hk : k ≤ t) (hw : Kp Hk wr w1) (hd : Wrk B w1 wb H1 md y (dr f n y rs ws k) ws) (hs : ∀ x, x ∈ H1 → x ∈ Hk ∨ wr.heap.size ≤ x)
    (h0 : (dg f n y ws k).a = 0) (ht : ¬ (dg f n y ws k).t = true) : WlI R B w wb H md y f n ws t (k + 1) acc (dr f n y rs ws k) a cap w1 H1 :=
  ⟨by have := h.goes; rw [show t + 1 - k = (t + 1 - (k + 1)) + 1 by omega] at this; exact dgo_skip this h0 ht, h.own1 hw, hd, h.kp.trans hw h.sub, h.sub1 hs, h.far1 hs, by have := h.len; omega⟩
theorem WlI.more (h : WlI R B w wb H md y f n ws t k acc rs a cap wr Hk) (hk : k ≤ t) (hw : Kp Hk wr W) (hd : Wrk B W wb H1 md y (dr f n y rs ws k) ws) (hs : ∀ x, x ∈ H1 → x ∈ Hk ∨ wr.heap.size ≤ x)
    (h0 : (dg f n y ws k).a = 0) (ht : (dg f n y ws k).t = true) {g2 cap2 : Nat} (hown : w2.ownsRow w.heap.size 79 3 (.slice (some ⟨g2, 0, none⟩) (acc.length + 1) cap2) (acc.length + 1) (vcells acc ++ [.int .i64 k, .bool true, .string (dg f n y ws k).s]))
    (hgrow : W.grownBy w2 (Value.slice a acc.length cap).ownBlock) (hat : (Value.slice a acc.length cap).ownBlock = some g2 ∨ g2 = W.heap.size) : WlI R B w wb H md y f n ws t (k + 1) (acc ++ [⟨k, (dg f n y ws k).t, (dg f n y ws k).s⟩]) (dr f n y rs ws k) (some ⟨g2, 0, none⟩) cap2 w2 H1 := by
  have hk1 : Kp (Value.slice a acc.length cap).ownBlock.toList W w2 := (Kp.refl _ W).grown hgrow (fun g hg => .inl (by simp [hg]))
  refine ⟨by have := h.goes; rw [show t + 1 - k = (t + 1 - (k + 1)) + 1 by omega] at this; exact dgo_more this h0 ht, ?_, hd.kp hk1 (fun x hx hm => h.far1 hs x (by simpa using hm) hx), ?_, h.sub1 hs, ?_, by have := h.len; simp; omega⟩
  · have hv : vcells acc ++ [.int .i64 k, .bool true, .string (dg f n y ws k).s] = vcells (acc ++ [⟨k, (dg f n y ws k).t, (dg f n y ws k).s⟩]) := by rw [vcells_append, ht]; rfl
    rw [hv] at hown
    simpa using hown
  · exact (h.kp.trans hw h.sub).grown hgrow (fun g hg => .inr (own_ge h.own hg))
  · intro g hg hm
    have e : g2 = g := by simpa [Value.ownBlock] using hg
    subst e
    rcases hat with e | e
    · exact h.far1 hs g2 e hm
    · have := (hd.lo g2 hm).2; omega
end

set_option maxHeartbeats 2000000 in
theorem wlist60x {B sb n wb : Nat} {G H : List Nat} {f : Nat → List Ver} {md y : Int} {rs : List Int} {ws : List Ver} (fr to_ : Int) (w : World) (h : Sht B w sb G f n) (hd : Wrk B w wb H md y rs ws) (hF : ∀ x, x ∈ G → x ∉ H) (hrl : rs.length ≤ 2900) (hwl : ws.length ≤ 900) :
    Calls Try.prog 53 #[.pointer (some ⟨wb, 0, none⟩), .pointer (some ⟨sb, 0, none⟩), .int .i64 fr, .int .i64 to_] w fun e w' => WlEnd (dls f n y ws rs fr to_) B w wb H md y ws e w' := by
  obtain ⟨in0, hi0, hz0, hz1, hz2⟩ := info_parts Try.info79
  have HT := hide h
  have HD := hide hd
  have HF := hide hF
  clear h hd hF
  by_cases hf : keyB fr = true
  · by_cases ht : keyB to_ = true
    · obtain ⟨p, hp, rfl⟩ := keyB_nat hf
      obtain ⟨t, ht8, rfl⟩ := keyB_nat ht
      have H0 : Hid (WlI (dls f n y ws rs p t) B w wb H md y f n ws t p [] rs none 0 w H) := ⟨(dls_in hf ht).symm, World.ownsRow_nil _ _ _ _, unhide HD, Kp.refl _ _, fun _ hx => .inl hx, fun g hg => by simp [Value.ownBlock] at hg, by simp⟩
      generalize dls f n y ws rs p t = R at *
      go_enter Try.func53, Try.ntmps53
      go_wp2_with fail
      refine (key12 _ _).mono ?_
      rintro e w' ⟨rfl, hw'⟩
      subst w'
      rw [hf]
      go_wp2_with fail
      refine (key12 _ _).mono ?_
      rintro e w' ⟨rfl, hw'⟩
      subst w'
      rw [ht]
      clear hf ht
      go_wp2_with fail
      go_loopw [10, 11] (fun s i wr => ∃ (k : Nat) (acc : List Ver) (rk : List Int) (a : Option Addr) (cap : Nat) (Hk : List Nat), k ≤ 8 ∧ s = .slice a acc.length cap ∧ i = .int .i64 k ∧ rk.length ≤ 2900 + k ∧ Hid (WlI R B w wb H md y f n ws t k acc rk a cap wr Hk)) (fun _ i _ => 8 - (intOf i).toNat)
      case atStart => exact ⟨p, [], rs, none, 0, H, by omega, rfl, rfl, by omega, H0⟩
      case round =>
        obtain ⟨k, acc, rk, a, cap, Hk, hk, rfl, rfl, hrk, HL⟩ := hrel
        by_cases hlt : k ≤ t
        · have j0 : (k : Int) ≤ (t : Int) := by omega
          have hdl := dr_len f n y rk ws k
          go_wp2_with fail
          refine (wget56x k _ ((unhide HT).kp (unhide HL).kp (unhide HF)) (unhide HL).wrk (by omega) hwl).mono ?_
          rintro e w1 ⟨rfl, H1, hd1, hk1, hs1⟩
          have HK1 := hide hk1
          have HD1 := hide hd1
          have HS1 := hide hs1
          clear hk1 hd1 hs1
          by_cases h0 : (dg f n y ws k).a = 0
          · have H00 := hide h0
            rw [h0]
            clear h0
            by_cases h1 : (dg f n y ws k).t = true
            · have H1T := hide h1
              rw [h1]
              have hOW := hide ((unhide HL).own1 (((unhide HK1).alloc (.cells #[.bool true, .string (dg f n y ws k).s] 31)).alloc (.cells #[.int .i64 k, .bool true, .string (dg f n y ws k).s] 79)))
              have hal := (unhide HL).len
              have hwl2 := Nat.le_trans (unhide HL).kp.size (unhide HK1).size
              go_wp2_with (at_builtin; refine wpList_append_lies _ rfl _ _ 32 rfl w.heap.size 79 in0 _ 3 32 Try.underlying32 hi0 hz0 hz1 hz2 rfl (by omega) (.slice a acc.length cap) acc.length (vcells acc) rfl (unhide hOW) ⟨w1.heap.size + 1, 0, none⟩ 1 1 [.int .i64 k, .bool true, .string (dg f n y ws k).s] (by rfl) (by rfl) (World.news_of_block (cs := #[.int .i64 k, .bool true, .string (dg f n y ws k).s]) (t := 79) (fr := (0, 0)) (by have := heap_alloc_new (w1.alloc (.cells #[.bool true, .string (dg f n y ws k).s] 31)) (.cells #[.int .i64 k, .bool true, .string (dg f n y ws k).s] 79); simpa using this)) (by simp [Value.oneCell']) (by omega) (by unfold maxLen; omega) (by omega) (by simp; omega) _ rfl ?_; intro g2 cap2 w2 hown hgrow hat hlt2)
              have HL2 := hide ((unhide HL).more hlt (((unhide HK1).alloc _).alloc _) ((unhide HD1).kp0 (((Kp.refl [] w1).alloc _).alloc _)) (unhide HS1) (unhide H00) (unhide H1T) hown hgrow hat)
              clear hown hgrow hat
              go_wp2_with fail
              exact ⟨⟨k + 1, _, _, _, _, _, by omega, by simp, by go_num, by omega, HL2⟩, by simp [intOf]; omega⟩
            · have HL2 := hide ((unhide HL).skip hlt ((unhide HK1).alloc (.cells #[.bool (dg f n y ws k).t, .string (dg f n y ws k).s] 31)) ((unhide HD1).kp0 ((Kp.refl [] w1).alloc _)) (unhide HS1) (unhide H00) h1)
              have h1' : (dg f n y ws k).t = false := by simpa using h1
              rw [h1'] at HL2 ⊢
              clear h1 h1'
              go_wp2_with fail
              exact ⟨⟨k + 1, acc, _, a, cap, _, by omega, rfl, by go_num, by omega, HL2⟩, by simp [intOf]; omega⟩
          · have hg := (unhide HL).goes
            rw [show t + 1 - k = (t - k) + 1 by omega] at hg
            have hst := dgo_stop hg h0
            clear hg
            have HST := hide hst
            have HK2 := hide (((unhide HL).kp.trans (unhide HK1) (unhide HL).sub).alloc (.cells #[.bool (dg f n y ws k).t, .string (dg f n y ws k).s] 31))
            have HD2 := hide ((unhide HD1).kp0 ((Kp.refl [] w1).alloc (.cells #[.bool (dg f n y ws k).t, .string (dg f n y ws k).s] 31)))
            have HS2 := hide ((unhide HL).sub1 (unhide HS1))
            clear hst
            generalize (dg f n y ws k).a = q at *
            generalize (dg f n y ws k).t = qt at *
            generalize (dg f n y ws k).s = qs at *
            go_wp2_with fail
            go_ret2
            exact wlEnd_mk [] _ _ none 0 (unhide HST) (World.ownsRow_nil _ _ _ _) (unhide HD2) (unhide HK2) (unhide HS2)
        · have j0 : ¬ (k : Int) ≤ (t : Int) := by omega
          have hst := dgo_end (unhide HL).goes (by omega)
          have HST := hide hst
          clear hst
          go_wp2_with fail
          go_ret2
          exact wlEnd_mk acc 0 _ a cap (unhide HST) (unhide HL).own (unhide HL).wrk (unhide HL).kp (unhide HL).sub
    · have HE1 := hide (dls_out (f := f) (n := n) (y := y) (ws := ws) (rs := rs) (p := fr) (t := to_) (fun h => ht h.2))
      have ht2 : keyB to_ = false := by simpa using ht
      clear ht
      go_enter Try.func53, Try.ntmps53
      go_wp2_with fail
      refine (key12 _ _).mono ?_
      rintro e w' ⟨rfl, rfl⟩
      rw [hf]
      go_wp2_with fail
      refine (key12 _ _).mono ?_
      rintro e w' ⟨rfl, rfl⟩
      rw [ht2]
      go_wp2_with fail
      go_ret2
      exact wlEnd_mk [] 1 _ none 0 (unhide HE1) (World.ownsRow_nil _ _ _ _) (unhide HD) (Kp.refl _ _) (fun _ hx => .inl hx)
  · have HE1 := hide (dls_out (f := f) (n := n) (y := y) (ws := ws) (rs := rs) (p := fr) (t := to_) (fun h => hf h.1))
    have hf2 : keyB fr = false := by simpa using hf
    clear hf
    go_enter Try.func53, Try.ntmps53
    go_wp2_with fail
    refine (key12 _ _).mono ?_
    rintro e w' ⟨rfl, rfl⟩
    rw [hf2]
    go_wp2_with fail
    go_ret2
    exact wlEnd_mk [] 1 _ none 0 (unhide HE1) (World.ownsRow_nil _ _ _ _) (unhide HD) (Kp.refl _ _) (fun _ hx => .inl hx)

set_option maxHeartbeats 2000000 in
theorem wmay69x {B sb n wb : Nat} {G H : List Nat} {f : Nat → List Ver} {md y : Int} {rs : List Int} {ws : List Ver} (w : World) (h : Sht B w sb G f n) (hd : Wrk B w wb H md y rs ws) (hrl : rs.length ≤ 3000) (hwl : ws.length ≤ 900) :
    Calls Try.prog 55 #[.pointer (some ⟨wb, 0, none⟩), .pointer (some ⟨sb, 0, none⟩)] w fun e w' => e = .returned (.int .i64 (dm f md y rs ws)) ∧ Kp [] w w' := by
  obtain ⟨g, o, cap, h⟩ := h
  have HT := hide h
  have HD := hide hd
  clear h hd
  have HC0 : Hid (cls f y ws 0 = false) := rfl
  go_enter Try.func55, Try.ntmps55
  go_wp2_with fail
  go_loopw [5] (fun i wr => ∃ k : Nat, k ≤ 8 ∧ i = .int .i64 k ∧ Hid (cls f y ws k = false) ∧ Hid (Kp [] w wr)) (fun i _ => 8 - (intOf i).toNat)
  case atStart => exact ⟨0, by omega, rfl, HC0, Kp.refl _ _⟩
  case round =>
    obtain ⟨k, hk, rfl, HC, HK⟩ := hrel
    by_cases hlt8 : k < 8
    · have i0 : (0 : Int) ≤ (k : Int) := by omega
      have i1 : (k : Int) < 8 := by omega
      go_wp2_with fail
      refine (wlast81 k _ ((unhide HD).kp0 (unhide HK)) (by omega)).mono ?_
      rintro e w1 ⟨rfl, hkp⟩
      have hk1 := (unhide HK).trans0 hkp
      generalize hsn : snc f k = sn at *
      have HSN := hide hsn
      clear hsn
      cases hv : lwr ws k with
      | some v =>
        simp only [Option.isSome_some, Option.getD_some]
        have hk2 := hk1.alloc (.cells #[.bool v.t, .string v.s] 31)
        obtain ⟨ra, rc, wa, wc, hw1⟩ := (unhide HD).kp0 hk1
        have ht1 := (unhide HT).kp hk1 (fun _ _ => by simp)
        have qL := ht1.kcell hlt8
        have qy := hw1.c1
        have hlb := lt_of_block hw1.box
        have hls := (ht1.lo sb ht1.sG).2
        have HK2 := hide hk2
        have HV := hide hv
        clear hkp hk1 hk2 hw1 ht1 hv
        by_cases hgt : y < sn
        · have HN := hide (dm_clash (md := md) (rs := rs) (cls_mono (cls_yes (unhide HV) (by rw [unhide HSN]; exact hgt)) 8 (by omega)))
          go_wp2_with fail
          go_quiet ((go_at_call 64; exact Calls.quiet_of_same (sl_last _ (unhide HT) ((unhide HK2).drewN _) hlt8 sn (unhide HSN))))
          go_wp2
          go_ret
          exact ⟨ret_int (unhide HN).symm, (unhide HK2).drewN _⟩
        · have HN := hide (cls_old (ws := ws) (f := f) (y := y) (k := k) (by rw [unhide HSN]; omega))
          have hle : sn ≤ y := by omega
          go_wp2_with fail
          go_quiet ((go_at_call 64; exact Calls.quiet_of_same (sl_last _ (unhide HT) ((unhide HK2).drewN _) hlt8 sn (unhide HSN))))
          go_wp2
          exact ⟨⟨k + 1, by omega, by go_num, by rw [unhide HN]; exact HC, (unhide HK2).drewN _⟩, by simp [intOf]; omega⟩
      | none =>
        simp only [Option.isSome_none, Option.getD_none]
        have HK2 := hide (hk1.alloc (.cells #[.bool dv.t, .string dv.s] 31))
        have HN := hide (cls_no (f := f) (y := y) hv)
        clear hkp hk1 hv
        go_wp2_with fail
        go_quiet (fail)
        go_wp2
        exact ⟨⟨k + 1, by omega, by go_num, by rw [unhide HN]; exact HC, (unhide HK2).drewN _⟩, by simp [intOf]; omega⟩
    · have e : k = 8 := by omega
      subst e
      have HE := hide (dm_end (md := md) (rs := rs) (unhide HC))
      have HM0 : Hid (mcd f md y rs 0 = 0) := by simp [mcd, stl]; exact trivial
      have HK0 := HK
      clear HC
      go_wp2_with fail
      go_loopw [8] (fun i wr => ∃ k : Nat, k ≤ 8 ∧ i = .int .i64 k ∧ Hid (mcd f md y rs k = 0) ∧ Hid (Kp [] w wr)) (fun i _ => 8 - (intOf i).toNat)
      case atStart => exact ⟨0, by omega, rfl, HM0, HK0⟩
      case round =>
        obtain ⟨k, hk, rfl, HC, HK⟩ := hrel
        by_cases hlt8 : k < 8
        · have i0 : (0 : Int) ≤ (k : Int) := by omega
          have i1 : (k : Int) < 8 := by omega
          obtain ⟨ra, rc, wa, wc, hw1⟩ := (unhide HD).kp0 (unhide HK)
          have ht1 := (unhide HT).kp (unhide HK) (fun _ _ => by simp)
          have qL := ht1.kcell hlt8
          have qm := hw1.c0
          have qy := hw1.c1
          have qr := hw1.c2
          have HS := hide hw1.rsl
          clear hw1 ht1
          generalize hsn : snc f k = sn at *
          have HSN := hide hsn
          clear hsn
          by_cases hm : md = 2
          · by_cases hr : (k : Int) ∈ rs
            · have hd : decide ((k : Int) ∈ rs) = true := by simp [hr]
              have HD2 := hide hd
              by_cases hgt : y < sn
              · have HN : Hid (dm f md y rs ws = 11) := (unhide HE).trans (mcd_yes hm (stl_mono (stl_yes hr (by rw [unhide HSN]; exact hgt)) 8 (by omega)))
                subst hm
                clear hr hd
                go_wp2_with fail
                go_quiet ((first | (go_at_call 39; exact Calls.quiet_of_same ((in72x ra rc k _ ((unhide HS).kp0 ((Kp.refl [] _).drewN _)) (by omega)).mono (fun e w' q => ⟨by rw [q.1, unhide HD2], q.2⟩))) | (go_at_call 64; exact Calls.quiet_of_same (sl_last _ (unhide HT) ((unhide HK).drewN _) hlt8 sn (unhide HSN)))))
                go_wp2
                go_ret
                exact ⟨ret_int (unhide HN).symm, (unhide HK).drewN _⟩
              · have HN := hide ((mcd_eq (md := md) (stl_old (rs := rs) (f := f) (y := y) (k := k) (by rw [unhide HSN]; omega))).trans (unhide HC))
                have hle : sn ≤ y := by omega
                subst hm
                clear hr hd
                go_wp2_with fail
                go_quiet ((first | (go_at_call 39; exact Calls.quiet_of_same ((in72x ra rc k _ ((unhide HS).kp0 ((Kp.refl [] _).drewN _)) (by omega)).mono (fun e w' q => ⟨by rw [q.1, unhide HD2], q.2⟩))) | (go_at_call 64; exact Calls.quiet_of_same (sl_last _ (unhide HT) ((unhide HK).drewN _) hlt8 sn (unhide HSN)))))
                go_wp2
                refine ⟨⟨_, _, _, _, _, _, _, _, _, _, _, _, _, _, _, _, _, _, _, _, _, _, _, _, _, _, _, _, _, _, _, _, _, ?_, rfl⟩, by simp [intOf]; omega⟩
                exact ⟨k + 1, by omega, by go_num, HN, (unhide HK).drewN _⟩
            · have hd : decide ((k : Int) ∈ rs) = false := by simp [hr]
              have HD2 := hide hd
              have HN := hide ((mcd_eq (md := md) (stl_no (f := f) (y := y) hr)).trans (unhide HC))
              subst hm
              clear hr hd
              go_wp2_with fail
              go_quiet ((go_at_call 39; exact Calls.quiet_of_same ((in72x ra rc k _ ((unhide HS).kp0 ((Kp.refl [] _).drewN _)) (by omega)).mono (fun e w' q => ⟨by rw [q.1, unhide HD2], q.2⟩))))
              go_wp2
              exact ⟨⟨k + 1, by omega, by go_num, HN, (unhide HK).drewN _⟩, by simp [intOf]; omega⟩
          · have HN := hide (mcd_not (f := f) (y := y) (rs := rs) (k := k + 1) hm)
            have em : (md == 2) = false := beq_eq_false_iff_ne.2 hm
            clear hm
            go_wp2_with fail
            go_quiet (fail)
            go_wp2
            exact ⟨⟨k + 1, by omega, by go_num, HN, (unhide HK).drewN _⟩, by simp [intOf]; omega⟩
        · have e : k = 8 := by omega
          subst e
          have HN := hide ((unhide HE).trans (unhide HC))
          go_wp2_with fail
          go_ret
          exact ⟨ret_int (unhide HN).symm, unhide HK⟩
set_option maxHeartbeats 1000000 in
theorem ccommitx {B cb sb n wb : Nat} {G Gr Gs H : List Nat} {bx : Array Value} {f : Nat → List Ver} {cs : List (List Ver)} {st : Nat → Option Addr} {md y : Int} {rs : List Int} {ws : List Ver} (w : World) (h : Crt B w cb sb G Gr Gs bx f n cs [] st) (hv : VI f n cs) (hd : Wrk B w wb H md y rs ws) (hw : WOk ws) (hrl : rs.length ≤ 3000) (hwl : ws.length ≤ 900) :
    Calls Try.prog 54 #[.pointer (some ⟨cb, 0, none⟩), .pointer (some ⟨wb, 0, none⟩)] w fun e w' => e = .returned (.tuple #[.int .i64 (vnum f n cs md y rs ws), .int .i64 (vcode f cs md y rs ws)]) ∧ Ch (CrtT cb sb (vf f n cs md y rs ws) (vn f n cs md y rs ws) (vcs f cs md y rs ws) [] st) B w G w' := by
  have HM := hide (wmay69x w h.s hd hrl hwl)
  have HD := hide hd
  have HV := hide h
  have c0 := h.c0
  have hpl := wk_len ws 8
  have HP := hide hw.pf
  have HR := hide hv
  have hn40 := h.s.inv.n40
  clear h hd hw hv
  by_cases hz : dm f md y rs ws = 0
  · rw [hz] at HM
    by_cases hl : (wk ws 8).length = 0
    · obtain ⟨e1, e2⟩ := v_none (cs := cs) hz hl
      obtain ⟨e3, e4, e5, e6⟩ := v_not (n := n) e2
      rw [e1, e3, e4, e5, e6]
      clear e1 e2 e3 e4 e5 e6 HR HP
      go_enter Try.func54, Try.ntmps54
      go_wp2_with fail
      refine (unhide HM).mono ?_
      rintro e w0 ⟨rfl, hk0⟩
      have HK0 := hide hk0
      clear hk0 HM
      go_wp2_with fail
      refine (wwrites67 w0 ((unhide HD).kp0 (unhide HK0)) hwl).mono ?_
      rintro e w1 ⟨a, cap, rfl, _, hk⟩
      rw [hl]
      have HK := hide ((unhide HK0).trans0 hk)
      clear hk hl
      go_wp2_with fail
      go_ret2
      exact ⟨rfl, Ch.same ⟨Gr, Gs, bx, unhide HV⟩ (unhide HK)⟩
    · have HL := hide hl
      by_cases hc : lcode cs (wk ws 8) = 0
      · obtain ⟨e1, e2⟩ := v_yes hz hl hc
        obtain ⟨e3, e4, e5, e6⟩ := v_did (n := n) e2
        rw [e1, e3, e4, e5, e6]
        clear e1 e2 e3 e4 e5 e6
        obtain ⟨q1, q2, q3⟩ := (unhide HR).room hc
        have hlp : lput cs (wk ws 8) = cs ++ [wk ws 8] := by unfold lput; rw [if_pos hc]
        have HLP := hide hlp
        have HC := hide hc
        have HQ := hide (And.intro q1 (And.intro q2 q3))
        clear q1 q2 q3 hlp hc hz
        have HWW := hide (fun w0 (hk0 : Kp [] w w0) => wwrites67 w0 ((unhide HD).kp0 hk0) hwl)
        generalize wk ws 8 = ps at *
        go_enter Try.func54, Try.ntmps54
        go_wp2_with fail
        refine (unhide HM).mono ?_
        rintro e w0 ⟨rfl, hk0⟩
        have HK0 := hide hk0
        clear hk0 HM
        go_wp2_with fail
        refine (unhide HWW w0 (unhide HK0)).mono ?_
        rintro e w1 ⟨a, cap, rfl, ho0, hk1⟩
        have ho := own_base ho0 (unhide HK0).size
        have hk := (unhide HK0).trans0 hk1
        have h1 := (unhide HV).kp0 hk
        have HPR := hide (slo_prs (slo_own ho rfl) (unhide HP))
        have HO := hide ho
        have H1 := hide h1
        have HK := hide hk
        clear ho ho0 h1 hk hk1 HWW HK0
        go_wp2_with fail
        refine (rxput a cap ps w1 (unhide H1).r (unhide HPR) (by omega)).mono ?_
        rintro e w2 ⟨rfl, hL⟩
        rw [unhide HC]
        rw [unhide HLP] at hL
        obtain ⟨G2, ⟨Gr2, Gs2, bx2, h2⟩, k2, s2⟩ := (unhide H1).roll hL
        have hfar : ∀ g o, a = some ⟨g, o, none⟩ → g ∉ G := fun g o ea hm => by
          have h3 := (own_addr1 (unhide HO) g o ea).1
          have h4 := ((unhide HV).lo g hm).2
          omega
        have hfar2 : ∀ g o, a = some ⟨g, o, none⟩ → g ∉ Gs2 := fun g o ea hm => by
          rcases s2 g (h2.sG g hm) with e | e
          · exact hfar g o ea e
          · have h3 := (own_addr1 (unhide HO) g o ea).2
            omega
        have HPR2 := hide ((unhide HPR).kp k2 hfar)
        have HFAR := hide hfar2
        have d0 := h2.c0
        have H2 := hide h2
        have K2 := hide k2
        have S2 := hide s2
        clear h2 k2 s2 hL hfar hfar2 c0
        go_wp2_with fail
        refine (swrite56 a cap ps w2 (unhide H2).s (unhide HPR2) (fun _ => unhide HFAR) (by omega)).mono ?_
        rintro e w3 ⟨rfl, Gs3, hT, hk3, hs3⟩
        rw [(unhide HQ).1, (unhide HQ).2.2]
        rw [(unhide HQ).2.1] at hT
        have HZ := hide (Ch.after (unhide HK) (Ch.trans (unhide K2) (unhide S2) ((unhide H2).sheet hT hk3 hs3)))
        clear hT hk3 hs3
        go_wp2_with fail
        go_ret2
        exact ⟨rfl, unhide HZ⟩
      · obtain ⟨e1, e2⟩ := v_full hz hl hc
        obtain ⟨e3, e4, e5, e6⟩ := v_not (n := n) e2
        rw [e1, e3, e4, e5, e6]
        clear e1 e2 e3 e4 e5 e6
        have hlp : lput cs (wk ws 8) = cs := by unfold lput; rw [if_neg hc]
        have HLP := hide hlp
        clear hlp hz
        generalize hzz : lcode cs (wk ws 8) = z at *
        have HZZ := hide hzz
        clear hzz
        have HWW := hide (fun w0 (hk0 : Kp [] w w0) => wwrites67 w0 ((unhide HD).kp0 hk0) hwl)
        generalize wk ws 8 = ps at *
        go_enter Try.func54, Try.ntmps54
        go_wp2_with fail
        refine (unhide HM).mono ?_
        rintro e w0 ⟨rfl, hk0⟩
        have HK0 := hide hk0
        clear hk0 HM
        go_wp2_with fail
        refine (unhide HWW w0 (unhide HK0)).mono ?_
        rintro e w1 ⟨a, cap, rfl, ho, hk1⟩
        have hk := (unhide HK0).trans0 hk1
        have h1 := (unhide HV).kp0 hk
        have HPR := hide (slo_prs (slo_own ho rfl) (unhide HP))
        have H1 := hide h1
        have HK := hide hk
        clear ho h1 hk hk1 HWW HK0
        go_wp2_with fail
        refine (rxput a cap ps w1 (unhide H1).r (unhide HPR) (by omega)).mono ?_
        rintro e w2 ⟨rfl, hL⟩
        rw [unhide HZZ]
        rw [unhide HLP] at hL
        have HX := hide (Ch.after (unhide HK) ((unhide H1).roll hL))
        clear hL c0
        go_wp2_with fail
        go_ret2
        exact ⟨rfl, unhide HX⟩
  · obtain ⟨e1, e2⟩ := v_may (cs := cs) hz
    obtain ⟨e3, e4, e5, e6⟩ := v_not (n := n) e2
    rw [e1, e3, e4, e5, e6]
    clear e1 e2 e3 e4 e5 e6 HR HP
    generalize dm f md y rs ws = z at *
    go_enter Try.func54, Try.ntmps54
    go_wp2_with fail
    refine (unhide HM).mono ?_
    rintro e w1 ⟨rfl, hk⟩
    have HK := hide hk
    clear hk HM
    go_wp2_with fail
    go_ret2
    exact ⟨rfl, Ch.same ⟨Gr, Gs, bx, unhide HV⟩ (unhide HK)⟩

end Go.Proofs.Ytehhpmfeaeabgac
