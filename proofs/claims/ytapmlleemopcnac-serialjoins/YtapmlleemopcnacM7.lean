/- Sg, An, Sh, Sb, Sc, Sd, Se, Sf: bound together for a claim. -/
import Derived.Test.YtapmlleemopcnacM6
import Derived.Deep.MidRow
import Derived.BigRegion
import Derived.Deep.RegionHeld3
import Derived.Deep.RegionWith
/- Values of keys and lists of them: equal lists, what a world has, by their contracts. -/
namespace Go.Proofs.Ytapmlleemopcnac
open Go.RowKit
set_option maxRecDepth 20000
attribute [local go_sem ↓] Go.wp_at_zero Go.wp_at_succ

set_option maxHeartbeats 1000000 in
theorem sleq {vs us : List Ver} (a a' : Option Addr) (cap cap' : Nat) (w : World) (h : SlO w a vs) (h' : SlO w a' us) (hm : vs.length ≤ 1000) :
    Calls Try.prog 90 #[.slice a vs.length cap, .slice a' us.length cap'] w fun e w' => SmEnd vs us w e w' := by
  have HS := hide h
  have HS' := hide h'
  clear h h'
  by_cases hl : vs.length = us.length
  · have HL := hide hl
    have hl' : (vs.length : Int) = (us.length : Int) := by omega
    go_enter Try.func90, Try.ntmps90
    rw [← hl]
    clear hl hl'
    go_wp2_with fail
    go_loopw [5, 13] (fun _ i wr => ∃ d m : Nat, d ≤ vs.length ∧ i = .int .i64 d ∧ wr = w.drewN m ∧ Hid (∀ k, k < d → va vs k = va us k ∧ vt vs k = vt us k ∧ vb vs k = vb us k)) (fun _ i _ => vs.length - (intOf i).toNat)
    case atStart => exact ⟨0, 0, Nat.zero_le _, rfl, rfl, fun k hk => by omega⟩
    case round =>
      obtain ⟨d, m, hd, rfl, rfl, HK⟩ := hrel
      by_cases hlt : d < vs.length
      · obtain ⟨g, o, rfl, hs⟩ := unhide HS (by omega)
        obtain ⟨g', o', rfl, hs'⟩ := unhide HS' (by have := unhide HL; omega)
        have q0 := hs.at0 d hlt
        have q1 := hs.at1 d hlt
        have q2 : w.cell? ⟨g, o + d * 3 + 1 + 1, none⟩ = some (.string (vb vs d)) := hs.at2 d hlt
        have p0 := hs'.at0 d (by have := unhide HL; omega)
        have p1 := hs'.at1 d (by have := unhide HL; omega)
        have p2 : w.cell? ⟨g', o' + d * 3 + 1 + 1, none⟩ = some (.string (vb us d)) := hs'.at2 d (by have := unhide HL; omega)
        have i0 : (0 : Int) ≤ (d : Int) := by omega
        have i1 : (d : Int) < (vs.length : Int) := by omega
        clear hs hs'
        by_cases e0 : va vs d = va us d ∧ vt vs d = vt us d ∧ vb vs d = vb us d
        · have HE : Hid (∀ k, k < d + 1 → va vs k = va us k ∧ vt vs k = vt us k ∧ vb vs k = vb us k) := fun k hk => by
            rcases Nat.lt_or_ge k d with e | e
            · exact unhide HK k e
            · have : k = d := by omega
              subst this; exact e0
          rw [← e0.1] at p0
          rw [← e0.2.1] at p1
          rw [← e0.2.2] at p2
          clear e0
          go_wp2_with fail
          go_quiet (fail)
          go_wp2
          exact ⟨⟨d + 1, m + nq, by omega, by go_num, rfl, HE⟩, by simp [intOf]; omega⟩
        · have HNE : Hid (¬ vs = us) := fun e => e0 (by rw [e]; exact ⟨rfl, rfl, rfl⟩)
          have hne := fun W => neqPair _ _ _ _ _ _ e0 W
          clear e0
          generalize va vs d = x at *
          generalize va us d = x' at *
          generalize vt vs d = t at *
          generalize vt us d = t' at *
          generalize vb vs d = s at *
          generalize vb us d = s' at *
          go_wp2_with fail
          go_quiet (fail)
          go_wp2
          go_ret
          exact ⟨false, rfl, ⟨fun h => by simp at h, fun h => absurd h (unhide HNE)⟩, m + nq, by simp⟩
      · go_wp2
        go_ret
        refine smEnd_mk _ _ ⟨fun _ => vers_same (unhide HL) (fun k hk => unhide HK k (by omega)), fun _ => rfl⟩
  · have hl' : ¬ (vs.length : Int) = (us.length : Int) := by omega
    have HL := hide hl
    go_enter Try.func90, Try.ntmps90
    go_wp2_with fail
    go_ret
    exact smEnd_mk false 0 ⟨fun h => by simp at h, fun h => absurd (by rw [h]) (unhide HL)⟩

theorem Try.size97 : (Try.prog.info? 97).map (·.size) = some 16 := by kernel_rfl
def VoEnd (l : List Ver) (w : World) (e : Ending) (w' : World) : Prop := ∃ a cap, e = .returned (.slice a l.length cap) ∧ SlO w' a l ∧ Kp [] w w'
theorem slo_krow {B : Nat} {w : World} {a : Option Addr} {n cap : Nat} {vs : List Ver} (h : KRow 79 3 B w a n cap (vcells vs)) : SlO w a vs := by
  intro hp
  have hl : 0 < (vcells vs).length := by rw [vcells_length]; omega
  obtain ⟨g, e, _⟩ := h.cell (List.getElem?_eq_getElem hl)
  refine ⟨g, 0, e, fun j u hu => ?_⟩
  obtain ⟨g', e', hc⟩ := h.cell hu
  rw [e] at e'
  simp only [Option.some.injEq, Addr.mk.injEq, and_true] at e'
  rw [Nat.zero_add, e']
  exact hc
theorem wl_stop {v : Nat → Ver} {j : Nat} {t : Int} {k : Nat} (hk : k ≤ 8) (h : t < (k : Int) ∨ k = 8) : wl v j t k = wl v j t 8 := by
  rcases h with h | h
  · have := wl_hi (v := v) (a := (j : Int)) (b := t) (m := k) h (8 - k)
    rw [show k + (8 - k) = 8 by omega] at this
    exact this.symm
  · rw [h]
theorem wl_one {v : Nat → Ver} {j : Nat} {t : Int} {k : Nat} (h1 : j ≤ k) (h2 : (k : Int) ≤ t) : wl v j t (k + 1) = if (v k).t = true then wl v j t k ++ [⟨(k : Int), (v k).t, (v k).s⟩] else wl v j t k := by
  simp only [wl]
  by_cases c : (v k).t = true
  · rw [if_pos ⟨by omega, h2, c⟩, if_pos c]
  · rw [if_neg (fun q => c q.2.2), if_neg c]
set_option maxHeartbeats 1000000 in
theorem valuesof (v : Nat → Ver) (j : Nat) (t : Int) (w : World) (hj : j < 8) :
    Calls Try.prog 91 #[.agg (wagg v), .int .i64 j, .int .i64 t] w fun e w' => VoEnd (wl v j t 8) w e w' := by
  have hu := Try.underlying32
  have H0 := hide (kw_nil 79 3 ((zoo_nil (Kp.refl [] w)).box (wagg v) 97))
  go_enter Try.func91, Try.ntmps91
  go_wp2_with fail
  generalize hq : w.heap.size = q at *
  go_loopw [7, 8] (fun x y wr => ∃ (k : Nat) (a : Option Addr) (cap n : Nat), j ≤ k ∧ k ≤ 8 ∧ x = .slice a n cap ∧ y = .int .i64 k ∧ Hid (n = (wl v j t k).length) ∧ Hid (Zoo w wr [KwT 79 3 a n cap (vcells (wl v j t k)), BoxT q (wagg v) 97])) (fun _ y _ => 8 - (intOf y).toNat)
  case atStart => exact ⟨j, none, 0, 0, Nat.le_refl _, by omega, rfl, rfl, by rw [wl_lo (Int.le_refl _)]; rfl, by rw [wl_lo (Int.le_refl _)]; exact unhide H0⟩
  case round =>
    obtain ⟨k, a, cap, n, hk1, hk2, rfl, rfl, HN, HZ⟩ := hrel
    have stop : (t < (k : Int) ∨ k = 8) → VoEnd (wl v j t 8) w (.returned (.slice a n cap)) wr := fun q => by
      rw [← wl_stop hk2 q]
      have hz := unhide HZ
      refine ⟨a, cap, by rw [unhide HN], slo_krow (kw_row (l1 := []) hz), hz.kp⟩
    have HST := hide stop
    clear stop
    by_cases ht : 7 < t
    · by_cases hlt : k ≤ 7
      · have i1 : (k : Int) ≤ 7 := by omega
        have i0 : (0 : Int) ≤ (k : Int) := by omega
        have i8 : (k : Int) < 8 := by omega
        have k8 : k < 8 := by omega
        have hkt : (k : Int) ≤ t := by omega
        have hn8 : n ≤ 8 := by have := unhide HN; have := wl_len v j t k; omega
        have hbx := Zoo.var (unhide HZ).tail
        have c0 := cell_of_block hbx (wagg_at0 v k8)
        have c1 := cell_of_block hbx (wagg_at1 v k8)
        have hql := lt_of_block hbx
        have HW1 := hide (wl_one (v := v) hk1 hkt)
        have hBw := Zoo.base (unhide HZ)
        clear hbx
        cases hvt : (v k).t with
        | true =>
          rw [hvt] at c0
          have HV := hide hvt
          clear hvt
          generalize hvs : (v k).s = sv at *
          clear hvs
          have HZA := hide ((unhide HZ).box #[.int .i64 k, .bool true, .string sv] 79)
          have HBX := hide (Zoo.var (unhide HZA))
          go_wp2_with (at_builtin; refine wpList_krow (by rfl) (.tmp 20) (.tmp 26) 32 (by rfl) hu Try.info79 rfl (by omega) (kw_row (l1 := [BoxT wr.heap.size #[.int .i64 k, .bool true, .string sv] 79]) (unhide HZA)) (by simp; omega) (.slice (some ⟨wr.heap.size, 0, none⟩) 1 1) [.int .i64 k, .bool true, .string sv] 1 (by rfl) (by rfl) (src_built hu (unhide HBX) rfl (by simp [Value.oneCell'])) (by omega) (n + 1) rfl ?_; intro a2 cap2 w2 g1 g2 g3)
          have HZ2 := hide (Zoo.tail (kw_app (l1 := [BoxT wr.heap.size #[.int .i64 k, .bool true, .string sv] 79]) (unhide HZA) (unhide g1) (unhide g2) (unhide g3)))
          have hwn : wl v j t (k + 1) = wl v j t k ++ [⟨(k : Int), true, sv⟩] := by rw [unhide HW1, if_pos (unhide HV), unhide HV]
          exact ⟨⟨k + 1, a2, cap2, n + 1, by omega, by omega, rfl, by go_num, by rw [hwn, List.length_append, unhide HN]; rfl, by rw [hwn, vcells_append]; exact unhide HZ2⟩, by simp [intOf]; omega⟩
        | false =>
          rw [hvt] at c0
          have HV := hide hvt
          clear hvt
          go_wp2_with fail
          have hwn : wl v j t (k + 1) = wl v j t k := by rw [unhide HW1, if_neg (by rw [unhide HV]; simp)]
          exact ⟨⟨k + 1, a, cap, n, by omega, by omega, rfl, by go_num, by rw [hwn]; exact unhide HN, by rw [hwn]; exact unhide HZ⟩, by simp [intOf]; omega⟩
      · have i1 : ¬ (k : Int) ≤ 7 := by omega
        go_wp2_with fail
        go_ret
        exact unhide HST (.inr (by omega))
    · by_cases hlt : (k : Int) ≤ t
      · skip
        have i0 : (0 : Int) ≤ (k : Int) := by omega
        have i8 : (k : Int) < 8 := by omega
        have k8 : k < 8 := by omega
        have hkt : (k : Int) ≤ t := by omega
        have hn8 : n ≤ 8 := by have := unhide HN; have := wl_len v j t k; omega
        have hbx := Zoo.var (unhide HZ).tail
        have c0 := cell_of_block hbx (wagg_at0 v k8)
        have c1 := cell_of_block hbx (wagg_at1 v k8)
        have hql := lt_of_block hbx
        have HW1 := hide (wl_one (v := v) hk1 hkt)
        have hBw := Zoo.base (unhide HZ)
        clear hbx
        cases hvt : (v k).t with
        | true =>
          rw [hvt] at c0
          have HV := hide hvt
          clear hvt
          generalize hvs : (v k).s = sv at *
          clear hvs
          have HZA := hide ((unhide HZ).box #[.int .i64 k, .bool true, .string sv] 79)
          have HBX := hide (Zoo.var (unhide HZA))
          go_wp2_with (at_builtin; refine wpList_krow (by rfl) (.tmp 20) (.tmp 26) 32 (by rfl) hu Try.info79 rfl (by omega) (kw_row (l1 := [BoxT wr.heap.size #[.int .i64 k, .bool true, .string sv] 79]) (unhide HZA)) (by simp; omega) (.slice (some ⟨wr.heap.size, 0, none⟩) 1 1) [.int .i64 k, .bool true, .string sv] 1 (by rfl) (by rfl) (src_built hu (unhide HBX) rfl (by simp [Value.oneCell'])) (by omega) (n + 1) rfl ?_; intro a2 cap2 w2 g1 g2 g3)
          have HZ2 := hide (Zoo.tail (kw_app (l1 := [BoxT wr.heap.size #[.int .i64 k, .bool true, .string sv] 79]) (unhide HZA) (unhide g1) (unhide g2) (unhide g3)))
          have hwn : wl v j t (k + 1) = wl v j t k ++ [⟨(k : Int), true, sv⟩] := by rw [unhide HW1, if_pos (unhide HV), unhide HV]
          exact ⟨⟨k + 1, a2, cap2, n + 1, by omega, by omega, rfl, by go_num, by rw [hwn, List.length_append, unhide HN]; rfl, by rw [hwn, vcells_append]; exact unhide HZ2⟩, by simp [intOf]; omega⟩
        | false =>
          rw [hvt] at c0
          have HV := hide hvt
          clear hvt
          go_wp2_with fail
          have hwn : wl v j t (k + 1) = wl v j t k := by rw [unhide HW1, if_neg (by rw [unhide HV]; simp)]
          exact ⟨⟨k + 1, a, cap, n, by omega, by omega, rfl, by go_num, by rw [hwn]; exact unhide HN, by rw [hwn]; exact unhide HZ⟩, by simp [intOf]; omega⟩
      · go_wp2_with fail
        go_ret
        exact unhide HST (.inl (by omega))
end Go.Proofs.Ytapmlleemopcnac

/- A region that draws its order, walked in an order of the prover's own. -/
namespace Go.Proofs.Ytapmlleemopcnac
open Go.RowKit
set_option maxRecDepth 20000

/-- A stronger condition serves. -/
theorem wpAnyH_switch {P : Program} {md : Region.Mode} {ops : Array Oper} {Q : Exit → Act → World → Prop} {S S' : World → Prop} (hS : ∀ w, S' w → S w) : ∀ {fuel : Nat} {listed : Array Bool} {a : Act} {w : World}, wpAnyH P md ops Q S' fuel listed a w → wpAnyH P md ops Q S fuel listed a w
  | 0, _, _, _, h => h
  | _ + 1, _, _, _, h => ⟨h.1, fun i hi => wpOp_mono (fun _ _ h' => ⟨hS _ h'.1, wpAnyH_switch hS h'.2⟩) (h.2 i hi)⟩
theorem drop_at {l rest : List Oper} {i : Nat} {o : Oper} (h : l.drop i = o :: rest) : l.toArray[i]? = some o := by
  have := congrArg List.head? h
  rw [List.head?_drop] at this
  simpa using this
theorem wpAnyH_tk {P : Program} {md : Region.Mode} {l rest : List Oper} {Q : Exit → Act → World → Prop} {S : World → Prop} {i : Nat} {oi : Oper} {v : Value} {fuel : Nat} {listed : Array Bool} {a : Act} {w : World} (hi : l.drop i = oi :: rest)
    (hs : Region.noSelect l.toArray = true) (hf : Region.free md l.toArray listed i = true) (hr : (Region.ready md l.toArray listed).contains i = true)
    (hQ : ∀ c a w, Q (.panic c) (a.put oi.dst v) w → Q (.panic c) a w) (hy : YieldsIf P l.toArray S oi v a) (hS : S w)
    (h : wpAnyH P md l.toArray Q S fuel (listed.setIfInBounds i true) (a.put oi.dst v) w) : wpAnyH P md l.toArray Q S (fuel + 1) listed a w := wpAnyH_take (drop_at hi) hs hf hr hQ hy hS h
theorem wpAnyH_only {P : Program} {md : Region.Mode} {l rest : List Oper} {Q : Exit → Act → World → Prop} {S : World → Prop} {i : Nat} {o : Oper} {fuel : Nat} {listed : Array Bool} {a : Act} {w : World} (hi : l.drop i = o :: rest) (hr : Region.ready md l.toArray listed = [i])
    (h : ∀ K' : Act → World → Prop, Shut (∀ a w, S w → (S w → wpAnyH P md l.toArray Q S fuel (listed.setIfInBounds i true) a w) → K' a w) → if Region.wanted o (yielded l.toArray a.tmps) = true then Oper.wp P o a w K' Q else K' (a.put o.dst undef) w) :
    wpAnyH P md l.toArray Q S (fuel + 1) listed a w := wpAnyH_ready hr (by simp) (AllReadyH.cons (drop_at hi) h AllReadyH.nil)
end Go.Proofs.Ytapmlleemopcnac

/- Acts in memory; Replay, by its contract. -/
namespace Go.Proofs.Ytapmlleemopcnac
open Go.RowKit
set_option maxRecDepth 20000
attribute [local go_sem ↓] Go.wp_at_zero Go.wp_at_succ

/-- An act lies in block b from o on. -/
structure AcAt (w : World) (b o : Nat) (x : Ac) : Prop where
  c0 : w.cell? ⟨b, o, none⟩ = some (.int .i64 x.kd)
  c1 : w.cell? ⟨b, o + 1, none⟩ = some (.int .i64 x.key)
  c2 : w.cell? ⟨b, o + 2, none⟩ = some (.int .i64 x.to_)
  c3 : w.cell? ⟨b, o + 3, none⟩ = some (.bool x.t)
  c4 : w.cell? ⟨b, o + 4, none⟩ = some (.string x.s)
  ls : ∃ la lc, w.cell? ⟨b, o + 5, none⟩ = some (.slice la x.l.length lc) ∧ SlO w la x.l
theorem AcAt.kp0 {w w' : World} {b o : Nat} {x : Ac} (h : AcAt w b o x) (hk : Kp [] w w') : AcAt w' b o x := by
  obtain ⟨la, lc, h1, h2⟩ := h.ls
  exact ⟨hk.cell (by simp) h.c0, hk.cell (by simp) h.c1, hk.cell (by simp) h.c2, hk.cell (by simp) h.c3, hk.cell (by simp) h.c4, la, lc, hk.cell (by simp) h1, h2.kp0 hk⟩
/-- Acts lie behind a slice's address. -/
def ActsIn (w : World) (a : Option Addr) (l : List Ac) : Prop := 0 < l.length → ∃ b o, a = some ⟨b, o, none⟩ ∧ ∀ i x, l[i]? = some x → AcAt w b (o + i * 6) x
theorem ActsIn.kp0 {w w' : World} {a : Option Addr} {l : List Ac} (h : ActsIn w a l) (hk : Kp [] w w') : ActsIn w' a l := fun hp => by
  obtain ⟨b, o, e, h1⟩ := h hp
  exact ⟨b, o, e, fun i x hx => (h1 i x hx).kp0 hk⟩
theorem ActsIn.drop {w : World} {b o : Nat} {l : List Ac} (h : ∀ i x, l[i]? = some x → AcAt w b (o + i * 6) x) (k : Nat) : ∀ i x, (l.drop k)[i]? = some x → AcAt w b (o + k * 6 + i * 6) x := fun i x hx => by
  rw [List.getElem?_drop] at hx
  have := h _ _ hx
  rwa [show o + (k + i) * 6 = o + k * 6 + i * 6 by omega] at this
/-- No act's list is great. -/
def ActsOk (l : List Ac) : Prop := l.length ≤ 1000 ∧ ∀ x, x ∈ l → x.l.length ≤ 1000
theorem eqVal (t t' : Bool) (s s' : ByteArray) (W : World) :
    (binOp .eql 31 (.agg #[.bool t, .string s]) (.agg #[.bool t', .string s'])).run Try.prog W = .ok (.bool (decide (t = t' ∧ s = s'))) W := by
  by_cases h : t = t' ∧ s = s'
  · obtain ⟨rfl, rfl⟩ := h
    simp only [binOp]
    simp [Op.equal, Op.maxDepth, eq24 9998]
  · have hu : Try.prog.underlying 31 = some (.struct (Try.prog.fieldsOf 31)) := by simp [Program.fieldsOf, Try.underlying31]
    have he : (Op.equalIn 10000 31 (.agg #[.bool t, .string s]) (.agg #[.bool t', .string s'])).run Try.prog W = .ok false W := by
      rw [show (10000 : Nat) = 9999 + 1 from rfl, run_equalIn_struct W 9999 31 _ _ hu Try.held31]
      simp [Program.fieldsOf, Try.underlying31, Op.eqFields, go_sem, Try.underlying4, Try.underlying9]
      intro e1 e2
      exact h ⟨e1, toList_inj e2⟩
    rw [decide_eq_false h]
    simp only [binOp]
    simp [Op.equal, Op.maxDepth, he]
theorem neqVal (t t' : Bool) (s s' : ByteArray) (W : World) :
    (binOp .neq 31 (.agg #[.bool t, .string s]) (.agg #[.bool t', .string s'])).run Try.prog W = .ok (.bool (!decide (t = t' ∧ s = s'))) W := by
  by_cases h : t = t' ∧ s = s'
  · obtain ⟨rfl, rfl⟩ := h
    simp only [binOp]
    simp [Op.equal, Op.maxDepth, eq24 9998]
  · have hu : Try.prog.underlying 31 = some (.struct (Try.prog.fieldsOf 31)) := by simp [Program.fieldsOf, Try.underlying31]
    have he : (Op.equalIn 10000 31 (.agg #[.bool t, .string s]) (.agg #[.bool t', .string s'])).run Try.prog W = .ok false W := by
      rw [show (10000 : Nat) = 9999 + 1 from rfl, run_equalIn_struct W 9999 31 _ _ hu Try.held31]
      simp [Program.fieldsOf, Try.underlying31, Op.eqFields, go_sem, Try.underlying4, Try.underlying9]
      intro e1 e2
      exact h ⟨e1, toList_inj e2⟩
    rw [decide_eq_false h]
    simp only [binOp]
    simp [Op.equal, Op.maxDepth, he]

def RyEnd (v : Nat → Ver) (l : List Ac) (w : World) (e : Ending) (w' : World) : Prop := e = .returned (.tuple #[.agg (wagg (rpw v l)), .bool (rpo v l)]) ∧ Kp [] w w'
/-- The two variables of Replay: what is told (p), and the world (q). -/
structure RyI (T : TypeId) (w : World) (p q : Nat) (v : Nat → Ver) (wr : World) : Prop where
  kp : Kp [] w wr
  res : wr.heap[p]? = some (.cells (wagg (fun _ => dv)) T (0, 0))
  var : wr.heap[q]? = some (.cells (wagg v) T (0, 0))
  ne : p ≠ q
  hp : w.heap.size ≤ p
  hq : w.heap.size ≤ q
section
variable {T : TypeId} {w wr W : World} {p q : Nat} {v : Nat → Ver}
theorem RyI.kp0 (h : RyI T w p q v wr) (hk : Kp [] wr W) : RyI T w p q v W :=
  ⟨h.kp.trans0 hk, by rw [hk.block p (lt_of_block h.res) (by simp)]; exact h.res, by rw [hk.block q (lt_of_block h.var) (by simp)]; exact h.var, h.ne, h.hp, h.hq⟩
theorem RyI.set (h : RyI T w p q v wr) {k : Nat} (hk : k < 8) (t : Bool) (s : ByteArray) : RyI T w p q (upd v k ⟨0, t, s⟩) ((wr.setCell ⟨q, k * 2, none⟩ (.bool t)).setCell ⟨q, k * 2 + 1, none⟩ (.string s)) := by
  have k1 : Kp [q] wr ((wr.setCell ⟨q, k * 2, none⟩ (.bool t)).setCell ⟨q, k * 2 + 1, none⟩ (.string s)) := ((Kp.refl [q] wr).setCell (.inl (by simp)) _).setCell (.inl (by simp)) _
  refine ⟨h.kp.trans k1 (fun x hx => .inr (by have : x = q := by simpa using hx
                                              rw [this]; exact h.hq)), ?_, ?_, h.ne, h.hp, h.hq⟩
  · rw [k1.block p (lt_of_block h.res) (by simp; exact h.ne)]; exact h.res
  · rw [heap_setCell_at _ _ (heap_setCell_at _ _ h.var), wagg_set v hk ⟨0, t, s⟩]
theorem RyI.cells (h : RyI T w p q v wr) {k : Nat} (hk : k < 8) : wr.cell? ⟨q, k * 2, none⟩ = some (.bool (v k).t) ∧ wr.cell? ⟨q, k * 2 + 1, none⟩ = some (.string (v k).s) ∧ wr.frozen? ⟨q, k * 2, none⟩ = false ∧ wr.frozen? ⟨q, k * 2 + 1, none⟩ = false :=
  ⟨cell_of_block h.var (wagg_at0 v hk), cell_of_block h.var (wagg_at1 v hk), frozen_of_block _ h.var, frozen_of_block _ h.var⟩
theorem RyI.range (h : RyI T w p q v wr) : wr.rangeAt q 0 (wagg v).toList := fun j u hu => by
  rw [Nat.zero_add]
  exact cell_of_block h.var (by simpa using hu)
theorem RyI.fin (h : RyI T w p q v wr) : (wr.setRow p (wagg v)).heap[p]? = some (.cells (wagg v) T (0, 0)) ∧ Kp [] w (wr.setRow p (wagg v)) := by
  obtain ⟨z1, z2⟩ := setRow_kp (cs := wagg v) h.res
  exact ⟨z1, h.kp.trans z2 (fun x hx => .inr (by have : x = p := by simpa using hx
                                                 rw [this]; exact h.hp))⟩
end
theorem ry_start (T : TypeId) (v : Nat → Ver) (w : World) : RyI T w (w.heap.size + 1) w.heap.size v ((w.alloc (.cells (wagg v) T)).alloc (.cells (wagg (fun _ => dv)) T)) := by
  have h1 := heap_alloc_new w (.cells (wagg v) T)
  have h2 := heap_alloc_new (w.alloc (.cells (wagg v) T)) (.cells (wagg (fun _ => dv)) T)
  refine ⟨((Kp.refl [] w).alloc _).alloc _, ?_, ?_, by omega, by omega, by omega⟩
  · simpa using h2
  · rw [heap_alloc_old _ _ (by simp)]; exact h1
theorem wload_s {w : World} {p : Nat} {v : Nat → Ver} (h : w.heap[p]? = some (.cells (wagg v) 97 (0, 0))) : (loadVar 97 ⟨p, 0, none⟩).run Try.prog w = .ok (.agg (wagg v)) w :=
  run_loadVar_row w p 97 97 (wagg v) (0, 0) _ h Try.underlying97 rfl Try.size97
theorem yields_s {ops : Array Oper} {S : World → Prop} {op : Oper} {a : Act} (hw : Region.wanted op (yielded ops a.tmps) = true) (x : Operand) (ho : op.op = .load 97 x) (b o : Nat) (hx : a.eval x = .pointer (some ⟨b, o, none⟩)) (u : Nat → Ver) (hS : ∀ w, S w → w.rangeAt b o (wagg u).toList) : YieldsIf Try.prog ops S op (.agg (wagg u)) a := by
  have h := yieldsIf_load_mid (P := Try.prog) hw 97 x ho b o hx (wagg u).toList _ hS Try.underlying97 rfl Try.size97
  rw [Array.toArray_toList] at h
  exact h
theorem r4_kp {w w' : World} {p0 p1 p2 : Addr} {x0 x1 x2 : Value} {q : Nat} {cs : List Value} (h : w.cell? p0 = some x0 ∧ w.cell? p1 = some x1 ∧ w.cell? p2 = some x2 ∧ w.rangeAt q 0 cs) (hk : Kp [] w w') : w'.cell? p0 = some x0 ∧ w'.cell? p1 = some x1 ∧ w'.cell? p2 = some x2 ∧ w'.rangeAt q 0 cs :=
  ⟨hk.cell (by simp) h.1, hk.cell (by simp) h.2.1, hk.cell (by simp) h.2.2.1, fun j u hu => hk.cell (by simp) (h.2.2.2 j u hu)⟩
set_option maxHeartbeats 2000000 in
theorem replay (v : Nat → Ver) (a : Option Addr) (c : Nat) (l : List Ac) (w : World) (h : ActsIn w a l) (hok : ActsOk l) :
    Calls Try.prog 48 #[.agg (wagg v), .slice a l.length c] w fun e w' => RyEnd v l w e w' := by
  have HA := hide h
  have HO := hide hok
  have hm := hok.1
  have H0 := hide (ry_start 97 v w)
  clear h hok
  go_enter Try.func48, Try.ntmps48
  go_wp2_with fail
  generalize w.heap.size + 1 = p at *
  generalize w.heap.size = q at *
  obtain ⟨n, hn⟩ : ∃ n, l.length = n := ⟨_, rfl⟩
  rw [hn]
  rw [hn] at hm
  have HN := hide hn
  clear hn
  go_loopw [6, 8, 11] (fun x _ y wr => ∃ (k : Nat) (ok : Bool), k ≤ n ∧ x = .bool ok ∧ y = .int .i64 k ∧ Hid (∃ vk, RyI 97 w p q vk wr ∧ rpl vk ok (l.drop k) = (rpw v l, rpo v l))) (fun _ _ y _ => n - (intOf y).toNat)
  case atStart => exact ⟨0, true, Nat.zero_le _, rfl, rfl, v, unhide H0, rfl⟩
  case round =>
    obtain ⟨k, ok, hk, rfl, rfl, HI⟩ := hrel
    obtain ⟨vk, hry, hrp⟩ := unhide HI
    have HR := hide hry
    have HP := hide hrp
    clear hry hrp HI
    by_cases hlt : k < n
    · have i1 : (k : Int) < (n : Int) := by omega
      have i0 : (0 : Int) ≤ (k : Int) := by omega
      have hln : k < l.length := by have := unhide HN; omega
      obtain ⟨b, o, rfl, hb⟩ := (unhide HA).kp0 (unhide HR).kp (by omega)
      obtain ⟨x, hx⟩ : ∃ x, l[k]? = some x := ⟨_, List.getElem?_eq_getElem hln⟩
      have HX := hide hx
      have hxl : x.l.length ≤ 1000 := (unhide HO).2 x (List.mem_of_getElem? hx)
      have hat := hb k x hx
      obtain ⟨la, lc, z5, hls⟩ := hat.ls
      have q0 := hat.c0
      have q1 := hat.c1
      have q2 : wr.cell? ⟨b, o + k * 6 + 1 + 1, none⟩ = _ := hat.c2
      have q3 : wr.cell? ⟨b, o + k * 6 + 1 + 1 + 1, none⟩ = _ := hat.c3
      have q4 : wr.cell? ⟨b, o + k * 6 + 1 + 1 + 1 + 1, none⟩ = _ := hat.c4
      have q5 : wr.cell? ⟨b, o + k * 6 + 1 + 1 + 1 + 1 + 1, none⟩ = _ := z5
      have HLS := hide hls
      clear hat hb hx hls z5
      obtain ⟨kd, key, to_, xt, xs, xl⟩ := x
      dsimp only at q0 q1 q2 q3 q4 q5 hxl HLS
      obtain ⟨ln, hlen⟩ : ∃ ln, xl.length = ln := ⟨_, rfl⟩
      rw [hlen] at q5
      have HLN := hide hlen
      clear hlen
      have HR1 := hide ((unhide HR).kp0 ((Kp.refl [] wr).alloc (.cells #[.int .i64 kd, .int .i64 key, .int .i64 to_, .bool xt, .string xs, .slice la ln lc] 101)))
      have HL1 := hide ((unhide HLS).kp0 ((Kp.refl [] wr).alloc (.cells #[.int .i64 kd, .int .i64 key, .int .i64 to_, .bool xt, .string xs, .slice la ln lc] 101)))
      have HB1 := hide (heap_alloc_new wr (.cells #[.int .i64 kd, .int .i64 key, .int .i64 to_, .bool xt, .string xs, .slice la ln lc] 101))
      go_wp2_with fail
      generalize wr.alloc (.cells #[.int .i64 kd, .int .i64 key, .int .i64 to_, .bool xt, .string xs, .slice la ln lc] 101) = W at *
      generalize wr.heap.size = g at *
      refine (key11 key W).mono ?_
      rintro e w2 ⟨rfl, hw2⟩
      subst w2
      have b0 : W.cell? ⟨g, 0, none⟩ = some (.int .i64 kd) := cell_of_block (unhide HB1) rfl
      have b1 : W.cell? ⟨g, 1, none⟩ = some (.int .i64 key) := cell_of_block (unhide HB1) rfl
      have b2 : W.cell? ⟨g, 2, none⟩ = some (.int .i64 to_) := cell_of_block (unhide HB1) rfl
      have b3 : W.cell? ⟨g, 3, none⟩ = some (.bool xt) := cell_of_block (unhide HB1) rfl
      have b4 : W.cell? ⟨g, 4, none⟩ = some (.string xs) := cell_of_block (unhide HB1) rfl
      have b5 : W.cell? ⟨g, 5, none⟩ = some (.slice la ln lc) := cell_of_block (unhide HB1) rfl
      clear q0 q1 q2 q3 q4 q5 HR HLS HB1 HA
      by_cases hkb : keyB key = true
      · rw [hkb]
        have HNX := hide ((rpl_at (unhide HX) vk ok hkb).symm.trans (unhide HP))
        simp only [keyB, decide_eq_true_eq] at hkb
        obtain ⟨j, rfl⟩ : ∃ j : Nat, key = (j : Int) := ⟨key.toNat, by omega⟩
        have j8 : j < 8 := by omega
        have j0 : (0 : Int) ≤ (j : Int) := by omega
        have j8' : (j : Int) < 8 := by omega
        clear hkb
        obtain ⟨r0, r1, f0, f1⟩ := (unhide HR1).cells j8
        by_cases k3 : kd = 3
        · subst k3
          have HR2 := hide ((unhide HR1).set j8 xt xs)
          go_wp2_with fail
          refine ⟨⟨k + 1, ok, by omega, rfl, by go_num, _, unhide HR2, ?_⟩, by simp [intOf]; omega⟩
          have z := unhide HNX
          simp only [ado, aso] at z
          simpa using z
        by_cases k4 : kd = 4
        · subst k4
          have HR2 := hide ((unhide HR1).set j8 xt xs)
          go_wp2_with fail
          refine ⟨⟨k + 1, ok, by omega, rfl, by go_num, _, unhide HR2, ?_⟩, by simp [intOf]; omega⟩
          have z := unhide HNX
          simp only [ado, aso] at z
          simpa using z
        by_cases k2 : kd = 2
        · subst k2
          have heq := eqVal xt (vk j).t xs (vk j).s
          have hz : rpl vk (ok && decide (xt = (vk j).t ∧ xs = (vk j).s)) (l.drop (k + 1)) = (rpw v l, rpo v l) := by
            have z := unhide HNX
            simp only [ado, aso, Int.toNat_natCast] at z
            simpa using z
          have HZ := hide hz
          clear hz HNX
          generalize hbb : decide (xt = (vk j).t ∧ xs = (vk j).s) = bb at *
          generalize (vk j).t = vt at *
          generalize (vk j).s = vs at *
          clear hbb
          cases ok with
          | true =>
            go_wp2_with fail
            go_quiet (fail)
            go_wp2_with fail
            refine ⟨⟨k + 1, bb, by omega, rfl, by go_num, _, (unhide HR1).kp0 ((Kp.refl [] W).drewN _), ?_⟩, by simp [intOf]; omega⟩
            have z := unhide HZ
            simpa using z
          | false =>
            go_wp2_with fail
            go_quiet (fail)
            go_wp2_with fail
            refine ⟨⟨k + 1, false, by omega, rfl, by go_num, _, (unhide HR1).kp0 ((Kp.refl [] W).drewN _), ?_⟩, by simp [intOf]; omega⟩
            have z := unhide HZ
            simpa using z
        by_cases k5 : kd = 5
        · subst k5
          have hz : rpl vk (ok && decide (xl = wl vk j to_ 8)) (l.drop (k + 1)) = (rpw v l, rpo v l) := by
            have z := unhide HNX
            simp only [ado, aso] at z
            simpa using z
          have HZ := hide hz
          clear hz HNX
          cases ok with
          | false =>
            go_wp2_with fail
            go_quiet (fail)
            go_wp2_with fail
            refine ⟨⟨k + 1, false, by omega, rfl, by go_num, _, (unhide HR1).kp0 ((Kp.refl [] W).drewN _), ?_⟩, by simp [intOf]; omega⟩
            have z := unhide HZ
            simpa using z
          | true =>
            go_wp2_with fail
            have HG := hide (And.intro b1 (And.intro b2 (And.intro b5 (unhide HR1).range)))
            refine wp_region_held_drew (S := fun w' => w'.cell? ⟨g, 1, none⟩ = some (.int .i64 (j : Int)) ∧ w'.cell? ⟨g, 2, none⟩ = some (.int .i64 to_) ∧ w'.cell? ⟨g, 5, none⟩ = some (.slice la ln lc) ∧ w'.rangeAt q 0 (wagg vk).toList) (by kernel_rfl) (r4_kp (unhide HG) (Kp.refl [] W).drew) (fun hHeld => ?_)
            refine wpAnyH_tk (i := 0) (v := ?_) rfl (by kernel_rfl) (by kernel_rfl) (by kernel_rfl) (fun _ _ _ h => h) (Or.inl ⟨by rfl, ?_⟩) hHeld ?_
            rotate_left
            · intro w hSw
              try dsimp only at hSw
              go_simp
              try with_reducible rfl
            try simp only [Act.put, List.setIfInBounds_toArray, List.set_cons_zero, List.set_cons_succ]
            refine wpAnyH_tk (i := 1) (v := ?_) rfl (by kernel_rfl) (by kernel_rfl) (by kernel_rfl) (fun _ _ _ h => h) (Or.inl ⟨by rfl, ?_⟩) hHeld ?_
            rotate_left
            · intro w hSw
              try dsimp only at hSw
              go_simp
              try with_reducible rfl
            try simp only [Act.put, List.setIfInBounds_toArray, List.set_cons_zero, List.set_cons_succ]
            refine wpAnyH_tk (i := 2) (v := ?_) rfl (by kernel_rfl) (by kernel_rfl) (by kernel_rfl) (fun _ _ _ h => h) (Or.inl ⟨by rfl, ?_⟩) hHeld ?_
            rotate_left
            · intro w hSw
              try dsimp only at hSw
              go_simp
              try with_reducible rfl
            try simp only [Act.put, List.setIfInBounds_toArray, List.set_cons_zero, List.set_cons_succ]
            refine wpAnyH_tk (i := 3) (v := ?_) rfl (by kernel_rfl) (by kernel_rfl) (by kernel_rfl) (fun _ _ _ h => h) (Or.inl ⟨by rfl, ?_⟩) hHeld ?_
            rotate_left
            · intro w hSw
              try dsimp only at hSw
              go_simp
              try with_reducible rfl
            try simp only [Act.put, List.setIfInBounds_toArray, List.set_cons_zero, List.set_cons_succ]
            refine wpAnyH_tk (i := 4) rfl (by kernel_rfl) (by kernel_rfl) (by kernel_rfl) (fun _ _ _ h => h) (yields_s (by rfl) _ rfl q 0 rfl vk (fun _ h => h.2.2.2)) hHeld ?_
            try simp only [Act.put, List.setIfInBounds_toArray, List.set_cons_zero, List.set_cons_succ]
            refine wpAnyH_tk (i := 5) (v := ?_) rfl (by kernel_rfl) (by kernel_rfl) (by kernel_rfl) (fun _ _ _ h => h) (Or.inl ⟨by rfl, ?_⟩) hHeld ?_
            rotate_left
            · intro w hSw
              try dsimp only at hSw
              go_simp
              try with_reducible rfl
            try simp only [Act.put, List.setIfInBounds_toArray, List.set_cons_zero, List.set_cons_succ]
            refine wpAnyH_tk (i := 6) (v := ?_) rfl (by kernel_rfl) (by kernel_rfl) (by kernel_rfl) (fun _ _ _ h => h) (Or.inl ⟨by rfl, ?_⟩) hHeld ?_
            rotate_left
            · intro w hSw
              try dsimp only at hSw
              go_simp
              try with_reducible rfl
            try simp only [Act.put, List.setIfInBounds_toArray, List.set_cons_zero, List.set_cons_succ]
            refine wpAnyH_tk (i := 7) (v := ?_) rfl (by kernel_rfl) (by kernel_rfl) (by kernel_rfl) (fun _ _ _ h => h) (Or.inl ⟨by rfl, ?_⟩) hHeld ?_
            rotate_left
            · intro w hSw
              try dsimp only at hSw
              go_simp
              try with_reducible rfl
            try simp only [Act.put, List.setIfInBounds_toArray, List.set_cons_zero, List.set_cons_succ]
            refine wpAnyH_tk (i := 8) (v := ?_) rfl (by kernel_rfl) (by kernel_rfl) (by kernel_rfl) (fun _ _ _ h => h) (Or.inl ⟨by rfl, ?_⟩) hHeld ?_
            rotate_left
            · intro w hSw
              try dsimp only at hSw
              go_simp
              try with_reducible rfl
            try simp only [Act.put, List.setIfInBounds_toArray, List.set_cons_zero, List.set_cons_succ]
            refine wpAnyH_only (i := 9) rfl (by kernel_rfl) (fun K hK => ?_)
            go_simp
            refine (valuesof vk j to_ _ j8).mono ?_
            rintro e w3 ⟨a3, c3, rfl, hs3, hk3⟩
            have HS3 := hide hs3
            have HK3 := hide ((Kp.refl [] W).drew.trans0 hk3)
            clear hs3 hk3
            go_wp2_with fail
            refine hK.out _ _ (r4_kp (unhide HG) (unhide HK3)) (fun hHeld2 => ?_)
            clear hK K hHeld
            have hHeld := hHeld2
            clear hHeld2
            try simp only [Act.put, List.setIfInBounds_toArray, List.set_cons_zero, List.set_cons_succ]
            refine wpAnyH_only (i := 10) rfl (by kernel_rfl) (fun K hK => ?_)
            go_simp
            rw [← unhide HLN]
            refine (sleq (vs := xl) (us := wl vk j to_ 8) la a3 lc c3 w3 ((unhide HL1).kp0 (unhide HK3)) (unhide HS3) hxl).mono ?_
            rintro e w4 ⟨bb, rfl, hbb, m4, hw4⟩
            subst w4
            have HBB := hide hbb
            clear hbb
            rw [unhide HLN]
            go_wp2_with fail
            refine hK.out _ _ (r4_kp (unhide HG) ((unhide HK3).drewN m4)) (fun hHeld2 => ?_)
            clear hK K hHeld
            have hHeld := hHeld2
            clear hHeld2
            try simp only [Act.put, List.setIfInBounds_toArray, List.set_cons_zero, List.set_cons_succ]
            refine wpAnyH_tk (i := 11) (v := ?_) rfl (by kernel_rfl) (by kernel_rfl) (by kernel_rfl) (fun _ _ _ h => h) (Or.inl ⟨by rfl, ?_⟩) hHeld ?_
            rotate_left
            · intro w hSw
              try dsimp only at hSw
              go_simp
              try with_reducible rfl
            try simp only [Act.put, List.setIfInBounds_toArray, List.set_cons_zero, List.set_cons_succ]
            refine wpAnyH_tk (i := 12) (v := ?_) rfl (by kernel_rfl) (by kernel_rfl) (by kernel_rfl) (fun _ _ _ h => h) (Or.inl ⟨by rfl, ?_⟩) hHeld ?_
            rotate_left
            · intro w hSw
              try dsimp only at hSw
              go_simp
              try with_reducible rfl
            try simp only [Act.put, List.setIfInBounds_toArray, List.set_cons_zero, List.set_cons_succ]
            refine wpAnyH_done (by kernel_rfl) ?_ _
            go_wp2_with fail
            refine ⟨⟨k + 1, bb, by omega, rfl, by go_num, _, (unhide HR1).kp0 ((unhide HK3).drewN m4), ?_⟩, by simp [intOf]; omega⟩
            have z := unhide HZ
            have e : decide (xl = wl vk j to_ 8) = bb := by
              cases hb : bb with
              | true => exact decide_eq_true ((unhide HBB).1 hb)
              | false => exact decide_eq_false (fun q => by have := (unhide HBB).2 q; rw [hb] at this; cases this)
            rw [e] at z
            simpa using z
        · go_wp2_with fail
          refine ⟨⟨k + 1, ok, by omega, rfl, by go_num, _, unhide HR1, ?_⟩, by simp [intOf]; omega⟩
          have z := unhide HNX
          simp only [ado, aso] at z
          simpa [k2, k3, k4, k5] using z
      · have hkf : keyB key = false := by simpa using hkb
        rw [hkf]
        have HNX := hide ((rpl_bad (unhide HX) vk ok hkb).symm.trans (unhide HP))
        clear hkb hkf
        go_wp2_with (first | (refine wpList_load_row rfl 97 _ rfl q rfl 97 _ (0, 0) _ (unhide HR1).var Try.underlying97 rfl Try.size97 ?_) | (refine wpList_store_row rfl 97 _ _ rfl p (wagg vk) rfl rfl 97 _ (unhide HR1).res Try.size97 rfl (wagg_one _) ?_))
        obtain ⟨z1, z2⟩ := (unhide HR1).fin
        have hld := wload_s z1
        refine bodyPost_ret (v := .tuple #[.agg (wagg vk), .bool false]) (by rw [results_cell_tmp Try.results48]; simp [asAddr, Result.andThen, hld]) rfl ?_
        have z := unhide HNX
        simp only [Prod.mk.injEq] at z
        exact ⟨by rw [← z.1, ← z.2], z2⟩
    · have i1 : ¬ (k : Int) < (n : Int) := by omega
      go_wp2_with (first | (refine wpList_load_row rfl 97 _ rfl q rfl 97 _ (0, 0) _ (unhide HR).var Try.underlying97 rfl Try.size97 ?_) | (refine wpList_store_row rfl 97 _ _ rfl p (wagg vk) rfl rfl 97 _ (unhide HR).res Try.size97 rfl (wagg_one _) ?_))
      obtain ⟨z1, z2⟩ := (unhide HR).fin
      have hld := wload_s z1
      refine bodyPost_ret (v := .tuple #[.agg (wagg vk), .bool ok]) (by rw [results_cell_tmp Try.results48]; simp [asAddr, Result.andThen, hld]) rfl ?_
      have z := unhide HP
      rw [List.drop_eq_nil_of_le (by have := unhide HN; omega)] at z
      simp only [rpl, Prod.mk.injEq] at z
      exact ⟨by rw [← z.1, ← z.2], z2⟩
end Go.Proofs.Ytapmlleemopcnac

/- The library's stable sort, by contracts: insertion sort. -/
namespace Go.Proofs.Ytapmlleemopcnac
open Go.RowKit Srt
set_option maxRecDepth 20000
attribute [local go_sem ↓] Go.wp_at_zero Go.wp_at_succ

/-- A closure that compares two by a key. -/
structure Cmp (f : Nat) (key : Dx → Int) : Prop where
  enters : ∀ args w, (callFunc f args).run Try.prog w = .ok (.enter f args) w
  calls : ∀ x y w, Calls Try.prog f #[dxv x, dxv y] w fun e w' => e = .returned (.int .i64 (cmpI (key x) (key y))) ∧ Kp [] w w'
/-- What a sort from lo to hi leaves. -/
def SoEnd (key : Dx → Int) (a : Option Addr) (n lo hi : Nat) (d : Nat → Dx) (w : World) (e : Ending) (w' : World) : Prop := e = .returned (.tuple #[]) ∧ ∃ d', SlD w' a n d' ∧ Kp (obd a) w w' ∧ Stb key lo hi d d' ∧ SrtOn key d' lo hi
/-- One more is put in its place, from the place j on. -/
structure Ins (key : Dx → Int) (a : Option Addr) (n lo k : Nat) (dk : Nat → Dx) (w wr : World) (j : Nat) : Prop where
  row : SlD wr a n (rot dk j k (k + 1))
  kp : Kp (obd a) w wr
  lo : lo ≤ j
  hi : j ≤ k
  up : ∀ x, j ≤ x → x < k → key (dk k) < key (dk x)
section
variable {key : Dx → Int} {a : Option Addr} {n lo hi k g p j : Nat} {d dk : Nat → Dx} {w wr W : World}
theorem rot_at (dk : Nat → Dx) {j k : Nat} : rot dk j k (k + 1) j = dk k := by rw [rot_lo (by omega)]; congr 1; omega
theorem Ins.next (h : Ins key (some ⟨g, 0, none⟩) n lo k dk w wr j) (hp : j = p + 1) (hlo : lo < j) {x y : Int} (hx : key (rot dk j k (k + 1) j) = x) (hy : key (rot dk j k (k + 1) p) = y) (hless : x < y) (hrow : DRow W g n (rot dk p k (k + 1))) (hkp : Kp [g] wr W) : Ins key (some ⟨g, 0, none⟩) n lo k dk w W p := by
  subst hp
  have hh := h.hi
  rw [rot_at] at hx
  rw [rot_out (by omega) (by omega) (by omega)] at hy
  refine ⟨fun _ => ⟨g, rfl, hrow⟩, h.kp.trans hkp (fun x hx => .inl (by simpa [obd] using hx)), by omega, by omega, fun z h1 h2 => ?_⟩
  by_cases e : z = p
  · subst e; omega
  · exact h.up z (by omega) h2
theorem Ins.done (h : Ins key a n lo k dk w wr j) (hq : Stb key lo k d dk ∧ SrtOn key dk lo k) (hst : lo < j → ∃ p, j = p + 1 ∧ ¬ key (rot dk j k (k + 1) j) < key (rot dk j k (k + 1) p)) (hkp : Kp [] wr W) (hk : k < hi) :
    ∃ dk', SlD W a n dk' ∧ Kp (obd a) w W ∧ (k + 1 ≤ hi → Stb key lo (k + 1) d dk' ∧ SrtOn key dk' lo (k + 1)) ∧ (hi < k + 1 → dk' = d) := by
  have h1 := h.lo
  have h2 := h.hi
  refine ⟨rot dk j k (k + 1), h.row.kp0 hkp, h.kp.trans0 hkp, fun _ => ?_, fun q => by omega⟩
  obtain ⟨s1, s2⟩ := srt_ins (j := j) hq.2 ⟨h1, h2⟩ h.up (fun q => by
    obtain ⟨p, e, hn⟩ := hst q
    subst e
    rw [rot_at, rot_out (by omega) (by omega) (by omega)] at hn
    rw [show p + 1 - 1 = p by omega]
    omega)
  exact ⟨(hq.1.wide (Nat.le_refl _) (by omega) (Nat.le_succ _)).trans s2, s1⟩
end
theorem off4 (p j : Nat) (_h : p ≠ j) : ¬ p * 4 = j * 4 + 1 ∧ ¬ p * 4 = j * 4 + 2 ∧ ¬ p * 4 = j * 4 + 3 ∧ ¬ p * 4 + 1 = j * 4 ∧ ¬ p * 4 + 1 = j * 4 + 2 ∧ ¬ p * 4 + 1 = j * 4 + 3 ∧ ¬ p * 4 + 2 = j * 4 ∧ ¬ p * 4 + 2 = j * 4 + 1 ∧ ¬ p * 4 + 2 = j * 4 + 3 ∧ ¬ p * 4 + 3 = j * 4 ∧ ¬ p * 4 + 3 = j * 4 + 1 ∧ ¬ p * 4 + 3 = j * 4 + 2 := by omega
theorem cells8_kp {w w' : World} {p0 p1 p2 p3 q0 q1 q2 q3 : Addr} {x0 x1 x2 x3 y0 y1 y2 y3 : Value} (h : (w.cell? p0 = some x0 ∧ w.cell? p1 = some x1 ∧ w.cell? p2 = some x2 ∧ w.cell? p3 = some x3) ∧ (w.cell? q0 = some y0 ∧ w.cell? q1 = some y1 ∧ w.cell? q2 = some y2 ∧ w.cell? q3 = some y3)) (hk : Kp [] w w') :
    (w'.cell? p0 = some x0 ∧ w'.cell? p1 = some x1 ∧ w'.cell? p2 = some x2 ∧ w'.cell? p3 = some x3) ∧ (w'.cell? q0 = some y0 ∧ w'.cell? q1 = some y1 ∧ w'.cell? q2 = some y2 ∧ w'.cell? q3 = some y3) :=
  ⟨⟨hk.cell (by simp) h.1.1, hk.cell (by simp) h.1.2.1, hk.cell (by simp) h.1.2.2.1, hk.cell (by simp) h.1.2.2.2⟩, hk.cell (by simp) h.2.1, hk.cell (by simp) h.2.2.1, hk.cell (by simp) h.2.2.2.1, hk.cell (by simp) h.2.2.2.2⟩
theorem cmpI_neg {x y : Int} : cmpI x y < 0 ↔ x < y := by
  unfold cmpI
  split
  · simp; assumption
  · split <;> simp <;> omega

set_option maxHeartbeats 1000000 in
theorem inssort {f : Nat} {key : Dx → Int} (hc : Cmp f key) (a : Option Addr) (n cap lo hi : Nat) (d : Nat → Dx) (w : World) (h : SlD w a n d) (h1 : lo ≤ hi) (h2 : hi ≤ n) (hn : n ≤ 100000) :
    Calls Try.prog 136 #[.slice a n cap, .int .i64 lo, .int .i64 hi, .func (.func f) #[] #[]] w fun e w' => SoEnd key a n lo hi d w e w' := by
  have HC := hide hc
  have eg := hc.enters
  have HS := hide h
  clear h hc
  go_enter Try.func136, Try.ntmps136
  go_wp2_with fail
  go_loopw [8] (fun i wr => ∃ k : Nat, lo < k ∧ (k ≤ hi ∨ k = lo + 1) ∧ i = .int .i64 k ∧ Hid (∃ dk, SlD wr a n dk ∧ Kp (obd a) w wr ∧ (k ≤ hi → Stb key lo k d dk ∧ SrtOn key dk lo k) ∧ (hi < k → dk = d))) (fun i _ => hi - (intOf i).toNat)
  case atStart => exact ⟨lo + 1, by omega, .inr rfl, by go_num, d, unhide HS, Kp.refl _ _, fun _ => ⟨Stb.refl _ _ _ _, fun x y q1 q2 q3 => by rw [show x = y by omega]; exact Int.le_refl _⟩, fun _ => rfl⟩
  case round =>
    obtain ⟨k, hk1, hk2, rfl, HI⟩ := hrel
    by_cases hlt : k < hi
    · have i1 : (k : Int) < (hi : Int) := by omega
      obtain ⟨dk, q1, q2, q3, q4⟩ := unhide HI
      have HQ := hide (q3 (by omega))
      have HJ := hide (show Ins key a n lo k dk w wr k from ⟨by rw [rot_down0]; exact q1, q2, by omega, Nat.le_refl _, fun x _ _ => by omega⟩)
      clear q1 q2 q3 q4 HI
      go_wp2_with fail
      generalize wr = wk at *
      go_loopw [9] (fun i wr => ∃ j : Nat, i = .int .i64 j ∧ Hid (Ins key a n lo k dk w wr j)) (fun i _ => (intOf i).toNat)
      case atStart => exact ⟨k, rfl, HJ⟩
      case round =>
        obtain ⟨j, rfl, HK⟩ := hrel
        have hlo := (unhide HK).lo
        have hhi := (unhide HK).hi
        by_cases hj : lo < j
        · obtain ⟨g, rfl, hrow⟩ := (unhide HK).row (by omega)
          obtain ⟨p, hp⟩ : ∃ p, j = p + 1 := ⟨j - 1, by omega⟩
          have HP := hide hp
          have HR := hide hrow
          clear hrow
          have i2 : (lo : Int) < (j : Int) := by omega
          have i2a : decide ((lo : Int) < (j : Int)) = true := decide_eq_true (by omega)
          have i2b : decide ((j : Int) > (lo : Int)) = true := decide_eq_true (by omega)
          have i2c : decide (lo < j) = true := decide_eq_true (by omega)
          have i3 : (0 : Int) ≤ (j : Int) := by omega
          have i4 : (j : Int) < (n : Int) := by omega
          have i5 : (0 : Int) ≤ (p : Int) := by omega
          have i6 : (p : Int) < (n : Int) := by omega
          have i7 : IntKind.i64.wrap ((j : Int) - 1) = (p : Int) := by rw [wrap_i64_id _ (by omega) (by omega)]; omega
          clear hp
          have cX := (unhide HR).cells (i := j) (by omega)
          have cY := (unhide HR).cells (i := p) (by omega)
          generalize hX : rot dk j k (k + 1) j = X at *
          generalize hY : rot dk j k (k + 1) p = Y at *
          have HX := hide hX
          have HY := hide hY
          clear hX hY
          obtain ⟨⟨xn, xa, xm, xacts⟩, xp, xc⟩ := X
          obtain ⟨⟨yn, ya, ym, yacts⟩, yp, yc⟩ := Y
          have HCC : Hid (∀ W, Calls Try.prog f #[.agg #[.int .i64 xn, .int .i64 xa, .int .i64 xm, .slice xp xacts.length xc], .agg #[.int .i64 yn, .int .i64 ya, .int .i64 ym, .slice yp yacts.length yc]] W fun e w' => e = .returned (.int .i64 (cmpI (key ⟨⟨xn, xa, xm, xacts⟩, xp, xc⟩) (key ⟨⟨yn, ya, ym, yacts⟩, yp, yc⟩))) ∧ Kp [] W w') := fun W => (unhide HC).calls ⟨⟨xn, xa, xm, xacts⟩, xp, xc⟩ ⟨⟨yn, ya, ym, yacts⟩, yp, yc⟩ W
          generalize hkx : key ⟨⟨xn, xa, xm, xacts⟩, xp, xc⟩ = kx at *
          generalize hky : key ⟨⟨yn, ya, ym, yacts⟩, yp, yc⟩ = ky at *
          have HKX := hide hkx
          have HKY := hide hky
          clear hkx hky
          dsimp only at cX cY
          generalize hlx : xacts.length = lx at *
          generalize hly : yacts.length = ly at *
          have HLX := hide hlx
          have HLY := hide hly
          clear hlx hly
          have HS4 := hide (And.intro cX cY)
          clear cX cY
          go_wp2_with fail
          refine wp_region_held_drew (S := fun w' => (w'.cell? ⟨g, j * 4, none⟩ = some (.int .i64 xn) ∧ w'.cell? ⟨g, j * 4 + 1, none⟩ = some (.int .i64 xa) ∧ w'.cell? ⟨g, j * 4 + 1 + 1, none⟩ = some (.int .i64 xm) ∧ w'.cell? ⟨g, j * 4 + 1 + 1 + 1, none⟩ = some (.slice xp lx xc)) ∧ (w'.cell? ⟨g, p * 4, none⟩ = some (.int .i64 yn) ∧ w'.cell? ⟨g, p * 4 + 1, none⟩ = some (.int .i64 ya) ∧ w'.cell? ⟨g, p * 4 + 1 + 1, none⟩ = some (.int .i64 ym) ∧ w'.cell? ⟨g, p * 4 + 1 + 1 + 1, none⟩ = some (.slice yp ly yc))) (by kernel_rfl) (cells8_kp (unhide HS4) ((Kp.refl [] _).drew)) (fun hHeld => ?_)
          refine wpAnyH_tk (i := 0) (v := ?_) rfl (by kernel_rfl) (by kernel_rfl) (by kernel_rfl) (fun _ _ _ h => h) (Or.inl ⟨by rfl, ?_⟩) hHeld ?_
          rotate_left
          · intro w hSw
            try dsimp only at hSw
            go_simp
            try with_reducible rfl
          try simp only [Act.put, List.setIfInBounds_toArray, List.set_cons_zero, List.set_cons_succ]
          refine wpAnyH_tk (i := 1) (v := ?_) rfl (by kernel_rfl) (by kernel_rfl) (by kernel_rfl) (fun _ _ _ h => h) (Or.inl ⟨by rfl, ?_⟩) hHeld ?_
          rotate_left
          · intro w hSw
            try dsimp only at hSw
            go_simp
            try with_reducible rfl
          try simp only [Act.put, List.setIfInBounds_toArray, List.set_cons_zero, List.set_cons_succ]
          refine wpAnyH_tk (i := 2) (v := ?_) rfl (by kernel_rfl) (by kernel_rfl) (by kernel_rfl) (fun _ _ _ h => h) (Or.inl ⟨by rfl, ?_⟩) hHeld ?_
          rotate_left
          · intro w hSw
            try dsimp only at hSw
            go_simp
            try with_reducible rfl
          try simp only [Act.put, List.setIfInBounds_toArray, List.set_cons_zero, List.set_cons_succ]
          refine wpAnyH_tk (i := 3) (v := ?_) rfl (by kernel_rfl) (by kernel_rfl) (by kernel_rfl) (fun _ _ _ h => h) (Or.inl ⟨by rfl, ?_⟩) hHeld ?_
          rotate_left
          · intro w hSw
            try dsimp only at hSw
            go_simp
            try with_reducible rfl
          try simp only [Act.put, List.setIfInBounds_toArray, List.set_cons_zero, List.set_cons_succ]
          refine wpAnyH_tk (i := 4) (v := ?_) rfl (by kernel_rfl) (by kernel_rfl) (by kernel_rfl) (fun _ _ _ h => h) (Or.inl ⟨by rfl, ?_⟩) hHeld ?_
          rotate_left
          · intro w hSw
            try dsimp only at hSw
            go_simp
            try with_reducible rfl
          try simp only [Act.put, List.setIfInBounds_toArray, List.set_cons_zero, List.set_cons_succ]
          refine wpAnyH_tk (i := 5) (v := ?_) rfl (by kernel_rfl) (by kernel_rfl) (by kernel_rfl) (fun _ _ _ h => h) (Or.inl ⟨by rfl, ?_⟩) hHeld ?_
          rotate_left
          · intro w hSw
            try dsimp only at hSw
            go_simp
            try with_reducible rfl
          try simp only [Act.put, List.setIfInBounds_toArray, List.set_cons_zero, List.set_cons_succ]
          refine wpAnyH_tk (i := 6) (v := ?_) rfl (by kernel_rfl) (by kernel_rfl) (by kernel_rfl) (fun _ _ _ h => h) (Or.inl ⟨by rfl, ?_⟩) hHeld ?_
          rotate_left
          · intro w hSw
            try dsimp only at hSw
            go_simp
            try with_reducible rfl
          try simp only [Act.put, List.setIfInBounds_toArray, List.set_cons_zero, List.set_cons_succ]
          refine wpAnyH_tk (i := 7) (v := ?_) rfl (by kernel_rfl) (by kernel_rfl) (by kernel_rfl) (fun _ _ _ h => h) (Or.inl ⟨by rfl, ?_⟩) hHeld ?_
          rotate_left
          · intro w hSw
            try dsimp only at hSw
            go_simp
            try with_reducible rfl
          try simp only [Act.put, List.setIfInBounds_toArray, List.set_cons_zero, List.set_cons_succ]
          refine wpAnyH_tk (i := 8) (v := ?_) rfl (by kernel_rfl) (by kernel_rfl) (by kernel_rfl) (fun _ _ _ h => h) (Or.inl ⟨by rfl, ?_⟩) hHeld ?_
          rotate_left
          · intro w hSw
            try dsimp only at hSw
            go_simp
            try with_reducible rfl
          try simp only [Act.put, List.setIfInBounds_toArray, List.set_cons_zero, List.set_cons_succ]
          refine wpAnyH_tk (i := 9) (v := ?_) rfl (by kernel_rfl) (by kernel_rfl) (by kernel_rfl) (fun _ _ _ h => h) (Or.inl ⟨by rfl, ?_⟩) hHeld ?_
          rotate_left
          · intro w hSw
            try dsimp only at hSw
            go_simp
            try with_reducible rfl
          try simp only [Act.put, List.setIfInBounds_toArray, List.set_cons_zero, List.set_cons_succ]
          refine wpAnyH_tk (i := 10) (v := ?_) rfl (by kernel_rfl) (by kernel_rfl) (by kernel_rfl) (fun _ _ _ h => h) (Or.inl ⟨by rfl, ?_⟩) hHeld ?_
          rotate_left
          · intro w hSw
            try dsimp only at hSw
            go_simp
            try with_reducible rfl
          try simp only [Act.put, List.setIfInBounds_toArray, List.set_cons_zero, List.set_cons_succ]
          refine wpAnyH_tk (i := 11) (v := ?_) rfl (by kernel_rfl) (by kernel_rfl) (by kernel_rfl) (fun _ _ _ h => h) (Or.inl ⟨by rfl, ?_⟩) hHeld ?_
          rotate_left
          · intro w hSw
            try dsimp only at hSw
            go_simp
            try with_reducible rfl
          try simp only [Act.put, List.setIfInBounds_toArray, List.set_cons_zero, List.set_cons_succ]
          refine wpAnyH_tk (i := 12) (v := ?_) rfl (by kernel_rfl) (by kernel_rfl) (by kernel_rfl) (fun _ _ _ h => h) (Or.inl ⟨by rfl, ?_⟩) hHeld ?_
          rotate_left
          · intro w hSw
            try dsimp only at hSw
            go_simp
            try with_reducible rfl
          try simp only [Act.put, List.setIfInBounds_toArray, List.set_cons_zero, List.set_cons_succ]
          refine wpAnyH_tk (i := 13) (v := ?_) rfl (by kernel_rfl) (by kernel_rfl) (by kernel_rfl) (fun _ _ _ h => h) (Or.inl ⟨by rfl, ?_⟩) hHeld ?_
          rotate_left
          · intro w hSw
            try dsimp only at hSw
            go_simp
            try with_reducible rfl
          try simp only [Act.put, List.setIfInBounds_toArray, List.set_cons_zero, List.set_cons_succ]
          refine wpAnyH_only (i := 14) rfl (by kernel_rfl) (fun K hK => ?_)
          go_simp
          refine ((unhide HCC) _).mono ?_
          rintro e w' ⟨rfl, hkp⟩
          have HKP := hide hkp
          clear hkp
          go_wp2_with fail
          refine hK.out _ _ (cells8_kp (unhide HS4) (((Kp.refl [] _).drew).trans0 (unhide HKP))) (fun hHeld2 => ?_)
          clear hK K hHeld
          have hHeld := hHeld2
          clear hHeld2
          try simp only [Act.put, List.setIfInBounds_toArray, List.set_cons_zero, List.set_cons_succ]
          refine wpAnyH_tk (i := 15) (v := ?_) rfl (by kernel_rfl) (by kernel_rfl) (by kernel_rfl) (fun _ _ _ h => h) (Or.inl ⟨by rfl, ?_⟩) hHeld ?_
          rotate_left
          · intro w hSw
            try dsimp only at hSw
            go_simp
            try with_reducible rfl
          try simp only [Act.put, List.setIfInBounds_toArray, List.set_cons_zero, List.set_cons_succ]
          refine wpAnyH_tk (i := 16) (v := ?_) rfl (by kernel_rfl) (by kernel_rfl) (by kernel_rfl) (fun _ _ _ h => h) (Or.inl ⟨by rfl, ?_⟩) hHeld ?_
          rotate_left
          · intro w hSw
            try dsimp only at hSw
            go_simp
            try with_reducible rfl
          try simp only [Act.put, List.setIfInBounds_toArray, List.set_cons_zero, List.set_cons_succ]
          refine wpAnyH_done (by kernel_rfl) ?_ _
          have HW := hide ((Kp.refl [] wr).drew.trans0 (unhide HKP))
          have HRW := hide ((unhide HR).kp0 (unhide HW))
          clear hHeld HR HKP
          generalize w' = W at *
          by_cases hless : kx < ky
          · have i8 : cmpI kx ky < 0 := cmpI_neg.2 hless
            obtain ⟨⟨c0, c1, c2, c3⟩, e0, e1, e2, e3⟩ := cells8_kp (unhide HS4) (unhide HW)
            have hf := (unhide HRW).fz
            have hsw := (unhide HRW).swap2 (i := j) (j := p) (by omega) (by omega) (by have := unhide HP; omega)
            rw [unhide HX, unhide HY] at hsw
            have hrd := rot_down dk (m := k) (k := p) (by have := unhide HP; omega)
            rw [← unhide HP] at hrd
            rw [hrd] at hsw
            dsimp only [put4] at hsw
            rw [unhide HLX, unhide HLY] at hsw
            have HSW := hide hsw
            clear hsw hrd
            have hpj : p ≠ j := by have := unhide HP; omega
            obtain ⟨n01, n02, n03, n10, n12, n13, n20, n21, n23, n30, n31, n32⟩ := off4 p j hpj
            go_wp2_with fail
            go_region
            go_wp2_with fail
            have hkx : key (rot dk j k (k + 1) j) = kx := by rw [unhide HX]; exact unhide HKX
            have hky : key (rot dk j k (k + 1) p) = ky := by rw [unhide HY]; exact unhide HKY
            exact ⟨⟨p, by go_num, (unhide HK).next (unhide HP) hj hkx hky hless ((unhide HSW).1.kp0 (Kp.refl [] _).drew) (((unhide HW).mono (T := [g]) (by simp)).trans ((unhide HSW).2.drew) (fun x hx => .inl hx))⟩, by have := unhide HP; simp [intOf]; omega⟩
          · have i8 : ¬ cmpI kx ky < 0 := fun q => hless (cmpI_neg.1 q)
            go_wp2_with fail
            refine ⟨⟨k + 1, by omega, .inl (by omega), by go_num, (unhide HK).done (unhide HQ) (fun _ => ⟨p, unhide HP, ?_⟩) (unhide HW) hlt⟩, by simp [intOf]; omega⟩
            rw [unhide HX, unhide HY, unhide HKX, unhide HKY]
            exact hless
        · have i2 : ¬ (lo : Int) < (j : Int) := by omega
          go_wp2_with fail
          go_quiet (fail)
          go_wp2_with fail
          exact ⟨⟨k + 1, by omega, .inl (by omega), by go_num, (unhide HK).done (unhide HQ) (fun q => absurd q hj) ((Kp.refl [] _).drewN _) hlt⟩, by simp [intOf]; omega⟩
    · have i1 : ¬ (k : Int) < (hi : Int) := by omega
      go_wp2_with fail
      go_end0
      obtain ⟨dk, q1, q2, q3, q4⟩ := unhide HI
      refine ⟨rfl, dk, q1, q2, ?_⟩
      by_cases e : k ≤ hi
      · rw [show hi = k by omega]; exact q3 e
      · rw [q4 (by omega)]
        exact ⟨Stb.refl _ _ _ _, fun x y _ _ _ => by omega⟩
end Go.Proofs.Ytapmlleemopcnac

/- The library's stable sort, by contracts: two parts change their places. -/
namespace Go.Proofs.Ytapmlleemopcnac
open Go.RowKit Srt
set_option maxRecDepth 20000
attribute [local go_sem ↓] Go.wp_at_zero Go.wp_at_succ

def RwEnd (g n : Nat) (d' : Nat → Dx) (w : World) (e : Ending) (w' : World) : Prop := e = .returned (.tuple #[]) ∧ DRow w' g n d' ∧ Kp [g] w w'
set_option maxHeartbeats 1000000 in
theorem swaprange (f g n cap a b m : Nat) (d : Nat → Dx) (w : World) (h : DRow w g n d) (h1 : a + m ≤ b) (h2 : b + m ≤ n) (hn : n ≤ 100000) :
    Calls Try.prog 146 #[.slice (some ⟨g, 0, none⟩) n cap, .int .i64 a, .int .i64 b, .int .i64 m, .func (.func f) #[] #[]] w fun e w' => RwEnd g n (swr d a b m) w e w' := by
  have HS := hide h
  clear h
  go_enter Try.func146, Try.ntmps146
  go_wp2_with fail
  go_loopw [10] (fun i wr => ∃ k : Nat, k ≤ m ∧ i = .int .i64 k ∧ Hid (DRow wr g n (swr d a b k) ∧ Kp [g] w wr)) (fun i _ => m - (intOf i).toNat)
  case atStart => exact ⟨0, by omega, rfl, by rw [swr_zero]; exact ⟨unhide HS, Kp.refl _ _⟩⟩
  case round =>
    obtain ⟨k, hk, rfl, HI⟩ := hrel
    by_cases hlt : k < m
    · have i1 : (k : Int) < (m : Int) := by omega
      obtain ⟨hrow, hkp⟩ := unhide HI
      have hsw := hrow.swap2 (i := a + k) (j := b + k) (by omega) (by omega) (by omega)
      rw [swr_succ d (by omega)] at hsw
      obtain ⟨c0, c1, c2, c3⟩ := hrow.cells (i := a + k) (by omega)
      obtain ⟨e0, e1, e2, e3⟩ := hrow.cells (i := b + k) (by omega)
      have hf := hrow.fz
      have HKP := hide hkp
      clear hkp hrow
      generalize hX : swr d a b k (a + k) = X at *
      generalize hY : swr d a b k (b + k) = Y at *
      clear hX hY
      obtain ⟨⟨xn, xa, xm, xacts⟩, xp, xc⟩ := X
      obtain ⟨⟨yn, ya, ym, yacts⟩, yp, yc⟩ := Y
      dsimp only [put4] at c0 c1 c2 c3 e0 e1 e2 e3 hsw
      generalize xacts.length = lx at *
      generalize yacts.length = ly at *
      obtain ⟨p, hp⟩ : ∃ p, a + k = p := ⟨_, rfl⟩
      obtain ⟨j, hj⟩ : ∃ j, b + k = j := ⟨_, rfl⟩
      rw [hp, hj] at hsw
      rw [hp] at c0 c1 c2 c3
      rw [hj] at e0 e1 e2 e3
      have HSW := hide hsw
      clear hsw
      have hjp : j ≠ p := by omega
      obtain ⟨n01, n02, n03, n10, n12, n13, n20, n21, n23, n30, n31, n32⟩ := off4 j p hjp
      have j1 : IntKind.i64.wrap ((a : Int) + (k : Int)) = (p : Int) := by rw [wrap_i64_id _ (by omega) (by omega)]; omega
      have j2 : IntKind.i64.wrap ((b : Int) + (k : Int)) = (j : Int) := by rw [wrap_i64_id _ (by omega) (by omega)]; omega
      have j3 : (0 : Int) ≤ (p : Int) := by omega
      have j4 : (p : Int) < (n : Int) := by omega
      have j5 : (0 : Int) ≤ (j : Int) := by omega
      have j6 : (j : Int) < (n : Int) := by omega
      clear hp hj
      go_wp2_with fail
      go_region
      go_wp2_with fail
      exact ⟨⟨k + 1, by omega, by go_num, (unhide HSW).1.kp0 (Kp.refl [] _).drew, (unhide HKP).trans ((unhide HSW).2.drew) (fun x hx => .inl hx)⟩, by simp [intOf]; omega⟩
    · have i1 : ¬ (k : Int) < (m : Int) := by omega
      go_wp2_with fail
      go_end0
      obtain ⟨hrow, hkp⟩ := unhide HI
      rw [show k = m by omega] at hrow
      exact ⟨rfl, hrow, hkp⟩

set_option maxHeartbeats 1000000 in
theorem rotate (f g n cap a m b : Nat) (d : Nat → Dx) (w : World) (h : DRow w g n d) (h1 : a < m) (h2 : m < b) (h3 : b ≤ n) (hn : n ≤ 100000) :
    Calls Try.prog 143 #[.slice (some ⟨g, 0, none⟩) n cap, .int .i64 a, .int .i64 m, .int .i64 b, .func (.func f) #[] #[]] w fun e w' => RwEnd g n (rot d a m b) w e w' := by
  have HS := hide h
  clear h
  go_enter Try.func143, Try.ntmps143
  go_wp2_with fail
  go_loopw [10, 11] (fun x y wr => ∃ i j : Nat, 0 < i ∧ 0 < j ∧ i ≤ m - a ∧ j ≤ b - m ∧ x = .int .i64 i ∧ y = .int .i64 j ∧ Hid (∃ dk, DRow wr g n dk ∧ Kp [g] w wr ∧ rot dk (m - i) m (m + j) = rot d a m b)) (fun x y _ => (intOf x).toNat + (intOf y).toNat)
  case atStart => exact ⟨m - a, b - m, by omega, by omega, Nat.le_refl _, Nat.le_refl _, by go_num, by go_num, d, unhide HS, Kp.refl _ _, by rw [show m - (m - a) = a by omega, show m + (b - m) = b by omega]⟩
  case round =>
    obtain ⟨i, j, hi0, hj0, hi, hj, rfl, rfl, HI⟩ := hrel
    obtain ⟨dk, q1, q2, q3⟩ := unhide HI
    have HQ2 := hide q2
    have HQ3 := hide q3
    by_cases e : i = j
    · subst e
      have HC := hide (swaprange f g n cap (m - i) m i dk wr q1 (by omega) (by omega) hn)
      have j1 : ((m : Int) - (i : Int)) = ((m - i : Nat) : Int) := by omega
      clear q1 q2 q3 HI
      go_wp2_with fail
      refine (unhide HC).mono ?_
      rintro e w' ⟨rfl, r1, r2⟩
      have HR1 := hide r1
      have HR2 := hide r2
      clear r1 r2
      go_wp2_with fail
      go_end0
      exact ⟨rfl, by rw [← unhide HQ3, ← rot_mid (by omega)]; exact unhide HR1, (unhide HQ2).trans (unhide HR2) (fun x hx => .inl hx)⟩
    · have i1 : ¬ (i : Int) = (j : Int) := by omega
      by_cases hlt : j < i
      · have HC := hide (swaprange f g n cap (m - i) m j dk wr q1 (by omega) (by omega) hn)
        have j1 : ((m : Int) - (i : Int)) = ((m - i : Nat) : Int) := by omega
        have i2 : (j : Int) < (i : Int) := by omega
        clear q1 q2 q3 HI
        go_wp2_with fail
        refine (unhide HC).mono ?_
        rintro e w' ⟨rfl, r1, r2⟩
        have HR1 := hide r1
        have HR2 := hide r2
        clear r1 r2
        go_wp2_with fail
        exact ⟨⟨i - j, j, by omega, hj0, by omega, hj, by go_num, rfl, swr dk (m - i) m j, unhide HR1, (unhide HQ2).trans (unhide HR2) (fun x hx => .inl hx), by rw [rot_left (by omega) hlt]; exact unhide HQ3⟩, by simp [intOf]; omega⟩
      · have HC := hide (swaprange f g n cap (m - i) (m + j - i) i dk wr q1 (by omega) (by omega) hn)
        have j1 : ((m : Int) - (i : Int)) = ((m - i : Nat) : Int) := by omega
        have j2 : ((m : Int) + (j : Int) - (i : Int)) = ((m + j - i : Nat) : Int) := by omega
        have i2 : ¬ (j : Int) < (i : Int) := by omega
        clear q1 q2 q3 HI
        go_wp2_with fail
        refine (unhide HC).mono ?_
        rintro e w' ⟨rfl, r1, r2⟩
        have HR1 := hide r1
        have HR2 := hide r2
        clear r1 r2
        go_wp2_with fail
        exact ⟨⟨i, j - i, hi0, by omega, hi, by omega, rfl, by go_num, swr dk (m - i) (m + j - i) i, unhide HR1, (unhide HQ2).trans (unhide HR2) (fun x hx => .inl hx), by rw [rot_right (by omega) (by omega)]; exact unhide HQ3⟩, by simp [intOf]; omega⟩
end Go.Proofs.Ytapmlleemopcnac

/- The library's stable sort, by contracts: two sorted parts become one. -/
namespace Go.Proofs.Ytapmlleemopcnac
open Go.RowKit Srt
set_option maxRecDepth 20000
attribute [local go_sem ↓] Go.wp_at_zero Go.wp_at_succ

/-- What a merge from a to b leaves. -/
def MgEnd (key : Dx → Int) (g n a b : Nat) (d : Nat → Dx) (w : World) (e : Ending) (w' : World) : Prop := e = .returned (.tuple #[]) ∧ ∃ d', DRow w' g n d' ∧ Kp [g] w w' ∧ Stb key a b d d' ∧ SrtOn key d' a b
theorem rot_id1 {d : Nat → Dx} {m q : Nat} : rot d m m q = d := by
  funext x
  unfold rot
  by_cases c : m ≤ x ∧ x < m + (q - m)
  · rw [if_pos c]; congr 1; omega
  · rw [if_neg c, if_neg (by omega)]
theorem rot_id2 {d : Nat → Dx} {p m : Nat} : rot d p m m = d := by
  funext x
  unfold rot
  rw [if_neg (by omega)]
  by_cases c : p + (m - m) ≤ x ∧ x < m
  · rw [if_pos c]; congr 1; omega
  · rw [if_neg c]
theorem kp_g {g : Nat} {w W w' : World} (h : Kp [g] w W) (k : Kp [g] W w') : Kp [g] w w' := h.trans k (fun _ hx => .inl hx)
set_option maxHeartbeats 1000000 in
theorem sym1 {f : Nat} {key : Dx → Int} (hc : Cmp f key) (g n cap a m b : Nat) (d : Nat → Dx) (w : World) (h : DRow w g n d) (h1 : SrtOn key d a m) (h2 : SrtOn key d m b) (ham : a < m) (hmb : m < b) (hbn : b ≤ n) (hn : n ≤ 100000) (hm : m = a + 1) :
    Calls Try.prog 137 #[.slice (some ⟨g, 0, none⟩) n cap, .int .i64 a, .int .i64 m, .int .i64 b, .func (.func f) #[] #[]] w fun e w' => MgEnd key g n a b d w e w' := by
  have HC := hide hc
  have eg := hc.enters
  have HR0 := hide h
  have HS1 := hide h1
  have HS2 := hide h2
  clear h hc h1 h2
  have k1 : (m : Int) - (a : Int) = 1 := by omega
  have HM := hide hm
  clear hm
  go_enter Try.func137, Try.ntmps137
  go_wp2_with fail
  go_loopw [10, 11, 12] (fun x y _ wr => ∃ i j : Nat, m ≤ i ∧ i ≤ j ∧ j ≤ b ∧ x = .int .i64 i ∧ y = .int .i64 j ∧ Hid ((∀ z, m ≤ z → z < i → key (d z) < key (d a)) ∧ (j < b → key (d a) ≤ key (d j))) ∧ Hid (Kp [] w wr)) (fun x y _ _ => (intOf y).toNat - (intOf x).toNat)
  case atStart => exact ⟨m, b, Nat.le_refl _, by omega, Nat.le_refl _, rfl, rfl, ⟨fun z _ _ => by omega, fun q => by omega⟩, Kp.refl _ _⟩
  case round =>
    obtain ⟨i, j, hi, hij, hj, rfl, rfl, HV, HK⟩ := hrel
    by_cases hlt : i < j
    · have i1 : (i : Int) < (j : Int) := by omega
      obtain ⟨p, hp⟩ : ∃ p, (i + j) / 2 = p := ⟨_, rfl⟩
      have i2 : ((i : Int) + (j : Int)) / 2 = (p : Int) := by omega
      have i3 : (0 : Int) ≤ (p : Int) := by omega
      have i4 : (p : Int) < (n : Int) := by omega
      have i5 : (0 : Int) ≤ (a : Int) := by omega
      have i6 : (a : Int) < (n : Int) := by omega
      have i7 : i ≤ p := by omega
      have i8 : p < j := by omega
      clear hp
      have HR := hide ((unhide HR0).kp0 (unhide HK))
      have cX := (unhide HR).cells (i := p) (by omega)
      have cY := (unhide HR).cells (i := a) (by omega)
      obtain ⟨⟨⟨xn, xa, xm, xacts⟩, xp, xc⟩, hX⟩ : ∃ X, d p = X := ⟨_, rfl⟩
      obtain ⟨⟨⟨yn, ya, ym, yacts⟩, yp, yc⟩, hY⟩ : ∃ Y, d a = Y := ⟨_, rfl⟩
      rw [hX] at cX
      rw [hY] at cY
      have HX := hide hX
      have HY := hide hY
      clear hX hY
      obtain ⟨kx, hkx⟩ : ∃ k, key ⟨⟨xn, xa, xm, xacts⟩, xp, xc⟩ = k := ⟨_, rfl⟩
      obtain ⟨ky, hky⟩ : ∃ k, key ⟨⟨yn, ya, ym, yacts⟩, yp, yc⟩ = k := ⟨_, rfl⟩
      obtain ⟨lx, hlx⟩ : ∃ k, xacts.length = k := ⟨_, rfl⟩
      obtain ⟨ly, hly⟩ : ∃ k, yacts.length = k := ⟨_, rfl⟩
      have HCC : Hid (∀ W, Calls Try.prog f #[.agg #[.int .i64 xn, .int .i64 xa, .int .i64 xm, .slice xp lx xc], .agg #[.int .i64 yn, .int .i64 ya, .int .i64 ym, .slice yp ly yc]] W fun e w' => e = .returned (.int .i64 (cmpI kx ky)) ∧ Kp [] W w') := fun W => by
        have := (unhide HC).calls ⟨⟨xn, xa, xm, xacts⟩, xp, xc⟩ ⟨⟨yn, ya, ym, yacts⟩, yp, yc⟩ W
        rw [hkx, hky] at this
        dsimp only [dxv] at this
        rw [hlx, hly] at this
        exact this
      have HKX := hide hkx
      have HKY := hide hky
      clear hkx hky
      dsimp only at cX cY
      rw [hlx] at cX
      rw [hly] at cY
      have HLX := hide hlx
      have HLY := hide hly
      clear hlx hly
      have HS4 := hide (And.intro cX cY)
      clear cX cY
      go_wp2_with fail
      refine wp_region_held_drew (S := fun w' => (w'.cell? ⟨g, p * 4, none⟩ = some (.int .i64 xn) ∧ w'.cell? ⟨g, p * 4 + 1, none⟩ = some (.int .i64 xa) ∧ w'.cell? ⟨g, p * 4 + 1 + 1, none⟩ = some (.int .i64 xm) ∧ w'.cell? ⟨g, p * 4 + 1 + 1 + 1, none⟩ = some (.slice xp lx xc)) ∧ (w'.cell? ⟨g, a * 4, none⟩ = some (.int .i64 yn) ∧ w'.cell? ⟨g, a * 4 + 1, none⟩ = some (.int .i64 ya) ∧ w'.cell? ⟨g, a * 4 + 1 + 1, none⟩ = some (.int .i64 ym) ∧ w'.cell? ⟨g, a * 4 + 1 + 1 + 1, none⟩ = some (.slice yp ly yc))) (by kernel_rfl) (cells8_kp (unhide HS4) ((Kp.refl [] _).drew)) (fun hHeld => ?_)
      refine wpAnyH_tk (i := 0) (v := ?_) rfl (by kernel_rfl) (by kernel_rfl) (by kernel_rfl) (fun _ _ _ h => h) (Or.inl ⟨by rfl, ?_⟩) hHeld ?_
      rotate_left
      · intro w hSw
        try dsimp only at hSw
        go_simp
        try with_reducible rfl
      try simp only [Act.put, List.setIfInBounds_toArray, List.set_cons_zero, List.set_cons_succ]
      refine wpAnyH_tk (i := 1) (v := ?_) rfl (by kernel_rfl) (by kernel_rfl) (by kernel_rfl) (fun _ _ _ h => h) (Or.inl ⟨by rfl, ?_⟩) hHeld ?_
      rotate_left
      · intro w hSw
        try dsimp only at hSw
        go_simp
        try with_reducible rfl
      try simp only [Act.put, List.setIfInBounds_toArray, List.set_cons_zero, List.set_cons_succ]
      refine wpAnyH_tk (i := 2) (v := ?_) rfl (by kernel_rfl) (by kernel_rfl) (by kernel_rfl) (fun _ _ _ h => h) (Or.inl ⟨by rfl, ?_⟩) hHeld ?_
      rotate_left
      · intro w hSw
        try dsimp only at hSw
        go_simp
        try with_reducible rfl
      try simp only [Act.put, List.setIfInBounds_toArray, List.set_cons_zero, List.set_cons_succ]
      refine wpAnyH_tk (i := 3) (v := ?_) rfl (by kernel_rfl) (by kernel_rfl) (by kernel_rfl) (fun _ _ _ h => h) (Or.inl ⟨by rfl, ?_⟩) hHeld ?_
      rotate_left
      · intro w hSw
        try dsimp only at hSw
        go_simp
        try with_reducible rfl
      try simp only [Act.put, List.setIfInBounds_toArray, List.set_cons_zero, List.set_cons_succ]
      refine wpAnyH_tk (i := 4) (v := ?_) rfl (by kernel_rfl) (by kernel_rfl) (by kernel_rfl) (fun _ _ _ h => h) (Or.inl ⟨by rfl, ?_⟩) hHeld ?_
      rotate_left
      · intro w hSw
        try dsimp only at hSw
        go_simp
        try with_reducible rfl
      try simp only [Act.put, List.setIfInBounds_toArray, List.set_cons_zero, List.set_cons_succ]
      refine wpAnyH_tk (i := 5) (v := ?_) rfl (by kernel_rfl) (by kernel_rfl) (by kernel_rfl) (fun _ _ _ h => h) (Or.inl ⟨by rfl, ?_⟩) hHeld ?_
      rotate_left
      · intro w hSw
        try dsimp only at hSw
        go_simp
        try with_reducible rfl
      try simp only [Act.put, List.setIfInBounds_toArray, List.set_cons_zero, List.set_cons_succ]
      refine wpAnyH_tk (i := 6) (v := ?_) rfl (by kernel_rfl) (by kernel_rfl) (by kernel_rfl) (fun _ _ _ h => h) (Or.inl ⟨by rfl, ?_⟩) hHeld ?_
      rotate_left
      · intro w hSw
        try dsimp only at hSw
        go_simp
        try with_reducible rfl
      try simp only [Act.put, List.setIfInBounds_toArray, List.set_cons_zero, List.set_cons_succ]
      refine wpAnyH_tk (i := 7) (v := ?_) rfl (by kernel_rfl) (by kernel_rfl) (by kernel_rfl) (fun _ _ _ h => h) (Or.inl ⟨by rfl, ?_⟩) hHeld ?_
      rotate_left
      · intro w hSw
        try dsimp only at hSw
        go_simp
        try with_reducible rfl
      try simp only [Act.put, List.setIfInBounds_toArray, List.set_cons_zero, List.set_cons_succ]
      refine wpAnyH_tk (i := 8) (v := ?_) rfl (by kernel_rfl) (by kernel_rfl) (by kernel_rfl) (fun _ _ _ h => h) (Or.inl ⟨by rfl, ?_⟩) hHeld ?_
      rotate_left
      · intro w hSw
        try dsimp only at hSw
        go_simp
        try with_reducible rfl
      try simp only [Act.put, List.setIfInBounds_toArray, List.set_cons_zero, List.set_cons_succ]
      refine wpAnyH_only (i := 9) rfl (by kernel_rfl) (fun K hK => ?_)
      go_simp
      refine ((unhide HCC) _).mono ?_
      rintro e w' ⟨rfl, hkp⟩
      have HKP := hide hkp
      clear hkp
      go_wp2_with fail
      refine hK.out _ _ (cells8_kp (unhide HS4) (((Kp.refl [] _).drew).trans0 (unhide HKP))) (fun hHeld2 => ?_)
      clear hK K hHeld
      have hHeld := hHeld2
      clear hHeld2
      try simp only [Act.put, List.setIfInBounds_toArray, List.set_cons_zero, List.set_cons_succ]
      refine wpAnyH_tk (i := 10) (v := ?_) rfl (by kernel_rfl) (by kernel_rfl) (by kernel_rfl) (fun _ _ _ h => h) (Or.inl ⟨by rfl, ?_⟩) hHeld ?_
      rotate_left
      · intro w hSw
        try dsimp only at hSw
        go_simp
        try with_reducible rfl
      try simp only [Act.put, List.setIfInBounds_toArray, List.set_cons_zero, List.set_cons_succ]
      refine wpAnyH_done (by kernel_rfl) ?_ _
      have HW := hide ((unhide HK).trans0 ((Kp.refl [] wr).drew.trans0 (unhide HKP)))
      clear hHeld HR HKP HS4 HCC
      generalize w' = W at *
      by_cases hless : kx < ky
      · have i9 : cmpI kx ky < 0 := cmpI_neg.2 hless
        go_wp2_with fail
        go_roundw
        case measure => simp [intOf]; omega
        case rel =>
          refine ⟨p + 1, j, by omega, by omega, hj, by go_num, rfl, ⟨fun z q1 q2 => ?_, (unhide HV).2⟩, unhide HW⟩
          have hz := unhide HS2 z p q1 (by omega) (by omega)
          rw [unhide HX, unhide HKX] at hz
          rw [unhide HY, unhide HKY]
          omega
      · have i9 : ¬ cmpI kx ky < 0 := fun q => hless (cmpI_neg.1 q)
        go_wp2_with fail
        go_roundw
        case measure => simp [intOf]; omega
        case rel =>
          refine ⟨i, p, hi, by omega, by omega, rfl, rfl, ⟨(unhide HV).1, fun _ => ?_⟩, unhide HW⟩
          rw [unhide HX, unhide HKX, unhide HY, unhide HKY]
          omega
    · have hji : j = i := by omega
      subst hji
      have i1 : ¬ (j : Int) < (j : Int) := by omega
      have j1 : ((j : Int) - 1) = ((j - 1 : Nat) : Int) := by omega
      go_wp2_with fail
      have HRR := hide (show DRow wr g n (rot d a (a + 1) (a + 1)) ∧ Kp [g] w wr from ⟨by rw [rot_up0]; exact (unhide HR0).kp0 (unhide HK), (unhide HK).mono (T := [g]) (by simp)⟩)
      clear HK
      generalize wr = w5 at *
      go_loopw [13] (fun x wr => ∃ k : Nat, a ≤ k ∧ k + 1 ≤ j ∧ x = .int .i64 k ∧ Hid (DRow wr g n (rot d a (a + 1) (k + 1)) ∧ Kp [g] w wr)) (fun x _ => j - (intOf x).toNat)
      case atStart => exact ⟨a, Nat.le_refl _, by omega, rfl, HRR⟩
      case round =>
        obtain ⟨k, hk1, hk2, rfl, HI⟩ := hrel
        by_cases hlt2 : k + 1 < j
        · have i2 : (k : Int) < ((j - 1 : Nat) : Int) := by omega
          have i2' : (k : Int) < (j : Int) - 1 := by omega
          obtain ⟨hrow, hkp⟩ := unhide HI
          have hsw := hrow.swap2 (i := k) (j := (k + 1)) (by omega) (by omega) (by omega)
          obtain ⟨c0, c1, c2, c3⟩ := hrow.cells (i := k) (by omega)
          obtain ⟨e0, e1, e2, e3⟩ := hrow.cells (i := (k + 1)) (by omega)
          have hf := hrow.fz
          have HKP := hide hkp
          clear hkp hrow
          generalize hX : rot d a (a + 1) (k + 1) k = X at *
          generalize hY : rot d a (a + 1) (k + 1) (k + 1) = Y at *
          clear hX hY
          obtain ⟨⟨xn, xa, xm, xacts⟩, xp, xc⟩ := X
          obtain ⟨⟨yn, ya, ym, yacts⟩, yp, yc⟩ := Y
          dsimp only [put4] at c0 c1 c2 c3 e0 e1 e2 e3 hsw
          generalize xacts.length = lx at *
          generalize yacts.length = ly at *
          have hjp : (k + 1) ≠ k := by omega
          obtain ⟨n01, n02, n03, n10, n12, n13, n20, n21, n23, n30, n31, n32⟩ := off4 (k + 1) k hjp
          rw [rot_up d (by omega)] at hsw
          obtain ⟨q, hq⟩ : ∃ q, k + 1 = q := ⟨_, rfl⟩
          rw [hq] at hsw e0 e1 e2 e3 hjp n01 n02 n03 n10 n12 n13 n20 n21 n23 n30 n31 n32
          have HSW := hide hsw
          clear hsw
          have j3 : IntKind.i64.wrap ((k : Int) + 1) = (q : Int) := by rw [wrap_i64_id _ (by omega) (by omega)]; omega
          have j3' : (k : Int) + 1 = (q : Int) := by omega
          have j4 : (0 : Int) ≤ (k : Int) := by omega
          have j5 : (k : Int) < (n : Int) := by omega
          have j6 : (0 : Int) ≤ (q : Int) := by omega
          have j7 : (q : Int) < (n : Int) := by omega
          have HQ := hide hq
          clear hq
          go_wp2_with fail
          go_region
          go_wp2_with fail
          exact ⟨⟨k + 1, by omega, by omega, by have := unhide HQ; go_num, (unhide HSW).1.kp0 (Kp.refl [] _).drew, kp_g (unhide HKP) ((unhide HSW).2.drew)⟩, by have := unhide HQ; simp [intOf]; omega⟩
        · have i2 : ¬ (k : Int) < ((j - 1 : Nat) : Int) := by omega
          have i2' : ¬ (k : Int) < (j : Int) - 1 := by omega
          go_wp2_with fail
          go_end0
          obtain ⟨q1, q2⟩ := unhide HI
          rw [show k + 1 = j by omega] at q1
          have hm := unhide HM
          subst hm
          have hs := srt_first (key := key) (d := d) (a := a) (b := b) (i := j) (unhide HS2) ⟨hi, hj⟩ (unhide HV).1 (unhide HV).2
          exact ⟨rfl, _, q1, q2, hs.2, hs.1⟩
set_option maxHeartbeats 1000000 in
theorem sym2 {f : Nat} {key : Dx → Int} (hc : Cmp f key) (g n cap a m b : Nat) (d : Nat → Dx) (w : World) (h : DRow w g n d) (h1 : SrtOn key d a m) (h2 : SrtOn key d m b) (ham : a < m) (hmb : m < b) (hbn : b ≤ n) (hn : n ≤ 100000) (hm : b = m + 1) (hma : m ≠ a + 1) :
    Calls Try.prog 137 #[.slice (some ⟨g, 0, none⟩) n cap, .int .i64 a, .int .i64 m, .int .i64 b, .func (.func f) #[] #[]] w fun e w' => MgEnd key g n a b d w e w' := by
  have HC := hide hc
  have eg := hc.enters
  have HR0 := hide h
  have HS1 := hide h1
  have HS2 := hide h2
  clear h hc h1 h2
  have k1 : ((m : Int) - (a : Int) == 1) = false := beq_eq_false_iff_ne.2 (by omega)
  have k2 : (b : Int) - (m : Int) = 1 := by omega
  have HM := hide hm
  clear hm
  go_enter Try.func137, Try.ntmps137
  go_wp2_with fail
  go_loopw [14, 15, 16] (fun x y _ wr => ∃ i j : Nat, a ≤ i ∧ i ≤ j ∧ j ≤ m ∧ x = .int .i64 i ∧ y = .int .i64 j ∧ Hid ((∀ z, j ≤ z → z < m → key (d m) < key (d z)) ∧ (a < i → key (d (i - 1)) ≤ key (d m))) ∧ Hid (Kp [] w wr)) (fun x y _ _ => (intOf y).toNat - (intOf x).toNat)
  case atStart => exact ⟨a, m, Nat.le_refl _, by omega, Nat.le_refl _, rfl, rfl, ⟨fun z _ _ => by omega, fun q => by omega⟩, Kp.refl _ _⟩
  case round =>
    obtain ⟨i, j, hi, hij, hj, rfl, rfl, HV, HK⟩ := hrel
    by_cases hlt : i < j
    · have i1 : (i : Int) < (j : Int) := by omega
      obtain ⟨p, hp⟩ : ∃ p, (i + j) / 2 = p := ⟨_, rfl⟩
      have i2 : ((i : Int) + (j : Int)) / 2 = (p : Int) := by omega
      have i3 : (0 : Int) ≤ (p : Int) := by omega
      have i4 : (p : Int) < (n : Int) := by omega
      have i5 : (0 : Int) ≤ (m : Int) := by omega
      have i6 : (m : Int) < (n : Int) := by omega
      have i7 : i ≤ p := by omega
      have i8 : p < j := by omega
      clear hp
      have HR := hide ((unhide HR0).kp0 (unhide HK))
      have cX := (unhide HR).cells (i := m) (by omega)
      have cY := (unhide HR).cells (i := p) (by omega)
      obtain ⟨⟨⟨xn, xa, xm, xacts⟩, xp, xc⟩, hX⟩ : ∃ X, d m = X := ⟨_, rfl⟩
      obtain ⟨⟨⟨yn, ya, ym, yacts⟩, yp, yc⟩, hY⟩ : ∃ Y, d p = Y := ⟨_, rfl⟩
      rw [hX] at cX
      rw [hY] at cY
      have HX := hide hX
      have HY := hide hY
      clear hX hY
      obtain ⟨kx, hkx⟩ : ∃ k, key ⟨⟨xn, xa, xm, xacts⟩, xp, xc⟩ = k := ⟨_, rfl⟩
      obtain ⟨ky, hky⟩ : ∃ k, key ⟨⟨yn, ya, ym, yacts⟩, yp, yc⟩ = k := ⟨_, rfl⟩
      obtain ⟨lx, hlx⟩ : ∃ k, xacts.length = k := ⟨_, rfl⟩
      obtain ⟨ly, hly⟩ : ∃ k, yacts.length = k := ⟨_, rfl⟩
      have HCC : Hid (∀ W, Calls Try.prog f #[.agg #[.int .i64 xn, .int .i64 xa, .int .i64 xm, .slice xp lx xc], .agg #[.int .i64 yn, .int .i64 ya, .int .i64 ym, .slice yp ly yc]] W fun e w' => e = .returned (.int .i64 (cmpI kx ky)) ∧ Kp [] W w') := fun W => by
        have := (unhide HC).calls ⟨⟨xn, xa, xm, xacts⟩, xp, xc⟩ ⟨⟨yn, ya, ym, yacts⟩, yp, yc⟩ W
        rw [hkx, hky] at this
        dsimp only [dxv] at this
        rw [hlx, hly] at this
        exact this
      have HKX := hide hkx
      have HKY := hide hky
      clear hkx hky
      dsimp only at cX cY
      rw [hlx] at cX
      rw [hly] at cY
      have HLX := hide hlx
      have HLY := hide hly
      clear hlx hly
      have HS4 := hide (And.intro cX cY)
      clear cX cY
      go_wp2_with fail
      refine wp_region_held_drew (S := fun w' => (w'.cell? ⟨g, m * 4, none⟩ = some (.int .i64 xn) ∧ w'.cell? ⟨g, m * 4 + 1, none⟩ = some (.int .i64 xa) ∧ w'.cell? ⟨g, m * 4 + 1 + 1, none⟩ = some (.int .i64 xm) ∧ w'.cell? ⟨g, m * 4 + 1 + 1 + 1, none⟩ = some (.slice xp lx xc)) ∧ (w'.cell? ⟨g, p * 4, none⟩ = some (.int .i64 yn) ∧ w'.cell? ⟨g, p * 4 + 1, none⟩ = some (.int .i64 ya) ∧ w'.cell? ⟨g, p * 4 + 1 + 1, none⟩ = some (.int .i64 ym) ∧ w'.cell? ⟨g, p * 4 + 1 + 1 + 1, none⟩ = some (.slice yp ly yc))) (by kernel_rfl) (cells8_kp (unhide HS4) ((Kp.refl [] _).drew)) (fun hHeld => ?_)
      refine wpAnyH_tk (i := 0) (v := ?_) rfl (by kernel_rfl) (by kernel_rfl) (by kernel_rfl) (fun _ _ _ h => h) (Or.inl ⟨by rfl, ?_⟩) hHeld ?_
      rotate_left
      · intro w hSw
        try dsimp only at hSw
        go_simp
        try with_reducible rfl
      try simp only [Act.put, List.setIfInBounds_toArray, List.set_cons_zero, List.set_cons_succ]
      refine wpAnyH_tk (i := 1) (v := ?_) rfl (by kernel_rfl) (by kernel_rfl) (by kernel_rfl) (fun _ _ _ h => h) (Or.inl ⟨by rfl, ?_⟩) hHeld ?_
      rotate_left
      · intro w hSw
        try dsimp only at hSw
        go_simp
        try with_reducible rfl
      try simp only [Act.put, List.setIfInBounds_toArray, List.set_cons_zero, List.set_cons_succ]
      refine wpAnyH_tk (i := 2) (v := ?_) rfl (by kernel_rfl) (by kernel_rfl) (by kernel_rfl) (fun _ _ _ h => h) (Or.inl ⟨by rfl, ?_⟩) hHeld ?_
      rotate_left
      · intro w hSw
        try dsimp only at hSw
        go_simp
        try with_reducible rfl
      try simp only [Act.put, List.setIfInBounds_toArray, List.set_cons_zero, List.set_cons_succ]
      refine wpAnyH_tk (i := 3) (v := ?_) rfl (by kernel_rfl) (by kernel_rfl) (by kernel_rfl) (fun _ _ _ h => h) (Or.inl ⟨by rfl, ?_⟩) hHeld ?_
      rotate_left
      · intro w hSw
        try dsimp only at hSw
        go_simp
        try with_reducible rfl
      try simp only [Act.put, List.setIfInBounds_toArray, List.set_cons_zero, List.set_cons_succ]
      refine wpAnyH_tk (i := 4) (v := ?_) rfl (by kernel_rfl) (by kernel_rfl) (by kernel_rfl) (fun _ _ _ h => h) (Or.inl ⟨by rfl, ?_⟩) hHeld ?_
      rotate_left
      · intro w hSw
        try dsimp only at hSw
        go_simp
        try with_reducible rfl
      try simp only [Act.put, List.setIfInBounds_toArray, List.set_cons_zero, List.set_cons_succ]
      refine wpAnyH_tk (i := 5) (v := ?_) rfl (by kernel_rfl) (by kernel_rfl) (by kernel_rfl) (fun _ _ _ h => h) (Or.inl ⟨by rfl, ?_⟩) hHeld ?_
      rotate_left
      · intro w hSw
        try dsimp only at hSw
        go_simp
        try with_reducible rfl
      try simp only [Act.put, List.setIfInBounds_toArray, List.set_cons_zero, List.set_cons_succ]
      refine wpAnyH_tk (i := 6) (v := ?_) rfl (by kernel_rfl) (by kernel_rfl) (by kernel_rfl) (fun _ _ _ h => h) (Or.inl ⟨by rfl, ?_⟩) hHeld ?_
      rotate_left
      · intro w hSw
        try dsimp only at hSw
        go_simp
        try with_reducible rfl
      try simp only [Act.put, List.setIfInBounds_toArray, List.set_cons_zero, List.set_cons_succ]
      refine wpAnyH_tk (i := 7) (v := ?_) rfl (by kernel_rfl) (by kernel_rfl) (by kernel_rfl) (fun _ _ _ h => h) (Or.inl ⟨by rfl, ?_⟩) hHeld ?_
      rotate_left
      · intro w hSw
        try dsimp only at hSw
        go_simp
        try with_reducible rfl
      try simp only [Act.put, List.setIfInBounds_toArray, List.set_cons_zero, List.set_cons_succ]
      refine wpAnyH_tk (i := 8) (v := ?_) rfl (by kernel_rfl) (by kernel_rfl) (by kernel_rfl) (fun _ _ _ h => h) (Or.inl ⟨by rfl, ?_⟩) hHeld ?_
      rotate_left
      · intro w hSw
        try dsimp only at hSw
        go_simp
        try with_reducible rfl
      try simp only [Act.put, List.setIfInBounds_toArray, List.set_cons_zero, List.set_cons_succ]
      refine wpAnyH_only (i := 9) rfl (by kernel_rfl) (fun K hK => ?_)
      go_simp
      refine ((unhide HCC) _).mono ?_
      rintro e w' ⟨rfl, hkp⟩
      have HKP := hide hkp
      clear hkp
      go_wp2_with fail
      refine hK.out _ _ (cells8_kp (unhide HS4) (((Kp.refl [] _).drew).trans0 (unhide HKP))) (fun hHeld2 => ?_)
      clear hK K hHeld
      have hHeld := hHeld2
      clear hHeld2
      try simp only [Act.put, List.setIfInBounds_toArray, List.set_cons_zero, List.set_cons_succ]
      refine wpAnyH_tk (i := 10) (v := ?_) rfl (by kernel_rfl) (by kernel_rfl) (by kernel_rfl) (fun _ _ _ h => h) (Or.inl ⟨by rfl, ?_⟩) hHeld ?_
      rotate_left
      · intro w hSw
        try dsimp only at hSw
        go_simp
        try with_reducible rfl
      try simp only [Act.put, List.setIfInBounds_toArray, List.set_cons_zero, List.set_cons_succ]
      refine wpAnyH_tk (i := 11) (v := ?_) rfl (by kernel_rfl) (by kernel_rfl) (by kernel_rfl) (fun _ _ _ h => h) (Or.inl ⟨by rfl, ?_⟩) hHeld ?_
      rotate_left
      · intro w hSw
        try dsimp only at hSw
        go_simp
        try with_reducible rfl
      try simp only [Act.put, List.setIfInBounds_toArray, List.set_cons_zero, List.set_cons_succ]
      refine wpAnyH_done (by kernel_rfl) ?_ _
      have HW := hide ((unhide HK).trans0 ((Kp.refl [] wr).drew.trans0 (unhide HKP)))
      clear hHeld HR HKP HS4 HCC
      generalize w' = W at *
      by_cases hless : kx < ky
      · have i9 : cmpI kx ky < 0 := cmpI_neg.2 hless
        have i9a : decide (cmpI kx ky < 0) = true := decide_eq_true i9
        have i9b : (!decide (cmpI kx ky < 0)) = false := by rw [i9a]; rfl
        rw [i9b]
        go_wp2_with fail
        go_roundw
        case measure => simp [intOf]; omega
        case rel =>
          refine ⟨i, p, hi, by omega, by omega, rfl, rfl, ⟨fun z q1 q2 => ?_, (unhide HV).2⟩, unhide HW⟩
          have hz := unhide HS1 p z (by omega) q1 q2
          rw [unhide HY, unhide HKY] at hz
          rw [unhide HX, unhide HKX]
          omega
      · have i9 : ¬ cmpI kx ky < 0 := fun q => hless (cmpI_neg.1 q)
        have i9a : decide (cmpI kx ky < 0) = false := decide_eq_false i9
        have i9b : (!decide (cmpI kx ky < 0)) = true := by rw [i9a]; rfl
        rw [i9b]
        go_wp2_with fail
        go_roundw
        case measure => simp [intOf]; omega
        case rel =>
          refine ⟨p + 1, j, by omega, by omega, hj, by go_num, rfl, ⟨(unhide HV).1, fun _ => ?_⟩, unhide HW⟩
          rw [show p + 1 - 1 = p by omega, unhide HX, unhide HKX, unhide HY, unhide HKY]
          omega
    · have hji : j = i := by omega
      subst hji
      have i1 : ¬ (j : Int) < (j : Int) := by omega
      go_wp2_with fail
      have HRR := hide (show DRow wr g n (rot d m m (m + 1)) ∧ Kp [g] w wr from ⟨by rw [rot_down0]; exact (unhide HR0).kp0 (unhide HK), (unhide HK).mono (T := [g]) (by simp)⟩)
      clear HK
      generalize wr = w5 at *
      go_loopw [17] (fun x wr => ∃ k : Nat, j ≤ k ∧ k ≤ m ∧ x = .int .i64 k ∧ Hid (DRow wr g n (rot d k m (m + 1)) ∧ Kp [g] w wr)) (fun x _ => (intOf x).toNat)
      case atStart => exact ⟨m, by omega, Nat.le_refl _, rfl, HRR⟩
      case round =>
        obtain ⟨k, hk1, hk2, rfl, HI⟩ := hrel
        by_cases hlt2 : j < k
        · have i2 : (j : Int) < (k : Int) := by omega
          obtain ⟨q, hq⟩ : ∃ q, k = q + 1 := ⟨k - 1, by omega⟩
          have HQ := hide hq
          obtain ⟨hrow, hkp⟩ := unhide HI
          have hsw := hrow.swap2 (i := k) (j := q) (by omega) (by omega) (by omega)
          obtain ⟨c0, c1, c2, c3⟩ := hrow.cells (i := k) (by omega)
          obtain ⟨e0, e1, e2, e3⟩ := hrow.cells (i := q) (by omega)
          have hf := hrow.fz
          have HKP := hide hkp
          clear hkp hrow
          generalize hX : rot d k m (m + 1) k = X at *
          generalize hY : rot d k m (m + 1) q = Y at *
          clear hX hY
          obtain ⟨⟨xn, xa, xm, xacts⟩, xp, xc⟩ := X
          obtain ⟨⟨yn, ya, ym, yacts⟩, yp, yc⟩ := Y
          dsimp only [put4] at c0 c1 c2 c3 e0 e1 e2 e3 hsw
          generalize xacts.length = lx at *
          generalize yacts.length = ly at *
          have hjp : q ≠ k := by omega
          obtain ⟨n01, n02, n03, n10, n12, n13, n20, n21, n23, n30, n31, n32⟩ := off4 q k hjp
          have hrd := rot_down d (m := m) (k := q) (by omega)
          rw [← hq] at hrd
          rw [hrd] at hsw
          have HSW := hide hsw
          clear hsw hrd
          have j3 : IntKind.i64.wrap ((k : Int) - 1) = (q : Int) := by rw [wrap_i64_id _ (by omega) (by omega)]; omega
          have j3' : (k : Int) - 1 = (q : Int) := by omega
          have j4 : (0 : Int) ≤ (k : Int) := by omega
          have j5 : (k : Int) < (n : Int) := by omega
          have j6 : (0 : Int) ≤ (q : Int) := by omega
          have j7 : (q : Int) < (n : Int) := by omega
          clear hq
          go_wp2_with fail
          go_region
          go_wp2_with fail
          exact ⟨⟨q, by have := unhide HQ; omega, by have := unhide HQ; omega, by go_num, (unhide HSW).1.kp0 (Kp.refl [] _).drew, kp_g (unhide HKP) ((unhide HSW).2.drew)⟩, by have := unhide HQ; simp [intOf]; omega⟩
        · have i2 : ¬ (j : Int) < (k : Int) := by omega
          go_wp2_with fail
          go_end0
          obtain ⟨q1, q2⟩ := unhide HI
          rw [show k = j by omega] at q1
          have hm := unhide HM
          subst hm
          have hs := srt_ins (key := key) (d := d) (a := a) (i := m) (j := j) (unhide HS1) ⟨hi, hj⟩ (unhide HV).1 (unhide HV).2
          exact ⟨rfl, _, q1, q2, hs.2, hs.1⟩
end Go.Proofs.Ytapmlleemopcnac

/- The library's stable sort, by contracts: two sorted parts become one, whatever they are. -/
namespace Go.Proofs.Ytapmlleemopcnac
open Go.RowKit Srt
set_option maxRecDepth 20000
attribute [local go_sem ↓] Go.wp_at_zero Go.wp_at_succ

/-- What is so of two parts that were cut. -/
def Cutd (key : Dx → Int) (d e : Nat → Dx) (a s mid en b : Nat) : Prop := SrtOn key e a s ∧ SrtOn key e s mid ∧ SrtOn key e mid en ∧ SrtOn key e en b ∧ Stb key a b d e ∧ ∀ x y, a ≤ x → x < mid → mid ≤ y → y < b → key (e x) ≤ key (e y)
section
variable {key : Dx → Int} {d e g' f' : Nat → Dx} {a s mid en b : Nat}
theorem Cutd.fin (h : Cutd key d e a s mid en b) (ha : a ≤ mid) (hb : mid ≤ b) (h1 : Stb key a mid e g' ∧ SrtOn key g' a mid) (h2 : Stb key mid b g' f' ∧ SrtOn key f' mid b) : Stb key a b d f' ∧ SrtOn key f' a b :=
  ⟨(h.2.2.2.2.1.trans (h1.1.wide (Nat.le_refl _) ha hb)).trans (h2.1.wide ha hb (Nat.le_refl _)), srt_join ha hb h.2.2.2.2.2 h1.1 h2.1 h1.2 h2.2⟩
theorem Cutd.noL (h : Cutd key d e a s mid en b) (hs : a = s ∨ s = mid) : Stb key a mid e e ∧ SrtOn key e a mid := by
  refine ⟨Stb.refl _ _ _ _, ?_⟩
  rcases hs with q | q
  · rw [q]; exact h.2.1
  · rw [← q]; exact h.1
theorem Cutd.noR (h : Cutd key d e a s mid en b) (h1 : Stb key a mid e g' ∧ SrtOn key g' a mid) (hs : mid = en ∨ en = b) : Stb key mid b g' g' ∧ SrtOn key g' mid b := by
  refine ⟨Stb.refl _ _ _ _, ?_⟩
  have : SrtOn key e mid b := by
    rcases hs with q | q
    · rw [q]; exact h.2.2.2.1
    · rw [← q]; exact h.2.2.1
  exact this.congr (fun x q _ => h1.1.out x (by omega))
theorem Cutd.preR (h : Cutd key d e a s mid en b) (hme : mid ≤ en) (h1 : Stb key a mid e g' ∧ SrtOn key g' a mid) : SrtOn key g' mid en ∧ SrtOn key g' en b :=
  ⟨h.2.2.1.congr (fun x q _ => h1.1.out x (by omega)), h.2.2.2.1.congr (fun x q _ => h1.1.out x (by omega))⟩
end
set_option maxHeartbeats 1000000 in
theorem sym3 {f : Nat} {key : Dx → Int} (hc : Cmp f key) (g n cap a m b : Nat) (d : Nat → Dx) (w : World) (h : DRow w g n d) (h1 : SrtOn key d a m) (h2 : SrtOn key d m b) (ham : a < m) (hmb : m < b) (hbn : b ≤ n) (hn : n ≤ 100000) (hma : m ≠ a + 1) (hbm : b ≠ m + 1)
    (ih : ∀ (a' m' b' : Nat) (d' : Nat → Dx) (w' : World), b' - a' < b - a → DRow w' g n d' → SrtOn key d' a' m' → SrtOn key d' m' b' → a' < m' → m' < b' → b' ≤ n → Calls Try.prog 137 #[.slice (some ⟨g, 0, none⟩) n cap, .int .i64 a', .int .i64 m', .int .i64 b', .func (.func f) #[] #[]] w' fun e w'' => MgEnd key g n a' b' d' w' e w'') :
    Calls Try.prog 137 #[.slice (some ⟨g, 0, none⟩) n cap, .int .i64 a, .int .i64 m, .int .i64 b, .func (.func f) #[] #[]] w fun e w' => MgEnd key g n a b d w e w' := by
  have HC := hide hc
  have eg := hc.enters
  have HR0 := hide h
  have HS1 := hide h1
  have HS2 := hide h2
  clear h hc h1 h2
  have IH := hide ih
  clear ih
  have k1 : ((m : Int) - (a : Int) == 1) = false := beq_eq_false_iff_ne.2 (by omega)
  have k2 : ((b : Int) - (m : Int) == 1) = false := beq_eq_false_iff_ne.2 (by omega)
  obtain ⟨mid, hmid⟩ : ∃ mid, (a + b) / 2 = mid := ⟨_, rfl⟩
  have k3 : ((a : Int) + (b : Int)) / 2 = (mid : Int) := by omega
  have m1 : 2 * mid ≤ a + b := by omega
  have m2 : a + b ≤ 2 * mid + 1 := by omega
  clear hmid
  obtain ⟨q, hq⟩ : ∃ q, mid + m = q := ⟨_, rfl⟩
  have k4 : (mid : Int) + (m : Int) = (q : Int) := by omega
  obtain ⟨qp, hqp⟩ : ∃ qp, q - 1 = qp := ⟨_, rfl⟩
  have k5 : (q : Int) - 1 = (qp : Int) := by omega
  by_cases hM : mid < m
  · have k6 : (mid : Int) < (m : Int) := by omega
    obtain ⟨s0, hs0⟩ : ∃ s0, q - b = s0 := ⟨_, rfl⟩
    have k7 : (q : Int) - (b : Int) = (s0 : Int) := by omega
    go_enter Try.func137, Try.ntmps137
    go_wp2_with fail
    go_loopw [20, 21, 23] (fun x y _ wr => ∃ i j : Nat, s0 ≤ i ∧ i ≤ j ∧ j ≤ mid ∧ x = .int .i64 i ∧ y = .int .i64 j ∧ Hid ((j < mid → key (d (q - 1 - j)) < key (d j)) ∧ (s0 < i → key (d (i - 1)) ≤ key (d (q - i)))) ∧ Hid (Kp [] w wr)) (fun x y _ _ => (intOf y).toNat - (intOf x).toNat)
    case atStart => exact ⟨s0, mid, Nat.le_refl _, by omega, Nat.le_refl _, by first | rfl | go_num, by first | rfl | go_num, ⟨fun z => by omega, fun z => by omega⟩, Kp.refl _ _⟩
    case round =>
      obtain ⟨i, j, hi, hij, hj, rfl, rfl, HV, HK⟩ := hrel
      by_cases hlt : i < j
      · have i1 : (i : Int) < (j : Int) := by omega
        obtain ⟨c, hcc⟩ : ∃ c, (i + j) / 2 = c := ⟨_, rfl⟩
        have i2 : ((i : Int) + (j : Int)) / 2 = (c : Int) := by omega
        have i3 : (0 : Int) ≤ (c : Int) := by omega
        have i4 : (c : Int) < (n : Int) := by omega
        have i7 : i ≤ c := by omega
        have i8 : c < j := by omega
        clear hcc
        obtain ⟨pc, hpc⟩ : ∃ pc, q - 1 - c = pc := ⟨_, rfl⟩
        have i5 : (0 : Int) ≤ (pc : Int) := by omega
        have i6 : (pc : Int) < (n : Int) := by omega
        have j1 : IntKind.i64.wrap ((qp : Int) - (c : Int)) = (pc : Int) := by rw [wrap_i64_id _ (by omega) (by omega)]; omega
        have HPC := hide hpc
        clear hpc
        have HR := hide ((unhide HR0).kp0 (unhide HK))
        have cX := (unhide HR).cells (i := pc) (by omega)
        have cY := (unhide HR).cells (i := c) (by omega)
        obtain ⟨⟨⟨xn, xa, xm, xacts⟩, xp, xc⟩, hX⟩ : ∃ X, d pc = X := ⟨_, rfl⟩
        obtain ⟨⟨⟨yn, ya, ym, yacts⟩, yp, yc⟩, hY⟩ : ∃ Y, d c = Y := ⟨_, rfl⟩
        rw [hX] at cX
        rw [hY] at cY
        have HX := hide hX
        have HY := hide hY
        clear hX hY
        obtain ⟨kx, hkx⟩ : ∃ k, key ⟨⟨xn, xa, xm, xacts⟩, xp, xc⟩ = k := ⟨_, rfl⟩
        obtain ⟨ky, hky⟩ : ∃ k, key ⟨⟨yn, ya, ym, yacts⟩, yp, yc⟩ = k := ⟨_, rfl⟩
        obtain ⟨lx, hlx⟩ : ∃ k, xacts.length = k := ⟨_, rfl⟩
        obtain ⟨ly, hly⟩ : ∃ k, yacts.length = k := ⟨_, rfl⟩
        have HCC : Hid (∀ W, Calls Try.prog f #[.agg #[.int .i64 xn, .int .i64 xa, .int .i64 xm, .slice xp lx xc], .agg #[.int .i64 yn, .int .i64 ya, .int .i64 ym, .slice yp ly yc]] W fun e w' => e = .returned (.int .i64 (cmpI kx ky)) ∧ Kp [] W w') := fun W => by
          have := (unhide HC).calls ⟨⟨xn, xa, xm, xacts⟩, xp, xc⟩ ⟨⟨yn, ya, ym, yacts⟩, yp, yc⟩ W
          rw [hkx, hky] at this
          dsimp only [dxv] at this
          rw [hlx, hly] at this
          exact this
        have HKX := hide hkx
        have HKY := hide hky
        clear hkx hky
        dsimp only at cX cY
        rw [hlx] at cX
        rw [hly] at cY
        have HLX := hide hlx
        have HLY := hide hly
        clear hlx hly
        have HS4 := hide (And.intro cX cY)
        clear cX cY
        go_wp2_with fail
        refine wp_region_held_drew (S := fun w' => (w'.cell? ⟨g, pc * 4, none⟩ = some (.int .i64 xn) ∧ w'.cell? ⟨g, pc * 4 + 1, none⟩ = some (.int .i64 xa) ∧ w'.cell? ⟨g, pc * 4 + 1 + 1, none⟩ = some (.int .i64 xm) ∧ w'.cell? ⟨g, pc * 4 + 1 + 1 + 1, none⟩ = some (.slice xp lx xc)) ∧ (w'.cell? ⟨g, c * 4, none⟩ = some (.int .i64 yn) ∧ w'.cell? ⟨g, c * 4 + 1, none⟩ = some (.int .i64 ya) ∧ w'.cell? ⟨g, c * 4 + 1 + 1, none⟩ = some (.int .i64 ym) ∧ w'.cell? ⟨g, c * 4 + 1 + 1 + 1, none⟩ = some (.slice yp ly yc))) (by kernel_rfl) (cells8_kp (unhide HS4) ((Kp.refl [] _).drew)) (fun hHeld => ?_)
        refine wpAnyH_tk (i := 0) (v := ?_) rfl (by kernel_rfl) (by kernel_rfl) (by kernel_rfl) (fun _ _ _ h => h) (Or.inl ⟨by rfl, ?_⟩) hHeld ?_
        rotate_left
        · intro w hSw
          try dsimp only at hSw
          go_simp
          try with_reducible rfl
        try simp only [Act.put, List.setIfInBounds_toArray, List.set_cons_zero, List.set_cons_succ]
        refine wpAnyH_tk (i := 1) (v := ?_) rfl (by kernel_rfl) (by kernel_rfl) (by kernel_rfl) (fun _ _ _ h => h) (Or.inl ⟨by rfl, ?_⟩) hHeld ?_
        rotate_left
        · intro w hSw
          try dsimp only at hSw
          go_simp
          try with_reducible rfl
        try simp only [Act.put, List.setIfInBounds_toArray, List.set_cons_zero, List.set_cons_succ]
        refine wpAnyH_tk (i := 2) (v := ?_) rfl (by kernel_rfl) (by kernel_rfl) (by kernel_rfl) (fun _ _ _ h => h) (Or.inl ⟨by rfl, ?_⟩) hHeld ?_
        rotate_left
        · intro w hSw
          try dsimp only at hSw
          go_simp
          try with_reducible rfl
        try simp only [Act.put, List.setIfInBounds_toArray, List.set_cons_zero, List.set_cons_succ]
        refine wpAnyH_tk (i := 3) (v := ?_) rfl (by kernel_rfl) (by kernel_rfl) (by kernel_rfl) (fun _ _ _ h => h) (Or.inl ⟨by rfl, ?_⟩) hHeld ?_
        rotate_left
        · intro w hSw
          try dsimp only at hSw
          go_simp
          try with_reducible rfl
        try simp only [Act.put, List.setIfInBounds_toArray, List.set_cons_zero, List.set_cons_succ]
        refine wpAnyH_tk (i := 4) (v := ?_) rfl (by kernel_rfl) (by kernel_rfl) (by kernel_rfl) (fun _ _ _ h => h) (Or.inl ⟨by rfl, ?_⟩) hHeld ?_
        rotate_left
        · intro w hSw
          try dsimp only at hSw
          go_simp
          try with_reducible rfl
        try simp only [Act.put, List.setIfInBounds_toArray, List.set_cons_zero, List.set_cons_succ]
        refine wpAnyH_tk (i := 5) (v := ?_) rfl (by kernel_rfl) (by kernel_rfl) (by kernel_rfl) (fun _ _ _ h => h) (Or.inl ⟨by rfl, ?_⟩) hHeld ?_
        rotate_left
        · intro w hSw
          try dsimp only at hSw
          go_simp
          try with_reducible rfl
        try simp only [Act.put, List.setIfInBounds_toArray, List.set_cons_zero, List.set_cons_succ]
        refine wpAnyH_tk (i := 6) (v := ?_) rfl (by kernel_rfl) (by kernel_rfl) (by kernel_rfl) (fun _ _ _ h => h) (Or.inl ⟨by rfl, ?_⟩) hHeld ?_
        rotate_left
        · intro w hSw
          try dsimp only at hSw
          go_simp
          try with_reducible rfl
        try simp only [Act.put, List.setIfInBounds_toArray, List.set_cons_zero, List.set_cons_succ]
        refine wpAnyH_tk (i := 7) (v := ?_) rfl (by kernel_rfl) (by kernel_rfl) (by kernel_rfl) (fun _ _ _ h => h) (Or.inl ⟨by rfl, ?_⟩) hHeld ?_
        rotate_left
        · intro w hSw
          try dsimp only at hSw
          go_simp
          try with_reducible rfl
        try simp only [Act.put, List.setIfInBounds_toArray, List.set_cons_zero, List.set_cons_succ]
        refine wpAnyH_tk (i := 8) (v := ?_) rfl (by kernel_rfl) (by kernel_rfl) (by kernel_rfl) (fun _ _ _ h => h) (Or.inl ⟨by rfl, ?_⟩) hHeld ?_
        rotate_left
        · intro w hSw
          try dsimp only at hSw
          go_simp
          try with_reducible rfl
        try simp only [Act.put, List.setIfInBounds_toArray, List.set_cons_zero, List.set_cons_succ]
        refine wpAnyH_tk (i := 9) (v := ?_) rfl (by kernel_rfl) (by kernel_rfl) (by kernel_rfl) (fun _ _ _ h => h) (Or.inl ⟨by rfl, ?_⟩) hHeld ?_
        rotate_left
        · intro w hSw
          try dsimp only at hSw
          go_simp
          try with_reducible rfl
        try simp only [Act.put, List.setIfInBounds_toArray, List.set_cons_zero, List.set_cons_succ]
        refine wpAnyH_tk (i := 10) (v := ?_) rfl (by kernel_rfl) (by kernel_rfl) (by kernel_rfl) (fun _ _ _ h => h) (Or.inl ⟨by rfl, ?_⟩) hHeld ?_
        rotate_left
        · intro w hSw
          try dsimp only at hSw
          go_simp
          try with_reducible rfl
        try simp only [Act.put, List.setIfInBounds_toArray, List.set_cons_zero, List.set_cons_succ]
        refine wpAnyH_only (i := 11) rfl (by kernel_rfl) (fun K hK => ?_)
        go_simp
        refine ((unhide HCC) _).mono ?_
        rintro e w' ⟨rfl, hkp⟩
        have HKP := hide hkp
        clear hkp
        go_wp2_with fail
        refine hK.out _ _ (cells8_kp (unhide HS4) (((Kp.refl [] _).drew).trans0 (unhide HKP))) (fun hHeld2 => ?_)
        clear hK K hHeld
        have hHeld := hHeld2
        clear hHeld2
        try simp only [Act.put, List.setIfInBounds_toArray, List.set_cons_zero, List.set_cons_succ]
        refine wpAnyH_tk (i := 12) (v := ?_) rfl (by kernel_rfl) (by kernel_rfl) (by kernel_rfl) (fun _ _ _ h => h) (Or.inl ⟨by rfl, ?_⟩) hHeld ?_
        rotate_left
        · intro w hSw
          try dsimp only at hSw
          go_simp
          try with_reducible rfl
        try simp only [Act.put, List.setIfInBounds_toArray, List.set_cons_zero, List.set_cons_succ]
        refine wpAnyH_tk (i := 13) (v := ?_) rfl (by kernel_rfl) (by kernel_rfl) (by kernel_rfl) (fun _ _ _ h => h) (Or.inl ⟨by rfl, ?_⟩) hHeld ?_
        rotate_left
        · intro w hSw
          try dsimp only at hSw
          go_simp
          try with_reducible rfl
        try simp only [Act.put, List.setIfInBounds_toArray, List.set_cons_zero, List.set_cons_succ]
        refine wpAnyH_done (by kernel_rfl) ?_ _
        have HW := hide ((unhide HK).trans0 ((Kp.refl [] wr).drew.trans0 (unhide HKP)))
        clear hHeld HR HKP HS4 HCC
        generalize w' = W at *
        by_cases hless : kx < ky
        · have i9 : cmpI kx ky < 0 := cmpI_neg.2 hless
          have i9a : decide (cmpI kx ky < 0) = true := decide_eq_true i9
          have i9b : (!decide (cmpI kx ky < 0)) = false := by rw [i9a]; rfl
          rw [i9b]
          go_wp2_with fail
          go_roundw
          case measure => simp [intOf]; omega
          case rel =>
            refine ⟨i, c, hi, by omega, by omega, rfl, rfl, ⟨fun _ => ?_, (unhide HV).2⟩, unhide HW⟩
            rw [unhide HPC, unhide HX, unhide HKX, unhide HY, unhide HKY]
            exact hless
        · have i9 : ¬ cmpI kx ky < 0 := fun q => hless (cmpI_neg.1 q)
          have i9a : decide (cmpI kx ky < 0) = false := decide_eq_false i9
          have i9b : (!decide (cmpI kx ky < 0)) = true := by rw [i9a]; rfl
          rw [i9b]
          go_wp2_with fail
          go_roundw
          case measure => simp [intOf]; omega
          case rel =>
            refine ⟨c + 1, j, by omega, by omega, hj, by go_num, rfl, ⟨(unhide HV).1, fun _ => ?_⟩, unhide HW⟩
            rw [show c + 1 - 1 = c by omega, show q - (c + 1) = q - 1 - c by omega, unhide HPC, unhide HX, unhide HKX, unhide HY, unhide HKY]
            omega
      · have hji : j = i := by omega
        subst hji
        have i1 : ¬ (j : Int) < (j : Int) := by omega
        obtain ⟨en, hen⟩ : ∃ en, q - j = en := ⟨_, rfl⟩
        have HCUT := hide (show Cutd key d (rot d j m en) a j mid en b from srt_cut (by omega) (by omega) (by omega) (by omega) (by omega) (unhide HS1) (unhide HS2) (fun z1 z2 => by have z := (unhide HV).1 (by omega); rw [show q - 1 - j = en - 1 by omega] at z; exact z) (fun z1 z2 => by have z := (unhide HV).2 (by omega); rw [show q - j = en by omega] at z; exact z))
        have HR := hide ((unhide HR0).kp0 (unhide HK))
        have HKg := hide ((unhide HK).mono (T := [g]) (by simp))
        clear HK HV HR0 HS1 HS2
        have HK := HKg
        clear HKg
        have j2 : (q : Int) - (j : Int) = (en : Int) := by omega
        have e1 : j ≤ mid := by omega
        have e2 : mid + m = j + en := by omega
        clear hen
        generalize j = s at *
        by_cases c1 : s < mid
        · by_cases c2 : a < s
          · by_cases c3 : en < b
            · skip
              have fsm : (s : Int) < (m : Int) := by omega
              have fme : (m : Int) < (en : Int) := by omega
              have fas : (a : Int) < (s : Int) := by omega
              have fsd : (s : Int) < (mid : Int) := by omega
              have fde : (mid : Int) < (en : Int) := by omega
              have feb : (en : Int) < (b : Int) := by omega
              have HC1 := hide (rotate f g n cap s m en d wr (unhide HR) (by omega) (by omega) (by omega) hn)
              clear HR
              go_wp2_with fail
              refine (unhide HC1).mono ?_
              rintro e w2 ⟨rfl, r1, r2⟩
              have HE := hide r1
              have HK2 := hide (kp_g (unhide HK) r2)
              clear r1 r2 HK
              have HC2 := hide ((unhide IH) a s mid (rot d s m en) w2 (by omega) (unhide HE) (unhide HCUT).1 (unhide HCUT).2.1 (by omega) (by omega) (by omega))
              go_wp2_with fail
              refine (unhide HC2).mono ?_
              rintro e w3 ⟨rfl, g', r1, r2, r3, r4⟩
              have HE3 := hide r1
              have HK3 := hide (kp_g (unhide HK2) r2)
              have HL := hide (And.intro r3 r4)
              clear r1 r2 r3 r4 HE HK2
              have HPR := hide ((unhide HCUT).preR (by omega) (unhide HL))
              have HC3 := hide ((unhide IH) mid en b g' w3 (by omega) (unhide HE3) (unhide HPR).1 (unhide HPR).2 (by omega) (by omega) (by omega))
              go_wp2_with fail
              refine (unhide HC3).mono ?_
              rintro e w4 ⟨rfl, f', r1, r2, r3, r4⟩
              have HE4 := hide r1
              have HK4 := hide (kp_g (unhide HK3) r2)
              have HRR := hide (And.intro r3 r4)
              clear r1 r2 r3 r4
              go_wp2_with fail
              go_end0
              exact ⟨rfl, _, unhide HE4, unhide HK4, (unhide HCUT).fin (by omega) (by omega) (unhide HL) (unhide HRR)⟩
            · skip
              have fsm : (s : Int) < (m : Int) := by omega
              have fme : (m : Int) < (en : Int) := by omega
              have fas : (a : Int) < (s : Int) := by omega
              have fsd : (s : Int) < (mid : Int) := by omega
              have fde : (mid : Int) < (en : Int) := by omega
              have feb : ¬ (en : Int) < (b : Int) := by omega
              have HC1 := hide (rotate f g n cap s m en d wr (unhide HR) (by omega) (by omega) (by omega) hn)
              clear HR
              go_wp2_with fail
              refine (unhide HC1).mono ?_
              rintro e w2 ⟨rfl, r1, r2⟩
              have HE := hide r1
              have HK2 := hide (kp_g (unhide HK) r2)
              clear r1 r2 HK
              have HC2 := hide ((unhide IH) a s mid (rot d s m en) w2 (by omega) (unhide HE) (unhide HCUT).1 (unhide HCUT).2.1 (by omega) (by omega) (by omega))
              go_wp2_with fail
              refine (unhide HC2).mono ?_
              rintro e w3 ⟨rfl, g', r1, r2, r3, r4⟩
              have HE3 := hide r1
              have HK3 := hide (kp_g (unhide HK2) r2)
              have HL := hide (And.intro r3 r4)
              clear r1 r2 r3 r4 HE HK2
              have HRR := hide ((unhide HCUT).noR (unhide HL) (by omega))
              go_wp2_with fail
              go_end0
              exact ⟨rfl, _, unhide HE3, unhide HK3, (unhide HCUT).fin (by omega) (by omega) (unhide HL) (unhide HRR)⟩
          · by_cases c3 : en < b
            · skip
              have fsm : (s : Int) < (m : Int) := by omega
              have fme : (m : Int) < (en : Int) := by omega
              have fas : ¬ (a : Int) < (s : Int) := by omega
              have fsd : (s : Int) < (mid : Int) := by omega
              have fde : (mid : Int) < (en : Int) := by omega
              have feb : (en : Int) < (b : Int) := by omega
              have HC1 := hide (rotate f g n cap s m en d wr (unhide HR) (by omega) (by omega) (by omega) hn)
              clear HR
              go_wp2_with fail
              refine (unhide HC1).mono ?_
              rintro e w2 ⟨rfl, r1, r2⟩
              have HE := hide r1
              have HK2 := hide (kp_g (unhide HK) r2)
              clear r1 r2 HK
              have HL := hide ((unhide HCUT).noL (by omega))
              have HPR := hide ((unhide HCUT).preR (by omega) (unhide HL))
              have HC3 := hide ((unhide IH) mid en b (rot d s m en) w2 (by omega) (unhide HE) (unhide HPR).1 (unhide HPR).2 (by omega) (by omega) (by omega))
              go_wp2_with fail
              refine (unhide HC3).mono ?_
              rintro e w4 ⟨rfl, f', r1, r2, r3, r4⟩
              have HE4 := hide r1
              have HK4 := hide (kp_g (unhide HK2) r2)
              have HRR := hide (And.intro r3 r4)
              clear r1 r2 r3 r4
              go_wp2_with fail
              go_end0
              exact ⟨rfl, _, unhide HE4, unhide HK4, (unhide HCUT).fin (by omega) (by omega) (unhide HL) (unhide HRR)⟩
            · skip
              have fsm : (s : Int) < (m : Int) := by omega
              have fme : (m : Int) < (en : Int) := by omega
              have fas : ¬ (a : Int) < (s : Int) := by omega
              have fsd : (s : Int) < (mid : Int) := by omega
              have fde : (mid : Int) < (en : Int) := by omega
              have feb : ¬ (en : Int) < (b : Int) := by omega
              have HC1 := hide (rotate f g n cap s m en d wr (unhide HR) (by omega) (by omega) (by omega) hn)
              clear HR
              go_wp2_with fail
              refine (unhide HC1).mono ?_
              rintro e w2 ⟨rfl, r1, r2⟩
              have HE := hide r1
              have HK2 := hide (kp_g (unhide HK) r2)
              clear r1 r2 HK
              have HL := hide ((unhide HCUT).noL (by omega))
              have HRR := hide ((unhide HCUT).noR (unhide HL) (by omega))
              go_wp2_with fail
              go_end0
              exact ⟨rfl, _, unhide HE, unhide HK2, (unhide HCUT).fin (by omega) (by omega) (unhide HL) (unhide HRR)⟩
        · skip
          have fsm : (s : Int) < (m : Int) := by omega
          have fme : ¬ (m : Int) < (en : Int) := by omega
          have fas : (a : Int) < (s : Int) := by omega
          have fsd : ¬ (s : Int) < (mid : Int) := by omega
          have fde : (mid : Int) < (en : Int) := by omega
          have feb : (en : Int) < (b : Int) := by omega
          have HE := hide (show DRow wr g n (rot d s m en) from by first | (rw [show s = m by omega, rot_id1]; exact unhide HR) | (rw [show en = m by omega, rot_id2]; exact unhide HR))
          clear HR
          have HL := hide ((unhide HCUT).noL (by omega))
          have HPR := hide ((unhide HCUT).preR (by omega) (unhide HL))
          have HC3 := hide ((unhide IH) mid en b (rot d s m en) wr (by omega) (unhide HE) (unhide HPR).1 (unhide HPR).2 (by omega) (by omega) (by omega))
          go_wp2_with fail
          refine (unhide HC3).mono ?_
          rintro e w4 ⟨rfl, f', r1, r2, r3, r4⟩
          have HE4 := hide r1
          have HK4 := hide (kp_g (unhide HK) r2)
          have HRR := hide (And.intro r3 r4)
          clear r1 r2 r3 r4
          go_wp2_with fail
          go_end0
          exact ⟨rfl, _, unhide HE4, unhide HK4, (unhide HCUT).fin (by omega) (by omega) (unhide HL) (unhide HRR)⟩
  · have k6 : ¬ (mid : Int) < (m : Int) := by omega
    go_enter Try.func137, Try.ntmps137
    go_wp2_with fail
    go_loopw [20, 21, 23] (fun x y _ wr => ∃ i j : Nat, a ≤ i ∧ i ≤ j ∧ j ≤ m ∧ x = .int .i64 i ∧ y = .int .i64 j ∧ Hid ((j < m → key (d (q - 1 - j)) < key (d j)) ∧ (a < i → key (d (i - 1)) ≤ key (d (q - i)))) ∧ Hid (Kp [] w wr)) (fun x y _ _ => (intOf y).toNat - (intOf x).toNat)
    case atStart => exact ⟨a, m, Nat.le_refl _, by omega, Nat.le_refl _, by first | rfl | go_num, by first | rfl | go_num, ⟨fun z => by omega, fun z => by omega⟩, Kp.refl _ _⟩
    case round =>
      obtain ⟨i, j, hi, hij, hj, rfl, rfl, HV, HK⟩ := hrel
      by_cases hlt : i < j
      · have i1 : (i : Int) < (j : Int) := by omega
        obtain ⟨c, hcc⟩ : ∃ c, (i + j) / 2 = c := ⟨_, rfl⟩
        have i2 : ((i : Int) + (j : Int)) / 2 = (c : Int) := by omega
        have i3 : (0 : Int) ≤ (c : Int) := by omega
        have i4 : (c : Int) < (n : Int) := by omega
        have i7 : i ≤ c := by omega
        have i8 : c < j := by omega
        clear hcc
        obtain ⟨pc, hpc⟩ : ∃ pc, q - 1 - c = pc := ⟨_, rfl⟩
        have i5 : (0 : Int) ≤ (pc : Int) := by omega
        have i6 : (pc : Int) < (n : Int) := by omega
        have j1 : IntKind.i64.wrap ((qp : Int) - (c : Int)) = (pc : Int) := by rw [wrap_i64_id _ (by omega) (by omega)]; omega
        have HPC := hide hpc
        clear hpc
        have HR := hide ((unhide HR0).kp0 (unhide HK))
        have cX := (unhide HR).cells (i := pc) (by omega)
        have cY := (unhide HR).cells (i := c) (by omega)
        obtain ⟨⟨⟨xn, xa, xm, xacts⟩, xp, xc⟩, hX⟩ : ∃ X, d pc = X := ⟨_, rfl⟩
        obtain ⟨⟨⟨yn, ya, ym, yacts⟩, yp, yc⟩, hY⟩ : ∃ Y, d c = Y := ⟨_, rfl⟩
        rw [hX] at cX
        rw [hY] at cY
        have HX := hide hX
        have HY := hide hY
        clear hX hY
        obtain ⟨kx, hkx⟩ : ∃ k, key ⟨⟨xn, xa, xm, xacts⟩, xp, xc⟩ = k := ⟨_, rfl⟩
        obtain ⟨ky, hky⟩ : ∃ k, key ⟨⟨yn, ya, ym, yacts⟩, yp, yc⟩ = k := ⟨_, rfl⟩
        obtain ⟨lx, hlx⟩ : ∃ k, xacts.length = k := ⟨_, rfl⟩
        obtain ⟨ly, hly⟩ : ∃ k, yacts.length = k := ⟨_, rfl⟩
        have HCC : Hid (∀ W, Calls Try.prog f #[.agg #[.int .i64 xn, .int .i64 xa, .int .i64 xm, .slice xp lx xc], .agg #[.int .i64 yn, .int .i64 ya, .int .i64 ym, .slice yp ly yc]] W fun e w' => e = .returned (.int .i64 (cmpI kx ky)) ∧ Kp [] W w') := fun W => by
          have := (unhide HC).calls ⟨⟨xn, xa, xm, xacts⟩, xp, xc⟩ ⟨⟨yn, ya, ym, yacts⟩, yp, yc⟩ W
          rw [hkx, hky] at this
          dsimp only [dxv] at this
          rw [hlx, hly] at this
          exact this
        have HKX := hide hkx
        have HKY := hide hky
        clear hkx hky
        dsimp only at cX cY
        rw [hlx] at cX
        rw [hly] at cY
        have HLX := hide hlx
        have HLY := hide hly
        clear hlx hly
        have HS4 := hide (And.intro cX cY)
        clear cX cY
        go_wp2_with fail
        refine wp_region_held_drew (S := fun w' => (w'.cell? ⟨g, pc * 4, none⟩ = some (.int .i64 xn) ∧ w'.cell? ⟨g, pc * 4 + 1, none⟩ = some (.int .i64 xa) ∧ w'.cell? ⟨g, pc * 4 + 1 + 1, none⟩ = some (.int .i64 xm) ∧ w'.cell? ⟨g, pc * 4 + 1 + 1 + 1, none⟩ = some (.slice xp lx xc)) ∧ (w'.cell? ⟨g, c * 4, none⟩ = some (.int .i64 yn) ∧ w'.cell? ⟨g, c * 4 + 1, none⟩ = some (.int .i64 ya) ∧ w'.cell? ⟨g, c * 4 + 1 + 1, none⟩ = some (.int .i64 ym) ∧ w'.cell? ⟨g, c * 4 + 1 + 1 + 1, none⟩ = some (.slice yp ly yc))) (by kernel_rfl) (cells8_kp (unhide HS4) ((Kp.refl [] _).drew)) (fun hHeld => ?_)
        refine wpAnyH_tk (i := 0) (v := ?_) rfl (by kernel_rfl) (by kernel_rfl) (by kernel_rfl) (fun _ _ _ h => h) (Or.inl ⟨by rfl, ?_⟩) hHeld ?_
        rotate_left
        · intro w hSw
          try dsimp only at hSw
          go_simp
          try with_reducible rfl
        try simp only [Act.put, List.setIfInBounds_toArray, List.set_cons_zero, List.set_cons_succ]
        refine wpAnyH_tk (i := 1) (v := ?_) rfl (by kernel_rfl) (by kernel_rfl) (by kernel_rfl) (fun _ _ _ h => h) (Or.inl ⟨by rfl, ?_⟩) hHeld ?_
        rotate_left
        · intro w hSw
          try dsimp only at hSw
          go_simp
          try with_reducible rfl
        try simp only [Act.put, List.setIfInBounds_toArray, List.set_cons_zero, List.set_cons_succ]
        refine wpAnyH_tk (i := 2) (v := ?_) rfl (by kernel_rfl) (by kernel_rfl) (by kernel_rfl) (fun _ _ _ h => h) (Or.inl ⟨by rfl, ?_⟩) hHeld ?_
        rotate_left
        · intro w hSw
          try dsimp only at hSw
          go_simp
          try with_reducible rfl
        try simp only [Act.put, List.setIfInBounds_toArray, List.set_cons_zero, List.set_cons_succ]
        refine wpAnyH_tk (i := 3) (v := ?_) rfl (by kernel_rfl) (by kernel_rfl) (by kernel_rfl) (fun _ _ _ h => h) (Or.inl ⟨by rfl, ?_⟩) hHeld ?_
        rotate_left
        · intro w hSw
          try dsimp only at hSw
          go_simp
          try with_reducible rfl
        try simp only [Act.put, List.setIfInBounds_toArray, List.set_cons_zero, List.set_cons_succ]
        refine wpAnyH_tk (i := 4) (v := ?_) rfl (by kernel_rfl) (by kernel_rfl) (by kernel_rfl) (fun _ _ _ h => h) (Or.inl ⟨by rfl, ?_⟩) hHeld ?_
        rotate_left
        · intro w hSw
          try dsimp only at hSw
          go_simp
          try with_reducible rfl
        try simp only [Act.put, List.setIfInBounds_toArray, List.set_cons_zero, List.set_cons_succ]
        refine wpAnyH_tk (i := 5) (v := ?_) rfl (by kernel_rfl) (by kernel_rfl) (by kernel_rfl) (fun _ _ _ h => h) (Or.inl ⟨by rfl, ?_⟩) hHeld ?_
        rotate_left
        · intro w hSw
          try dsimp only at hSw
          go_simp
          try with_reducible rfl
        try simp only [Act.put, List.setIfInBounds_toArray, List.set_cons_zero, List.set_cons_succ]
        refine wpAnyH_tk (i := 6) (v := ?_) rfl (by kernel_rfl) (by kernel_rfl) (by kernel_rfl) (fun _ _ _ h => h) (Or.inl ⟨by rfl, ?_⟩) hHeld ?_
        rotate_left
        · intro w hSw
          try dsimp only at hSw
          go_simp
          try with_reducible rfl
        try simp only [Act.put, List.setIfInBounds_toArray, List.set_cons_zero, List.set_cons_succ]
        refine wpAnyH_tk (i := 7) (v := ?_) rfl (by kernel_rfl) (by kernel_rfl) (by kernel_rfl) (fun _ _ _ h => h) (Or.inl ⟨by rfl, ?_⟩) hHeld ?_
        rotate_left
        · intro w hSw
          try dsimp only at hSw
          go_simp
          try with_reducible rfl
        try simp only [Act.put, List.setIfInBounds_toArray, List.set_cons_zero, List.set_cons_succ]
        refine wpAnyH_tk (i := 8) (v := ?_) rfl (by kernel_rfl) (by kernel_rfl) (by kernel_rfl) (fun _ _ _ h => h) (Or.inl ⟨by rfl, ?_⟩) hHeld ?_
        rotate_left
        · intro w hSw
          try dsimp only at hSw
          go_simp
          try with_reducible rfl
        try simp only [Act.put, List.setIfInBounds_toArray, List.set_cons_zero, List.set_cons_succ]
        refine wpAnyH_tk (i := 9) (v := ?_) rfl (by kernel_rfl) (by kernel_rfl) (by kernel_rfl) (fun _ _ _ h => h) (Or.inl ⟨by rfl, ?_⟩) hHeld ?_
        rotate_left
        · intro w hSw
          try dsimp only at hSw
          go_simp
          try with_reducible rfl
        try simp only [Act.put, List.setIfInBounds_toArray, List.set_cons_zero, List.set_cons_succ]
        refine wpAnyH_tk (i := 10) (v := ?_) rfl (by kernel_rfl) (by kernel_rfl) (by kernel_rfl) (fun _ _ _ h => h) (Or.inl ⟨by rfl, ?_⟩) hHeld ?_
        rotate_left
        · intro w hSw
          try dsimp only at hSw
          go_simp
          try with_reducible rfl
        try simp only [Act.put, List.setIfInBounds_toArray, List.set_cons_zero, List.set_cons_succ]
        refine wpAnyH_only (i := 11) rfl (by kernel_rfl) (fun K hK => ?_)
        go_simp
        refine ((unhide HCC) _).mono ?_
        rintro e w' ⟨rfl, hkp⟩
        have HKP := hide hkp
        clear hkp
        go_wp2_with fail
        refine hK.out _ _ (cells8_kp (unhide HS4) (((Kp.refl [] _).drew).trans0 (unhide HKP))) (fun hHeld2 => ?_)
        clear hK K hHeld
        have hHeld := hHeld2
        clear hHeld2
        try simp only [Act.put, List.setIfInBounds_toArray, List.set_cons_zero, List.set_cons_succ]
        refine wpAnyH_tk (i := 12) (v := ?_) rfl (by kernel_rfl) (by kernel_rfl) (by kernel_rfl) (fun _ _ _ h => h) (Or.inl ⟨by rfl, ?_⟩) hHeld ?_
        rotate_left
        · intro w hSw
          try dsimp only at hSw
          go_simp
          try with_reducible rfl
        try simp only [Act.put, List.setIfInBounds_toArray, List.set_cons_zero, List.set_cons_succ]
        refine wpAnyH_tk (i := 13) (v := ?_) rfl (by kernel_rfl) (by kernel_rfl) (by kernel_rfl) (fun _ _ _ h => h) (Or.inl ⟨by rfl, ?_⟩) hHeld ?_
        rotate_left
        · intro w hSw
          try dsimp only at hSw
          go_simp
          try with_reducible rfl
        try simp only [Act.put, List.setIfInBounds_toArray, List.set_cons_zero, List.set_cons_succ]
        refine wpAnyH_done (by kernel_rfl) ?_ _
        have HW := hide ((unhide HK).trans0 ((Kp.refl [] wr).drew.trans0 (unhide HKP)))
        clear hHeld HR HKP HS4 HCC
        generalize w' = W at *
        by_cases hless : kx < ky
        · have i9 : cmpI kx ky < 0 := cmpI_neg.2 hless
          have i9a : decide (cmpI kx ky < 0) = true := decide_eq_true i9
          have i9b : (!decide (cmpI kx ky < 0)) = false := by rw [i9a]; rfl
          rw [i9b]
          go_wp2_with fail
          go_roundw
          case measure => simp [intOf]; omega
          case rel =>
            refine ⟨i, c, hi, by omega, by omega, rfl, rfl, ⟨fun _ => ?_, (unhide HV).2⟩, unhide HW⟩
            rw [unhide HPC, unhide HX, unhide HKX, unhide HY, unhide HKY]
            exact hless
        · have i9 : ¬ cmpI kx ky < 0 := fun q => hless (cmpI_neg.1 q)
          have i9a : decide (cmpI kx ky < 0) = false := decide_eq_false i9
          have i9b : (!decide (cmpI kx ky < 0)) = true := by rw [i9a]; rfl
          rw [i9b]
          go_wp2_with fail
          go_roundw
          case measure => simp [intOf]; omega
          case rel =>
            refine ⟨c + 1, j, by omega, by omega, hj, by go_num, rfl, ⟨(unhide HV).1, fun _ => ?_⟩, unhide HW⟩
            rw [show c + 1 - 1 = c by omega, show q - (c + 1) = q - 1 - c by omega, unhide HPC, unhide HX, unhide HKX, unhide HY, unhide HKY]
            omega
      · have hji : j = i := by omega
        subst hji
        have i1 : ¬ (j : Int) < (j : Int) := by omega
        obtain ⟨en, hen⟩ : ∃ en, q - j = en := ⟨_, rfl⟩
        have HCUT := hide (show Cutd key d (rot d j m en) a j mid en b from srt_cut (by omega) (by omega) (by omega) (by omega) (by omega) (unhide HS1) (unhide HS2) (fun z1 z2 => by have z := (unhide HV).1 (by omega); rw [show q - 1 - j = en - 1 by omega] at z; exact z) (fun z1 z2 => by have z := (unhide HV).2 (by omega); rw [show q - j = en by omega] at z; exact z))
        have HR := hide ((unhide HR0).kp0 (unhide HK))
        have HKg := hide ((unhide HK).mono (T := [g]) (by simp))
        clear HK HV HR0 HS1 HS2
        have HK := HKg
        clear HKg
        have j2 : (q : Int) - (j : Int) = (en : Int) := by omega
        have e1 : j ≤ mid := by omega
        have e2 : mid + m = j + en := by omega
        clear hen
        generalize j = s at *
        by_cases c1 : s < m
        · by_cases c2 : a < s
          · by_cases c3 : en < b
            · skip
              have fsm : (s : Int) < (m : Int) := by omega
              have fme : (m : Int) < (en : Int) := by omega
              have fas : (a : Int) < (s : Int) := by omega
              have fsd : (s : Int) < (mid : Int) := by omega
              have fde : (mid : Int) < (en : Int) := by omega
              have feb : (en : Int) < (b : Int) := by omega
              have HC1 := hide (rotate f g n cap s m en d wr (unhide HR) (by omega) (by omega) (by omega) hn)
              clear HR
              go_wp2_with fail
              refine (unhide HC1).mono ?_
              rintro e w2 ⟨rfl, r1, r2⟩
              have HE := hide r1
              have HK2 := hide (kp_g (unhide HK) r2)
              clear r1 r2 HK
              have HC2 := hide ((unhide IH) a s mid (rot d s m en) w2 (by omega) (unhide HE) (unhide HCUT).1 (unhide HCUT).2.1 (by omega) (by omega) (by omega))
              go_wp2_with fail
              refine (unhide HC2).mono ?_
              rintro e w3 ⟨rfl, g', r1, r2, r3, r4⟩
              have HE3 := hide r1
              have HK3 := hide (kp_g (unhide HK2) r2)
              have HL := hide (And.intro r3 r4)
              clear r1 r2 r3 r4 HE HK2
              have HPR := hide ((unhide HCUT).preR (by omega) (unhide HL))
              have HC3 := hide ((unhide IH) mid en b g' w3 (by omega) (unhide HE3) (unhide HPR).1 (unhide HPR).2 (by omega) (by omega) (by omega))
              go_wp2_with fail
              refine (unhide HC3).mono ?_
              rintro e w4 ⟨rfl, f', r1, r2, r3, r4⟩
              have HE4 := hide r1
              have HK4 := hide (kp_g (unhide HK3) r2)
              have HRR := hide (And.intro r3 r4)
              clear r1 r2 r3 r4
              go_wp2_with fail
              go_end0
              exact ⟨rfl, _, unhide HE4, unhide HK4, (unhide HCUT).fin (by omega) (by omega) (unhide HL) (unhide HRR)⟩
            · skip
              have fsm : (s : Int) < (m : Int) := by omega
              have fme : (m : Int) < (en : Int) := by omega
              have fas : (a : Int) < (s : Int) := by omega
              have fsd : (s : Int) < (mid : Int) := by omega
              have fde : (mid : Int) < (en : Int) := by omega
              have feb : ¬ (en : Int) < (b : Int) := by omega
              have HC1 := hide (rotate f g n cap s m en d wr (unhide HR) (by omega) (by omega) (by omega) hn)
              clear HR
              go_wp2_with fail
              refine (unhide HC1).mono ?_
              rintro e w2 ⟨rfl, r1, r2⟩
              have HE := hide r1
              have HK2 := hide (kp_g (unhide HK) r2)
              clear r1 r2 HK
              have HC2 := hide ((unhide IH) a s mid (rot d s m en) w2 (by omega) (unhide HE) (unhide HCUT).1 (unhide HCUT).2.1 (by omega) (by omega) (by omega))
              go_wp2_with fail
              refine (unhide HC2).mono ?_
              rintro e w3 ⟨rfl, g', r1, r2, r3, r4⟩
              have HE3 := hide r1
              have HK3 := hide (kp_g (unhide HK2) r2)
              have HL := hide (And.intro r3 r4)
              clear r1 r2 r3 r4 HE HK2
              have HRR := hide ((unhide HCUT).noR (unhide HL) (by omega))
              go_wp2_with fail
              go_end0
              exact ⟨rfl, _, unhide HE3, unhide HK3, (unhide HCUT).fin (by omega) (by omega) (unhide HL) (unhide HRR)⟩
          · by_cases c3 : en < b
            · skip
              have fsm : (s : Int) < (m : Int) := by omega
              have fme : (m : Int) < (en : Int) := by omega
              have fas : ¬ (a : Int) < (s : Int) := by omega
              have fsd : (s : Int) < (mid : Int) := by omega
              have fde : (mid : Int) < (en : Int) := by omega
              have feb : (en : Int) < (b : Int) := by omega
              have HC1 := hide (rotate f g n cap s m en d wr (unhide HR) (by omega) (by omega) (by omega) hn)
              clear HR
              go_wp2_with fail
              refine (unhide HC1).mono ?_
              rintro e w2 ⟨rfl, r1, r2⟩
              have HE := hide r1
              have HK2 := hide (kp_g (unhide HK) r2)
              clear r1 r2 HK
              have HL := hide ((unhide HCUT).noL (by omega))
              have HPR := hide ((unhide HCUT).preR (by omega) (unhide HL))
              have HC3 := hide ((unhide IH) mid en b (rot d s m en) w2 (by omega) (unhide HE) (unhide HPR).1 (unhide HPR).2 (by omega) (by omega) (by omega))
              go_wp2_with fail
              refine (unhide HC3).mono ?_
              rintro e w4 ⟨rfl, f', r1, r2, r3, r4⟩
              have HE4 := hide r1
              have HK4 := hide (kp_g (unhide HK2) r2)
              have HRR := hide (And.intro r3 r4)
              clear r1 r2 r3 r4
              go_wp2_with fail
              go_end0
              exact ⟨rfl, _, unhide HE4, unhide HK4, (unhide HCUT).fin (by omega) (by omega) (unhide HL) (unhide HRR)⟩
            · skip
              have fsm : (s : Int) < (m : Int) := by omega
              have fme : (m : Int) < (en : Int) := by omega
              have fas : ¬ (a : Int) < (s : Int) := by omega
              have fsd : (s : Int) < (mid : Int) := by omega
              have fde : (mid : Int) < (en : Int) := by omega
              have feb : ¬ (en : Int) < (b : Int) := by omega
              have HC1 := hide (rotate f g n cap s m en d wr (unhide HR) (by omega) (by omega) (by omega) hn)
              clear HR
              go_wp2_with fail
              refine (unhide HC1).mono ?_
              rintro e w2 ⟨rfl, r1, r2⟩
              have HE := hide r1
              have HK2 := hide (kp_g (unhide HK) r2)
              clear r1 r2 HK
              have HL := hide ((unhide HCUT).noL (by omega))
              have HRR := hide ((unhide HCUT).noR (unhide HL) (by omega))
              go_wp2_with fail
              go_end0
              exact ⟨rfl, _, unhide HE, unhide HK2, (unhide HCUT).fin (by omega) (by omega) (unhide HL) (unhide HRR)⟩
        · by_cases c2 : m < mid
          · skip
            have fsm : ¬ (s : Int) < (m : Int) := by omega
            have fme : (m : Int) < (en : Int) := by omega
            have fas : (a : Int) < (s : Int) := by omega
            have fsd : (s : Int) < (mid : Int) := by omega
            have fde : ¬ (mid : Int) < (en : Int) := by omega
            have feb : (en : Int) < (b : Int) := by omega
            have HE := hide (show DRow wr g n (rot d s m en) from by first | (rw [show s = m by omega, rot_id1]; exact unhide HR) | (rw [show en = m by omega, rot_id2]; exact unhide HR))
            clear HR
            have HC2 := hide ((unhide IH) a s mid (rot d s m en) wr (by omega) (unhide HE) (unhide HCUT).1 (unhide HCUT).2.1 (by omega) (by omega) (by omega))
            go_wp2_with fail
            refine (unhide HC2).mono ?_
            rintro e w3 ⟨rfl, g', r1, r2, r3, r4⟩
            have HE3 := hide r1
            have HK3 := hide (kp_g (unhide HK) r2)
            have HL := hide (And.intro r3 r4)
            clear r1 r2 r3 r4 HE HK
            have HRR := hide ((unhide HCUT).noR (unhide HL) (by omega))
            go_wp2_with fail
            go_end0
            exact ⟨rfl, _, unhide HE3, unhide HK3, (unhide HCUT).fin (by omega) (by omega) (unhide HL) (unhide HRR)⟩
          · skip
            have fsm : ¬ (s : Int) < (m : Int) := by omega
            have fme : ¬ (m : Int) < (en : Int) := by omega
            have fas : (a : Int) < (s : Int) := by omega
            have fsd : ¬ (s : Int) < (mid : Int) := by omega
            have fde : ¬ (mid : Int) < (en : Int) := by omega
            have feb : (en : Int) < (b : Int) := by omega
            have HE := hide (show DRow wr g n (rot d s m en) from by first | (rw [show s = m by omega, rot_id1]; exact unhide HR) | (rw [show en = m by omega, rot_id2]; exact unhide HR))
            clear HR
            have HL := hide ((unhide HCUT).noL (by omega))
            have HRR := hide ((unhide HCUT).noR (unhide HL) (by omega))
            go_wp2_with fail
            go_end0
            exact ⟨rfl, _, unhide HE, unhide HK, (unhide HCUT).fin (by omega) (by omega) (unhide HL) (unhide HRR)⟩
/-- Whatever two sorted parts. -/
theorem symmerge {f : Nat} {key : Dx → Int} (hc : Cmp f key) (g n cap : Nat) (hn : n ≤ 100000) : ∀ (N a m b : Nat) (d : Nat → Dx) (w : World), b - a ≤ N → DRow w g n d → SrtOn key d a m → SrtOn key d m b → a < m → m < b → b ≤ n →
    Calls Try.prog 137 #[.slice (some ⟨g, 0, none⟩) n cap, .int .i64 a, .int .i64 m, .int .i64 b, .func (.func f) #[] #[]] w fun e w' => MgEnd key g n a b d w e w' := by
  intro N
  induction N with
  | zero => intro a m b d w h0 h h1 h2 h3 h4 h5; omega
  | succ N ih =>
    intro a m b d w h0 h h1 h2 h3 h4 h5
    by_cases c1 : m = a + 1
    · exact sym1 hc g n cap a m b d w h h1 h2 h3 h4 h5 hn c1
    · by_cases c2 : b = m + 1
      · exact sym2 hc g n cap a m b d w h h1 h2 h3 h4 h5 hn c2 c1
      · exact sym3 hc g n cap a m b d w h h1 h2 h3 h4 h5 hn c1 c2 (fun a' m' b' d' w' q0 q1 q2 q3 q4 q5 q6 => ih a' m' b' d' w' (by omega) q1 q2 q3 q4 q5 q6)
end Go.Proofs.Ytapmlleemopcnac

/- The library's stable sort, by its contract: whatever list. -/
namespace Go.Proofs.Ytapmlleemopcnac
open Go.RowKit Srt
set_option maxRecDepth 20000
attribute [local go_sem ↓] Go.wp_at_zero Go.wp_at_succ

/-- Ahead of the merges: u blocks of twenty are sorted. -/
structure Bl1 (key : Dx → Int) (A : Option Addr) (n : Nat) (d : Nat → Dx) (w wr : World) (lo : Nat) : Prop where
  ex : ∃ dk u, SlD wr A n dk ∧ Kp (obd A) w wr ∧ Stb key 0 n d dk ∧ lo = u * 20 ∧ ∀ t, t < u → SrtOn key dk (t * 20) (t * 20 + 20)
/-- All blocks of s are sorted. -/
structure Bl2 (key : Dx → Int) (A : Option Addr) (n : Nat) (d : Nat → Dx) (w wr : World) (s : Nat) : Prop where
  ex : ∃ dk, SlD wr A n dk ∧ Kp (obd A) w wr ∧ Stb key 0 n d dk ∧ Bks key dk s 0 n
/-- Below lo all blocks of s2 are sorted, from lo on those of s. -/
structure Bl3 (key : Dx → Int) (g n : Nat) (d : Nat → Dx) (w wr : World) (s s2 lo : Nat) : Prop where
  ex : ∃ dk u, DRow wr g n dk ∧ Kp [g] w wr ∧ Stb key 0 n d dk ∧ lo = u * s2 ∧ (∀ t, t < u → SrtOn key dk (t * s2) (t * s2 + s2)) ∧ Bks key dk s lo n
section
variable {key : Dx → Int} {A : Option Addr} {g n : Nat} {d : Nat → Dx} {w wr w' : World} {s s2 lo hi : Nat}
theorem Bl1.next (h : Bl1 key A n d w wr lo) (hh : hi = lo + 20) (hn : hi ≤ n) : ∃ dk, SlD wr A n dk ∧ ∀ w' , (∃ d', SlD w' A n d' ∧ Kp (obd A) wr w' ∧ Stb key lo hi dk d' ∧ SrtOn key d' lo hi) → Bl1 key A n d w w' hi := by
  obtain ⟨dk, u, h1, h2, h3, h4, h5⟩ := h.ex
  refine ⟨dk, h1, fun w' ⟨d', k1, k2, k3, k4⟩ => ⟨d', u + 1, k1, h2.trans k2 (fun x hx => .inl hx), h3.trans (k3.wide (Nat.zero_le _) (by omega) hn), by rw [hh, h4, Nat.succ_mul], ?_⟩⟩
  subst hh
  exact blk_next h5 (by rw [← h4]; exact k4) (fun x hx => k3.out x (by omega))
theorem Bl1.last (h : Bl1 key A n d w wr lo) (hn : lo ≤ n) (hh : n < lo + 20) : ∃ dk, SlD wr A n dk ∧ ∀ w' , (∃ d', SlD w' A n d' ∧ Kp (obd A) wr w' ∧ Stb key lo n dk d' ∧ SrtOn key d' lo n) → Bl2 key A n d w w' 20 := by
  obtain ⟨dk, u, h1, h2, h3, h4, h5⟩ := h.ex
  refine ⟨dk, h1, fun w' ⟨d', k1, k2, k3, k4⟩ => ⟨d', k1, h2.trans k2 (fun x hx => .inl hx), h3.trans (k3.wide (Nat.zero_le _) hn (Nat.le_refl _)), ?_⟩⟩
  refine bks_of (u := u) (fun t ht => ?_) (by rw [← h4]; exact k4) (by omega)
  have := Nat.mul_le_mul_right 20 (show t + 1 ≤ u by omega)
  rw [Nat.succ_mul] at this
  exact (h5 t ht).congr (fun x _ q => k3.out x (by omega))
theorem Bl2.start (h : Bl2 key A n d w wr s) (hn : 0 < n) (_hs2 : s2 = 2 * s) : ∃ g, A = some ⟨g, 0, none⟩ ∧ Bl3 key g n d w wr s s2 0 := by
  obtain ⟨dk, h1, h2, h3, h4⟩ := h.ex
  obtain ⟨g, rfl, h5⟩ := h1 hn
  exact ⟨g, rfl, dk, 0, h5, h2, h3, by omega, fun t ht => by omega, h4⟩
theorem Bl3.next (h : Bl3 key g n d w wr s s2 lo) (hs2 : s2 = 2 * s) (hn : lo + s2 ≤ n) : ∃ dk, DRow wr g n dk ∧ SrtOn key dk lo (lo + s) ∧ SrtOn key dk (lo + s) (lo + s2) ∧ ∀ w' , (∃ d', DRow w' g n d' ∧ Kp [g] wr w' ∧ Stb key lo (lo + s2) dk d' ∧ SrtOn key d' lo (lo + s2)) → Bl3 key g n d w w' s s2 (lo + s2) := by
  obtain ⟨dk, u, h1, h2, h3, h4, h5, h6⟩ := h.ex
  obtain ⟨b1, b2⟩ := bks_two h6
  refine ⟨dk, h1, b1.sub (Nat.le_refl _) (by omega), b2.sub (Nat.le_refl _) (by omega), fun w' ⟨d', k1, k2, k3, k4⟩ => ⟨d', u + 1, k1, h2.trans k2 (fun x hx => .inl hx), h3.trans (k3.wide (Nat.zero_le _) (by omega) hn), by rw [h4, Nat.succ_mul], ?_, ?_⟩⟩
  · exact blk_next h5 (by rw [← h4]; exact k4) (fun x hx => k3.out x (by omega))
  · have := bks_next (e := d') h6 (fun x hx => k3.out x (by omega))
    rw [← hs2] at this
    exact this
theorem Bl3.last (h : Bl3 key g n d w wr s s2 lo) (hs2 : s2 = 2 * s) (hl : lo ≤ n) (hn : n < lo + s2) (hm : lo + s < n) : ∃ dk, DRow wr g n dk ∧ SrtOn key dk lo (lo + s) ∧ SrtOn key dk (lo + s) n ∧ ∀ w' , (∃ d', DRow w' g n d' ∧ Kp [g] wr w' ∧ Stb key lo n dk d' ∧ SrtOn key d' lo n) → Bl2 key (some ⟨g, 0, none⟩) n d w w' s2 := by
  obtain ⟨dk, u, h1, h2, h3, h4, h5, h6⟩ := h.ex
  obtain ⟨b1, b2⟩ := bks_two h6
  refine ⟨dk, h1, b1.sub (Nat.le_refl _) (by omega), b2.sub (Nat.le_refl _) (by omega), fun w' ⟨d', k1, k2, k3, k4⟩ => ⟨d', fun _ => ⟨g, rfl, k1⟩, h2.trans k2 (fun x hx => .inl hx), h3.trans (k3.wide (Nat.zero_le _) hl (Nat.le_refl _)), ?_⟩⟩
  refine bks_of (u := u) (fun t ht => ?_) (by rw [← h4]; exact k4) (by omega)
  have := Nat.mul_le_mul_right s2 (show t + 1 ≤ u by omega)
  rw [Nat.succ_mul] at this
  exact (h5 t ht).congr (fun x _ q => k3.out x (by omega))
theorem Bl3.lastNo (h : Bl3 key g n d w wr s s2 lo) (hn : n < lo + s2) (hm : ¬ lo + s < n) : Bl2 key (some ⟨g, 0, none⟩) n d w wr s2 := by
  obtain ⟨dk, u, h1, h2, h3, h4, h5, h6⟩ := h.ex
  obtain ⟨b1, b2⟩ := bks_two h6
  refine ⟨dk, fun _ => ⟨g, rfl, h1⟩, h2, h3, ?_⟩
  exact bks_of (u := u) h5 (by rw [← h4]; exact b1.sub (Nat.le_refl _) (by omega)) (by omega)
end
set_option maxHeartbeats 1000000 in
theorem stable {f : Nat} {key : Dx → Int} (hc : Cmp f key) (A : Option Addr) (n cap : Nat) (d : Nat → Dx) (w : World) (h : SlD w A n d) (hn : n ≤ 100000) :
    Calls Try.prog 119 #[.slice A n cap, .int .i64 n, .func (.func f) #[] #[]] w fun e w' => SoEnd key A n 0 n d w e w' := by
  have HC := hide hc
  have HB0 := hide (show Bl1 key A n d w w 0 from ⟨d, 0, h, Kp.refl _ _, Stb.refl _ _ _ _, by omega, fun t ht => by omega⟩)
  clear h hc
  go_enter Try.func119, Try.ntmps119
  go_wp2_with fail
  go_loopw [7, 8] (fun x y wr => ∃ lo hi : Nat, lo ≤ n ∧ Hid (hi = lo + 20) ∧ x = .int .i64 lo ∧ y = .int .i64 hi ∧ Hid (Bl1 key A n d w wr lo)) (fun x _ _ => n - (intOf x).toNat)
  case atStart => exact ⟨0, 20, Nat.zero_le _, rfl, rfl, rfl, HB0⟩
  case round =>
    obtain ⟨lo, hi, hl, HH, rfl, rfl, HB⟩ := hrel
    have hh := unhide HH
    by_cases hlt : hi ≤ n
    · have i1 : (hi : Int) ≤ (n : Int) := by omega
      obtain ⟨dk, q1, q2⟩ := (unhide HB).next hh hlt
      have HQ := hide q2
      have HI := hide (inssort (unhide HC) A n cap lo hi dk wr q1 (by omega) hlt hn)
      clear q1 q2 hh
      go_wp2_with fail
      refine (unhide HI).mono ?_
      rintro e w2 ⟨rfl, hr⟩
      have HR := hide (unhide HQ w2 hr)
      clear hr
      go_wp2_with fail
      exact ⟨⟨hi, hi + 20, by omega, rfl, rfl, by go_num, HR⟩, by have := unhide HH; simp [intOf]; omega⟩
    · have i1 : ¬ (hi : Int) ≤ (n : Int) := by omega
      obtain ⟨dk, q1, q2⟩ := (unhide HB).last hl (by omega)
      have HQ := hide q2
      have HI := hide (inssort (unhide HC) A n cap lo n dk wr q1 hl (Nat.le_refl _) hn)
      clear q1 q2 hh HB HB0
      go_wp2_with fail
      refine (unhide HI).mono ?_
      rintro e w2 ⟨rfl, hr⟩
      have HR := hide (unhide HQ w2 hr)
      clear hr HQ HI
      go_wp2_with fail
      generalize w2 = w5 at *
      go_loopw [6, 7, 8, 9] (fun x _ _ _ wr => ∃ s : Nat, 0 < s ∧ x = .int .i64 s ∧ s ≤ 400000 ∧ Hid (Bl2 key A n d w wr s)) (fun x _ _ _ _ => n - (intOf x).toNat)
      case atStart => exact ⟨20, by omega, rfl, by omega, HR⟩
      case round =>
        obtain ⟨s, hs, rfl, hsm, HB2⟩ := hrel
        by_cases hsn : s < n
        · have i2 : (s : Int) < (n : Int) := by omega
          obtain ⟨s2, hs2⟩ : ∃ s2, s2 = 2 * s := ⟨_, rfl⟩
          have i3 : 2 * (s : Int) = (s2 : Int) := by omega
          have i4 : (s : Int) * 2 = (s2 : Int) := by omega
          have HS2 := hide hs2
          obtain ⟨g, rfl, hb3⟩ := (unhide HB2).start (by omega) hs2
          have HB3 := hide hb3
          have s2b : s2 ≤ 400000 := by omega
          have s2p : s < s2 := by omega
          clear hb3 HB2 HR hs2
          go_wp2_with fail
          generalize wr = w6 at *
          go_loopw [7, 8] (fun x y wr => ∃ lo hi : Nat, lo ≤ n ∧ Hid (hi = lo + s2) ∧ x = .int .i64 lo ∧ y = .int .i64 hi ∧ Hid (Bl3 key g n d w wr s s2 lo)) (fun x _ _ => n - (intOf x).toNat)
          case atStart => exact ⟨0, s2, Nat.zero_le _, (by show s2 = 0 + s2; omega), rfl, rfl, HB3⟩
          case round =>
            obtain ⟨lo, hi, hl, HH2, rfl, rfl, HB4⟩ := hrel
            have hh := unhide HH2
            by_cases hlt2 : hi ≤ n
            · have j1 : (hi : Int) ≤ (n : Int) := by omega
              obtain ⟨dk, q1, q2, q3, q4⟩ := (unhide HB4).next (unhide HS2) (by omega)
              obtain ⟨m, hm⟩ : ∃ m, lo + s = m := ⟨_, rfl⟩
              have j2 : (lo : Int) + (s : Int) = (m : Int) := by omega
              obtain ⟨h2, hh2⟩ : ∃ h2, hi + s2 = h2 := ⟨_, rfl⟩
              have j3 : (hi : Int) + (s2 : Int) = (h2 : Int) := by omega
              rw [hm] at q2 q3
              rw [← hh] at q3 q4
              have HQ := hide q4
              have HI := hide (symmerge (unhide HC) g n cap hn _ lo m hi dk wr (Nat.le_refl _) q1 q2 q3 (by omega) (by have := unhide HS2; omega) hlt2)
              have HH3 := hide (show h2 = hi + s2 by omega)
              clear q1 q2 q3 q4 hm hh2 hh
              go_wp2_with fail
              refine (unhide HI).mono ?_
              rintro e w2 ⟨rfl, hr⟩
              have HR := hide (unhide HQ w2 hr)
              clear hr
              go_wp2_with fail
              exact ⟨⟨hi, h2, hlt2, HH3, rfl, by go_num, HR⟩, by have := unhide HH2; simp [intOf]; omega⟩
            · have j1 : ¬ (hi : Int) ≤ (n : Int) := by omega
              obtain ⟨m, hm⟩ : ∃ m, lo + s = m := ⟨_, rfl⟩
              have j2 : (lo : Int) + (s : Int) = (m : Int) := by omega
              by_cases hmn : m < n
              · have j3 : (m : Int) < (n : Int) := by omega
                obtain ⟨dk, q1, q2, q3, q4⟩ := (unhide HB4).last (unhide HS2) hl (by omega) (by omega)
                rw [hm] at q2 q3
                have HQ := hide q4
                have HI := hide (symmerge (unhide HC) g n cap hn _ lo m n dk wr (Nat.le_refl _) q1 q2 q3 (by omega) hmn (Nat.le_refl _))
                clear q1 q2 q3 q4 hm hh
                go_wp2_with fail
                refine (unhide HI).mono ?_
                rintro e w2 ⟨rfl, hr⟩
                have HR := hide (unhide HQ w2 hr)
                clear hr
                go_wp2_with fail
                exact ⟨⟨s2, by omega, by go_num, s2b, HR⟩, by simp [intOf]; omega⟩
              · have j3 : ¬ (m : Int) < (n : Int) := by omega
                have HR := hide ((unhide HB4).lastNo (by omega) (by omega))
                clear hm hh
                go_wp2_with fail
                exact ⟨⟨s2, by omega, by go_num, s2b, HR⟩, by simp [intOf]; omega⟩
        · have i2 : ¬ (s : Int) < (n : Int) := by omega
          go_wp2_with fail
          go_end0
          obtain ⟨dk, q1, q2, q3, q4⟩ := (unhide HB2).ex
          have b1 := (bks_two q4).1
          exact ⟨rfl, dk, q1, q2, q3, b1.sub (Nat.le_refl _) (by omega)⟩
theorem sortstable {f : Nat} {key : Dx → Int} (hc : Cmp f key) (A : Option Addr) (n cap : Nat) (d : Nat → Dx) (w : World) (h : SlD w A n d) (hn : n ≤ 100000) :
    Calls Try.prog 82 #[.slice A n cap, .func (.func f) #[] #[]] w fun e w' => SoEnd key A n 0 n d w e w' := by
  have HC := hide (stable hc A n cap d w h hn)
  clear h hc
  go_enter Try.func82, Try.ntmps82
  go_wp2_with fail
  refine (unhide HC).mono ?_
  rintro e w2 ⟨rfl, hr⟩
  have HR := hide hr
  clear hr
  go_wp2_with fail
  go_end0
  exact ⟨rfl, unhide HR⟩
theorem enters_fn {f : FuncId} {fn : Func} {c : Code} (hf : Try.prog.funcs[f]? = some fn) (hname : (fn.name == "runtime.NumGoroutine") = false) (hb : fn.body = some c) (args : Array Value) (w : World) : (callFunc f args).run Try.prog w = .ok (.enter f args) w := by
  have h1 : fn.name ≠ "runtime.NumGoroutine" := by simpa using hname
  simp [callFunc, hf, h1, hb, mark]
theorem cmp_n : Cmp 83 (fun x => x.d.n) := ⟨enters_fn Try.func83 (by kernel_rfl) rfl, cmpN⟩
theorem cmp_a : Cmp 86 (fun x => x.d.at_) := ⟨enters_fn Try.func86 (by kernel_rfl) rfl, cmpA⟩
end Go.Proofs.Ytapmlleemopcnac
