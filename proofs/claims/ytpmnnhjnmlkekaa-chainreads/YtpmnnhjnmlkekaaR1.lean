/- What ChainReads goes by: its first loop, and what a Put leaves. -/
import Derived.Test.YtpmnnhjnmlkekaaM1
namespace Go.Proofs.Ytpmnnhjnmlkekaa
open Go.RowKit
attribute [local go_sem ↓] Go.wp_at_zero Go.wp_at_succ

theorem last_append {vs : List Ver} {v : Ver} {k : Nat} (hk : k < vs.length) : va (vs ++ [v]) k = va vs k ∧ vt (vs ++ [v]) k = vt vs k ∧ vb (vs ++ [v]) k = vb vs k := by
  simp [va, vt, vb, List.getD_eq_getElem?_getD, List.getElem?_append_left hk]

theorem last_new {vs : List Ver} {v : Ver} : va (vs ++ [v]) vs.length = v.a := by simp [va]

theorem rd_put {vs : List Ver} {y x : Int} {t t' : Bool} {s s' : ByteArray} {c : Int} (hp : 0 < vs.length) (h : Rd vs y t s c) (hx : y < x) : Rd (pvers vs x t' s') y t s c := by
  unfold pvers
  split
  · rcases h with ⟨h1, rfl, rfl, rfl⟩ | ⟨h0, h1, rfl, rfl, rfl⟩ | ⟨h0, h1, m, hm, hm0, rfl, rfl, rfl⟩
    · exact .inl ⟨h1, rfl, rfl, rfl⟩
    · exact .inr (.inl ⟨h0, by rw [(last_append hp).1]; exact h1, rfl, rfl, rfl⟩)
    · have hml := hm.le
      refine .inr (.inr ⟨h0, by rw [(last_append hp).1]; exact h1, m, ⟨by simp; omega, fun k hk => ?_, fun k h2 h3 => ?_⟩, hm0, ?_, ?_, rfl⟩)
      · rw [(last_append (show k < vs.length by omega)).1]; exact hm.lo k hk
      · rcases Nat.lt_or_ge k vs.length with e | e
        · rw [(last_append e).1]; exact hm.hi k h2 e
        · have : k = vs.length := by simp at h3; omega
          subst this
          rw [last_new]; exact hx
      · rw [(last_append (show m - 1 < vs.length by omega)).2.1]
      · rw [(last_append (show m - 1 < vs.length by omega)).2.2]
  · exact h

/-- The value that the first loop holds behind k versions: that of the last one up to the commit, of which there are c. -/
def wT (vs : List Ver) (c k : Nat) : Bool := if min k c = 0 then false else vt vs (min k c - 1)
def wS (vs : List Ver) (c k : Nat) : ByteArray := if min k c = 0 then ByteArray.empty else vb vs (min k c - 1)
def wF (c k : Nat) : Bool := decide (0 < min k c)

theorem wT_hit {vs : List Ver} {c k : Nat} (h : k < c) : wT vs c (k + 1) = vt vs k ∧ wS vs c (k + 1) = vb vs k ∧ wF c (k + 1) = true := by
  have e : min (k + 1) c = k + 1 := by omega
  simp [wT, wS, wF, e]
theorem wT_miss {vs : List Ver} {c k : Nat} (h : c ≤ k) : wT vs c (k + 1) = wT vs c k ∧ wS vs c (k + 1) = wS vs c k ∧ wF c (k + 1) = wF c k := by
  have e : min (k + 1) c = c := by omega
  have e2 : min k c = c := by omega
  simp [wT, wS, wF, e, e2]
theorem wT_end {vs : List Ver} {c : Nat} (h : c ≤ vs.length) (h0 : 0 < c) : wT vs c vs.length = vt vs (c - 1) ∧ wS vs c vs.length = vb vs (c - 1) ∧ wF c vs.length = true := by
  have e : min vs.length c = c := by omega
  have e2 : c ≠ 0 := by omega
  simp [wT, wS, wF, e, e2]
  omega
theorem wF_zero (k : Nat) : wF 0 k = false := by simp [wF]

/-- What stands at the head of each round of the first loop. -/
structure Lp (w W wr : World) (b p1 p2 g : Nat) (t : Bool) (s : ByteArray) (vs : List Ver) (c k : Nat) : Prop where
  made : Made w wr b vs
  one : wr.heap[p1]? = some (.cells #[.bool t, .string s] 24 (0, 0))
  two : wr.heap[p2]? = some (.cells #[.bool (wT vs c k), .string (wS vs c k)] 24 (0, 0))
  sla : SlA wr g 0 vs
  n1 : p1 ≠ p2
  n2 : g ≠ p2

theorem box2 {wr : World} {p : Nat} {x y : Value} (h : wr.heap[p]? = some (.cells #[x, y] 24 (0, 0))) : wr.cell? ⟨p, 0, none⟩ = some x ∧ wr.cell? ⟨p, 1, none⟩ = some y ∧ wr.frozen? ⟨p, 0, none⟩ = false ∧ wr.frozen? ⟨p, 1, none⟩ = false := by
  refine ⟨?_, ?_, ?_, ?_⟩
  · rw [cell_of_row wr p 0 _ _ _ h]; rfl
  · rw [cell_of_row wr p 1 _ _ _ h]; rfl
  · simp [World.frozen?, h]
  · simp [World.frozen?, h]

theorem Made.setNew {w wr : World} {b p : Nat} {vs : List Ver} {x y u : Value} {o : Nat} (h : Made w wr b vs) (hp : wr.heap[p]? = some (.cells #[x, y] 24 (0, 0))) (hw : w.heap.size ≤ p) : Made w (wr.setCell ⟨p, o, none⟩ u) b vs := by
  obtain ⟨g, cap, h1, h2⟩ := h.bg
  have hne : b ≠ p := by
    intro e
    subst e
    rw [h1.box] at hp
    simp at hp
  have hng : g ≠ p := by
    intro e
    subst e
    rcases h1.own.2 with ⟨e, _⟩ | ⟨g2, c2, cur, e, q1, q2, q3⟩
    · simp at e
    · simp only [Value.slice.injEq, Option.some.injEq, Addr.mk.injEq, and_true, true_and] at e
      obtain ⟨rfl, rfl⟩ := e
      rw [q2] at hp
      simp at hp
  refine ⟨⟨g, cap, h1.kp (S := [p]) ((Kp.refl [p] wr).setCell (.inl (by simp)) u) (by simpa using hne) (by simpa using hng), h2.setCell (.inr hw) u⟩, h.rise, h.len⟩

theorem heap_setCell_two {w : World} {p : Nat} {x y u v : Value} (h : w.heap[p]? = some (.cells #[x, y] 24 (0, 0))) : ((w.setCell ⟨p, 0, none⟩ u).setCell ⟨p, 1, none⟩ v).heap[p]? = some (.cells #[u, v] 24 (0, 0)) := by
  simp only [World.setCell, Array.getElem?_modify, h, if_true, Option.map_some]
  simp

theorem Lp.drewN {w W wr : World} {b p1 p2 g : Nat} {t : Bool} {s : ByteArray} {vs : List Ver} {c k : Nat} (h : Lp w W wr b p1 p2 g t s vs c k) (m : Nat) : Lp w W (wr.drewN m) b p1 p2 g t s vs c k :=
  ⟨h.made.kp ((Kp.refl [] wr).drewN m), h.one, h.two, h.sla, h.n1, h.n2⟩

theorem Lp.hit {w W wr : World} {b p1 p2 g : Nat} {t : Bool} {s : ByteArray} {vs : List Ver} {c k : Nat} (h : Lp w W wr b p1 p2 g t s vs c k) (hk : k < c) (hw : w.heap.size ≤ p2) :
    Lp w W ((wr.setCell ⟨p2, 0, none⟩ (.bool (vt vs k))).setCell ⟨p2, 1, none⟩ (.string (vb vs k))) b p1 p2 g t s vs c (k + 1) := by
  obtain ⟨e1, e2, _⟩ := wT_hit (vs := vs) hk
  refine ⟨?_, ?_, ?_, ?_, h.n1, h.n2⟩
  · have h1 := h.made.setNew (o := 0) (u := .bool (vt vs k)) h.two hw
    exact h1.setNew (o := 1) (u := .string (vb vs k)) (x := .bool (vt vs k)) (y := .string (wS vs c k)) (by
      have := h.two
      simp only [World.setCell, Array.getElem?_modify, this, if_true, Option.map_some]
      simp) hw
  · rw [Below.heap_setCell _ _ _ _ (by simpa using h.n1), Below.heap_setCell _ _ _ _ (by simpa using h.n1)]; exact h.one
  · rw [e1, e2]; exact heap_setCell_two h.two
  · intro j u hu
    rw [World.cell?_setCell_other _ _ _ _ (by intro e; have := congrArg Addr.block e; exact h.n2 this.symm), World.cell?_setCell_other _ _ _ _ (by intro e; have := congrArg Addr.block e; exact h.n2 this.symm)]
    exact h.sla j u hu

theorem Lp.miss {w W wr : World} {b p1 p2 g : Nat} {t : Bool} {s : ByteArray} {vs : List Ver} {c k : Nat} (h : Lp w W wr b p1 p2 g t s vs c k) (hk : c ≤ k) : Lp w W wr b p1 p2 g t s vs c (k + 1) := by
  obtain ⟨e1, e2, _⟩ := wT_miss (vs := vs) hk
  exact ⟨h.made, h.one, by rw [e1, e2]; exact h.two, h.sla, h.n1, h.n2⟩

theorem made_put {w0 : World} {b p1 : Nat} {vs : List Ver} {t : Bool} {s : ByteArray} (x : Int) (t' : Bool) (s' : ByteArray) (w : World) (h : Made w0 w b vs) (hl : vs.length < 200) (hs : s'.size ≤ maxLen) (h1 : w.heap[p1]? = some (.cells #[.bool t, .string s] 24 (0, 0))) :
    Calls Try.prog 26 #[.pointer (some ⟨b, 0, none⟩), .int .i64 x, .agg #[.bool t', .string s']] w fun e w' => ∃ q : Int, e = .returned (.int .i64 q) ∧ Hid (Made w0 w' b (pvers vs x t' s')) ∧ Hid (w'.heap[p1]? = some (.cells #[.bool t, .string s] 24 (0, 0))) := by
  obtain ⟨g, cap, k1, k2⟩ := h.bg
  have hne : b ≠ p1 := by
    intro e
    subst e
    rw [k1.box] at h1
    simp at h1
  have hng : g ≠ p1 := by
    intro e
    subst e
    rcases k1.own.2 with ⟨e, _⟩ | ⟨g2, c2, cur, e, q1, q2, q3⟩
    · simp at e
    · simp only [Value.slice.injEq, Option.some.injEq, Addr.mk.injEq, and_true, true_and] at e
      obtain ⟨rfl, rfl⟩ := e
      rw [q2] at h1
      simp at h1
  refine (put21 x t' s' w k1 (by omega) hs k2.size).mono ?_
  rintro e w' ⟨rfl, g', c', m1, m2, m3⟩
  have := k1.hb
  have := k1.hg.1
  have hpl := pvers_length vs x t' s'
  refine ⟨_, rfl, ⟨⟨g', c', m1, k2.trans m3 (by simp; omega)⟩, h.rise.put k1.pos _ _ _, by omega⟩, ?_⟩
  show w'.heap[p1]? = _
  rw [m3.block p1 (Array.getElem?_eq_some_iff.1 h1).1 (by simp; omega)]; exact h1
end Go.Proofs.Ytpmnnhjnmlkekaa
