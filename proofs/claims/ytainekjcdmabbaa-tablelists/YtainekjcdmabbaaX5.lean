/- Lists of a table: what they have, part by part; one list laid behind another one. -/
import Derived.Test.YtainekjcdmabbaaX4
import Derived.Deep.Upon
namespace Go.Proofs.Ytainekjcdmabbaa
open Go.RowKit
set_option maxRecDepth 20000

/-- The pairs of m keys from k on that have a value. -/
def seg (f : Nat → List Ver) (n : Nat) (y : Int) : Nat → Nat → List Ver
  | _, 0 => []
  | k, m + 1 => (if (tr f n k y).t = true then [⟨k, (tr f n k y).t, (tr f n k y).s⟩] else []) ++ seg f n y (k + 1) m

theorem lgo_all {f : Nat → List Ver} {n : Nat} {y : Int} : ∀ (m k : Nat) (acc : List Ver), (∀ j : Nat, k ≤ j → j < k + m → (tr f n j y).a = 0) → lgo f n y k m acc = (acc ++ seg f n y k m, 0) := by
  intro m
  induction m with
  | zero => intro k acc _; simp [lgo, seg]
  | succ m ih =>
    intro k acc h
    have h0 := h k (Nat.le_refl _) (by omega)
    simp only [lgo, seg]
    rw [if_pos h0]
    by_cases ht : (tr f n k y).t = true
    · rw [if_pos ht, if_pos ht, ih (k + 1) _ (fun j h1 h2 => h j (by omega) (by omega)), List.append_assoc]
    · rw [if_neg ht, if_neg ht, ih (k + 1) _ (fun j h1 h2 => h j (by omega) (by omega)), List.nil_append]
theorem lgo_halt {f : Nat → List Ver} {n : Nat} {y : Int} : ∀ (m k i : Nat) (acc : List Ver), i < m → (∀ j : Nat, k ≤ j → j < k + i → (tr f n j y).a = 0) → (tr f n (k + i : Nat) y).a ≠ 0 → lgo f n y k m acc = ([], (tr f n (k + i : Nat) y).a) := by
  intro m
  induction m with
  | zero => intro k i acc h; omega
  | succ m ih =>
    intro k i acc hi h hne
    simp only [lgo]
    cases i with
    | zero => rw [Nat.add_zero] at hne; rw [if_neg hne, Nat.add_zero]
    | succ i =>
      have h0 := h k (Nat.le_refl _) (by omega)
      rw [if_pos h0]
      have e : k + 1 + i = k + (i + 1) := by omega
      have q := fun acc => ih (k + 1) i acc (by omega) (fun j h1 h2 => h j (by omega) (by omega)) (by rw [e]; exact hne)
      rw [e] at q
      split
      · exact q _
      · exact q _

theorem seg_append (f : Nat → List Ver) (n : Nat) (y : Int) : ∀ (m m' k : Nat), seg f n y k (m + m') = seg f n y k m ++ seg f n y (k + m) m' := by
  intro m
  induction m with
  | zero => intro m' k; simp [seg]
  | succ m ih =>
    intro m' k
    rw [show m + 1 + m' = (m + m') + 1 by omega]
    simp only [seg]
    rw [ih m' (k + 1), List.append_assoc, show k + 1 + m = k + (m + 1) by omega]
theorem seg_length (f : Nat → List Ver) (n : Nat) (y : Int) : ∀ (m k : Nat), (seg f n y k m).length ≤ m := by
  intro m
  induction m with
  | zero => intro k; simp [seg]
  | succ m ih =>
    intro k
    have := ih (k + 1)
    simp only [seg, List.length_append]
    split <;> simp <;> omega

theorem lst_halt {f : Nat → List Ver} {n : Nat} {y : Int} {k : Nat} (h : ShK f n y k) (hk : k < 8) : ∃ c, c ≠ 0 ∧ lst f n 0 7 y = ([], c) := by
  refine ⟨(tr f n k y).a, h.hi hk, ?_⟩
  have := lgo_halt (f := f) (n := n) (y := y) 8 0 k [] hk (fun j _ h2 => h.lo j (by omega)) (by simpa using h.hi hk)
  unfold lst
  rw [if_pos (by decide)]
  show lgo f n y 0 8 [] = _
  rw [this, Nat.zero_add]
theorem lst_all {f : Nat → List Ver} {n : Nat} {y : Int} (h : ShK f n y 8) {fr to_ : Nat} (hf : fr ≤ to_ + 1) (ht : to_ < 8) (hf8 : fr < 8) : lst f n fr to_ y = (seg f n y fr (to_ + 1 - fr), 0) := by
  unfold lst
  rw [if_pos ⟨by simp [keyB]; omega, by simp [keyB]; omega⟩, Int.toNat_natCast, lgo_all _ _ _ (fun j h1 h2 => h.lo j (by omega)), List.nil_append]
  congr 2
  omega

/-- The k-th key's pair in the list of all keys, if it has a value. -/
theorem seg_here {f : Nat → List Ver} {n : Nat} {y : Int} {k : Nat} (hk : k < 8) (ht : (tr f n k y).t = true) :
    (seg f n y 0 k).length < (seg f n y 0 8).length ∧ va (seg f n y 0 8) (seg f n y 0 k).length = (k : Int) ∧ vt (seg f n y 0 8) (seg f n y 0 k).length = (tr f n k y).t ∧ vb (seg f n y 0 8) (seg f n y 0 k).length = (tr f n k y).s ∧
      (seg f n y 0 (k + 1)).length = (seg f n y 0 k).length + 1 := by
  have e1 : seg f n y 0 8 = seg f n y 0 k ++ (⟨k, (tr f n k y).t, (tr f n k y).s⟩ :: seg f n y (k + 1) (7 - k)) := by
    have := seg_append f n y k (8 - k) 0
    rw [show k + (8 - k) = 8 by omega, Nat.zero_add] at this
    rw [this]
    congr 1
    rw [show 8 - k = (7 - k) + 1 by omega]
    simp only [seg]
    rw [if_pos ht]
    rfl
  have e2 : seg f n y 0 (k + 1) = seg f n y 0 k ++ [⟨k, (tr f n k y).t, (tr f n k y).s⟩] := by
    rw [seg_append f n y k 1 0, Nat.zero_add]
    simp only [seg]
    rw [if_pos ht]
    rfl
  have hg : (seg f n y 0 8)[(seg f n y 0 k).length]? = some ⟨k, (tr f n k y).t, (tr f n k y).s⟩ := by
    rw [e1, List.getElem?_append_right (Nat.le_refl _), Nat.sub_self]
    rfl
  refine ⟨by rw [e1]; simp, ?_, ?_, ?_, by rw [e2]; simp⟩
  all_goals simp only [va, vt, vb, List.getD_eq_getElem?_getD, hg, Option.getD_some]
theorem seg_none {f : Nat → List Ver} {n : Nat} {y : Int} {k : Nat} (ht : ¬ (tr f n k y).t = true) : seg f n y 0 (k + 1) = seg f n y 0 k := by
  rw [seg_append f n y k 1 0, Nat.zero_add]
  simp only [seg]
  rw [if_neg ht]
  simp

/-- 'append(a, b...)' of lists of pairs that a call made, behind a guard too. -/
theorem wpList_append_pairs {ops : Array Oper} {rest : List Oper} {o : Oper} {a : Act} {w : World} {Q : Exit → Act → World → Prop} (hw : Region.wanted o (yielded ops a.tmps) = true) (s x : Operand)
    (ho : o.op = .call { callee := .builtin .append, args := #[s, x], argTypes := #[49, 49] }) (B C : Nat) (a1 : Option Addr) (c1 : Nat) (A : List Ver) (a2 : Option Addr) (c2 : Nat) (D : List Ver) (l1 l2 : Nat)
    (hs : a.eval s = .slice a1 l1 c1) (hx : a.eval x = .slice a2 l2 c2) (e1 : l1 = A.length) (e2 : l2 = D.length)
    (hown : w.ownsRow B 72 3 (.slice a1 l1 c1) l1 (vcells A)) (hown2 : w.ownsRow C 72 3 (.slice a2 l2 c2) l2 (vcells D)) (hB : B ≤ w.heap.size) (hlen : A.length + D.length ≤ 100)
    (h : ∀ a3 c3 w', Hid (SlO w' a3 (A ++ D)) → Hid (∀ S : List Nat, (∀ g, (Value.slice a1 l1 c1).ownBlock = some g → g ∈ S) → Kp S w w') → wpList Try.prog ops Q rest (a.put o.dst (.slice a3 (l1 + l2) c3)) w') : wpList Try.prog ops Q (o :: rest) a w := by
  subst e1
  subst e2
  obtain ⟨i0, hi0, hz0, hz1, hz2⟩ := info_parts Try.info72
  refine wpList_step fun K hK => ?_
  rw [if_pos hw]
  by_cases hD : D.length = 0
  · have hDn : D = [] := List.eq_nil_of_length_eq_zero hD
    subst hDn
    have hsrc : Src Try.prog i0.size 49 (.slice a2 0 c2) 0 [] w := by
      rcases hown2.2 with ⟨e, _⟩ | ⟨g, cap, cur, e, _⟩
      · simp only [Value.slice.injEq] at e
        obtain ⟨rfl, _, rfl⟩ := e
        exact Src.ofNil w Try.underlying49 0
      · simp only [Value.slice.injEq] at e
        obtain ⟨rfl, _, rfl⟩ := e
        exact Src.ofSlice w Try.underlying49 ⟨g, 0, none⟩ 0 _ [] (by simp) (by simp) (by simp)
    have hle : A.length ≤ c1 := by
      rcases hown.2 with ⟨e, e'⟩ | ⟨g, cap, cur, e, _, _, q, _⟩
      · simp only [Value.slice.injEq] at e; omega
      · simp only [Value.slice.injEq] at e; omega
    have hr := run_append_nothing (P := Try.prog) w 49 49 o.type 72 i0 Try.underlying49 hi0 a1 A.length c1 hle (.slice a2 0 c2) hsrc
    unfold Oper.wp execOp
    simp only [ho, resolve, invoke, builtin, Sem.run_bind, Sem.run_pure, Result.andThen_ok, List.map_toArray, List.map_cons, List.map_nil, hs, hx, hr, List.length_nil]
    refine hK _ _ (h a1 c1 w ?_ (fun S _ => Kp.refl S w))
    rw [List.append_nil]
    exact slo_own hown rfl
  · obtain ⟨g2, cap2, e, _, _⟩ := hown2.form (by omega)
    simp only [Value.slice.injEq, true_and] at e
    obtain ⟨rfl, rfl⟩ := e
    refine wp_append_lies w s x 49 ho B 72 i0 _ 3 32 Try.underlying49 hi0 hz0 hz1 hz2 rfl (by omega) (.slice a1 A.length c1) A.length (vcells A) hs hown ⟨g2, 0, none⟩ D.length c2 (vcells D) hx (vcells_length D) ?_ (vcells_one D) (by omega) (by unfold maxLen; omega) (by omega) hB _ rfl ?_
    · intro j u hu
      obtain ⟨g', o', e', hsl⟩ := slo_own hown2 rfl (by omega)
      simp only [Option.some.injEq, Addr.mk.injEq, and_true] at e'
      obtain ⟨rfl, rfl⟩ := e'
      exact hsl.news j u hu
    · intro g3 cap3 w' ho3 hgr hat hlt
      refine hK _ _ (h (some ⟨g3, 0, none⟩) cap3 w' ?_ (fun S hS => (Kp.refl S w).grown hgr (fun k hk => .inl (hS k hk))))
      rw [← vcells_append] at ho3
      exact slo_own ho3 (by simp)
end Go.Proofs.Ytainekjcdmabbaa
