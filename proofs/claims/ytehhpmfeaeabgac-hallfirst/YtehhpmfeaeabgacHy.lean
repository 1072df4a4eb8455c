/- Rows of one-cell values as things: numbers, rows of numbers. -/
import Derived.Test.YtehhpmfeaeabgacHv
namespace Go.Proofs.Ytehhpmfeaeabgac
open Go.RowKit
set_option maxRecDepth 20000

theorem Try.info64 : (Try.prog.info? 64).map (fun i => (i.zero, i.size, i.bytes)) = some (some (.slice none 0 0), 1, 24) := by kernel_rfl
/-- A row of one-cell values of one's own. -/
def RwT (e : TypeId) (a : Option Addr) (n cap : Nat) (xs : List Value) : Thing where
  holds B w F := w.ownsRow B e 1 (.slice a n cap) n xs ∧ F = ob a
  kp := fun ⟨h1, h2⟩ hk hS => ⟨own_kp h1 hk (fun g hg => hS g (by
    rw [h2]
    cases a with
    | none => simp [Value.ownBlock] at hg
    | some ad => simp [Value.ownBlock] at hg; simp [ob, hg])), h2⟩
  lo := fun ⟨h1, h2⟩ x hx => by
    rw [h2] at hx
    rcases h1.2 with ⟨hn, _⟩ | ⟨g, cap', cur, hv, h3, h4, h5⟩
    · simp only [Value.slice.injEq] at hn
      rw [hn.1] at hx
      simp [ob] at hx
    · simp only [Value.slice.injEq] at hv
      rw [hv.1] at hx
      simp [ob] at hx
      subst hx
      exact ⟨h3, lt_of_block h4⟩
  base := fun ⟨h1, h2⟩ hC => ⟨own_base h1 hC, h2⟩
section
variable {w0 w W w2 : World} {l1 r os : List Thing} {e : TypeId} {a : Option Addr} {n cap g2 cap2 : Nat} {xs ys : List Value}
theorem rw_nil (e : TypeId) (hz : Zoo w0 w r) : Zoo w0 w (RwT e none 0 0 [] :: r) := by
  obtain ⟨X, h1, hk⟩ := hz
  exact ⟨X, ⟨[], X, ⟨World.ownsRow_nil _ _ _ _, rfl⟩, h1, fun _ hx => by simp at hx, rfl⟩, hk⟩
theorem rw_lit (e : TypeId) (hz : Zoo w0 w r) (x : Value) : Zoo w0 (w.alloc (.cells #[x] e)) (RwT e (some ⟨w.heap.size, 0, none⟩) 1 1 [x] :: r) :=
  hz.cons (F := [w.heap.size]) ⟨⟨rfl, .inr ⟨w.heap.size, 1, #[x], rfl, Nat.le_refl _, heap_alloc_new w _, Nat.le_refl _, by unfold maxLen; omega, rfl, rfl⟩⟩, rfl⟩ ((Kp.refl [] w).alloc _)
theorem rw_own (hz : Zoo w0 w os) (hm : RwT e a n cap xs ∈ os) : w.ownsRow w0.heap.size e 1 (.slice a n cap) n xs := by
  obtain ⟨F, h1, _⟩ := zoo_mem hz hm
  exact h1
theorem rw_app (hz : Zoo w0 W (l1 ++ RwT e a n cap xs :: r)) (hown : w2.ownsRow w0.heap.size e 1 (.slice (some ⟨g2, 0, none⟩) (n + 1) cap2) (n + 1) ys) (hgrow : W.grownBy w2 (Value.slice a n cap).ownBlock) (hat : (Value.slice a n cap).ownBlock = some g2 ∨ g2 = W.heap.size) :
    Zoo w0 w2 (l1 ++ RwT e (some ⟨g2, 0, none⟩) (n + 1) cap2 ys :: r) := by
  obtain ⟨F, ⟨h1, h2⟩, k2⟩ := hz.at_
  have hob : ∀ g, (Value.slice a n cap).ownBlock = some g → g ∈ F := fun g hg => by
    rw [h2]
    cases a with
    | none => simp [Value.ownBlock] at hg
    | some ad => simp [Value.ownBlock] at hg; simp [ob, hg]
  refine k2 _ _ ⟨[g2], ⟨hown, rfl⟩, (Kp.refl F W).grown hgrow (fun g hg => .inl (hob g hg)), fun x hx => ?_⟩
  rw [List.mem_singleton.1 hx]
  rcases hat with q | q
  · exact .inl (hob _ q)
  · exact .inr (by omega)
theorem rw_cell (hz : Zoo w0 w os) (hm : RwT e a n cap xs ∈ os) {i : Nat} {v : Value} (hi : xs[i]? = some v) : ∃ g, a = some ⟨g, 0, none⟩ ∧ w.cell? ⟨g, i, none⟩ = some v := by
  have h := rw_own hz hm
  have hl : xs.length = n * 1 := h.1
  have hlt : i < xs.length := (List.getElem?_eq_some_iff.1 hi).1
  rcases h.2 with ⟨_, e1⟩ | ⟨g, cap', cur, e1, _, h3, h4, h5, h6, h7⟩
  · omega
  · simp only [Value.slice.injEq] at e1
    refine ⟨g, e1.1, cell_of_block h3 ?_⟩
    rw [← h7, List.getElem?_take] at hi
    split at hi
    · simpa using hi
    · cases hi
end
/-- A row of numbers, among others. -/
structure Kr where
  a : Option Addr
  cap : Nat
  L : List Int
def krT (k : Kr) : Thing := RwT 3 k.a k.L.length k.cap (icells k.L)
def krv (k : Kr) : Value := .slice k.a k.L.length k.cap
theorem kr_slI {w0 w : World} {os : List Thing} {k : Kr} (hz : Zoo w0 w os) (hm : krT k ∈ os) : SlI w k.a k.L := fun _ => by
  have h := rw_own hz hm
  rcases h.2 with ⟨e, e'⟩ | ⟨g, c, cur, e, _⟩
  · omega
  · simp only [Value.slice.injEq] at e
    refine ⟨g, 0, e.1, fun j hj => ?_⟩
    obtain ⟨g', e1, hc⟩ := rw_cell hz hm (icells_at hj)
    rw [e.1] at e1
    simp only [Option.some.injEq, Addr.mk.injEq, and_true] at e1
    rw [Nat.zero_add, e1]
    exact hc
/-- What is so of the commits that were noted. -/
structure FiI (h : HSt) (na : Nat) (ks : List Kr) : Prop where
  na : na = h.n + 1
  ks : ks.map Kr.L = [] :: h.cs.map kys
theorem FiI.len {h : HSt} {na : Nat} {ks : List Kr} (f : FiI h na ks) (hi : HInv h) : ks.length = na := by
  have := congrArg List.length f.ks
  simp only [List.length_map, List.length_cons] at this
  rw [this, f.na, hi.vi.len]
theorem FiI.at_ {h : HSt} {na : Nat} {ks : List Kr} (f : FiI h na ks) (hi : HInv h) {m : Nat} (hm : m + 1 < na) : ∃ k c, ks[m + 1]? = some k ∧ h.cs[m]? = some c ∧ k.L = kys c := by
  have hl := f.len hi
  have h1 : m + 1 < ks.length := by omega
  have h2 : m < h.cs.length := by have := f.na; have := hi.vi.len; omega
  refine ⟨ks[m + 1], h.cs[m], List.getElem?_eq_getElem h1, List.getElem?_eq_getElem h2, ?_⟩
  have h3 := congrArg (fun l => l[m + 1]?) f.ks
  simp only [List.getElem?_map, List.getElem?_cons_succ, List.getElem?_eq_getElem h1, List.getElem?_eq_getElem h2, Option.map_some, Option.some.injEq] at h3
  exact h3
theorem FiI.more {h h' : HSt} {na : Nat} {ks : List Kr} (f : FiI h na ks) {c : List Ver} (hn : h'.n = h.n + 1) (hc : h'.cs = h.cs ++ [c]) (k : Kr) (hk : k.L = kys c) : FiI h' (na + 1) (ks ++ [k]) :=
  ⟨by rw [hn, f.na], by rw [List.map_append, f.ks, hc, List.map_append]; simp [hk]⟩
theorem kys_len (c : List Ver) : (kys c).length = c.length := by simp [kys]
theorem kys_at {c : List Ver} {m : Nat} (hm : m < c.length) : (kys c).take (m + 1) = (kys c).take m ++ [va c m] := by
  have h1 : m < (kys c).length := by rw [kys_len]; exact hm
  rw [List.take_succ_eq_append_getElem h1]
  simp [kys, va, List.getD_eq_getElem?_getD, hm]
end Go.Proofs.Ytehhpmfeaeabgac
