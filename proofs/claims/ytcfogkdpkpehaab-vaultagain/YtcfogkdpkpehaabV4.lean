/- Rows of all keys' values: append onto them, and one of them read; beside a vault. -/
import Derived.Test.YtcfogkdpkpehaabV3
import Derived.Test.YtcfogkdpkpehaabM6
import Derived.Deep.MidRow
import Derived.Deep.AppendLies
namespace Go.Proofs.Ytcfogkdpkpehaab
open Go.RowKit
set_option maxRecDepth 20000

def wcs (us : List (Nat → Ver)) : List Value := us.flatMap fun u => (wagg u).toList
theorem wagg_len (u : Nat → Ver) : (wagg u).toList.length = 16 := rfl
theorem wcs_append (us : List (Nat → Ver)) (u : Nat → Ver) : wcs (us ++ [u]) = wcs us ++ (wagg u).toList := by simp [wcs]
theorem wcs_cons (us : List (Nat → Ver)) (u : Nat → Ver) : wcs (u :: us) = (wagg u).toList ++ wcs us := by simp [wcs]
theorem wcs_len (us : List (Nat → Ver)) : (wcs us).length = us.length * 16 := by
  induction us with
  | nil => rfl
  | cons x r ih => rw [wcs_cons, List.length_append, wagg_len, ih, List.length_cons]; omega
theorem wcs_at {us : List (Nat → Ver)} {u : Nat → Ver} {j : Nat} (hj : j < 16) : ∀ {i : Nat}, us[i]? = some u → (wcs us)[i * 16 + j]? = (wagg u).toList[j]? := by
  induction us with
  | nil => intro i h; simp at h
  | cons x r ih =>
    intro i h
    rw [wcs_cons]
    cases i with
    | zero =>
      simp only [List.getElem?_cons_zero, Option.some.injEq] at h
      subst h
      rw [List.getElem?_append_left (by rw [wagg_len]; omega)]
      simp
    | succ i =>
      rw [List.getElem?_cons_succ] at h
      rw [List.getElem?_append_right (by rw [wagg_len]; omega), wagg_len, ← ih h]
      congr 1
      omega
/-- A row of all keys' values that a call owns. -/
def WsT (a : Option Addr) (cap : Nat) (us : List (Nat → Ver)) : Thing where
  holds B w F := w.ownsRow B 89 16 (.slice a us.length cap) us.length (wcs us) ∧ F = ob a
  kp := fun ⟨h1, h2⟩ hk hS => ⟨own_kp h1 hk (fun g hg => hS g (by rw [h2]; cases a with | none => simp [Value.ownBlock] at hg | some ad => simp [Value.ownBlock] at hg; simp [ob, hg])), h2⟩
  lo := fun ⟨h1, h2⟩ x hx => by
    subst h2
    rcases h1.2 with ⟨e, _⟩ | ⟨g, cap', cur, e, hB, hg, _⟩
    · simp only [Value.slice.injEq] at e; rw [e.1] at hx; simp [ob] at hx
    · simp only [Value.slice.injEq] at e; rw [e.1] at hx; simp [ob] at hx; have := lt_of_block hg; omega
  base := fun ⟨h1, h2⟩ hC => ⟨own_base h1 hC, h2⟩
theorem Try.info89 : (Try.prog.info? 89).map (fun i => (i.zero, i.size, i.bytes)) = some (some (.agg #[.bool false, .string ByteArray.empty, .bool false, .string ByteArray.empty, .bool false, .string ByteArray.empty, .bool false, .string ByteArray.empty, .bool false, .string ByteArray.empty, .bool false, .string ByteArray.empty, .bool false, .string ByteArray.empty, .bool false, .string ByteArray.empty]), 16, 192) := by kernel_rfl
section
variable {w0 w W w2 : World} {V : Thing} {r : List Thing} {a : Option Addr} {cap : Nat} {us : List (Nat → Ver)}
theorem ws_nil (hz : Zoo w0 w (V :: r)) : Zoo w0 w (V :: WsT none 0 [] :: r) := Zoo.put_ (l1 := [V]) hz (F := []) ⟨World.ownsRow_nil _ _ _ _, rfl⟩ (Kp.refl _ _)
theorem ws_own (hz : Zoo w0 w (V :: WsT a cap us :: r)) : w.ownsRow w0.heap.size 89 16 (.slice a us.length cap) us.length (wcs us) := by
  obtain ⟨F, h1, _⟩ := zoo_at1 hz
  exact h1.1
theorem ws_app {g2 cap2 : Nat} {u : Nat → Ver} (hz : Zoo w0 W (V :: WsT a cap us :: r)) (hown : w2.ownsRow w0.heap.size 89 16 (.slice (some ⟨g2, 0, none⟩) (us.length + 1) cap2) (us.length + 1) (wcs us ++ (wagg u).toList)) (hgrow : W.grownBy w2 (Value.slice a us.length cap).ownBlock) (hat : (Value.slice a us.length cap).ownBlock = some g2 ∨ g2 = W.heap.size) :
    Zoo w0 w2 (V :: WsT (some ⟨g2, 0, none⟩) cap2 (us ++ [u]) :: r) := by
  obtain ⟨F, ⟨h1, h2⟩, k2⟩ := zoo_at1 hz
  refine k2 _ _ ⟨[g2], ⟨by rw [wcs_append]; simpa using hown, rfl⟩, (Kp.refl F W).grown hgrow (fun g hg => .inl ?_), fun x hx => ?_⟩
  · rw [h2]
    cases a with
    | none => simp [Value.ownBlock] at hg
    | some ad => simp [Value.ownBlock] at hg; simp [ob, hg]
  · have e : x = g2 := by simpa using hx
    subst e
    rcases hat with e | e
    · left
      rw [h2]
      cases a with
      | none => simp [Value.ownBlock] at e
      | some ad => simp [Value.ownBlock] at e; simp [ob, e]
    · right; omega
theorem ws_range {i : Nat} {u : Nat → Ver} (hz : Zoo w0 w (V :: WsT a cap us :: r)) (hi : us[i]? = some u) : ∃ g, a = some ⟨g, 0, none⟩ ∧ w.rangeAt g (i * 16) (wagg u).toList := by
  obtain ⟨F, ⟨h1, h2⟩, _⟩ := zoo_at1 hz
  have hil := (List.getElem?_eq_some_iff.1 hi).1
  rcases h1.2 with ⟨e, e0⟩ | ⟨g, cap', cur, e, hB, hg, _, _, _, htk⟩
  · omega
  · simp only [Value.slice.injEq] at e
    refine ⟨g, e.1, fun j v hv => ?_⟩
    have hj : j < 16 := by have := (List.getElem?_eq_some_iff.1 hv).1; rw [wagg_len] at this; exact this
    refine cell_of_block hg ?_
    have h3 := wcs_at hj hi
    rw [hv, ← htk, List.getElem?_take, if_pos (by omega)] at h3
    simpa using h3
theorem ws_var {p : Nat} {u : Nat → Ver} (h : w.heap[p]? = some (.cells (wagg u) 89 (0, 0))) : w.rangeAt p 0 (wagg u).toList := fun j v hv => by
  rw [Nat.zero_add]
  exact cell_of_block h (by simpa using hv)
end
/-- All keys' values, loaded; told in full. -/
theorem wpList_load66x {ops : Array Oper} {rest : List Oper} {o : Oper} {a : Act} {w : World} {Q : Exit → Act → World → Prop} (hw : Region.wanted o (yielded ops a.tmps) = true) (x : Operand) (ho : o.op = .load 89 x)
    (g : Nat) (hx : a.eval x = .pointer (some ⟨g, 0, none⟩)) (v : Nat → Ver) (hg : w.heap[g]? = some (.cells (wagg v) 89 (0, 0))) (h : wpList Try.prog ops Q rest (a.put o.dst (.agg #[.bool (v 0).t, .string (v 0).s, .bool (v 1).t, .string (v 1).s, .bool (v 2).t, .string (v 2).s, .bool (v 3).t, .string (v 3).s, .bool (v 4).t, .string (v 4).s, .bool (v 5).t, .string (v 5).s, .bool (v 6).t, .string (v 6).s, .bool (v 7).t, .string (v 7).s])) w) : wpList Try.prog ops Q (o :: rest) a w :=
  wpList_load66 hw x ho g hx v hg h
theorem yields_mid {ops : Array Oper} {S : World → Prop} {op : Oper} {a : Act} (hw : Region.wanted op (yielded ops a.tmps) = true) (x : Operand) (ho : op.op = .load 89 x) (b o : Nat) (hx : a.eval x = .pointer (some ⟨b, o, none⟩)) (u : Nat → Ver) (hS : ∀ w, S w → w.rangeAt b o (wagg u).toList) : YieldsIf Try.prog ops S op (.agg (wagg u)) a := by
  have h := yieldsIf_load_mid (P := Try.prog) hw 89 x ho b o hx (wagg u).toList _ hS Try.underlying89 rfl Try.size89
  rw [Array.toArray_toList] at h
  exact h
/-- What is told of the commits that are known. -/
def wss (f : Nat → List Ver) (n m : Nat) (k : Nat) : List (Nat → Ver) := (List.range k).map fun i => shw f n ((m + i : Nat) : Int) 8
theorem wss_len (f : Nat → List Ver) (n m k : Nat) : (wss f n m k).length = k := by simp [wss]
theorem wss_succ (f : Nat → List Ver) (n m k : Nat) : wss f n m (k + 1) = wss f n m k ++ [shw f n ((m + k : Nat) : Int) 8] := by simp [wss, List.range_succ]
theorem wss_at {f : Nat → List Ver} {n m k i : Nat} (h : i < k) : (wss f n m k)[i]? = some (shw f n ((m + i : Nat) : Int) 8) := by simp [wss, h]
end Go.Proofs.Ytcfogkdpkpehaab
