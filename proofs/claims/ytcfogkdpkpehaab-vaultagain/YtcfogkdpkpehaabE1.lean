/- The values of all keys, as an array by value: its cells, and that it equals itself. -/
import Derived.Test.YtcfogkdpkpehaabM6
import Derived.ChangeKeysEq
namespace Go.Proofs.Ytcfogkdpkpehaab
open Go.RowKit
set_option maxRecDepth 20000

/-- The cells of all keys' values. -/
def wagg (v : Nat → Ver) : Array Value :=
  #[.bool (v 0).t, .string (v 0).s, .bool (v 1).t, .string (v 1).s, .bool (v 2).t, .string (v 2).s, .bool (v 3).t, .string (v 3).s, .bool (v 4).t, .string (v 4).s, .bool (v 5).t, .string (v 5).s, .bool (v 6).t, .string (v 6).s, .bool (v 7).t, .string (v 7).s]

theorem wagg_at0 (v : Nat → Ver) {k : Nat} (hk : k < 8) : (wagg v)[k * 2]? = some (.bool (v k).t) := by
  rcases lt8 hk with rfl | rfl | rfl | rfl | rfl | rfl | rfl | rfl <;> rfl
theorem wagg_at1 (v : Nat → Ver) {k : Nat} (hk : k < 8) : (wagg v)[k * 2 + 1]? = some (.string (v k).s) := by
  rcases lt8 hk with rfl | rfl | rfl | rfl | rfl | rfl | rfl | rfl <;> rfl
theorem wagg_set (v : Nat → Ver) {k : Nat} (hk : k < 8) (u : Ver) : ((wagg v).setIfInBounds (k * 2) (.bool u.t)).setIfInBounds (k * 2 + 1) (.string u.s) = wagg (upd v k u) := by
  rcases lt8 hk with rfl | rfl | rfl | rfl | rfl | rfl | rfl | rfl <;> rfl
theorem wagg_congr {v u : Nat → Ver} (h : ∀ k, k < 8 → (v k).t = (u k).t ∧ (v k).s = (u k).s) : wagg v = wagg u := by
  unfold wagg
  rw [(h 0 (by omega)).1, (h 0 (by omega)).2, (h 1 (by omega)).1, (h 1 (by omega)).2, (h 2 (by omega)).1, (h 2 (by omega)).2, (h 3 (by omega)).1, (h 3 (by omega)).2, (h 4 (by omega)).1, (h 4 (by omega)).2, (h 5 (by omega)).1, (h 5 (by omega)).2, (h 6 (by omega)).1, (h 6 (by omega)).2, (h 7 (by omega)).1, (h 7 (by omega)).2]
theorem wagg_one (v : Nat → Ver) : (wagg v).all (·.oneCell') = true := by
  simp [wagg, Value.oneCell']

theorem Try.info38 : (Try.prog.info? 38).map (fun i => (i.zero, i.size, i.bytes)) = some (some (.agg #[.bool false, .string ByteArray.empty]), 2, 24) := by kernel_rfl
theorem Try.size89 : (Try.prog.info? 89).map (·.size) = some 16 := by kernel_rfl
theorem Try.cel38 : Try.prog.cellsOf 38 = 2 := by kernel_rfl
theorem Try.held38 : Try.prog.stoodInHeld 38 = false := by kernel_rfl

theorem part24 (v : Nat → Ver) {k : Nat} (hk : k < 8) (w : World) : (part 38 (wagg v) (k * 2)).run Try.prog w = .ok (.agg #[.bool (v k).t, .string (v k).s]) w := by
  have h1 : (isAgg 38).run Try.prog w = .ok true w := by
    unfold isAgg
    rw [Sem.run_bind, run_underlying Try.underlying38 w]
    rfl
  have h3 : (wagg v).extract (k * 2) (k * 2 + 2) = #[.bool (v k).t, .string (v k).s] := by
    rcases lt8 hk with rfl | rfl | rfl | rfl | rfl | rfl | rfl | rfl <;> rfl
  unfold part
  simp [Sem.run_bind, h1, h3]

theorem eq24 (d : Nat) (t : Bool) (s : ByteArray) (w : World) : (Op.equalIn (d + 2) 38 (.agg #[.bool t, .string s]) (.agg #[.bool t, .string s])).run Try.prog w = .ok true w := by
  have hu : Try.prog.underlying 38 = some (.struct (Try.prog.fieldsOf 38)) := by simp [Program.fieldsOf, Try.underlying38]
  rw [run_equalIn_struct w (d + 1) 38 _ _ hu Try.held38]
  simp [Program.fieldsOf, Try.underlying38, Op.eqFields, go_sem, Try.underlying4, Try.underlying9]

theorem items24 (d : Nat) (v : Nat → Ver) : ∀ (is : List Nat) (w : World), (∀ i, i ∈ is → i < 8) → (Op.eqItems (d + 2) 38 2 (wagg v) (wagg v) is).run Try.prog w = .ok true w := by
  intro is
  induction is with
  | nil => intro w _; simp [Op.eqItems]
  | cons i is ih =>
    intro w h
    have hi := h i (by simp)
    simp only [Op.eqItems, Sem.run_bind, part24 v hi w, eq24, Result.andThen_ok]
    simpa using ih w (fun j hj => h j (by simp [hj]))

theorem eq66 (v : Nat → Ver) (w : World) : (Op.equalIn 10000 89 (.agg (wagg v)) (.agg (wagg v))).run Try.prog w = .ok true w := by
  obtain ⟨i0, hi0, hz0, hz1, hz2⟩ := info_parts Try.info38
  have h := run_equalIn_array (P := Try.prog) w 9999 (wagg v) (wagg v) Try.underlying89 hi0
  rw [Try.cel38] at h
  rw [show (10000 : Nat) = 9999 + 1 from rfl, h]
  exact items24 9997 v (List.range 8) w (fun i hi => List.mem_range.1 hi)

theorem wload {w : World} {p : Nat} {v : Nat → Ver} (h : w.heap[p]? = some (.cells (wagg v) 89 (0, 0))) : (loadVar 89 ⟨p, 0, none⟩).run Try.prog w = .ok (.agg (wagg v)) w :=
  run_loadVar_row w p 89 89 (wagg v) (0, 0) _ h Try.underlying89 rfl Try.size89
end Go.Proofs.Ytcfogkdpkpehaab
