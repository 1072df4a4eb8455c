/- tables, as the laws meet it; an array of all keys' values in a variable: its cells, one by one. -/
import Derived.Test.YtcfogkdpkpehaabX2
import Derived.Deep.WholeRow
namespace Go.Proofs.Ytcfogkdpkpehaab
open Go.RowKit
set_option maxRecDepth 20000

structure W16 (w : World) (p : Nat) (v : Nat → Ver) : Prop where
  c0 : w.cell? ⟨p, 0, none⟩ = some (.bool (v 0).t)
  c1 : w.cell? ⟨p, 1, none⟩ = some (.string (v 0).s)
  c2 : w.cell? ⟨p, 2, none⟩ = some (.bool (v 1).t)
  c3 : w.cell? ⟨p, 3, none⟩ = some (.string (v 1).s)
  c4 : w.cell? ⟨p, 4, none⟩ = some (.bool (v 2).t)
  c5 : w.cell? ⟨p, 5, none⟩ = some (.string (v 2).s)
  c6 : w.cell? ⟨p, 6, none⟩ = some (.bool (v 3).t)
  c7 : w.cell? ⟨p, 7, none⟩ = some (.string (v 3).s)
  c8 : w.cell? ⟨p, 8, none⟩ = some (.bool (v 4).t)
  c9 : w.cell? ⟨p, 9, none⟩ = some (.string (v 4).s)
  c10 : w.cell? ⟨p, 10, none⟩ = some (.bool (v 5).t)
  c11 : w.cell? ⟨p, 11, none⟩ = some (.string (v 5).s)
  c12 : w.cell? ⟨p, 12, none⟩ = some (.bool (v 6).t)
  c13 : w.cell? ⟨p, 13, none⟩ = some (.string (v 6).s)
  c14 : w.cell? ⟨p, 14, none⟩ = some (.bool (v 7).t)
  c15 : w.cell? ⟨p, 15, none⟩ = some (.string (v 7).s)
theorem w16 {w : World} {p : Nat} {v : Nat → Ver} (h : w.heap[p]? = some (.cells (wagg v) 89 (0, 0))) : W16 w p v :=
  ⟨cell_of_block h rfl, cell_of_block h rfl, cell_of_block h rfl, cell_of_block h rfl, cell_of_block h rfl, cell_of_block h rfl, cell_of_block h rfl, cell_of_block h rfl, cell_of_block h rfl, cell_of_block h rfl, cell_of_block h rfl, cell_of_block h rfl, cell_of_block h rfl, cell_of_block h rfl, cell_of_block h rfl, cell_of_block h rfl⟩

theorem eq66' (v : Nat → Ver) : ∀ w : World, (Op.equalIn 10000 89 (.agg #[.bool (v 0).t, .string (v 0).s, .bool (v 1).t, .string (v 1).s, .bool (v 2).t, .string (v 2).s, .bool (v 3).t, .string (v 3).s, .bool (v 4).t, .string (v 4).s, .bool (v 5).t, .string (v 5).s, .bool (v 6).t, .string (v 6).s, .bool (v 7).t, .string (v 7).s]) (.agg #[.bool (v 0).t, .string (v 0).s, .bool (v 1).t, .string (v 1).s, .bool (v 2).t, .string (v 2).s, .bool (v 3).t, .string (v 3).s, .bool (v 4).t, .string (v 4).s, .bool (v 5).t, .string (v 5).s, .bool (v 6).t, .string (v 6).s, .bool (v 7).t, .string (v 7).s])).run Try.prog w = .ok true w := fun w => eq66 v w

theorem tbx_var {w0 w : World} {tb : Nat} {f : Nat → List Ver} {n : Nat} {X : List Nat} (h : Tbx w0 w tb f n X) (v : Nat → Ver) :
    Hid (Tbx w0 (w.alloc (.cells (wagg v) 89)) tb f n (w.heap.size :: X)) ∧ Hid ((w.alloc (.cells (wagg v) 89)).heap[w.heap.size]? = some (.cells (wagg v) 89 (0, 0))) :=
  ⟨h.alloc _, heap_alloc_new w _⟩
end Go.Proofs.Ytcfogkdpkpehaab
