/- tables, as the laws meet it; an array of all keys' values in a variable: its cells, one by one. -/
import Derived.Test.YtainekjcdmabbaaX2
import Derived.Deep.WholeRow
namespace Go.Proofs.Ytainekjcdmabbaa
open Go.RowKit
set_option maxRecDepth 20000

theorem Tbl.base {B C : Nat} {w : World} {tb : Nat} {F : List Nat} {f : Nat → List Ver} {n : Nat} (h : Tbl B w tb F f n) (hC : C ≤ B) : Tbl C w tb F f n := by
  obtain ⟨b, g, cap, h⟩ := h
  refine ⟨b, g, cap, h.box, fun k hk8 => ?_, h.bb, h.gg, h.bg, h.tne, h.tF, h.bF, h.gF, fun x hx => ⟨Nat.le_trans hC (h.lo x hx).1, (h.lo x hx).2⟩, h.inv, Nat.le_trans hC h.hB⟩
  have hc := h.chn k hk8
  exact ⟨own_base hc.own hC, hc.box, hc.ne, Nat.le_trans hC hc.hb, hc.pos⟩

structure W16 (w : World) (p : Nat) (v : Nat → Ver) : Prop where
  c0 : w.cell? ⟨p, 0, none⟩ = some (.bool (v 0).t)
  c1 : w.cell? ⟨p, 1, none⟩ = some (.string (v 0).s)
  c2 : w.cell? ⟨p, 2, none⟩ = some (.bool (v 1).t)
  c3 : w.cell? ⟨p, 3, none⟩ = some (.string (v 1).s)
  c4 : w.cell? ⟨p, 4, none⟩ = some (.bool (v 2).t)
  c5 : w.cell? ⟨p, 5, none⟩ = some (.string (v 2).s)
  c6 : w.cell? ⟨p, 6, none⟩ = some (.bool (v 3).t)
  c7 : w.cell? ⟨p, 7, none⟩ = some (.string (v 3).s)
  c8 : w.cell? ⟨p, 8, none⟩ = some (.bool (v 4).t)
  c9 : w.cell? ⟨p, 9, none⟩ = some (.string (v 4).s)
  c10 : w.cell? ⟨p, 10, none⟩ = some (.bool (v 5).t)
  c11 : w.cell? ⟨p, 11, none⟩ = some (.string (v 5).s)
  c12 : w.cell? ⟨p, 12, none⟩ = some (.bool (v 6).t)
  c13 : w.cell? ⟨p, 13, none⟩ = some (.string (v 6).s)
  c14 : w.cell? ⟨p, 14, none⟩ = some (.bool (v 7).t)
  c15 : w.cell? ⟨p, 15, none⟩ = some (.string (v 7).s)
theorem w16 {w : World} {p : Nat} {v : Nat → Ver} (h : w.heap[p]? = some (.cells (wagg v) 66 (0, 0))) : W16 w p v :=
  ⟨cell_of_block h rfl, cell_of_block h rfl, cell_of_block h rfl, cell_of_block h rfl, cell_of_block h rfl, cell_of_block h rfl, cell_of_block h rfl, cell_of_block h rfl, cell_of_block h rfl, cell_of_block h rfl, cell_of_block h rfl, cell_of_block h rfl, cell_of_block h rfl, cell_of_block h rfl, cell_of_block h rfl, cell_of_block h rfl⟩

theorem eq66' (v : Nat → Ver) : ∀ w : World, (Op.equalIn 10000 66 (.agg #[.bool (v 0).t, .string (v 0).s, .bool (v 1).t, .string (v 1).s, .bool (v 2).t, .string (v 2).s, .bool (v 3).t, .string (v 3).s, .bool (v 4).t, .string (v 4).s, .bool (v 5).t, .string (v 5).s, .bool (v 6).t, .string (v 6).s, .bool (v 7).t, .string (v 7).s]) (.agg #[.bool (v 0).t, .string (v 0).s, .bool (v 1).t, .string (v 1).s, .bool (v 2).t, .string (v 2).s, .bool (v 3).t, .string (v 3).s, .bool (v 4).t, .string (v 4).s, .bool (v 5).t, .string (v 5).s, .bool (v 6).t, .string (v 6).s, .bool (v 7).t, .string (v 7).s])).run Try.prog w = .ok true w := fun w => eq66 v w

theorem tables_tbx (a : Option Addr) (n1 c : Nat) (st : Nat → TStep) (w0 w : World) (h : TSts w0 a n1 st) (hk : Kp [] w0 w) (hn : n1 ≤ 80) (hps : ∀ i, i < n1 → (st i).ps.length ≤ 50) :
    Calls Try.prog 35 #[.slice a n1 c] w fun e w' => ∃ tb sb f n, e = .returned (.tuple #[.pointer (some ⟨tb, 0, none⟩), .pointer (some ⟨sb, 0, none⟩), .bool true]) ∧ Hid (Tbx w0 w' tb f n []) := by
  refine (tables31 a n1 c st w (h.kp0 hk) hn hps).mono ?_
  rintro e w' ⟨tb, sb, f, n, rfl, hb⟩
  obtain ⟨F, G, h1, h2, h3, h4⟩ := unhide hb
  exact ⟨tb, sb, f, n, rfl, F, h1.base hk.size, hk.trans0 h4, fun x hx => by simp at hx⟩

theorem tbx_var {w0 w : World} {tb : Nat} {f : Nat → List Ver} {n : Nat} {X : List Nat} (h : Tbx w0 w tb f n X) (v : Nat → Ver) :
    Hid (Tbx w0 (w.alloc (.cells (wagg v) 66)) tb f n (w.heap.size :: X)) ∧ Hid ((w.alloc (.cells (wagg v) 66)).heap[w.heap.size]? = some (.cells (wagg v) 66 (0, 0))) :=
  ⟨h.alloc _, heap_alloc_new w _⟩
end Go.Proofs.Ytainekjcdmabbaa
