/- A step of a deed in a variable. -/
import Derived.Test.YtainekjcdmabbaaY1
namespace Go.Proofs.Ytainekjcdmabbaa
open Go.RowKit

/-- A step in a variable. -/
def Stv (w : World) (b : Nat) (d k to_ : Int) (t : Bool) (s : ByteArray) (v : Value) : Prop := w.heap[b]? = some (.cells #[.int .i64 d, .int .i64 k, .int .i64 to_, .bool t, .string s, v] 89 (0, 0))
section
variable {w w' : World} {b : Nat} {d k to_ : Int} {t : Bool} {s : ByteArray} {v : Value}
theorem Stv.kp {S : List Nat} (h : Stv w b d k to_ t s v) (hk : Kp S w w') (hS : b ∉ S) : Stv w' b d k to_ t s v := by
  unfold Stv at h ⊢
  rw [hk.block b (lt_of_block h) hS]; exact h
theorem Stv.c0 (h : Stv w b d k to_ t s v) : w.cell? ⟨b, 0, none⟩ = some (.int .i64 d) := cell_of_block h rfl
theorem Stv.c1 (h : Stv w b d k to_ t s v) : w.cell? ⟨b, 1, none⟩ = some (.int .i64 k) := cell_of_block h rfl
theorem Stv.c2 (h : Stv w b d k to_ t s v) : w.cell? ⟨b, 2, none⟩ = some (.int .i64 to_) := cell_of_block h rfl
theorem Stv.c3 (h : Stv w b d k to_ t s v) : w.cell? ⟨b, 3, none⟩ = some (.bool t) := cell_of_block h rfl
theorem Stv.c4 (h : Stv w b d k to_ t s v) : w.cell? ⟨b, 4, none⟩ = some (.string s) := cell_of_block h rfl
theorem Stv.c5 (h : Stv w b d k to_ t s v) : w.cell? ⟨b, 5, none⟩ = some v := cell_of_block h rfl
theorem Stv.lt (h : Stv w b d k to_ t s v) : b < w.heap.size := lt_of_block h
end
theorem stv_new (w : World) (d k to_ : Int) (t : Bool) (s : ByteArray) (v : Value) : Stv (w.alloc (.cells #[.int .i64 d, .int .i64 k, .int .i64 to_, .bool t, .string s, v] 89)) w.heap.size d k to_ t s v := heap_alloc_new w _

end Go.Proofs.Ytainekjcdmabbaa
