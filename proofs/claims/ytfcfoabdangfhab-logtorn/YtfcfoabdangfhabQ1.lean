/- Bytes in memory; append onto them; string(b), b[i:j]. -/
import Derived.Test.YtfcfoabdangfhabQ0
import Derived.Test.YtfcfoabdangfhabOwn
import Derived.Deep.AppendSrc
import Derived.Laws.IdiomStrings
namespace Go.Proofs.Ytfcfoabdangfhab
open Go.RowKit
set_option maxRecDepth 20000

/-- The k-th byte, as a number. -/
def ub (bs : List UInt8) (k : Nat) : Nat := (bs.getD k 0).toNat
def bcells (bs : List UInt8) : List Value := bs.map fun b => Value.int .u8 b.toNat

theorem bcells_length (bs : List UInt8) : (bcells bs).length = bs.length := by simp [bcells]
theorem bcells_append (xs ys : List UInt8) : bcells (xs ++ ys) = bcells xs ++ bcells ys := by simp [bcells]
theorem bcells_at {bs : List UInt8} {k : Nat} (h : k < bs.length) : (bcells bs)[k]? = some (.int .u8 (ub bs k : Nat)) := by
  simp [bcells, ub, List.getD_eq_getElem?_getD, List.getElem?_eq_getElem h]
theorem bcells_one (bs : List UInt8) : ∀ u ∈ bcells bs, u.oneCell' = true := by
  intro u hu
  obtain ⟨_, _, rfl⟩ := List.mem_map.1 hu
  rfl
theorem ub_lt (bs : List UInt8) (k : Nat) : ub bs k < 256 := (bs.getD k 0).toNat_lt
theorem ub_drop (bs : List UInt8) (l k : Nat) : ub (bs.drop l) k = ub bs (l + k) := by simp [ub, List.getD_eq_getElem?_getD, List.getElem?_drop]
theorem ub_take (bs : List UInt8) {l k : Nat} (h : k < l) : ub (bs.take l) k = ub bs k := by simp [ub, List.getD_eq_getElem?_getD, h]

/-- The bytes lie in block g from offset o on. -/
def SlU (w : World) (g o : Nat) (bs : List UInt8) : Prop := ∀ j, j < bs.length → w.cell? ⟨g, o + j, none⟩ = some (.int .u8 (ub bs j : Nat))
theorem SlU.kp {S : List Nat} {w w' : World} {g o : Nat} {bs : List UInt8} (h : SlU w g o bs) (hk : Kp S w w') (hg : g ∉ S) : SlU w' g o bs :=
  fun j hj => hk.cell (p := ⟨g, o + j, none⟩) hg (h j hj)
theorem SlU.drop {w : World} {g o : Nat} {bs : List UInt8} (h : SlU w g o bs) (l : Nat) : SlU w g (o + l) (bs.drop l) := fun j hj => by
  rw [ub_drop, Nat.add_assoc]
  exact h (l + j) (by simp at hj; omega)
theorem SlU.take {w : World} {g o : Nat} {bs : List UInt8} (h : SlU w g o bs) (l : Nat) : SlU w g o (bs.take l) := fun j hj => by
  simp at hj
  rw [ub_take _ (by omega)]
  exact h j (by omega)
theorem SlU.news {w : World} {g o : Nat} {bs : List UInt8} (h : SlU w g o bs) : ∀ j u, (bcells bs)[j]? = some u → w.cell? ((⟨g, o, none⟩ : Addr).add j) = some u := fun j u hu => by
  have hj : j < bs.length := by rw [← bcells_length]; exact (List.getElem?_eq_some_iff.1 hu).1
  rw [addr_add, h j hj, ← bcells_at hj]; exact hu

/-- The bytes lie behind a slice's address. -/
def Byt (w : World) (a : Option Addr) (bs : List UInt8) : Prop := 0 < bs.length → ∃ g o, a = some ⟨g, o, none⟩ ∧ SlU w g o bs
theorem Byt.kp {S : List Nat} {w w' : World} {a : Option Addr} {bs : List UInt8} (h : Byt w a bs) (hk : Kp S w w') (hS : ∀ g o, a = some ⟨g, o, none⟩ → g ∉ S) : Byt w' a bs := fun hp => by
  obtain ⟨g, o, e, hs⟩ := h hp
  exact ⟨g, o, e, hs.kp hk (hS g o e)⟩
theorem Byt.kp0 {w w' : World} {a : Option Addr} {bs : List UInt8} (h : Byt w a bs) (hk : Kp [] w w') : Byt w' a bs := h.kp hk (fun _ _ _ => by simp)
theorem byt_nil (w : World) (a : Option Addr) : Byt w a [] := fun h => by simp at h

/-- A row of bytes that a call made since w0, and changed nothing else. -/
structure Row (w0 w : World) (g cap : Nat) (bs : List UInt8) : Prop where
  own : w.ownsRow w0.heap.size 5 1 (.slice (some ⟨g, 0, none⟩) bs.length cap) bs.length (bcells bs)
  kp : Kp [] w0 w
theorem Row.lt {w0 w : World} {g cap : Nat} {bs : List UInt8} (h : Row w0 w g cap bs) : w0.heap.size ≤ g ∧ g < w.heap.size := h.own.lt g rfl
theorem Row.cap {w0 w : World} {g cap : Nat} {bs : List UInt8} (h : Row w0 w g cap bs) : bs.length ≤ cap := by
  rcases h.own.2 with ⟨e, _⟩ | ⟨g2, c2, cur, e, q1, q2, q3, q4, q5, q6⟩
  · simp at e
  · simp only [Value.slice.injEq, Option.some.injEq, Addr.mk.injEq, and_true, true_and] at e
    obtain ⟨rfl, rfl⟩ := e
    exact q3
theorem Row.kp0 {w0 w w' : World} {g cap : Nat} {bs : List UInt8} (h : Row w0 w g cap bs) (hk : Kp [] w w') : Row w0 w' g cap bs := ⟨own_kp0 h.own hk, h.kp.trans0 hk⟩
theorem Row.since {w0 w1 w : World} {g cap : Nat} {bs : List UInt8} (h : Row w1 w g cap bs) (hk : Kp [] w0 w1) : Row w0 w g cap bs := ⟨own_base h.own hk.size, hk.trans0 h.kp⟩
theorem Row.slu {w0 w : World} {g cap : Nat} {bs : List UInt8} (h : Row w0 w g cap bs) : SlU w g 0 bs := fun j hj => by
  have := h.own.cellAt j (by omega)
  rw [Nat.zero_add, this, bcells_at hj]
theorem Row.byt {w0 w : World} {g cap : Nat} {bs : List UInt8} (h : Row w0 w g cap bs) : Byt w (some ⟨g, 0, none⟩) bs := fun _ => ⟨g, 0, rfl, h.slu⟩
theorem row_lit (w0 w : World) (hk : Kp [] w0 w) (bs : List UInt8) (cs : Array Value) (hc : cs.toList = bcells bs) (hm : bs.length ≤ 1000) : Row w0 (w.alloc (.cells cs 5)) w.heap.size bs.length bs := by
  refine ⟨⟨by rw [bcells_length]; omega, .inr ⟨w.heap.size, bs.length, cs, rfl, hk.size, heap_alloc_new w _, Nat.le_refl _, by unfold maxLen; omega, ?_, ?_⟩⟩, hk.alloc _⟩
  · rw [← Array.length_toList, hc, bcells_length]; omega
  · rw [hc, Nat.mul_one, ← bcells_length, List.take_length]

theorem Try.info5 : (Try.prog.info? 5).map (fun i => (i.zero, i.size, i.bytes)) = some (some (.int .u8 0), 1, 1) := by kernel_rfl

/-- What may be appended: bytes behind an address, a string. -/
theorem Byt.src {w : World} {a : Option Addr} {bs : List UInt8} (h : Byt w a bs) (c : Nat) : Src Try.prog 1 23 (.slice a bs.length c) bs.length (bcells bs) w := by
  by_cases hp : 0 < bs.length
  · obtain ⟨g, o, rfl, hs⟩ := h hp
    exact Src.ofSlice w Try.underlying23 ⟨g, o, none⟩ bs.length c (bcells bs) (by rw [bcells_length]; omega) hs.news (bcells_one bs)
  · have e : bs = [] := List.eq_nil_of_length_eq_zero (by omega)
    subst e
    cases a with
    | none => exact Src.ofNil w Try.underlying23 c
    | some a => exact Src.ofSlice w Try.underlying23 a 0 c [] (by simp) (by simp) (by simp)
theorem str_src (w : World) (s : ByteArray) : Src Try.prog 1 9 (.string s) s.data.toList.length (bcells s.data.toList) w := by
  rw [bytes_size]
  exact Src.ofString w Try.underlying9 s

theorem grown_row {w0 w : World} (hk : Kp [] w0 w) (bs : List UInt8) (cap : Nat) (hc : bs.length ≤ cap) (hcm : cap ≤ maxLen) (tl : Array Value) (ht : tl.size = cap - bs.length) :
    Row w0 (w.drew.alloc (.cells ((bcells bs).toArray ++ tl) 5)) w.heap.size cap bs := by
  refine ⟨⟨by rw [bcells_length]; omega, .inr ⟨w.heap.size, cap, _, rfl, hk.size, heap_alloc_new w.drew _, hc, hcm, ?_, ?_⟩⟩, hk.drew.alloc _⟩
  · simp only [Array.size_append, List.size_toArray, bcells_length, ht]; omega
  · simp only [Array.toList_append, Nat.mul_one]
    rw [← bcells_length bs]
    exact List.take_left

theorem run_app {w0 w : World} {g cap : Nat} {bs : List UInt8} (h : Row w0 w g cap bs) (tx ty : TypeId) (x : Value) (news : List UInt8) (hs : Src Try.prog 1 tx x news.length (bcells news) w) (hm : bs.length + news.length ≤ 100000) :
    ∃ g' cap' w', (Builtin.append_ #[23, tx] ty #[.slice (some ⟨g, 0, none⟩) bs.length cap, x]).run Try.prog w = .ok (.slice (some ⟨g', 0, none⟩) (bs ++ news).length cap') w' ∧
      Row w0 w' g' cap' (bs ++ news) ∧ Kp [g] w w' ∧ (g' = g ∨ g' = w.heap.size) := by
  obtain ⟨i0, hi0, hz0, hz1, hz2⟩ := info_parts Try.info5
  have hB := h.kp.size
  have hgl := h.lt
  rcases h.own.2 with ⟨e, _⟩ | ⟨g2, c2, cur, e, q1, q2, q3, q4, q5, q6⟩
  · simp at e
  · simp only [Value.slice.injEq, Option.some.injEq, Addr.mk.injEq, and_true, true_and] at e
    obtain ⟨rfl, rfl⟩ := e
    have hs' : Src Try.prog i0.size tx x news.length (bcells news) w := by rw [hz1]; exact hs
    simp only [Nat.mul_one] at q5 q6
    by_cases hroom : bs.length + news.length ≤ cap
    · have hst := run_storeCells_at Try.prog g bs.length 5 (bcells news) 0 cur w q2 (by rw [bcells_length]; omega) (bcells_one news)
      simp only [Nat.add_zero] at hst
      refine ⟨g, cap, w.setRow g (cur.toList.take bs.length ++ bcells news ++ cur.toList.drop (bs.length + (bcells news).length)).toArray, ?_, ⟨⟨?_, .inr ⟨g, cap, _, rfl, q1, setRow_heap w g cur _ 5 _ q2, by simp; omega, q4, ?_, ?_⟩⟩, ?_⟩, ?_, .inl rfl⟩
      · have hl : (bs ++ news).length = bs.length + news.length := by simp
        rw [hl]
        rcases hs'.kind with ⟨e', hk⟩ | hk <;> simp [Builtin.append_, run_underlying Try.underlying23, run_underlying hk, sizeOf, typeInfo, hi0, hz1, hs.len, hroom, hs.cells, Addr.add_lit, hst]
      · rw [bcells_length]; omega
      · simp only [List.size_toArray, List.length_append, List.length_take, List.length_drop, Array.length_toList, bcells_length]
        omega
      · rw [q6, Nat.mul_one]
        have hl : (bs ++ news).length = (bcells bs ++ bcells news).length := by simp [bcells_length]
        rw [hl, bcells_append]
        exact List.take_left
      · exact ⟨h.kp.os, h.kp.tape, h.kp.output, by simpa using h.kp.size, fun k hk hn => by rw [setRow_other w g k _ (by omega)]; exact h.kp.block k hk hn⟩
      · exact ⟨rfl, rfl, rfl, by simp, fun k _ hn => setRow_other w g k _ (by simpa using hn)⟩
    · have hfo := run_firstCells_some (P := Try.prog) w.drew i0.size bs.length ⟨g, 0, none⟩ bs.length cap (bcells bs) (by rw [bcells_length, hz1]; omega) (fun j u hu => by simpa using h.slu.news j u hu)
      have hge := grownCap_ge w (bs.length + news.length) cap 5
      have hfit : Builtin.nextslicecap (bs.length + news.length) cap * i0.bytes ≤ 281474976710656 := growslice_fits (by omega) (by rw [hz2]; omega)
      have hr := run_append_grow_src (P := Try.prog) w 23 tx ty 5 i0 _ Try.underlying23 hi0 hz0 (some ⟨g, 0, none⟩) bs.length cap (bcells bs) hfo x news.length (bcells news) hs' (by omega) (by omega) hfit
      have hl : (bs ++ news).length = bs.length + news.length := by simp
      rw [← bcells_append, ← hl] at hr
      refine ⟨w.heap.size, _, _, hr, grown_row h.kp (bs ++ news) _ (by rw [hl]; exact hge) (grownCap_le_maxLen w _ _ _ (by rw [hl]; unfold maxLen; omega)) _ ?_, ?_, .inr rfl⟩
      · rw [size_zeroCells]; simp [Value.cells]
      · exact ((Kp.refl [g] w).drew.alloc _)

theorem run_app_nil {w0 w : World} (hk : Kp [] w0 w) (tx ty : TypeId) (x : Value) (news : List UInt8) (hs : Src Try.prog 1 tx x news.length (bcells news) w) (hp : 0 < news.length) (hm : news.length ≤ 100000) :
    ∃ cap' w', (Builtin.append_ #[23, tx] ty #[.slice none 0 0, x]).run Try.prog w = .ok (.slice (some ⟨w.heap.size, 0, none⟩) news.length cap') w' ∧ Row w0 w' w.heap.size cap' news ∧ Kp [] w w' := by
  obtain ⟨i0, hi0, hz0, hz1, hz2⟩ := info_parts Try.info5
  have hs' : Src Try.prog i0.size tx x news.length (bcells news) w := by rw [hz1]; exact hs
  have hge := grownCap_ge w (0 + news.length) 0 5
  have hfit : Builtin.nextslicecap (0 + news.length) 0 * i0.bytes ≤ 281474976710656 := growslice_fits (by omega) (by rw [hz2]; omega)
  have hr := run_append_grow_src (P := Try.prog) w 23 tx ty 5 i0 _ Try.underlying23 hi0 hz0 none 0 0 [] (run_firstCells_none w.drew i0.size 0 0 0) x news.length (bcells news) hs' (by omega) (by omega) hfit
  rw [List.nil_append, Nat.zero_add] at hr
  refine ⟨_, _, hr, grown_row hk news _ (by rw [Nat.zero_add] at hge; exact hge) (grownCap_le_maxLen w _ _ _ (by unfold maxLen; omega)) _ ?_, ((Kp.refl [] w).drew.alloc _)⟩
  rw [size_zeroCells]; simp [Value.cells]

end Go.Proofs.Ytfcfoabdangfhab
