/- Bound together for a claim. -/
import Derived.Test.YtldkeaeohceckadGreatDoorM1
import Derived.Deep.AppendSrc
import Derived.Laws.IdiomStrings
import Derived.Deep.Upon
import Derived.Deep.RegionLaw
import Derived.Deep.RegionWith
namespace Go.Proofs.YtldkeaeohceckadGreatDoor
set_option maxRecDepth 20000
set_option maxHeartbeats 64000000
/- Many things in memory beside each other: each with its own blocks, no two sharing one; a call on one of them leaves the others. -/
section
open Go.RowKit

/-- A thing in memory: what is so of it (since B, in a world, with its own blocks F), and that it hangs on its own blocks alone. -/
structure Thing where
  holds : Nat → World → List Nat → Prop
  kp : ∀ {B : Nat} {w w' : World} {S F : List Nat}, holds B w F → Kp S w w' → (∀ x, x ∈ F → x ∉ S) → holds B w' F
  lo : ∀ {B : Nat} {w : World} {F : List Nat}, holds B w F → ∀ x, x ∈ F → B ≤ x ∧ x < w.heap.size
  base : ∀ {B C : Nat} {w : World} {F : List Nat}, holds B w F → C ≤ B → holds C w F

/-- The things of a list, X all their blocks. -/
def ZooF (B : Nat) (w : World) : List Thing → List Nat → Prop
  | [], X => X = []
  | o :: r, X => ∃ F Y, o.holds B w F ∧ ZooF B w r Y ∧ (∀ x, x ∈ F → x ∉ Y) ∧ X = F ++ Y

theorem ZooF.lo {B : Nat} {w : World} : ∀ {os : List Thing} {X : List Nat}, ZooF B w os X → ∀ x, x ∈ X → B ≤ x ∧ x < w.heap.size
  | [], X, h, x, hx => by rw [show X = [] from h] at hx; simp at hx
  | o :: _, X, ⟨F, Y, h1, h2, _, e⟩, x, hx => by
    subst e
    rcases List.mem_append.1 hx with q | q
    · exact o.lo h1 x q
    · exact ZooF.lo h2 x q
theorem ZooF.kp {B : Nat} {w w' : World} {S : List Nat} (hk : Kp S w w') : ∀ {os : List Thing} {X : List Nat}, ZooF B w os X → (∀ x, x ∈ X → x ∉ S) → ZooF B w' os X
  | [], _, h, _ => h
  | o :: _, X, ⟨F, Y, h1, h2, h3, e⟩, hS => by
    subst e
    exact ⟨F, Y, o.kp h1 hk (fun x hx => hS x (by simp [hx])), ZooF.kp hk h2 (fun x hx => hS x (by simp [hx])), h3, rfl⟩
theorem ZooF.base {B C : Nat} {w : World} (hC : C ≤ B) : ∀ {os : List Thing} {X : List Nat}, ZooF B w os X → ZooF C w os X
  | [], _, h => h
  | o :: _, _, ⟨F, Y, h1, h2, h3, e⟩ => ⟨F, Y, o.base h1 hC, ZooF.base hC h2, h3, e⟩

/-- All were made since w0, and all that was there is as it was. -/
def Zoo (w0 w : World) (os : List Thing) : Prop := ∃ X, ZooF w0.heap.size w os X ∧ Kp [] w0 w

section
variable {w0 w w' : World} {o o' : Thing} {os r : List Thing}
theorem Zoo.kp (h : Zoo w0 w os) : Kp [] w0 w := by
  obtain ⟨_, _, h⟩ := h
  exact h
theorem Zoo.kp0 (h : Zoo w0 w os) (hk : Kp [] w w') : Zoo w0 w' os := by
  obtain ⟨X, h1, h2⟩ := h
  exact ⟨X, h1.kp hk (fun _ _ => by simp), h2.trans0 hk⟩
theorem zoo_nil (hk : Kp [] w0 w) : Zoo w0 w [] := ⟨[], rfl, hk⟩
/-- The first one, its blocks, and what a call on it may do. -/
theorem Zoo.head (h : Zoo w0 w (o :: r)) : ∃ F, o.holds w0.heap.size w F ∧ ∀ (o' : Thing) (w' : World), (∃ F', o'.holds w0.heap.size w' F' ∧ Kp F w w' ∧ ∀ x, x ∈ F' → x ∈ F ∨ w.heap.size ≤ x) → Zoo w0 w' (o' :: r) := by
  obtain ⟨X, ⟨F, Y, h1, h2, h3, rfl⟩, h4⟩ := h
  refine ⟨F, h1, fun o' w' ⟨F', k1, k2, k3⟩ => ⟨F' ++ Y, ⟨F', Y, k1, h2.kp k2 (fun x hx hf => h3 x hf hx), fun x hx hy => ?_, rfl⟩, h4.trans k2 (fun x hx => .inr (o.lo h1 x hx).1)⟩⟩
  rcases k3 x hx with e | e
  · exact h3 x e hy
  · have := (h2.lo x hy).2; omega
/-- A new one. -/
theorem Zoo.cons (h : Zoo w0 w os) {F : List Nat} (ho : o.holds w.heap.size w' F) (hk : Kp [] w w') : Zoo w0 w' (o :: os) := by
  obtain ⟨X, h1, h2⟩ := h
  refine ⟨F ++ X, ⟨F, X, o.base ho h2.size, h1.kp hk (fun _ _ => by simp), fun x hx hy => ?_, rfl⟩, h2.trans0 hk⟩
  have := (o.lo ho x hx).1
  have := (h1.lo x hy).2
  omega
theorem Zoo.tail (h : Zoo w0 w (o :: r)) : Zoo w0 w r := by
  obtain ⟨X, ⟨F, Y, h1, h2, h3, rfl⟩, h4⟩ := h
  exact ⟨Y, h2, h4⟩
end

theorem ZooF.perm {B : Nat} {w : World} {us vs : List Thing} (hp : us.Perm vs) : ∀ {X : List Nat}, ZooF B w us X → ∃ Y, ZooF B w vs Y ∧ ∀ x, x ∈ Y ↔ x ∈ X := by
  induction hp with
  | nil => intro X h; exact ⟨X, h, fun _ => Iff.rfl⟩
  | cons o _ ih =>
    rintro X ⟨F, Y, h1, h2, h3, rfl⟩
    obtain ⟨Z, k1, k2⟩ := ih h2
    exact ⟨F ++ Z, ⟨F, Z, h1, k1, fun x hx hz => h3 x hx ((k2 x).1 hz), rfl⟩, fun x => by simp [k2 x]⟩
  | swap a b l =>
    rintro X ⟨F, Y, h1, ⟨F2, Y2, h4, h5, h6, rfl⟩, h3, rfl⟩
    refine ⟨F2 ++ (F ++ Y2), ⟨F2, F ++ Y2, h4, ⟨F, Y2, h1, h5, fun x hx hy => h3 x hx (by simp [hy]), rfl⟩, fun x hx hy => ?_, rfl⟩, fun x => by simp [or_left_comm]⟩
    rcases List.mem_append.1 hy with q | q
    · exact h3 x q (by simp [hx])
    · exact h6 x hx q
  | trans _ _ ih1 ih2 =>
    intro X h
    obtain ⟨Y, h1, h2⟩ := ih1 h
    obtain ⟨Z, h3, h4⟩ := ih2 h1
    exact ⟨Z, h3, fun x => (h4 x).trans (h2 x)⟩
theorem Zoo.perm {w0 w : World} {us vs : List Thing} (h : Zoo w0 w us) (hp : us.Perm vs) : Zoo w0 w vs := by
  obtain ⟨X, h1, h2⟩ := h
  obtain ⟨Y, k1, _⟩ := h1.perm hp
  exact ⟨Y, k1, h2⟩
/-- One of them, its blocks, and what a call on it may do: it is changed where it stands. -/
theorem Zoo.at_ {w0 w : World} {l1 l2 : List Thing} {o : Thing} (h : Zoo w0 w (l1 ++ o :: l2)) : ∃ F, o.holds w0.heap.size w F ∧ ∀ (o' : Thing) (w' : World), (∃ F', o'.holds w0.heap.size w' F' ∧ Kp F w w' ∧ ∀ x, x ∈ F' → x ∈ F ∨ w.heap.size ≤ x) → Zoo w0 w' (l1 ++ o' :: l2) := by
  obtain ⟨F, h1, h2⟩ := (h.perm List.perm_middle).head
  exact ⟨F, h1, fun o' w' k => (h2 o' w' k).perm List.perm_middle.symm⟩
theorem Zoo.drop_ {w0 w : World} {l1 l2 : List Thing} {o : Thing} (h : Zoo w0 w (l1 ++ o :: l2)) : Zoo w0 w (l1 ++ l2) := (h.perm List.perm_middle).tail
/-- A new one, in between. -/
theorem Zoo.put_ {w0 w w' : World} {l1 l2 : List Thing} {o : Thing} (h : Zoo w0 w (l1 ++ l2)) {F : List Nat} (ho : o.holds w.heap.size w' F) (hk : Kp [] w w') : Zoo w0 w' (l1 ++ o :: l2) := (h.cons ho hk).perm List.perm_middle.symm

end
/- Bytes in memory; append onto them; string(b), b[i:j]. -/
section
open Go.RowKit

/-- The k-th byte, as a number. -/
def ub (bs : List UInt8) (k : Nat) : Nat := (bs.getD k 0).toNat
def bcells (bs : List UInt8) : List Value := bs.map fun b => Value.int .u8 b.toNat

theorem bcells_length (bs : List UInt8) : (bcells bs).length = bs.length := by simp [bcells]
theorem bcells_append (xs ys : List UInt8) : bcells (xs ++ ys) = bcells xs ++ bcells ys := by simp [bcells]
theorem bcells_at {bs : List UInt8} {k : Nat} (h : k < bs.length) : (bcells bs)[k]? = some (.int .u8 (ub bs k : Nat)) := by
  simp [bcells, ub, List.getD_eq_getElem?_getD, List.getElem?_eq_getElem h]
theorem bcells_one (bs : List UInt8) : ∀ u ∈ bcells bs, u.oneCell' = true := by
  intro u hu
  obtain ⟨_, _, rfl⟩ := List.mem_map.1 hu
  rfl
theorem ub_lt (bs : List UInt8) (k : Nat) : ub bs k < 256 := (bs.getD k 0).toNat_lt
theorem ub_drop (bs : List UInt8) (l k : Nat) : ub (bs.drop l) k = ub bs (l + k) := by simp [ub, List.getD_eq_getElem?_getD, List.getElem?_drop]
theorem ub_take (bs : List UInt8) {l k : Nat} (h : k < l) : ub (bs.take l) k = ub bs k := by simp [ub, List.getD_eq_getElem?_getD, h]

/-- The bytes lie in block g from offset o on. -/
def SlU (w : World) (g o : Nat) (bs : List UInt8) : Prop := ∀ j, j < bs.length → w.cell? ⟨g, o + j, none⟩ = some (.int .u8 (ub bs j : Nat))
theorem SlU.kp {S : List Nat} {w w' : World} {g o : Nat} {bs : List UInt8} (h : SlU w g o bs) (hk : Kp S w w') (hg : g ∉ S) : SlU w' g o bs :=
  fun j hj => hk.cell (p := ⟨g, o + j, none⟩) hg (h j hj)
theorem SlU.drop {w : World} {g o : Nat} {bs : List UInt8} (h : SlU w g o bs) (l : Nat) : SlU w g (o + l) (bs.drop l) := fun j hj => by
  rw [ub_drop, Nat.add_assoc]
  exact h (l + j) (by simp at hj; omega)
theorem SlU.take {w : World} {g o : Nat} {bs : List UInt8} (h : SlU w g o bs) (l : Nat) : SlU w g o (bs.take l) := fun j hj => by
  simp at hj
  rw [ub_take _ (by omega)]
  exact h j (by omega)
theorem SlU.news {w : World} {g o : Nat} {bs : List UInt8} (h : SlU w g o bs) : ∀ j u, (bcells bs)[j]? = some u → w.cell? ((⟨g, o, none⟩ : Addr).add j) = some u := fun j u hu => by
  have hj : j < bs.length := by rw [← bcells_length]; exact (List.getElem?_eq_some_iff.1 hu).1
  rw [addr_add, h j hj, ← bcells_at hj]; exact hu

/-- The bytes lie behind a slice's address. -/
def Byt (w : World) (a : Option Addr) (bs : List UInt8) : Prop := 0 < bs.length → ∃ g o, a = some ⟨g, o, none⟩ ∧ SlU w g o bs
theorem Byt.kp {S : List Nat} {w w' : World} {a : Option Addr} {bs : List UInt8} (h : Byt w a bs) (hk : Kp S w w') (hS : ∀ g o, a = some ⟨g, o, none⟩ → g ∉ S) : Byt w' a bs := fun hp => by
  obtain ⟨g, o, e, hs⟩ := h hp
  exact ⟨g, o, e, hs.kp hk (hS g o e)⟩
theorem Byt.kp0 {w w' : World} {a : Option Addr} {bs : List UInt8} (h : Byt w a bs) (hk : Kp [] w w') : Byt w' a bs := h.kp hk (fun _ _ _ => by simp)
theorem byt_nil (w : World) (a : Option Addr) : Byt w a [] := fun h => by simp at h

/-- A row of bytes that a call made since w0, and changed nothing else. -/
structure Row (w0 w : World) (g cap : Nat) (bs : List UInt8) : Prop where
  own : w.ownsRow w0.heap.size 5 1 (.slice (some ⟨g, 0, none⟩) bs.length cap) bs.length (bcells bs)
  kp : Kp [] w0 w
theorem Row.lt {w0 w : World} {g cap : Nat} {bs : List UInt8} (h : Row w0 w g cap bs) : w0.heap.size ≤ g ∧ g < w.heap.size := h.own.lt g rfl
theorem Row.cap {w0 w : World} {g cap : Nat} {bs : List UInt8} (h : Row w0 w g cap bs) : bs.length ≤ cap := by
  rcases h.own.2 with ⟨e, _⟩ | ⟨g2, c2, cur, e, q1, q2, q3, q4, q5, q6⟩
  · simp at e
  · simp only [Value.slice.injEq, Option.some.injEq, Addr.mk.injEq, and_true, true_and] at e
    obtain ⟨rfl, rfl⟩ := e
    exact q3
theorem Row.kp0 {w0 w w' : World} {g cap : Nat} {bs : List UInt8} (h : Row w0 w g cap bs) (hk : Kp [] w w') : Row w0 w' g cap bs := ⟨own_kp0 h.own hk, h.kp.trans0 hk⟩
theorem Row.since {w0 w1 w : World} {g cap : Nat} {bs : List UInt8} (h : Row w1 w g cap bs) (hk : Kp [] w0 w1) : Row w0 w g cap bs := ⟨own_base h.own hk.size, hk.trans0 h.kp⟩
theorem Row.slu {w0 w : World} {g cap : Nat} {bs : List UInt8} (h : Row w0 w g cap bs) : SlU w g 0 bs := fun j hj => by
  have := h.own.cellAt j (by omega)
  rw [Nat.zero_add, this, bcells_at hj]
theorem Row.byt {w0 w : World} {g cap : Nat} {bs : List UInt8} (h : Row w0 w g cap bs) : Byt w (some ⟨g, 0, none⟩) bs := fun _ => ⟨g, 0, rfl, h.slu⟩
theorem row_lit (w0 w : World) (hk : Kp [] w0 w) (bs : List UInt8) (cs : Array Value) (hc : cs.toList = bcells bs) (hm : bs.length ≤ 1000) : Row w0 (w.alloc (.cells cs 5)) w.heap.size bs.length bs := by
  refine ⟨⟨by rw [bcells_length]; omega, .inr ⟨w.heap.size, bs.length, cs, rfl, hk.size, heap_alloc_new w _, Nat.le_refl _, by unfold maxLen; omega, ?_, ?_⟩⟩, hk.alloc _⟩
  · rw [← Array.length_toList, hc, bcells_length]; omega
  · rw [hc, Nat.mul_one, ← bcells_length, List.take_length]

theorem Tryz.info5 : (Tryz.prog.info? 5).map (fun i => (i.zero, i.size, i.bytes)) = some (some (.int .u8 0), 1, 1) := by kernel_rfl

/-- What may be appended: bytes behind an address, a string. -/
theorem Byt.src {w : World} {a : Option Addr} {bs : List UInt8} (h : Byt w a bs) (c : Nat) : Src Tryz.prog 1 42 (.slice a bs.length c) bs.length (bcells bs) w := by
  by_cases hp : 0 < bs.length
  · obtain ⟨g, o, rfl, hs⟩ := h hp
    exact Src.ofSlice w Tryz.underlying42 ⟨g, o, none⟩ bs.length c (bcells bs) (by rw [bcells_length]; omega) hs.news (bcells_one bs)
  · have e : bs = [] := List.eq_nil_of_length_eq_zero (by omega)
    subst e
    cases a with
    | none => exact Src.ofNil w Tryz.underlying42 c
    | some a => exact Src.ofSlice w Tryz.underlying42 a 0 c [] (by simp) (by simp) (by simp)
theorem str_src (w : World) (s : ByteArray) : Src Tryz.prog 1 9 (.string s) s.data.toList.length (bcells s.data.toList) w := by
  rw [bytes_size]
  exact Src.ofString w Tryz.underlying9 s

theorem grown_row {w0 w : World} (hk : Kp [] w0 w) (bs : List UInt8) (cap : Nat) (hc : bs.length ≤ cap) (hcm : cap ≤ maxLen) (tl : Array Value) (ht : tl.size = cap - bs.length) :
    Row w0 (w.drew.alloc (.cells ((bcells bs).toArray ++ tl) 5)) w.heap.size cap bs := by
  refine ⟨⟨by rw [bcells_length]; omega, .inr ⟨w.heap.size, cap, _, rfl, hk.size, heap_alloc_new w.drew _, hc, hcm, ?_, ?_⟩⟩, hk.drew.alloc _⟩
  · simp only [Array.size_append, List.size_toArray, bcells_length, ht]; omega
  · simp only [Array.toList_append, Nat.mul_one]
    rw [← bcells_length bs]
    exact List.take_left

theorem run_app {w0 w : World} {g cap : Nat} {bs : List UInt8} (h : Row w0 w g cap bs) (tx ty : TypeId) (x : Value) (news : List UInt8) (hs : Src Tryz.prog 1 tx x news.length (bcells news) w) (hm : bs.length + news.length ≤ 100000) :
    ∃ g' cap' w', (Builtin.append_ #[42, tx] ty #[.slice (some ⟨g, 0, none⟩) bs.length cap, x]).run Tryz.prog w = .ok (.slice (some ⟨g', 0, none⟩) (bs ++ news).length cap') w' ∧
      Row w0 w' g' cap' (bs ++ news) ∧ Kp [g] w w' ∧ (g' = g ∨ g' = w.heap.size) := by
  obtain ⟨i0, hi0, hz0, hz1, hz2⟩ := info_parts Tryz.info5
  have hB := h.kp.size
  have hgl := h.lt
  rcases h.own.2 with ⟨e, _⟩ | ⟨g2, c2, cur, e, q1, q2, q3, q4, q5, q6⟩
  · simp at e
  · simp only [Value.slice.injEq, Option.some.injEq, Addr.mk.injEq, and_true, true_and] at e
    obtain ⟨rfl, rfl⟩ := e
    have hs' : Src Tryz.prog i0.size tx x news.length (bcells news) w := by rw [hz1]; exact hs
    simp only [Nat.mul_one] at q5 q6
    by_cases hroom : bs.length + news.length ≤ cap
    · have hst := run_storeCells_at Tryz.prog g bs.length 5 (bcells news) 0 cur w q2 (by rw [bcells_length]; omega) (bcells_one news)
      simp only [Nat.add_zero] at hst
      refine ⟨g, cap, w.setRow g (cur.toList.take bs.length ++ bcells news ++ cur.toList.drop (bs.length + (bcells news).length)).toArray, ?_, ⟨⟨?_, .inr ⟨g, cap, _, rfl, q1, setRow_heap w g cur _ 5 _ q2, by simp; omega, q4, ?_, ?_⟩⟩, ?_⟩, ?_, .inl rfl⟩
      · have hl : (bs ++ news).length = bs.length + news.length := by simp
        rw [hl]
        rcases hs'.kind with ⟨e', hk⟩ | hk <;> simp [Builtin.append_, run_underlying Tryz.underlying42, run_underlying hk, sizeOf, typeInfo, hi0, hz1, hs.len, hroom, hs.cells, Addr.add_lit, hst]
      · rw [bcells_length]; omega
      · simp only [List.size_toArray, List.length_append, List.length_take, List.length_drop, Array.length_toList, bcells_length]
        omega
      · rw [q6, Nat.mul_one]
        have hl : (bs ++ news).length = (bcells bs ++ bcells news).length := by simp [bcells_length]
        rw [hl, bcells_append]
        exact List.take_left
      · exact ⟨h.kp.os, h.kp.tape, h.kp.output, by simpa using h.kp.size, fun k hk hn => by rw [setRow_other w g k _ (by omega)]; exact h.kp.block k hk hn⟩
      · exact ⟨rfl, rfl, rfl, by simp, fun k _ hn => setRow_other w g k _ (by simpa using hn)⟩
    · have hfo := run_firstCells_some (P := Tryz.prog) w.drew i0.size bs.length ⟨g, 0, none⟩ bs.length cap (bcells bs) (by rw [bcells_length, hz1]; omega) (fun j u hu => by simpa using h.slu.news j u hu)
      have hge := grownCap_ge w (bs.length + news.length) cap 5
      have hfit : Builtin.nextslicecap (bs.length + news.length) cap * i0.bytes ≤ 281474976710656 := growslice_fits (by omega) (by rw [hz2]; omega)
      have hr := run_append_grow_src (P := Tryz.prog) w 42 tx ty 5 i0 _ Tryz.underlying42 hi0 hz0 (some ⟨g, 0, none⟩) bs.length cap (bcells bs) hfo x news.length (bcells news) hs' (by omega) (by omega) hfit
      have hl : (bs ++ news).length = bs.length + news.length := by simp
      rw [← bcells_append, ← hl] at hr
      refine ⟨w.heap.size, _, _, hr, grown_row h.kp (bs ++ news) _ (by rw [hl]; exact hge) (grownCap_le_maxLen w _ _ _ (by rw [hl]; unfold maxLen; omega)) _ ?_, ?_, .inr rfl⟩
      · rw [size_zeroCells]; simp [Value.cells]
      · exact ((Kp.refl [g] w).drew.alloc _)

theorem run_app_nil {w0 w : World} (hk : Kp [] w0 w) (tx ty : TypeId) (x : Value) (news : List UInt8) (hs : Src Tryz.prog 1 tx x news.length (bcells news) w) (hp : 0 < news.length) (hm : news.length ≤ 100000) :
    ∃ cap' w', (Builtin.append_ #[42, tx] ty #[.slice none 0 0, x]).run Tryz.prog w = .ok (.slice (some ⟨w.heap.size, 0, none⟩) news.length cap') w' ∧ Row w0 w' w.heap.size cap' news ∧ Kp [] w w' := by
  obtain ⟨i0, hi0, hz0, hz1, hz2⟩ := info_parts Tryz.info5
  have hs' : Src Tryz.prog i0.size tx x news.length (bcells news) w := by rw [hz1]; exact hs
  have hge := grownCap_ge w (0 + news.length) 0 5
  have hfit : Builtin.nextslicecap (0 + news.length) 0 * i0.bytes ≤ 281474976710656 := growslice_fits (by omega) (by rw [hz2]; omega)
  have hr := run_append_grow_src (P := Tryz.prog) w 42 tx ty 5 i0 _ Tryz.underlying42 hi0 hz0 none 0 0 [] (run_firstCells_none w.drew i0.size 0 0 0) x news.length (bcells news) hs' (by omega) (by omega) hfit
  rw [List.nil_append, Nat.zero_add] at hr
  refine ⟨_, _, hr, grown_row hk news _ (by rw [Nat.zero_add] at hge; exact hge) (grownCap_le_maxLen w _ _ _ (by unfold maxLen; omega)) _ ?_, ((Kp.refl [] w).drew.alloc _)⟩
  rw [size_zeroCells]; simp [Value.cells]

end
/- append onto bytes, at the operation; appendPair, by its contract. -/
section
open Go.RowKit
attribute [local go_sem ↓] Go.wp_at_zero Go.wp_at_succ

theorem wpList_app {ops : Array Oper} {rest : List Oper} {o : Oper} {a : Act} {w : World} {Q : Exit → Act → World → Prop} (hw : Region.wanted o (yielded ops a.tmps) = true) (s x : Operand) (tx : TypeId)
    (ho : o.op = .call { callee := .builtin .append, args := #[s, x], argTypes := #[42, tx] }) {w0 : World} {g cap : Nat} {bs : List UInt8} (h : Row w0 w g cap bs) (n : Nat) (hn : n = bs.length) (xv : Value) (news : List UInt8)
    (hs : a.eval s = .slice (some ⟨g, 0, none⟩) n cap) (hx : a.eval x = xv) (hsrc : Src Tryz.prog 1 tx xv news.length (bcells news) w) (hm : bs.length + news.length ≤ 100000)
    (k : ∀ g' cap' n' w', Hid (n' = (bs ++ news).length) → Hid (Row w0 w' g' cap' (bs ++ news)) → Hid (Kp [g] w w') → Hid (g' = g ∨ g' = w.heap.size) → wpList Tryz.prog ops Q rest (a.put o.dst (.slice (some ⟨g', 0, none⟩) n' cap')) w') : wpList Tryz.prog ops Q (o :: rest) a w := by
  subst hn
  obtain ⟨g', cap', w', hr, h1, h2, h3⟩ := run_app h tx o.type xv news hsrc hm
  refine wpList_step fun K hK => ?_
  rw [if_pos hw]
  unfold Oper.wp execOp
  simp only [ho, resolve, invoke, builtin, Sem.run_bind, Sem.run_pure, Result.andThen_ok, List.map_toArray, List.map_cons, List.map_nil, hs, hx, hr]
  exact hK _ _ (k g' cap' _ w' rfl h1 h2 h3)

theorem mod_b8 (k : Int) : k % 256 = ((b8 k).toNat : Int) := (b8_toNat k).symm

/-- One byte, just laid into a block of its own. -/
theorem one_src {w : World} (b : Nat) (hb : b = w.heap.size) (u : UInt8) (x : Int) (h : x = (u.toNat : Int)) : Src Tryz.prog 1 42 (.slice (some ⟨b, 0, none⟩) 1 1) [u].length (bcells [u]) (w.alloc (.cells #[.int .u8 x] 5)) := by
  subst h
  subst hb
  exact (row_lit w w (Kp.refl _ _) [u] #[.int .u8 u.toNat] rfl (by simp)).byt.src 1

def ApEnd (w0 : World) (bs : List UInt8) (e : Ending) (w' : World) : Prop := ∃ g' cap' n', e = .returned (.slice (some ⟨g', 0, none⟩) n' cap') ∧ n' = bs.length ∧ Row w0 w' g' cap' bs
theorem apEnd_mk {w0 w' : World} {bs : List UInt8} {g' cap' n' : Nat} (hn : n' = bs.length) (h : Row w0 w' g' cap' bs) : ApEnd w0 bs (.returned (.slice (some ⟨g', 0, none⟩) n' cap')) w' := ⟨g', cap', n', rfl, hn, h⟩

theorem box_far {w w2 : World} {k x : Int} {t : Bool} {s : ByteArray} {g g2 : Nat} (hk : Kp [g] ((w.alloc (.cells #[.int .i64 k, .bool t, .string s] 106)).alloc (.cells #[.int .u8 x] 5)) w2)
    (hg2 : g2 = g ∨ g2 = ((w.alloc (.cells #[.int .i64 k, .bool t, .string s] 106)).alloc (.cells #[.int .u8 x] 5)).heap.size) (hg : g < w.heap.size) :
    w2.cell? ⟨w.heap.size, 1, none⟩ = some (.bool t) ∧ w2.cell? ⟨w.heap.size, 1 + 1, none⟩ = some (.string s) ∧ Hid (w.heap.size < w2.heap.size ∧ g2 ≠ w.heap.size) := by
  have h1 := hk.size
  simp at h1 hg2
  exact ⟨hk.cell (by simp; omega) (by simp), hk.cell (by simp; omega) (by simp), by omega, by omega⟩
theorem str_far {w2 w3 : World} {o : Obj} {s : ByteArray} {g2 q : Nat} (hk : Kp [g2] (w2.alloc o) w3) (hq : q < w2.heap.size ∧ g2 ≠ q) (h : w2.cell? ⟨q, 1 + 1, none⟩ = some (.string s)) : w3.cell? ⟨q, 1 + 1, none⟩ = some (.string s) :=
  hk.cell (by simp; omega) (((Kp.refl [] w2).alloc o).cell (by simp) h)

set_option maxHeartbeats 1000000 in
theorem appendPair17 {w0 w : World} {g cap n : Nat} {bs : List UInt8} (k : Int) (t : Bool) (s : ByteArray) (h : Row w0 w g cap bs) (hn : n = bs.length) (hm : bs.length ≤ 2000) (hs : s.size ≤ 300) :
    Calls Tryz.prog 193 #[.slice (some ⟨g, 0, none⟩) n cap, .agg #[.int .i64 k, .bool t, .string s]] w fun e w' => ApEnd w0 (bs ++ pb ⟨k, t, s⟩) e w' := by
  have hlt := h.lt
  have HR := hide (h.kp0 (((Kp.refl [] w).alloc (.cells #[.int .i64 k, .bool t, .string s] 106))))
  have HN := hide hn
  clear h hn
  cases t with
  | false =>
    go_enter Tryz.func193, Tryz.ntmps193
    go_wp2_with (first | (at_builtin; refine wpList_app (by rfl) (.tmp 5) (.tmp 9) 42 rfl ((unhide HR).kp0 ((Kp.refl [] _).alloc _)) n (unhide HN) (.slice (some ⟨w.heap.size + 1, 0, none⟩) 1 1) [b8 k] rfl rfl (one_src _ (by simp) (b8 k) _ (mod_b8 k)) (by simp; omega) ?_; intro g2 c2 n2 w2 hn2 hr2 hk2 hg2; obtain ⟨p1, p2, HQ2⟩ := box_far (unhide hk2) (unhide hg2) hlt.2) | (at_builtin; refine wpList_app (by rfl) (.tmp 15) (.tmp 16) 42 rfl ((unhide hr2).kp0 ((Kp.refl [] _).alloc _)) n2 (unhide hn2) (.slice (some ⟨w2.heap.size, 0, none⟩) 1 1) [255] rfl rfl (one_src _ rfl 255 _ rfl) (by simp; omega) ?_; intro g3 c3 n3 w3 hn3 hr3 hk3 hg3))
    go_ret
    exact apEnd_mk (by rw [unhide hn3]; simp [pb]) (by have := unhide hr3; simpa [pb] using this)
  | true =>
    go_enter Tryz.func193, Tryz.ntmps193
    go_wp2_with (first | (at_builtin; refine wpList_app (by rfl) (.tmp 5) (.tmp 9) 42 rfl ((unhide HR).kp0 ((Kp.refl [] _).alloc _)) n (unhide HN) (.slice (some ⟨w.heap.size + 1, 0, none⟩) 1 1) [b8 k] rfl rfl (one_src _ (by simp) (b8 k) _ (mod_b8 k)) (by simp; omega) ?_; intro g2 c2 n2 w2 hn2 hr2 hk2 hg2; obtain ⟨p1, p2, HQ2⟩ := box_far (unhide hk2) (unhide hg2) hlt.2) | (at_builtin; refine wpList_app (by rfl) (.tmp 18) (.tmp 24) 42 rfl ((unhide hr2).kp0 ((Kp.refl [] _).alloc _)) n2 (unhide hn2) (.slice (some ⟨w2.heap.size, 0, none⟩) 1 1) [b8 s.size] rfl rfl (one_src _ rfl (b8 s.size) _ (mod_b8 s.size)) (by simp; omega) ?_; intro g3 c3 n3 w3 hn3 hr3 hk3 hg3; have p3 := str_far (unhide hk3) (unhide HQ2) p2; clear p1 p2) | (at_builtin; refine wpList_app (by rfl) (.tmp 26) (.tmp 29) 9 rfl (unhide hr3) n3 (unhide hn3) (.string s) s.data.toList rfl rfl (str_src _ s) (by simp; omega) ?_; intro g4 c4 n4 w4 hn4 hr4 hk4 hg4))
    go_ret
    exact apEnd_mk (by rw [unhide hn4]; simp [pb]) (by have := unhide hr4; simpa [pb] using this)
end
/- append onto bytes that a call owns, whatever they are: nil, a row, nothing behind it. -/
section
open Go.RowKit
attribute [local go_sem ↓] Go.wp_at_zero Go.wp_at_succ

theorem kp_cut {w : World} {B : Nat} (h : B ≤ w.heap.size) : ∃ w0 : World, w0.heap.size = B ∧ Kp [] w0 w := by
  refine ⟨{ w with heap := w.heap.extract 0 B }, by simp; omega, rfl, rfl, rfl, by simp; omega, fun k hk _ => ?_⟩
  simp at hk
  simp only [Array.getElem?_extract]
  rw [if_pos (by omega), Nat.zero_add]

/-- The block behind an address. -/
def ob (a : Option Addr) : List Nat := match a with
  | none => []
  | some ad => [ad.block]
theorem ob_none : ob none = [] := rfl
theorem ob_some (g o : Nat) : ob (some ⟨g, o, none⟩) = [g] := rfl

/-- Bytes that a call owns since B. -/
def OwnU (B : Nat) (w : World) (a : Option Addr) (cap : Nat) (bs : List UInt8) : Prop := w.ownsRow B 5 1 (.slice a bs.length cap) bs.length (bcells bs)

section
variable {B : Nat} {w w' : World} {a : Option Addr} {cap : Nat} {bs : List UInt8}
theorem ownU_nil (B : Nat) (w : World) : OwnU B w none 0 [] := World.ownsRow_nil _ _ _ _
theorem OwnU.cases (h : OwnU B w a cap bs) : (a = none ∧ cap = 0 ∧ bs = []) ∨ ∃ g, a = some ⟨g, 0, none⟩ ∧ B ≤ g ∧ g < w.heap.size ∧ bs.length ≤ cap := by
  have h' := h
  rcases h.2 with ⟨e, _⟩ | ⟨g, c, cur, e, h1, h2, h3, _⟩
  · simp only [Value.slice.injEq] at e
    exact .inl ⟨e.1, e.2.2, List.eq_nil_of_length_eq_zero e.2.1⟩
  · simp only [Value.slice.injEq, true_and] at e
    obtain ⟨rfl, rfl⟩ := e
    exact .inr ⟨g, rfl, h1, lt_of_block h2, h3⟩
theorem OwnU.lo (h : OwnU B w a cap bs) : ∀ x ∈ ob a, B ≤ x ∧ x < w.heap.size := by
  intro x hx
  rcases h.cases with ⟨rfl, _⟩ | ⟨g, rfl, h1, h2, _⟩
  · simp [ob] at hx
  · simp [ob] at hx; omega
theorem OwnU.kp {S : List Nat} (h : OwnU B w a cap bs) (hk : Kp S w w') (hS : ∀ x ∈ ob a, x ∉ S) : OwnU B w' a cap bs := by
  refine own_kp h hk (fun g hg => ?_)
  rcases h.cases with ⟨rfl, _⟩ | ⟨g', rfl, _⟩
  · simp [Value.ownBlock] at hg
  · have : g' = g := by simpa [Value.ownBlock] using hg
    subst this
    exact hS g' (by simp [ob])
theorem OwnU.kp0 (h : OwnU B w a cap bs) (hk : Kp [] w w') : OwnU B w' a cap bs := h.kp hk (fun _ _ => by simp)
theorem OwnU.base {C : Nat} (h : OwnU B w a cap bs) (hC : C ≤ B) : OwnU C w a cap bs := own_base h hC
theorem OwnU.le (h : OwnU B w a cap bs) : bs.length ≤ cap := by
  rcases h.cases with ⟨_, rfl, rfl⟩ | ⟨_, _, _, _, h⟩
  · simp
  · exact h
theorem OwnU.row {w0 : World} {g : Nat} (h : OwnU w0.heap.size w (some ⟨g, 0, none⟩) cap bs) (hk : Kp [] w0 w) : Row w0 w g cap bs := ⟨h, hk⟩
theorem Row.ownU {w0 : World} {g : Nat} (h : Row w0 w g cap bs) : OwnU w0.heap.size w (some ⟨g, 0, none⟩) cap bs := h.own
theorem OwnU.byt (h : OwnU B w a cap bs) : Byt w a bs := by
  rcases h.cases with ⟨_, _, rfl⟩ | ⟨g, rfl, _⟩
  · exact byt_nil _ _
  · refine fun _ => ⟨g, 0, rfl, fun j hj => ?_⟩
    have := World.ownsRow.cellAt h j (by omega)
    rw [Nat.zero_add, this, bcells_at hj]
/-- The first bytes of a row are a row. -/
theorem OwnU.take (h : OwnU B w a cap bs) (k : Nat) (hk : k ≤ bs.length) : OwnU B w a cap (bs.take k) := by
  have hl : (bs.take k).length = k := by simp; omega
  refine ⟨by rw [bcells_length]; omega, ?_⟩
  rcases h.2 with ⟨e, e2⟩ | ⟨g, c, cur, e, h1, h2, h3, h4, h5, h6⟩
  · have : k = 0 := by omega
    subst this
    simp only [Value.slice.injEq] at e
    exact .inl ⟨by simp [e.1, e.2.2], by simp⟩
  · simp only [Value.slice.injEq, true_and] at e
    obtain ⟨rfl, rfl⟩ := e
    refine .inr ⟨g, cap, cur, rfl, h1, h2, by omega, h4, h5, ?_⟩
    simp only [Nat.mul_one] at h6 ⊢
    have e2 : cur.toList.take k = (cur.toList.take bs.length).take k := by rw [List.take_take, Nat.min_eq_left hk]
    rw [hl, e2, h6]
    simp [bcells, List.map_take]

theorem run_appx (h : OwnU B w a cap bs) (hB : B ≤ w.heap.size) (tx ty : TypeId) (x : Value) (news : List UInt8) (hs : Src Tryz.prog 1 tx x news.length (bcells news) w) (hm : bs.length + news.length ≤ 100000) :
    ∃ a' cap' w', (Builtin.append_ #[42, tx] ty #[.slice a bs.length cap, x]).run Tryz.prog w = .ok (.slice a' (bs ++ news).length cap') w' ∧
      OwnU B w' a' cap' (bs ++ news) ∧ Kp (ob a) w w' ∧ (∀ x ∈ ob a', x ∈ ob a ∨ w.heap.size ≤ x) := by
  obtain ⟨w0, e0, hk0⟩ := kp_cut hB
  rcases h.cases with ⟨rfl, rfl, rfl⟩ | ⟨g, rfl, h1, h2, h3⟩
  · by_cases hp : 0 < news.length
    · obtain ⟨cap', w', hr, h4, h5⟩ := run_app_nil hk0 tx ty x news hs hp (by omega)
      refine ⟨_, _, w', hr, ?_, h5, fun y hy => .inr (by simp [ob] at hy; omega)⟩
      have := h4.ownU
      rw [e0] at this
      exact this
    · have e : news = [] := List.eq_nil_of_length_eq_zero (by omega)
      subst e
      obtain ⟨i0, hi0, hz0, hz1, hz2⟩ := info_parts Tryz.info5
      have hs' : Src Tryz.prog i0.size tx x 0 [] w := by rw [hz1]; exact hs
      have hr := run_append_nothing (P := Tryz.prog) w 42 tx ty 5 i0 Tryz.underlying42 hi0 none 0 0 (Nat.le_refl _) x hs'
      exact ⟨none, 0, w, hr, h, Kp.refl _ _, fun y hy => .inl hy⟩
  · have hrow : Row w0 w g cap bs := ⟨by rw [e0]; exact h, hk0⟩
    obtain ⟨g', cap', w', hr, h4, h5, h6⟩ := run_app hrow tx ty x news hs hm
    refine ⟨_, _, w', hr, ?_, h5, fun y hy => ?_⟩
    · have := h4.ownU
      rw [e0] at this
      exact this
    · simp only [ob, List.mem_singleton] at hy ⊢
      subst hy
      rcases h6 with e | e
      · exact .inl e
      · exact .inr (by omega)
end

theorem wpList_appx {ops : Array Oper} {rest : List Oper} {o : Oper} {ac : Act} {w : World} {Q : Exit → Act → World → Prop} (hw : Region.wanted o (yielded ops ac.tmps) = true) (s x : Operand) (tx : TypeId)
    (ho : o.op = .call { callee := .builtin .append, args := #[s, x], argTypes := #[42, tx] }) {B : Nat} {a : Option Addr} {cap : Nat} {bs : List UInt8} (h : OwnU B w a cap bs) (hB : B ≤ w.heap.size) (n : Nat) (hn : n = bs.length) (xv : Value) (news : List UInt8)
    (hs : ac.eval s = .slice a n cap) (hx : ac.eval x = xv) (hsrc : Src Tryz.prog 1 tx xv news.length (bcells news) w) (hm : bs.length + news.length ≤ 100000)
    (k : ∀ a' cap' n' w', Hid (n' = (bs ++ news).length) → Hid (OwnU B w' a' cap' (bs ++ news)) → Hid (Kp (ob a) w w') → Hid (∀ x ∈ ob a', x ∈ ob a ∨ w.heap.size ≤ x) → wpList Tryz.prog ops Q rest (ac.put o.dst (.slice a' n' cap')) w') : wpList Tryz.prog ops Q (o :: rest) ac w := by
  subst hn
  obtain ⟨a', cap', w', hr, h1, h2, h3⟩ := run_appx h hB tx o.type xv news hsrc hm
  refine wpList_step fun K hK => ?_
  rw [if_pos hw]
  unfold Oper.wp execOp
  simp only [ho, resolve, invoke, builtin, Sem.run_bind, Sem.run_pure, Result.andThen_ok, List.map_toArray, List.map_cons, List.map_nil, hs, hx, hr]
  exact hK _ _ (k a' cap' _ w' rfl h1 h2 h3)

theorem step_appx {ops : Array Oper} {o : Oper} {ac : Act} {w : World} {K : Act → World → Prop} {Q : Exit → Act → World → Prop} {E : Prop} (hgd : o.guard = none) (s x : Operand) (tx : TypeId)
    (ho : o.op = .call { callee := .builtin .append, args := #[s, x], argTypes := #[42, tx] }) {B : Nat} {a : Option Addr} {cap : Nat} {bs : List UInt8} (h : OwnU B w a cap bs) (hB : B ≤ w.heap.size) (n : Nat) (hn : n = bs.length) (xv : Value) (news : List UInt8)
    (hs : ac.eval s = .slice a n cap) (hx : ac.eval x = xv) (hsrc : Src Tryz.prog 1 tx xv news.length (bcells news) w) (hm : bs.length + news.length ≤ 100000)
    (k : ∀ a' cap' n' w', Hid (n' = (bs ++ news).length) → Hid (OwnU B w' a' cap' (bs ++ news)) → Hid (Kp (ob a) w w') → Hid (∀ x ∈ ob a', x ∈ ob a ∨ w.heap.size ≤ x) → K (ac.put o.dst (.slice a' n' cap')) w') :
    if Region.wanted o (yielded ops ac.tmps) = true then Oper.wp Tryz.prog o ac w K Q else E := by
  subst hn
  have hw : Region.wanted o (yielded ops ac.tmps) = true := by simp [Region.wanted, hgd]
  obtain ⟨a', cap', w', hr, h1, h2, h3⟩ := run_appx h hB tx o.type xv news hsrc hm
  rw [if_pos hw]
  unfold Oper.wp execOp
  simp only [ho, resolve, invoke, builtin, Sem.run_bind, Sem.run_pure, Result.andThen_ok, List.map_toArray, List.map_cons, List.map_nil, hs, hx, hr]
  exact k a' cap' _ w' rfl h1 h2 h3

/-- Behind bytes of no length: a copy. -/
theorem run_app_zero (w : World) (a : Option Addr) (tx ty : TypeId) (x : Value) (news : List UInt8) (hs : Src Tryz.prog 1 tx x news.length (bcells news) w) (hm : news.length ≤ 100000) :
    ∃ a' cap' w', (Builtin.append_ #[42, tx] ty #[.slice a 0 0, x]).run Tryz.prog w = .ok (.slice a' news.length cap') w' ∧ news.length ≤ cap' ∧ Byt w' a' news ∧ Kp [] w w' := by
  obtain ⟨i0, hi0, hz0, hz1, hz2⟩ := info_parts Tryz.info5
  have hs' : Src Tryz.prog i0.size tx x news.length (bcells news) w := by rw [hz1]; exact hs
  by_cases hp : 0 < news.length
  · have hge := grownCap_ge w (0 + news.length) 0 5
    have hfit : Builtin.nextslicecap (0 + news.length) 0 * i0.bytes ≤ 281474976710656 := growslice_fits (by omega) (by rw [hz2]; omega)
    have hfc : (Builtin.firstCells i0.size 0 (.slice a 0 0)).run Tryz.prog w.drew = .ok ([] : List Value).toArray w.drew := by
      cases a with
      | none => exact run_firstCells_none w.drew i0.size 0 0 0
      | some ad => exact run_firstCells_some w.drew i0.size 0 ad 0 0 [] (by simp) (by simp)
    have hr := run_append_grow_src (P := Tryz.prog) w 42 tx ty 5 i0 _ Tryz.underlying42 hi0 hz0 a 0 0 [] hfc x news.length (bcells news) hs' (by omega) (by omega) hfit
    rw [List.nil_append, Nat.zero_add] at hr
    refine ⟨_, _, _, hr, by rw [Nat.zero_add] at hge; exact hge, ?_, ((Kp.refl [] w).drew.alloc _)⟩
    exact (grown_row (Kp.refl [] w) news _ (by rw [Nat.zero_add] at hge; exact hge) (grownCap_le_maxLen w _ _ _ (by unfold maxLen; omega)) _ (by rw [size_zeroCells]; simp [Value.cells])).byt
  · have e : news = [] := List.eq_nil_of_length_eq_zero (by omega)
    subst e
    have hr := run_append_nothing (P := Tryz.prog) w 42 tx ty 5 i0 Tryz.underlying42 hi0 a 0 0 (Nat.le_refl _) x hs'
    exact ⟨a, 0, w, hr, by simp, byt_nil _ _, Kp.refl _ _⟩

theorem wpList_app0 {ops : Array Oper} {rest : List Oper} {o : Oper} {ac : Act} {w : World} {Q : Exit → Act → World → Prop} (hw : Region.wanted o (yielded ops ac.tmps) = true) (s x : Operand) (tx : TypeId)
    (ho : o.op = .call { callee := .builtin .append, args := #[s, x], argTypes := #[42, tx] }) (a : Option Addr) (xv : Value) (news : List UInt8)
    (hs : ac.eval s = .slice a 0 0) (hx : ac.eval x = xv) (hsrc : Src Tryz.prog 1 tx xv news.length (bcells news) w) (hm : news.length ≤ 100000)
    (k : ∀ a' cap' n' w', Hid (n' = news.length) → Hid (n' ≤ cap') → Hid (Byt w' a' news) → Hid (Kp [] w w') → wpList Tryz.prog ops Q rest (ac.put o.dst (.slice a' n' cap')) w') : wpList Tryz.prog ops Q (o :: rest) ac w := by
  obtain ⟨a', cap', w', hr, h1, h2, h3⟩ := run_app_zero w a tx o.type xv news hsrc hm
  refine wpList_step fun K hK => ?_
  rw [if_pos hw]
  unfold Oper.wp execOp
  simp only [ho, resolve, invoke, builtin, Sem.run_bind, Sem.run_pure, Result.andThen_ok, List.map_toArray, List.map_cons, List.map_nil, hs, hx, hr]
  exact hK _ _ (k a' cap' _ w' rfl h1 h2 h3)
end
/- Rows of one-cell elements (pointers) of which a part may have been cut off: append onto them, and their first ones. -/
section
open Go.RowKit

/-- n elements lie from the beginning of a block of one's own on; the room (cap) is no more than the block has. -/
def PRow (e : TypeId) (B : Nat) (w : World) (a : Option Addr) (n cap : Nat) (xs : List Value) : Prop :=
  xs.length = n ∧ ((a = none ∧ n = 0 ∧ cap = 0) ∨ ∃ g cur, a = some ⟨g, 0, none⟩ ∧ B ≤ g ∧ w.heap[g]? = some (.cells cur e (0, 0)) ∧ n ≤ cap ∧ cap ≤ maxLen ∧ cap ≤ cur.size ∧ cur.toList.take n = xs)

section
variable {e : TypeId} {B : Nat} {w w' : World} {a : Option Addr} {n cap : Nat} {xs : List Value}
theorem PRow.len (h : PRow e B w a n cap xs) : xs.length = n := h.1
theorem PRow.le (h : PRow e B w a n cap xs) : n ≤ cap := by
  rcases h.2 with ⟨_, e1, e2⟩ | ⟨g, cur, _, _, _, h1, _⟩
  · omega
  · exact h1
theorem PRow.lo (h : PRow e B w a n cap xs) : ∀ x ∈ ob a, B ≤ x ∧ x < w.heap.size := by
  intro x hx
  rcases h.2 with ⟨rfl, _⟩ | ⟨g, cur, rfl, h1, h2, _⟩
  · simp [ob] at hx
  · simp [ob] at hx
    have := lt_of_block h2
    omega
theorem PRow.kp {S : List Nat} (h : PRow e B w a n cap xs) (hk : Kp S w w') (hS : ∀ x ∈ ob a, x ∉ S) : PRow e B w' a n cap xs := by
  refine ⟨h.1, ?_⟩
  rcases h.2 with hn | ⟨g, cur, rfl, h1, h2, h3⟩
  · exact .inl hn
  · exact .inr ⟨g, cur, rfl, h1, by rw [hk.block g (lt_of_block h2) (hS g (by simp [ob]))]; exact h2, h3⟩
theorem PRow.kp0 (h : PRow e B w a n cap xs) (hk : Kp [] w w') : PRow e B w' a n cap xs := h.kp hk (fun _ _ => by simp)
theorem PRow.base {C : Nat} (h : PRow e B w a n cap xs) (hC : C ≤ B) : PRow e C w a n cap xs := by
  refine ⟨h.1, ?_⟩
  rcases h.2 with hn | ⟨g, cur, rfl, h1, h2⟩
  · exact .inl hn
  · exact .inr ⟨g, cur, rfl, by omega, h2⟩
theorem PRow.cell (h : PRow e B w a n cap xs) {k : Nat} {v : Value} (hk : xs[k]? = some v) : ∃ g, a = some ⟨g, 0, none⟩ ∧ w.cell? ⟨g, k, none⟩ = some v := by
  have hl : k < n := by rw [← h.1]; exact (List.getElem?_eq_some_iff.1 hk).1
  rcases h.2 with ⟨_, e1, _⟩ | ⟨g, cur, rfl, h1, h2, h3, h4, h5, h6⟩
  · omega
  · refine ⟨g, rfl, cell_of_block h2 ?_⟩
    rw [← h6, List.getElem?_take] at hk
    rw [if_pos hl] at hk
    simpa using hk
/-- 's[:k:k]'. -/
theorem PRow.cut (h : PRow e B w a n cap xs) (k : Nat) (hk : k ≤ n) : PRow e B w a k k (xs.take k) := by
  refine ⟨by rw [List.length_take, h.1]; omega, ?_⟩
  rcases h.2 with ⟨e1, e2, e3⟩ | ⟨g, cur, rfl, h1, h2, h3, h4, h5, h6⟩
  · exact .inl ⟨e1, by omega, by omega⟩
  · refine .inr ⟨g, cur, rfl, h1, h2, Nat.le_refl _, by omega, by omega, ?_⟩
    rw [← h6, List.take_take, Nat.min_eq_left hk]
/-- 's[k:]', as what is appended. -/
theorem PRow.src {t : TypeId} (hu : Tryz.prog.underlying t = some (.slice e)) (h : PRow e B w a n cap xs) (hx : ∀ u ∈ xs, u.oneCell' = true) {g k m c : Nat} (ha : a = some ⟨g, 0, none⟩) (hm : m = n - k) (_hk : k ≤ n) : Src Tryz.prog 1 t (.slice (some ⟨g, k, none⟩) m c) m (xs.drop k) w := by
  subst hm
  refine Src.ofSlice w hu ⟨g, k, none⟩ (n - k) c (xs.drop k) (by rw [List.length_drop, h.1]; omega) (fun j u hj => ?_) (fun u hu => hx u (List.mem_of_mem_drop hu))
  rw [List.getElem?_drop] at hj
  obtain ⟨g', e', hc⟩ := h.cell hj
  rw [ha] at e'
  simp only [Option.some.injEq, Addr.mk.injEq, and_true] at e'
  subst e'
  rw [addr_add]
  exact hc

end

end
/- Encode, by its contract. -/
section
open Go.RowKit
attribute [local go_sem ↓] Go.wp_at_zero Go.wp_at_succ

theorem pf_str {a : Int} {ps : List Ver} (h : pf a ps = 0) : ∀ k, k < ps.length → (vb ps k).size ≤ 12 := by
  induction ps generalizing a with
  | nil => intro k hk; simp at hk
  | cons p r ih =>
    obtain ⟨_, _, _, h4, h5⟩ := pf_cons h
    intro k hk
    cases k with
    | zero => simpa [vb] using (chk_zero h4).1
    | succ k => have := ih h5 k (by simpa using hk); simpa [vb] using this

theorem take_succ_ver {ps : List Ver} {k : Nat} (h : k < ps.length) : ps.take (k + 1) = ps.take k ++ [⟨va ps k, vt ps k, vb ps k⟩] := by
  have e : (⟨va ps k, vt ps k, vb ps k⟩ : Ver) = ps[k] := by simp [va, vt, vb, List.getD_eq_getElem?_getD, List.getElem?_eq_getElem h]
  rw [e, List.take_succ_eq_append_getElem h]
theorem pbs_take_succ {ps : List Ver} {k : Nat} (h : k < ps.length) : pbs (ps.take (k + 1)) = pbs (ps.take k) ++ pb ⟨va ps k, vt ps k, vb ps k⟩ := by
  rw [take_succ_ver h, pbs_append]
  simp [pbs]
theorem pbs_take_le (ps : List Ver) (k : Nat) : (pbs (ps.take k)).length ≤ (pbs ps).length := by
  have := congrArg (fun l => (pbs l).length) (List.take_append_drop k ps)
  simp only [pbs_append, List.length_append] at this
  omega

theorem Row.head {w0 w : World} {g cap : Nat} {u : UInt8} {bs : List UInt8} (h : Row w0 w g cap (u :: bs)) : w.cell? ⟨g, 0, none⟩ = some (.int .u8 u.toNat) ∧ w.frozen? ⟨g, 0, none⟩ = false := by
  refine ⟨by simpa [ub] using h.slu 0 (by simp), ?_⟩
  rcases h.own.2 with ⟨e, _⟩ | ⟨g2, c2, cur, e, q1, q2, q3, q4, q5, q6⟩
  · simp at e
  · simp only [Value.slice.injEq, Option.some.injEq, Addr.mk.injEq, and_true, true_and] at e
    obtain ⟨rfl, rfl⟩ := e
    exact frozen_of_block _ q2
theorem Row.set0 {w0 w : World} {g cap : Nat} {u : UInt8} {bs : List UInt8} (h : Row w0 w g cap (u :: bs)) (v : UInt8) (x : Int) (hx : x = (v.toNat : Int)) : Row w0 (w.setCell ⟨g, 0, none⟩ (.int .u8 x)) g cap (v :: bs) := by
  subst hx
  have hlt := h.lt
  refine ⟨⟨by simp [bcells_length], ?_⟩, h.kp.setCell (.inr hlt.1) _⟩
  rcases h.own.2 with ⟨e, _⟩ | ⟨g2, c2, cur, e, q1, q2, q3, q4, q5, q6⟩
  · simp at e
  · simp only [Value.slice.injEq, Option.some.injEq, Addr.mk.injEq, and_true, true_and] at e
    obtain ⟨rfl, rfl⟩ := e
    refine .inr ⟨g, cap, _, by simp, q1, heap_setCell_at 0 _ q2, by simpa using q3, q4, by simpa using q5, ?_⟩
    simp only [Nat.mul_one, List.length_cons] at q6 ⊢
    rw [Array.toList_setIfInBounds, List.take_set, q6]
    simp [bcells]

/-- At the head of a round: the bytes of the first k pairs, behind others. -/
structure EnI (w : World) (hd : List UInt8) (ps : List Ver) (k g cap n : Nat) (wr : World) : Prop where
  len : n = (hd ++ pbs (ps.take k)).length
  row : Row w wr g cap (hd ++ pbs (ps.take k))
theorem EnI.next {w wr : World} {hd : List UInt8} {ps : List Ver} {k g cap n : Nat} (hk : k < ps.length) (hn : n = (hd ++ pbs (ps.take k) ++ pb ⟨va ps k, vt ps k, vb ps k⟩).length) (hr : Row w wr g cap (hd ++ pbs (ps.take k) ++ pb ⟨va ps k, vt ps k, vb ps k⟩)) : EnI w hd ps (k + 1) g cap n wr := by
  rw [List.append_assoc, ← pbs_take_succ hk] at hn hr
  exact ⟨hn, hr⟩
theorem EnI.last {w wr : World} {hd : List UInt8} {ps : List Ver} {g cap n : Nat} (h : EnI w hd ps ps.length g cap n wr) : n = (hd ++ pbs ps).length ∧ Row w wr g cap (hd ++ pbs ps) := by
  obtain ⟨h1, h2⟩ := h
  rw [List.take_length] at h1 h2
  exact ⟨h1, h2⟩
theorem enI_start (w W : World) (hk : Kp [] w W) (ps : List Ver) (hd : List UInt8) (cs : Array Value) (hc : cs.toList = bcells hd) (hm : hd.length ≤ 1000) (g c : Nat) (hg : g = W.heap.size) (h2 : c = hd.length) : EnI w hd ps 0 g c c (W.alloc (.cells cs 5)) := by
  subst hg
  subst h2
  have := row_lit w W hk hd cs hc hm
  exact ⟨by simp [pbs], by simpa [pbs] using this⟩

def EncEnd (ps : List Ver) (w : World) (e : Ending) (w' : World) : Prop := ∃ g cap n, e = .returned (.tuple #[.slice (some ⟨g, 0, none⟩) n cap, .int .i64 0]) ∧ n = (enc ps).length ∧ Row w w' g cap (enc ps)
theorem encEnd_mk {ps : List Ver} {w W : World} {g cap n : Nat} {x : Int} (hx : x = (n : Int) % 256) (hr : n = ([0, b8 ps.length] ++ pbs ps).length ∧ Row w W g cap ([0, b8 ps.length] ++ pbs ps)) :
    EncEnd ps w (.returned (.tuple #[.slice (some ⟨g, 0, none⟩) n cap, .int .i64 0])) (W.setCell ⟨g, 0, none⟩ (.int .u8 x)) := by
  obtain ⟨h1, h2⟩ := hr
  refine ⟨g, cap, n, rfl, by rw [h1]; simp [enc], h2.set0 (b8 ((pbs ps).length + 2 : Nat)) x ?_⟩
  rw [hx, ← mod_b8, h1]
  simp; omega

set_option maxHeartbeats 1000000 in
theorem encode_ok (a : Option Addr) (c : Nat) (ps : List Ver) (w : World) (h : Prs w a ps) (hp : pf (-1) ps = 0) :
    Calls Tryz.prog 192 #[.slice a ps.length c] w fun e w' => EncEnd ps w e w' := by
  have h8 := pf_len8 hp
  have h112 := pbs_len112 hp
  have HP := hide h
  have HS := hide (pf_str hp)
  have HPF := hide hp
  clear h hp
  go_enter Tryz.func192, Tryz.ntmps192
  go_wp2_with fail
  refine (tcheck36 a c ps w (unhide HP) (by omega)).mono ?_
  rintro e w1 ⟨rfl, hk1⟩
  have HK1 := hide hk1
  clear hk1
  rw [unhide HPF]
  go_wp2_with fail
  go_loopw [5, 19] (fun b i wr => ∃ k g cap n : Nat, k ≤ ps.length ∧ b = .slice (some ⟨g, 0, none⟩) n cap ∧ i = .int .i64 k ∧ Hid (EnI w [0, b8 ps.length] ps k g cap n wr)) (fun _ i _ => ps.length - (intOf i).toNat)
  case atStart => exact ⟨0, w1.heap.size, 2, 2, by omega, rfl, rfl, enI_start w w1 (unhide HK1) ps [0, b8 ps.length] _ (by simp [bcells, ← mod_b8]; omega) (by simp) _ _ rfl rfl⟩
  case round =>
    obtain ⟨k, g, cap, n, hk, rfl, rfl, HE⟩ := hrel
    by_cases hlt : k < ps.length
    · obtain ⟨ga, o, rfl, hs⟩ := (unhide HP).mem (by omega)
      have hs2 := hs.kp (unhide HE).row.kp (by simp)
      have q0 := hs2.at0 k hlt
      have q1 := hs2.at1 k hlt
      have q2 := hs2.at2 k hlt
      have i0 : (0 : Int) ≤ (k : Int) := by omega
      have i1 : (k : Int) < (ps.length : Int) := by omega
      clear hs hs2
      go_wp2_with fail
      refine (appendPair17 (va ps k) (vt ps k) (vb ps k) ((unhide HE).row.kp0 ((Kp.refl [] _).alloc _)) (unhide HE).len (by have := pbs_take_le ps k; simp; omega) (by have := unhide HS k hlt; omega)).mono ?_
      rintro e w2 ⟨g2, c2, n2, rfl, hn2, hr2⟩
      have HE2 := hide (EnI.next hlt hn2 hr2)
      clear hn2 hr2
      go_wp2_with fail
      exact ⟨⟨k + 1, g2, c2, n2, by omega, rfl, by go_num, HE2⟩, by simp [intOf]; omega⟩
    · have e : k = ps.length := by omega
      subst e
      have hl := (unhide HE).last
      obtain ⟨y0, y1⟩ := Row.head hl.2
      have HLL := hide hl
      have hn0 : 0 < n := by rw [hl.1]; simp
      clear hl
      go_wp2_with fail
      go_ret2
      exact encEnd_mk rfl (unhide HLL)

theorem encode_bad (a : Option Addr) (c : Nat) (ps : List Ver) (w : World) (h : Prs w a ps) (hm : ps.length ≤ 1000) (hp : pf (-1) ps ≠ 0) :
    Calls Tryz.prog 192 #[.slice a ps.length c] w fun e w' => e = .returned (.tuple #[.slice none 0 0, .int .i64 (pf (-1) ps)]) ∧ Kp [] w w' := by
  have hc := tcheck36 a c ps w h (by omega)
  generalize pf (-1) ps = q at *
  have HC := hide hc
  clear h hc
  go_enter Tryz.func192, Tryz.ntmps192
  go_wp2_with fail
  refine (unhide HC).mono ?_
  rintro e w1 ⟨rfl, hk1⟩
  have HK1 := hide hk1
  clear hk1
  go_wp2_with fail
  go_ret2
  exact ⟨rfl, unhide HK1⟩
end
/- Parts of bytes, and as a string; readPair, by its contract. -/
section
open Go.RowKit
attribute [local go_sem ↓] Go.wp_at_zero Go.wp_at_succ

theorem elem_u8 : Tryz.prog.elem 42 = 5 := by simp [Program.elem, Tryz.underlying42]
theorem size_u8 (W : World) : (sizeOf 5).run Tryz.prog W = .ok 1 W := by
  obtain ⟨i0, hi0, hz0, hz1, hz2⟩ := info_parts Tryz.info5
  simp [sizeOf, typeInfo, hi0, hz1]
theorem under_u8 : Tryz.prog.underlying 42 = some (.slice (Tryz.prog.elem 42)) := by rw [elem_u8]; exact Tryz.underlying42

/-- The bytes of a part lie where the part does. -/
theorem sliced_byt {w : World} {a : Option Addr} {bs : List UInt8} (h : Byt w a bs) {l k c : Nat} (hlk : l ≤ k) (hk : k ≤ bs.length) (hc : bs.length ≤ c) : Byt w (if c = l then a else a.map (·.add (l * 1))) ((bs.take k).drop l) := by
  intro hp
  have hp' : l < k := by simp at hp; omega
  rw [if_neg (by omega)]
  obtain ⟨g, o, rfl, hs⟩ := h (by omega)
  exact ⟨g, o + l, by simp [addr_add], (hs.take k).drop l⟩

/-- 'b[l:k]'. -/
theorem part_lh {w : World} {a : Option Addr} {bs : List UInt8} (h : Byt w a bs) (l k c n : Nat) (hlk : l ≤ k) (hk : k ≤ bs.length) (hc : bs.length ≤ c) (x y : Int) (hx : x = l) (hy : y = k) :
    ∃ a', (∀ W, (Instr.slice 42 (.slice a n c) (some (.int .i64 x)) (some (.int .i64 y)) none).run Tryz.prog W = .ok (.slice a' (k - l) (c - l)) W) ∧ Byt w a' ((bs.take k).drop l) := by
  refine ⟨_, fun W => ?_, sliced_byt h hlk hk hc⟩
  subst hx hy
  rw [run_slice_lh W 42 a n c under_u8 .i64 .i64 _ _ (by omega) (by omega) (by omega), elem_u8, size_u8]
  simp [Result.andThen, sliced]
/-- 'b[l:]'. -/
theorem part_l {w : World} {a : Option Addr} {bs : List UInt8} (h : Byt w a bs) (l c n : Nat) (hn : n = bs.length) (hl : l ≤ bs.length) (hc : bs.length ≤ c) (x : Int) (hx : x = l) :
    ∃ a', (∀ W, (Instr.slice 42 (.slice a n c) (some (.int .i64 x)) none none).run Tryz.prog W = .ok (.slice a' (n - l) (c - l)) W) ∧ Byt w a' (bs.drop l) := by
  refine ⟨_, fun W => ?_, by have := sliced_byt h hl (Nat.le_refl _) hc; rwa [List.take_length] at this⟩
  subst hx
  rw [run_slice_l W 42 a n c under_u8 .i64 _ (by omega) (by omega), elem_u8, size_u8]
  simp [Result.andThen, sliced]
/-- 'string(b)'. -/
theorem str_of {w : World} {a : Option Addr} {bs : List UInt8} (h : Byt w a bs) (n c : Nat) (hn : n = bs.length) (W : World) (hk : Kp [] w W) : (convert 42 9 (.slice a n c)).run Tryz.prog W = .ok (.string ⟨bs.toArray⟩) W := by
  subst hn
  have hb := h.kp0 hk
  cases a with
  | none =>
    have e : bs = [] := by
      rcases Nat.eq_zero_or_pos bs.length with e | e
      · exact List.eq_nil_of_length_eq_zero e
      · obtain ⟨g, o, e2, _⟩ := h e
        cases e2
    subst e
    show (convert 42 9 (.slice none 0 c)).run Tryz.prog W = _
    rw [run_convert_bytes_string W 42 9 5 none 0 c Tryz.underlying42 Tryz.underlying5 Tryz.underlying9]
    rfl
  | some ad =>
    refine run_convert_bytes_back W 42 9 5 ad c bs Tryz.underlying42 Tryz.underlying5 Tryz.underlying9 (fun j hj => ?_)
    obtain ⟨g, o, e, hs⟩ := hb (by omega)
    cases e
    rw [addr_add, hs j hj]
    simp [ub, List.getD_eq_getElem?_getD, List.getElem?_eq_getElem hj]

/-- What readPair tells: the pair, how many bytes, whether it is one. -/
def rd1 (bs : List UInt8) : Ver × Nat × Bool :=
  if bs.length < 2 then (dv, 0, false)
  else if ub bs 1 = 255 then (⟨ub bs 0, false, ByteArray.empty⟩, 2, true)
  else if bs.length < 2 + ub bs 1 then (dv, 0, false)
  else (⟨ub bs 0, true, ⟨((bs.take (2 + ub bs 1)).drop 2).toArray⟩⟩, 2 + ub bs 1, true)

theorem kp_set3 {w W : World} {u0 u1 u2 : Value} (h : Kp [] w W) : Kp [] w (((W.setCell ⟨w.heap.size, 0, none⟩ u0).setCell ⟨w.heap.size, 1, none⟩ u1).setCell ⟨w.heap.size, 2, none⟩ u2) :=
  ((h.setCell (.inr (Nat.le_refl _)) _).setCell (.inr (Nat.le_refl _)) _).setCell (.inr (Nat.le_refl _)) _
def Rd1End (R : Ver × Nat × Bool) (w : World) (e : Ending) (w' : World) : Prop :=
  e = .returned (.tuple #[.agg #[.int .i64 R.1.a, .bool R.1.t, .string R.1.s], .int .i64 R.2.1, .bool R.2.2]) ∧ Kp [] w w'

set_option maxHeartbeats 1000000 in
theorem readPair23 (a : Option Addr) (n c : Nat) (bs : List UInt8) (w : World) (h : Byt w a bs) (hn : n = bs.length) (hc : n ≤ c) (hm : bs.length ≤ 10000) :
    Calls Tryz.prog 189 #[.slice a n c] w fun e w' => Rd1End (rd1 bs) w e w' := by
  by_cases h2 : bs.length < 2
  · have e1 : rd1 bs = (dv, 0, false) := by unfold rd1; rw [if_pos h2]
    rw [e1]
    have hn2 : n < 2 := by omega
    clear h e1 hn
    go_enter Tryz.func189, Tryz.ntmps189
    go_wp2_with fail
    exact bodyPost_ret (v := .tuple #[.agg #[.int .i64 0, .bool false, .string ByteArray.empty], .int .i64 0, .bool false]) (by simp [results, Tryz.results189, go_sem]; rfl) rfl ⟨rfl, (Kp.refl [] w).alloc _⟩
  · obtain ⟨g, o, rfl, hs⟩ := h (by omega)
    have q0 := hs 0 (by omega)
    have q1 := hs 1 (by omega)
    have hg : g < w.heap.size := World.block_lt_of_cell? w _ q0
    have u0 := ub_lt bs 0
    have u1 := ub_lt bs 1
    have HB := hide h
    have hn2 : ¬ n < 2 := by omega
    have i0 : (0 : Int) < (n : Int) := by omega
    have i1 : (1 : Int) < (n : Int) := by omega
    have j0 : 0 < n := by omega
    have j1 : 1 < n := by omega
    have HN := hide hn
    have HC := hide hc
    simp only [Nat.add_zero] at q0
    clear h hs hn hc
    by_cases h255 : ub bs 1 = 255
    · have e1 : rd1 bs = (⟨ub bs 0, false, ByteArray.empty⟩, 2, true) := by unfold rd1; rw [if_neg h2, if_pos h255]
      rw [e1]
      rw [h255] at q1
      clear e1 h255 u1
      generalize ub bs 0 = x at *
      go_enter Tryz.func189, Tryz.ntmps189
      go_wp2_with fail
      go_quiet (fail)
      go_wp2_with fail
      exact bodyPost_ret (v := .tuple #[.agg #[.int .i64 x, .bool false, .string ByteArray.empty], .int .i64 2, .bool true]) (by simp [results, Tryz.results189, go_sem]; rfl) rfl ⟨rfl, kp_set3 (((Kp.refl [] w).alloc _).drewN _)⟩
    · by_cases hl : bs.length < 2 + ub bs 1
      · have e1 : rd1 bs = (dv, 0, false) := by unfold rd1; rw [if_neg h2, if_neg h255, if_pos hl]
        rw [e1]
        have k0 : (n : Int) < 2 + (ub bs 1 : Nat) := by have := unhide HN; omega
        have k1 : ¬ ((ub bs 1 : Nat) : Int) = 255 := by omega
        clear e1 h255 hl
        generalize ub bs 0 = x at *
        generalize ub bs 1 = l at *
        go_enter Tryz.func189, Tryz.ntmps189
        go_wp2_with fail
        go_quiet (fail)
        go_wp2_with fail
        exact bodyPost_ret (v := .tuple #[.agg #[.int .i64 0, .bool false, .string ByteArray.empty], .int .i64 0, .bool false]) (by simp [results, Tryz.results189, go_sem]; rfl) rfl ⟨rfl, kp_set3 (((Kp.refl [] w).alloc _).drewN _)⟩
      · have e1 : rd1 bs = (⟨ub bs 0, true, ⟨((bs.take (2 + ub bs 1)).drop 2).toArray⟩⟩, 2 + ub bs 1, true) := by unfold rd1; rw [if_neg h2, if_neg h255, if_neg hl]
        rw [e1]
        have k0 : ¬ (n : Int) < 2 + (ub bs 1 : Nat) := by have := unhide HN; omega
        have k1 : ¬ ((ub bs 1 : Nat) : Int) = 255 := by omega
        have k2 : 2 + ub bs 1 ≤ c := by have := unhide HN; have := unhide HC; omega
        obtain ⟨a2, hsl, hb2⟩ := part_lh (unhide HB) 2 (2 + ub bs 1) c n (by omega) (by omega) (by have := unhide HN; have := unhide HC; omega) 2 (2 + (ub bs 1 : Nat)) rfl (by omega)
        have e2 : 2 + ub bs 1 - 2 = ub bs 1 := by omega
        rw [e2] at hsl
        have hl2 : ub bs 1 = ((bs.take (2 + ub bs 1)).drop 2).length := by simp; omega
        have hcv := fun m => str_of hb2 (ub bs 1) (c - 2) hl2 ((w.alloc (.cells #[.int .i64 0, .bool false, .string ⟨#[]⟩] 106)).drewN m) (((Kp.refl [] w).alloc _).drewN m)
        clear e1 e2 h255 hl hl2 hb2
        generalize (bs.take (2 + ub bs 1)).drop 2 = sb at *
        generalize ub bs 0 = x at *
        generalize ub bs 1 = l at *
        go_enter Tryz.func189, Tryz.ntmps189
        go_wp2_with fail
        go_quiet (fail)
        go_wp2_with fail
        exact bodyPost_ret (v := .tuple #[.agg #[.int .i64 x, .bool true, .string ⟨sb.toArray⟩], .int .i64 (2 + l : Nat), .bool true]) (by simp [results, Tryz.results189, go_sem]) rfl ⟨rfl, (kp_set3 (((Kp.refl [] w).alloc _).drewN _)).alloc _⟩
end
/- A log's memory; New, Len, Mend and Bytes of a log, by their contracts. -/
section
open Go.RowKit
attribute [local go_sem ↓] Go.wp_at_zero Go.wp_at_succ

/-- A log's memory: the box gb holds its bytes, how many of them are whole commits, and how many commits; F: all blocks that are the log's own. -/
structure LgL (B : Nat) (w : World) (gb : Nat) (F : List Nat) (a : Option Addr) (cap : Nat) (cs : List (List Ver)) (torn : List UInt8) : Prop where
  box : w.heap[gb]? = some (.cells #[.slice a (lb cs ++ torn).length cap, .int .i64 (lb cs).length, .int .i64 cs.length] 144 (0, 0))
  own : OwnU B w a cap (lb cs ++ torn)
  ne : gb ∉ ob a
  gF : gb ∈ F
  aF : ∀ x, x ∈ ob a → x ∈ F
  lo : ∀ x, x ∈ F → B ≤ x ∧ x < w.heap.size
  inv : LInv cs
  tl : torn.length ≤ 114
  hB : B ≤ w.heap.size
def Lg (B : Nat) (w : World) (gb : Nat) (F : List Nat) (cs : List (List Ver)) (torn : List UInt8) : Prop := ∃ a cap, LgL B w gb F a cap cs torn

section
variable {B : Nat} {w w' : World} {gb : Nat} {F S : List Nat} {a : Option Addr} {cap : Nat} {cs : List (List Ver)} {torn : List UInt8}
theorem LgL.kp (h : LgL B w gb F a cap cs torn) (hk : Kp S w w') (hS : ∀ x, x ∈ F → x ∉ S) : LgL B w' gb F a cap cs torn :=
  ⟨by rw [hk.block gb (h.lo gb h.gF).2 (hS _ h.gF)]; exact h.box, h.own.kp hk (fun x hx => hS x (h.aF x hx)), h.ne, h.gF, h.aF, fun x hx => ⟨(h.lo x hx).1, Nat.lt_of_lt_of_le (h.lo x hx).2 hk.size⟩, h.inv, h.tl, Nat.le_trans h.hB hk.size⟩
theorem Lg.kp (h : Lg B w gb F cs torn) (hk : Kp S w w') (hS : ∀ x, x ∈ F → x ∉ S) : Lg B w' gb F cs torn := by
  obtain ⟨a, cap, h⟩ := h
  exact ⟨a, cap, h.kp hk hS⟩
theorem Lg.kp0 (h : Lg B w gb F cs torn) (hk : Kp [] w w') : Lg B w' gb F cs torn := h.kp hk (fun _ _ => by simp)
theorem Lg.lo (h : Lg B w gb F cs torn) : ∀ x, x ∈ F → B ≤ x ∧ x < w.heap.size := by
  obtain ⟨a, cap, h⟩ := h
  exact h.lo
theorem Lg.inv (h : Lg B w gb F cs torn) : LInv cs := by
  obtain ⟨a, cap, h⟩ := h
  exact h.inv
theorem Lg.base {C : Nat} (h : Lg B w gb F cs torn) (hC : C ≤ B) : Lg C w gb F cs torn := by
  obtain ⟨a, cap, h⟩ := h
  exact ⟨a, cap, h.box, h.own.base hC, h.ne, h.gF, h.aF, fun x hx => ⟨Nat.le_trans hC (h.lo x hx).1, (h.lo x hx).2⟩, h.inv, h.tl, Nat.le_trans hC h.hB⟩
theorem LgL.c0 (h : LgL B w gb F a cap cs torn) : w.cell? ⟨gb, 0, none⟩ = some (.slice a (lb cs ++ torn).length cap) := cell_of_block h.box rfl
theorem LgL.c1 (h : LgL B w gb F a cap cs torn) : w.cell? ⟨gb, 1, none⟩ = some (.int .i64 (lb cs).length) := cell_of_block h.box rfl
theorem LgL.c2 (h : LgL B w gb F a cap cs torn) : w.cell? ⟨gb, 2, none⟩ = some (.int .i64 cs.length) := cell_of_block h.box rfl
theorem LgL.fz (h : LgL B w gb F a cap cs torn) (i : Nat) : w.frozen? ⟨gb, i, none⟩ = false := frozen_of_block i h.box
end

set_option maxHeartbeats 400000 in
theorem lnew (w : World) : Calls Tryz.prog 42 #[] w fun e w' => e = .returned (.pointer (some ⟨w.heap.size, 0, none⟩)) ∧ Lg w.heap.size w' w.heap.size [w.heap.size] [] [] ∧ Kp [] w w' := by
  go_enter Tryz.func42, Tryz.ntmps42
  go_wp2
  go_ret
  refine ⟨rfl, ⟨none, 0, ?_, ownU_nil _ _, by simp [ob], by simp, by simp [ob], fun x hx => ?_, linv_nil, by simp, by simp⟩, (Kp.refl [] w).alloc _⟩
  · exact heap_alloc_new w _
  · simp at hx; subst hx; simp

/-- 'b[:k]' of a row begins where it begins. -/
theorem own_part {B : Nat} {w : World} {a : Option Addr} {cap : Nat} {bs : List UInt8} (h : OwnU B w a cap bs) (k n : Nat) (hk : k ≤ bs.length) (x : Int) (hx : x = k) (W : World) :
    (Instr.slice 42 (.slice a n cap) none (some (.int .i64 x)) none).run Tryz.prog W = .ok (.slice a k cap) W := by
  subst hx
  have hc := h.le
  rw [run_slice_h W 42 a n cap under_u8 .i64 _ (by omega) (by omega), elem_u8, size_u8]
  rcases h.cases with ⟨rfl, rfl, rfl⟩ | ⟨g, rfl, _⟩
  · simp [Result.andThen, sliced]
  · simp [Result.andThen, sliced, addr_add]

theorem LgL.mend {B : Nat} {w : World} {gb : Nat} {F : List Nat} {a : Option Addr} {cap : Nat} {cs : List (List Ver)} {torn : List UInt8} (h : LgL B w gb F a cap cs torn) :
    LgL B (w.setCell ⟨gb, 0, none⟩ (.slice a (lb cs).length cap)) gb F a cap cs [] ∧ Kp F w (w.setCell ⟨gb, 0, none⟩ (.slice a (lb cs).length cap)) := by
  have hk : Kp [gb] w (w.setCell ⟨gb, 0, none⟩ (.slice a (lb cs).length cap)) := (Kp.refl [gb] w).setCell (.inl (by simp)) _
  refine ⟨⟨?_, ?_, h.ne, h.gF, h.aF, fun x hx => ⟨(h.lo x hx).1, Nat.lt_of_lt_of_le (h.lo x hx).2 hk.size⟩, h.inv, by simp, Nat.le_trans h.hB hk.size⟩, hk.mono (fun x hx => .inl (by rw [List.mem_singleton.1 hx]; exact h.gF))⟩
  · rw [heap_setCell_at 0 _ h.box, List.append_nil]
    rfl
  · have := (h.own.take (lb cs).length (by simp)).kp hk (fun x hx e => h.ne (by rw [← List.mem_singleton.1 e]; exact hx))
    rw [List.take_left] at this
    rw [List.append_nil]
    exact this

set_option maxHeartbeats 400000 in
theorem lmend {B gb : Nat} {F : List Nat} {cs : List (List Ver)} {torn : List UInt8} (w : World) (h : Lg B w gb F cs torn) :
    Calls Tryz.prog 126 #[.pointer (some ⟨gb, 0, none⟩)] w fun e w' => e = .returned (.int .i64 torn.length) ∧ Lg B w' gb F cs [] ∧ Kp F w w' := by
  obtain ⟨a, cap, h⟩ := h
  have q0 := h.c0
  have q1 := h.c1
  have f0 := h.fz 0
  have hsl := own_part h.own (lb cs).length (lb cs ++ torn).length (by simp) _ rfl
  have hb := h.inv.b3000
  have ht := h.tl
  have hl : (lb cs ++ torn).length = (lb cs).length + torn.length := by simp
  have HM : Hid (∀ W, Kp [] w W → Lg B (W.setCell ⟨gb, 0, none⟩ (.slice a (lb cs).length cap)) gb F cs [] ∧ Kp F w (W.setCell ⟨gb, 0, none⟩ (.slice a (lb cs).length cap))) := fun W hW => by
    obtain ⟨h1, h2⟩ := (h.kp hW (fun _ _ => by simp)).mend
    exact ⟨⟨a, cap, h1⟩, (hW.mono (fun x hx => by simp at hx)).trans h2 (fun x hx => .inl hx)⟩
  rw [hl] at q0 hsl
  clear h hl
  generalize (lb cs).length = n at *
  generalize hT : torn.length = t at *
  clear hT
  go_enter Tryz.func126, Tryz.ntmps126
  go_wp2_with fail
  go_quiet (fail)
  go_wp2_with fail
  go_region
  go_wp2_with fail
  go_ret
  obtain ⟨h1, h2⟩ := unhide HM _ ((Kp.refl [] w).drewN _).drew
  exact ⟨ret_int (by omega), h1, h2⟩

/-- A copy of bytes. -/
def BtEnd (bs : List UInt8) (w : World) (e : Ending) (w' : World) : Prop := ∃ a n cap, e = .returned (.slice a n cap) ∧ n = bs.length ∧ n ≤ cap ∧ Byt w' a bs ∧ Kp [] w w'

set_option maxHeartbeats 400000 in
theorem clone45 {B : Nat} {a : Option Addr} {cap : Nat} {bs : List UInt8} (w : World) (h : OwnU B w a cap bs) (hm : bs.length ≤ 10000) :
    Calls Tryz.prog 163 #[.slice a bs.length cap] w fun e w' => BtEnd bs w e w' := by
  have hnil := fun wx a n c n' c' => Lib.run_eql_slice_nil (P := Tryz.prog) wx 42 5 a n c n' c' Tryz.underlying42
  rcases h.cases with ⟨rfl, rfl, rfl⟩ | ⟨g, rfl, _, _, _⟩
  · clear h
    go_enter Tryz.func163, Tryz.ntmps163
    go_wp2
    go_ret
    exact ⟨none, 0, 0, rfl, rfl, by simp, byt_nil _ _, Kp.refl _ _⟩
  · have HB := hide (h.byt.kp0 ((Kp.refl [] w).alloc (.cells #[] 5)))
    clear h
    go_enter Tryz.func163, Tryz.ntmps163
    go_wp2_with (at_builtin; refine wpList_app0 (by rfl) (.tmp 5) (.tmp 6) 42 rfl _ (.slice (some ⟨g, 0, none⟩) bs.length cap) bs rfl rfl ((unhide HB).src cap) (by omega) ?_; intro a2 c2 n2 w2 hn2 hc2 hb2 hk2)
    go_ret
    exact ⟨a2, n2, c2, rfl, unhide hn2, unhide hc2, unhide hb2, ((Kp.refl [] w).alloc _).trans0 (unhide hk2)⟩

set_option maxHeartbeats 400000 in
theorem lbytes {B gb : Nat} {F : List Nat} {cs : List (List Ver)} {torn : List UInt8} (w : World) (h : Lg B w gb F cs torn) :
    Calls Tryz.prog 128 #[.pointer (some ⟨gb, 0, none⟩)] w fun e w' => BtEnd (lb cs ++ torn) w e w' := by
  obtain ⟨a, cap, h⟩ := h
  have q0 := h.c0
  have hl : (lb cs ++ torn).length ≤ 10000 := by have := h.inv.b3000; have := h.tl; simp; omega
  have HC := hide (clone45 w h.own hl)
  clear h
  generalize lb cs ++ torn = bs at *
  go_enter Tryz.func128, Tryz.ntmps128
  go_wp2_with fail
  refine (unhide HC).mono ?_
  rintro e w2 ⟨a2, n2, c2, rfl, hn2, hc2, hb2, hk2⟩
  have HE : Hid (BtEnd bs w (.returned (.slice a2 n2 c2)) w2) := ⟨a2, n2, c2, rfl, hn2, hc2, hb2, hk2⟩
  clear hn2 hc2 hb2 hk2
  go_wp2
  go_ret
  exact HE
end
/- The document's bytes of a commit, by their contract. -/
section
open Go.RowKit
attribute [local go_sem ↓] Go.wp_at_zero Go.wp_at_succ

theorem Row.src {w0 w : World} {g cap n : Nat} {bs : List UInt8} (h : Row w0 w g cap bs) (hn : n = bs.length) : Src Tryz.prog 1 42 (.slice (some ⟨g, 0, none⟩) n cap) bs.length (bcells bs) w := by
  subst hn
  exact h.byt.src cap

end
/- The document's roll of commits: its memory; Mend and Bytes, by their contracts. -/
section
open Go.RowKit
attribute [local go_sem ↓] Go.wp_at_zero Go.wp_at_succ

/-- A commit in memory: where its pairs lie, the room there, the pairs. -/
structure El where
  a : Option Addr
  c : Nat
  ps : List Ver
def eat (xs : List El) (k : Nat) : El := xs.getD k ⟨none, 0, []⟩
def ecells (xs : List El) : List Value := xs.map fun e => .slice e.a e.ps.length e.c
def cps (xs : List El) : List (List Ver) := xs.map El.ps
theorem ecells_length (xs : List El) : (ecells xs).length = xs.length := by simp [ecells]
theorem cps_append (xs ys : List El) : cps (xs ++ ys) = cps xs ++ cps ys := by simp [cps]
theorem ecells_at {xs : List El} {k : Nat} (h : k < xs.length) : (ecells xs)[k]? = some (.slice (eat xs k).a (eat xs k).ps.length (eat xs k).c) := by
  simp [ecells, eat, List.getD_eq_getElem?_getD, List.getElem?_eq_getElem h]
/-- A row of commits that a call owns since B. -/
def OwnE (B : Nat) (w : World) (a : Option Addr) (cap : Nat) (xs : List El) : Prop := w.ownsRow B 100 1 (.slice a xs.length cap) xs.length (ecells xs)
section
variable {B : Nat} {w w' : World} {a : Option Addr} {cap : Nat} {xs : List El}
theorem OwnE.cases (h : OwnE B w a cap xs) : (a = none ∧ cap = 0 ∧ xs = []) ∨ ∃ g, a = some ⟨g, 0, none⟩ ∧ B ≤ g ∧ g < w.heap.size ∧ xs.length ≤ cap := by
  rcases h.2 with ⟨e, _⟩ | ⟨g, c, cur, e, h1, h2, h3, _⟩
  · simp only [Value.slice.injEq] at e
    exact .inl ⟨e.1, e.2.2, List.eq_nil_of_length_eq_zero e.2.1⟩
  · simp only [Value.slice.injEq, true_and] at e
    obtain ⟨rfl, rfl⟩ := e
    exact .inr ⟨g, rfl, h1, lt_of_block h2, h3⟩
theorem OwnE.lo (h : OwnE B w a cap xs) : ∀ x ∈ ob a, B ≤ x ∧ x < w.heap.size := by
  intro x hx
  rcases h.cases with ⟨rfl, _⟩ | ⟨g, rfl, h1, h2, _⟩
  · simp [ob] at hx
  · simp [ob] at hx; omega
theorem OwnE.own_block (h : OwnE B w a cap xs) {n : Nat} : ∀ g, (Value.slice a n cap).ownBlock = some g → g ∈ ob a := by
  intro g hg
  rcases h.cases with ⟨rfl, _⟩ | ⟨g', rfl, _⟩
  · simp [Value.ownBlock] at hg
  · have : g' = g := by simpa [Value.ownBlock] using hg
    subst this
    simp [ob]
theorem OwnE.kp {S : List Nat} (h : OwnE B w a cap xs) (hk : Kp S w w') (hS : ∀ x ∈ ob a, x ∉ S) : OwnE B w' a cap xs := own_kp h hk (fun g hg => hS g (h.own_block g hg))
theorem OwnE.kp0 (h : OwnE B w a cap xs) (hk : Kp [] w w') : OwnE B w' a cap xs := h.kp hk (fun _ _ => by simp)
theorem OwnE.base {C : Nat} (h : OwnE B w a cap xs) (hC : C ≤ B) : OwnE C w a cap xs := own_base h hC
theorem OwnE.le (h : OwnE B w a cap xs) : xs.length ≤ cap := by
  rcases h.cases with ⟨_, rfl, rfl⟩ | ⟨_, _, _, _, h⟩
  · simp
  · exact h
theorem OwnE.cell (h : OwnE B w a cap xs) {k : Nat} (hk : k < xs.length) : ∃ g, a = some ⟨g, 0, none⟩ ∧ w.cell? ⟨g, k, none⟩ = some (.slice (eat xs k).a (eat xs k).ps.length (eat xs k).c) := by
  rcases h.cases with ⟨_, _, rfl⟩ | ⟨g, rfl, _⟩
  · simp at hk
  · refine ⟨g, rfl, ?_⟩
    have := World.ownsRow.cellAt h k (by omega)
    rw [this, ecells_at hk]
theorem OwnE.take (h : OwnE B w a cap xs) (k : Nat) (hk : k ≤ xs.length) : OwnE B w a cap (xs.take k) := by
  have hl : (xs.take k).length = k := by simp; omega
  refine ⟨by rw [ecells_length]; omega, ?_⟩
  rcases h.2 with ⟨e, e2⟩ | ⟨g, c, cur, e, h1, h2, h3, h4, h5, h6⟩
  · have : k = 0 := by omega
    subst this
    simp only [Value.slice.injEq] at e
    exact .inl ⟨by simp [e.1, e.2.2], by simp⟩
  · simp only [Value.slice.injEq, true_and] at e
    obtain ⟨rfl, rfl⟩ := e
    refine .inr ⟨g, cap, cur, rfl, h1, h2, by omega, h4, h5, ?_⟩
    simp only [Nat.mul_one] at h6 ⊢
    have e2 : cur.toList.take k = (cur.toList.take xs.length).take k := by rw [List.take_take, Nat.min_eq_left hk]
    rw [hl, e2, h6]
    simp [ecells, List.map_take]
end

theorem slo_prs {w : World} {a : Option Addr} {ps : List Ver} (h : SlO w a ps) (hp : pf (-1) ps = 0) : Prs w a ps :=
  ⟨by have := pf_len8 hp; unfold maxLen; omega, fun k hk => by have := pf_str hp k hk; unfold maxLen; omega, h⟩
theorem SlO.kp {S : List Nat} {w w' : World} {a : Option Addr} {vs : List Ver} (h : SlO w a vs) (hk : Kp S w w') (hS : ∀ x ∈ ob a, x ∉ S) : SlO w' a vs := fun hp => by
  obtain ⟨g, o, rfl, hs⟩ := h hp
  exact ⟨g, o, rfl, hs.kp hk (hS g (by simp [ob]))⟩

/-- A roll's memory: the box rb holds the commits and what is torn; G: all blocks that are its own. -/
structure RlL (B : Nat) (w : World) (rb : Nat) (G : List Nat) (aL : Option Addr) (capL : Nat) (xs : List El) (aT : Option Addr) (cT : Nat) (torn : List UInt8) : Prop where
  box : w.heap[rb]? = some (.cells #[.slice aL xs.length capL, .slice aT torn.length cT] 64 (0, 0))
  own : OwnE B w aL capL xs
  els : ∀ e ∈ xs, SlO w e.a e.ps ∧ ∀ x ∈ ob e.a, x ∈ G ∧ x ≠ rb ∧ x ∉ ob aL
  tb : Byt w aT torn
  tn : torn = [] → aT = none ∧ cT = 0
  tG : ∀ x ∈ ob aT, x ∈ G ∧ x ≠ rb
  ne : rb ∉ ob aL
  rG : rb ∈ G
  aG : ∀ x ∈ ob aL, x ∈ G
  lo : ∀ x ∈ G, B ≤ x ∧ x < w.heap.size
  inv : LInv (cps xs)
  tl : torn.length ≤ 114
  hB : B ≤ w.heap.size
def Rl (B : Nat) (w : World) (rb : Nat) (G : List Nat) (cs : List (List Ver)) (torn : List UInt8) : Prop := ∃ aL capL xs aT cT, RlL B w rb G aL capL xs aT cT torn ∧ cs = cps xs

section
variable {B : Nat} {w w' : World} {rb : Nat} {G S : List Nat} {aL : Option Addr} {capL : Nat} {xs : List El} {aT : Option Addr} {cT : Nat} {torn : List UInt8} {cs : List (List Ver)}
theorem Byt.kpo {bs : List UInt8} {a : Option Addr} (h : Byt w a bs) (hk : Kp S w w') (hS : ∀ x ∈ ob a, x ∉ S) : Byt w' a bs := h.kp hk (fun g o e => hS g (by subst e; simp [ob]))
theorem RlL.kp (h : RlL B w rb G aL capL xs aT cT torn) (hk : Kp S w w') (hS : ∀ x, x ∈ G → x ∉ S) : RlL B w' rb G aL capL xs aT cT torn :=
  ⟨by rw [hk.block rb (h.lo rb h.rG).2 (hS _ h.rG)]; exact h.box, h.own.kp hk (fun x hx => hS x (h.aG x hx)), fun e he => ⟨(h.els e he).1.kp hk (fun x hx => hS x ((h.els e he).2 x hx).1), (h.els e he).2⟩, h.tb.kpo hk (fun x hx => hS x (h.tG x hx).1), h.tn, h.tG, h.ne, h.rG, h.aG, fun x hx => ⟨(h.lo x hx).1, Nat.lt_of_lt_of_le (h.lo x hx).2 hk.size⟩, h.inv, h.tl, Nat.le_trans h.hB hk.size⟩
theorem Rl.kp (h : Rl B w rb G cs torn) (hk : Kp S w w') (hS : ∀ x, x ∈ G → x ∉ S) : Rl B w' rb G cs torn := by
  obtain ⟨aL, capL, xs, aT, cT, h, e⟩ := h
  exact ⟨aL, capL, xs, aT, cT, h.kp hk hS, e⟩
theorem Rl.kp0 (h : Rl B w rb G cs torn) (hk : Kp [] w w') : Rl B w' rb G cs torn := h.kp hk (fun _ _ => by simp)
theorem Rl.lo (h : Rl B w rb G cs torn) : ∀ x, x ∈ G → B ≤ x ∧ x < w.heap.size := by
  obtain ⟨aL, capL, xs, aT, cT, h, e⟩ := h
  exact h.lo
theorem Rl.inv (h : Rl B w rb G cs torn) : LInv cs := by
  obtain ⟨aL, capL, xs, aT, cT, h, e⟩ := h
  subst e
  exact h.inv
theorem Rl.base {C : Nat} (h : Rl B w rb G cs torn) (hC : C ≤ B) : Rl C w rb G cs torn := by
  obtain ⟨aL, capL, xs, aT, cT, h, e⟩ := h
  exact ⟨aL, capL, xs, aT, cT, ⟨h.box, h.own.base hC, h.els, h.tb, h.tn, h.tG, h.ne, h.rG, h.aG, fun x hx => ⟨Nat.le_trans hC (h.lo x hx).1, (h.lo x hx).2⟩, h.inv, h.tl, Nat.le_trans hC h.hB⟩, e⟩
theorem RlL.c0 (h : RlL B w rb G aL capL xs aT cT torn) : w.cell? ⟨rb, 0, none⟩ = some (.slice aL xs.length capL) := cell_of_block h.box rfl
theorem RlL.c1 (h : RlL B w rb G aL capL xs aT cT torn) : w.cell? ⟨rb, 1, none⟩ = some (.slice aT torn.length cT) := cell_of_block h.box rfl
theorem RlL.fz (h : RlL B w rb G aL capL xs aT cT torn) (i : Nat) : w.frozen? ⟨rb, i, none⟩ = false := frozen_of_block i h.box
end

theorem RlL.mend {B : Nat} {w : World} {rb : Nat} {G : List Nat} {aL : Option Addr} {capL : Nat} {xs : List El} {aT : Option Addr} {cT : Nat} {torn : List UInt8} (h : RlL B w rb G aL capL xs aT cT torn) :
    RlL B (w.setCell ⟨rb, 1, none⟩ (.slice none 0 0)) rb G aL capL xs none 0 [] ∧ Kp G w (w.setCell ⟨rb, 1, none⟩ (.slice none 0 0)) := by
  have hk : Kp [rb] w (w.setCell ⟨rb, 1, none⟩ (.slice none 0 0)) := (Kp.refl [rb] w).setCell (.inl (by simp)) _
  refine ⟨⟨?_, ?_, fun e he => ⟨?_, (h.els e he).2⟩, byt_nil _ _, fun _ => ⟨rfl, rfl⟩, by simp [ob], h.ne, h.rG, h.aG, fun x hx => ⟨(h.lo x hx).1, Nat.lt_of_lt_of_le (h.lo x hx).2 hk.size⟩, h.inv, by simp, Nat.le_trans h.hB hk.size⟩, hk.mono (fun x hx => .inl (by rw [List.mem_singleton.1 hx]; exact h.rG))⟩
  · rw [heap_setCell_at 1 _ h.box]; rfl
  · exact h.own.kp hk (fun x hx e => h.ne (by rw [← List.mem_singleton.1 e]; exact hx))
  · exact (h.els e he).1.kp hk (fun x hx e2 => ((h.els e he).2 x hx).2.1 (List.mem_singleton.1 e2))

/-- At the head of a round of Bytes: the bytes of the first k commits. -/
structure RbI (w : World) (cs : List (List Ver)) (k : Nat) (a : Option Addr) (cap n : Nat) (wr : World) : Prop where
  len : n = (lb (cs.take k)).length
  own : OwnU w.heap.size wr a cap (lb (cs.take k))
  kp : Kp [] w wr
theorem RbI.next {w wr w2 w3 : World} {cs : List (List Ver)} {k : Nat} {a a3 : Option Addr} {cap n cap3 n3 : Nat} (h : RbI w cs k a cap n wr) (hk : k < cs.length) (hk2 : Kp [] wr w2) (hn : n3 = (lb (cs.take k) ++ enc (cs.getD k [])).length) (ho : OwnU w.heap.size w3 a3 cap3 (lb (cs.take k) ++ enc (cs.getD k [])))
    (hk3 : Kp (ob a) w2 w3) : RbI w cs (k + 1) a3 cap3 n3 w3 := by
  rw [← lb_take_succ hk] at hn ho
  exact ⟨hn, ho, (h.kp.trans0 hk2).trans hk3 (fun x hx => .inr (h.own.lo x hx).1)⟩

end
/- Put and Tear of the document's roll, by their contracts. -/
section
open Go.RowKit
attribute [local go_sem ↓] Go.wp_at_zero Go.wp_at_succ

/-- What a call that changes a roll leaves. -/
def RlTo (B : Nat) (w : World) (rb : Nat) (G : List Nat) (cs : List (List Ver)) (torn : List UInt8) (w' : World) : Prop := ∃ G', Rl B w' rb G' cs torn ∧ Kp G w w' ∧ ∀ x, x ∈ G' → x ∈ G ∨ w.heap.size ≤ x
theorem RlTo.trans {B : Nat} {w w1 w2 : World} {rb : Nat} {G : List Nat} {cs cs' : List (List Ver)} {torn torn' : List UInt8} (h : RlTo B w rb G cs torn w1) (k : ∀ G', Rl B w1 rb G' cs torn → RlTo B w1 rb G' cs' torn' w2) : RlTo B w rb G cs' torn' w2 := by
  obtain ⟨G1, h1, h2, h3⟩ := h
  obtain ⟨G2, k1, k2, k3⟩ := k G1 h1
  refine ⟨G2, k1, h2.trans k2 h3, fun x hx => ?_⟩
  rcases k3 x hx with e | e
  · exact h3 x e
  · exact .inr (Nat.le_trans h2.size e)

section
variable {B : Nat} {w W w4 : World} {rb : Nat} {G : List Nat} {aL a' : Option Addr} {capL cap' : Nat} {xs : List El} {aT : Option Addr} {cT : Nat}
theorem RlL.far (h : RlL B w rb G aL capL xs aT cT []) (hW : Kp [] w W) (hk : Kp (ob aL) W w4) :
    w4.heap[rb]? = some (.cells #[.slice aL xs.length capL, .slice aT ([] : List UInt8).length cT] 64 (0, 0)) := by
  rw [hk.block rb (Nat.lt_of_lt_of_le (h.lo rb h.rG).2 hW.size) h.ne, hW.block rb (h.lo rb h.rG).2 (by simp)]
  exact h.box
theorem RlL.far_cells (h : RlL B w rb G aL capL xs aT cT []) (hW : Kp [] w W) (hk : Kp (ob aL) W w4) : w4.cell? ⟨rb, 0, none⟩ = some (.slice aL xs.length capL) ∧ w4.frozen? ⟨rb, 0, none⟩ = false ∧ rb < w4.heap.size := by
  have hb := h.far hW hk
  exact ⟨cell_of_block hb rfl, frozen_of_block _ hb, lt_of_block hb⟩

theorem RlL.put (h : RlL B w rb G aL capL xs aT cT []) (hW : Kp [] w W) (e : El) (he : SlO W e.a e.ps) (hen : ∀ x ∈ ob e.a, w.heap.size ≤ x ∧ x < W.heap.size) (hk : Kp (ob aL) W w4) (ho : OwnE B w4 a' cap' (xs ++ [e])) (hn : ∀ x ∈ ob a', x ∈ ob aL ∨ W.heap.size ≤ x)
    (hc : lcode (cps xs) e.ps = 0) : RlTo B w rb G (cps xs ++ [e.ps]) [] (w4.setCell ⟨rb, 0, none⟩ (.slice a' (xs.length + 1) cap')) := by
  obtain ⟨rfl, rfl⟩ := h.tn rfl
  have hgl := (h.lo rb h.rG).2
  have hWs := hW.size
  have hk3 : Kp [rb] w4 (w4.setCell ⟨rb, 0, none⟩ (.slice a' (xs.length + 1) cap')) := (Kp.refl [rb] w4).setCell (.inl (by simp)) _
  have hne : rb ∉ ob a' := fun hm => by
    rcases hn rb hm with q | q
    · exact h.ne q
    · omega
  have hKG : Kp G w (w4.setCell ⟨rb, 0, none⟩ (.slice a' (xs.length + 1) cap')) := by
    have k1 : Kp G w w4 := (hW.mono (fun x hx => by simp at hx)).trans hk (fun x hx => .inl (h.aG x hx))
    exact k1.trans hk3 (fun x hx => .inl (by rw [List.mem_singleton.1 hx]; exact h.rG))
  refine ⟨G ++ ob e.a ++ ob a', ⟨a', cap', xs ++ [e], none, 0, ⟨?_, ?_, fun e0 he0 => ?_, byt_nil _ _, fun _ => ⟨rfl, rfl⟩, by simp [ob], hne, by simp [h.rG], fun x hx => by simp [hx], fun x hx => ?_, ?_, by simp, Nat.le_trans h.hB hKG.size⟩, ?_⟩, hKG, fun x hx => ?_⟩
  · rw [heap_setCell_at 0 _ (h.far hW hk)]
    simp
  · exact ho.kp hk3 (fun x hx q => hne (by rw [← List.mem_singleton.1 q]; exact hx))
  · rcases List.mem_append.1 he0 with q | q
    · obtain ⟨s1, s2⟩ := h.els e0 q
      refine ⟨((s1.kp0 hW).kp hk (fun x hx => (s2 x hx).2.2)).kp hk3 (fun x hx q2 => (s2 x hx).2.1 (List.mem_singleton.1 q2)), fun x hx => ⟨by simp [(s2 x hx).1], (s2 x hx).2.1, fun q2 => ?_⟩⟩
      rcases hn x q2 with q3 | q3
      · exact (s2 x hx).2.2 q3
      · have := (h.lo x (s2 x hx).1).2; omega
    · rw [List.mem_singleton.1 q]
      have haL : ∀ x ∈ ob e.a, x ∉ ob aL := fun x hx q2 => by
        have h1 := (hen x hx).1
        have h2 := (h.lo x (h.aG x q2)).2
        omega
      have hrb : ∀ x ∈ ob e.a, x ≠ rb := fun x hx q2 => by
        have h1 := (hen x hx).1
        omega
      refine ⟨(he.kp hk haL).kp hk3 (fun x hx q2 => hrb x hx (List.mem_singleton.1 q2)), fun x hx => ⟨by simp [hx], hrb x hx, fun q2 => ?_⟩⟩
      rcases hn x q2 with q3 | q3
      · exact haL x hx q3
      · have := (hen x hx).2; omega
  · have hs4 : W.heap.size ≤ (w4.setCell ⟨rb, 0, none⟩ (.slice a' (xs.length + 1) cap')).heap.size := Nat.le_trans hk.size hk3.size
    rcases List.mem_append.1 hx with q | q
    · rcases List.mem_append.1 q with q | q
      · exact ⟨(h.lo x q).1, Nat.lt_of_lt_of_le (h.lo x q).2 hKG.size⟩
      · have h1 := hen x q
        have := h.hB
        exact ⟨by omega, by omega⟩
    · have h1 := ho.lo x q
      exact ⟨h1.1, Nat.lt_of_lt_of_le h1.2 hk3.size⟩
  · rw [cps_append]
    exact h.inv.snoc hc
  · rw [cps_append]; rfl
  · rcases List.mem_append.1 hx with q | q
    · rcases List.mem_append.1 q with q | q
      · exact .inl q
      · exact .inr (hen x q).1
    · rcases hn x q with q3 | q3
      · exact .inl (h.aG x q3)
      · exact .inr (by omega)
end

end
/- Tear and Put of a log, by their contracts. -/
section
open Go.RowKit
attribute [local go_sem ↓] Go.wp_at_zero Go.wp_at_succ

/-- What a call that changes a log leaves. -/
def LgTo (B : Nat) (w : World) (gb : Nat) (F : List Nat) (cs : List (List Ver)) (torn : List UInt8) (w' : World) : Prop := ∃ F', Lg B w' gb F' cs torn ∧ Kp F w w' ∧ ∀ x, x ∈ F' → x ∈ F ∨ w.heap.size ≤ x
theorem lgTo_same {B : Nat} {w w' : World} {gb : Nat} {F : List Nat} {cs : List (List Ver)} {torn : List UInt8} (h : Lg B w gb F cs torn) (hk : Kp [] w w') : LgTo B w gb F cs torn w' :=
  ⟨F, h.kp0 hk, hk.mono (fun x hx => by simp at hx), fun x hx => .inl hx⟩

section
variable {B : Nat} {w W w2 : World} {gb : Nat} {F : List Nat} {a a' : Option Addr} {cap cap' N : Nat} {cs : List (List Ver)} {bs : List UInt8}
theorem LgL.far (h : LgL B w gb F a cap cs []) (hW : Kp [] w W) (hk : Kp (ob a) W w2) :
    w2.heap[gb]? = some (.cells #[.slice a (lb cs ++ []).length cap, .int .i64 (lb cs).length, .int .i64 cs.length] 144 (0, 0)) := by
  rw [hk.block gb (Nat.lt_of_lt_of_le (h.lo gb h.gF).2 hW.size) h.ne, hW.block gb (h.lo gb h.gF).2 (by simp)]
  exact h.box
theorem LgL.far_cells (h : LgL B w gb F a cap cs []) (hW : Kp [] w W) (hk : Kp (ob a) W w2) :
    w2.cell? ⟨gb, 0, none⟩ = some (.slice a (lb cs).length cap) ∧ w2.frozen? ⟨gb, 0, none⟩ = false ∧ w2.cell? ⟨gb, 1, none⟩ = some (.int .i64 (lb cs).length) ∧ w2.frozen? ⟨gb, 1, none⟩ = false ∧ w2.cell? ⟨gb, 2, none⟩ = some (.int .i64 cs.length) ∧ w2.frozen? ⟨gb, 2, none⟩ = false := by
  have hb := h.far hW hk
  rw [List.append_nil] at hb
  exact ⟨cell_of_block hb rfl, frozen_of_block _ hb, cell_of_block hb rfl, frozen_of_block _ hb, cell_of_block hb rfl, frozen_of_block _ hb⟩

/-- The box with other cells: a log again. -/
theorem LgL.turn (h : LgL B w gb F a cap cs []) (hW : Kp [] w W) (hk : Kp (ob a) W w2) (ho : OwnU B w2 a' cap' bs) (hn : ∀ x ∈ ob a', x ∈ ob a ∨ W.heap.size ≤ x)
    {W3 : World} (hk3 : Kp [gb] w2 W3) {cs' : List (List Ver)} {torn : List UInt8} (hbs : bs = lb cs' ++ torn) (hb : W3.heap[gb]? = some (.cells #[.slice a' bs.length cap', .int .i64 (lb cs').length, .int .i64 cs'.length] 144 (0, 0)))
    (hi : LInv cs') (ht : torn.length ≤ 114) : LgTo B w gb F cs' torn W3 := by
  subst hbs
  have hgl := (h.lo gb h.gF).2
  have hne : gb ∉ ob a' := fun hm => by
    rcases hn gb hm with e | e
    · exact h.ne e
    · have := hW.size; omega
  have hKF : Kp F w W3 := by
    have k1 : Kp F w w2 := (hW.mono (fun x hx => by simp at hx)).trans hk (fun x hx => .inl (h.aF x hx))
    exact k1.trans hk3 (fun x hx => .inl (by rw [List.mem_singleton.1 hx]; exact h.gF))
  have ho3 : OwnU B W3 a' cap' (lb cs' ++ torn) := ho.kp hk3 (fun x hx e => hne (by rw [← List.mem_singleton.1 e]; exact hx))
  refine ⟨F ++ ob a', ⟨a', cap', hb, ho3, hne, by simp [h.gF], fun x hx => by simp [hx], fun x hx => ?_, hi, ht, Nat.le_trans h.hB hKF.size⟩, hKF, fun x hx => ?_⟩
  · rcases List.mem_append.1 hx with e | e
    · exact ⟨(h.lo x e).1, Nat.lt_of_lt_of_le (h.lo x e).2 hKF.size⟩
    · exact ho3.lo x e
  · rcases List.mem_append.1 hx with e | e
    · exact .inl e
    · rcases hn x e with e2 | e2
      · exact .inl (h.aF x e2)
      · exact .inr (Nat.le_trans hW.size e2)

theorem LgL.tear_cut (h : LgL B w gb F a cap cs []) (hW : Kp [] w W) (hk : Kp (ob a) W w2) {t : List UInt8} (ho : OwnU B w2 a' cap' (lb cs ++ t)) (hn : ∀ x ∈ ob a', x ∈ ob a ∨ W.heap.size ≤ x) (hN : N = (lb cs ++ t).length) (ht : t.length ≤ 114) :
    LgTo B w gb F cs t (w2.setCell ⟨gb, 0, none⟩ (.slice a' N cap')) := by
  subst hN
  refine h.turn hW hk ho hn ((Kp.refl [gb] w2).setCell (.inl (by simp)) _) rfl ?_ h.inv ht
  rw [heap_setCell_at 0 _ (h.far hW hk)]
  rfl
theorem LgL.tear_all (h : LgL B w gb F a cap cs []) (hW : Kp [] w W) (hk : Kp (ob a) W w2) {ps : List Ver} (hc : lcode cs ps = 0) (ho : OwnU B w2 a' cap' (lb cs ++ enc ps)) (hn : ∀ x ∈ ob a', x ∈ ob a ∨ W.heap.size ≤ x) (hN : N = (lb cs ++ enc ps).length)
    {x y : Int} (hx : x = ((lb cs).length + (enc ps).length : Nat)) (hy : y = (cs.length + 1 : Nat)) :
    LgTo B w gb F (cs ++ [ps]) [] (((w2.setCell ⟨gb, 0, none⟩ (.slice a' N cap')).setCell ⟨gb, 1, none⟩ (.int .i64 x)).setCell ⟨gb, 2, none⟩ (.int .i64 y)) := by
  subst hN hx hy
  refine h.turn hW hk ho hn ((((Kp.refl [gb] w2).setCell (.inl (by simp)) _).setCell (.inl (by simp)) _).setCell (.inl (by simp)) _) (cs' := cs ++ [ps]) (torn := []) (by rw [lb_snoc, List.append_nil]) ?_ (h.inv.snoc hc) (by simp)
  rw [heap_setCell_at 2 _ (heap_setCell_at 1 _ (heap_setCell_at 0 _ (h.far hW hk)))]
  rw [lb_snoc]
  simp
end

theorem byt_srcn {w : World} {a : Option Addr} {bs : List UInt8} (h : Byt w a bs) {n c : Nat} (hn : n = bs.length) : Src Tryz.prog 1 42 (.slice a n c) bs.length (bcells bs) w := by
  subst hn
  exact h.src c

set_option maxHeartbeats 2000000 in
theorem ltear30 {B gb : Nat} {F : List Nat} {cs : List (List Ver)} (a2 : Option Addr) (c : Nat) (ps : List Ver) (keep : Int) (w : World) (h : Lg B w gb F cs []) (hp : Prs w a2 ps) (hm : ps.length ≤ 1000) :
    Calls Tryz.prog 188 #[.pointer (some ⟨gb, 0, none⟩), .slice a2 ps.length c, .int .i64 keep] w fun e w' => e = .returned (.int .i64 (lcode cs ps)) ∧ LgTo B w gb F (ltear cs ps keep) (ltorn cs ps keep) w' := by
  have hinv := h.inv
  have hn40 := hinv.n40
  have hb3000 := hinv.b3000
  have HS := hide (fun w' (hk : Kp [] w w') => lgTo_same h hk)
  obtain ⟨a, cap, h⟩ := h
  by_cases hpf : pf (-1) ps = 0
  · have hel := enc_le hpf
    have HE := hide (encode_ok a2 c ps w hp hpf)
    by_cases hf : 40 ≤ cs.length ∨ 3000 < (lb cs).length + (enc ps).length
    · have hc := lcode_full hpf hf
      obtain ⟨e1, e2⟩ := ltear_code (cs := cs) (ps := ps) keep (by rw [hc]; simp)
      rw [hc, e1, e2]
      have HB := hide h
      clear h hp hpf hc e1 e2
      by_cases h40 : 40 ≤ cs.length
      · clear hf
        go_enter Tryz.func188, Tryz.ntmps188
        go_wp2_with fail
        refine (unhide HE).mono ?_
        rintro e w1 ⟨gx, cx, nx, rfl, hn, hr⟩
        have r2 : w1.cell? ⟨gb, 2, none⟩ = some (.int .i64 cs.length) := hr.kp.cell (by simp) (unhide HB).c2
        have HK := hide hr.kp
        clear hn hr
        generalize cs.length = C at *
        go_wp2_with fail
        go_ret
        exact ⟨rfl, unhide HS _ (unhide HK)⟩
      · have hfull : 3000 < (lb cs).length + (enc ps).length := hf.resolve_left h40
        clear hf
        go_enter Tryz.func188, Tryz.ntmps188
        go_wp2_with fail
        refine (unhide HE).mono ?_
        rintro e w1 ⟨gx, cx, nx, rfl, hn, hr⟩
        have r2 : w1.cell? ⟨gb, 2, none⟩ = some (.int .i64 cs.length) := hr.kp.cell (by simp) (unhide HB).c2
        have r1 : w1.cell? ⟨gb, 1, none⟩ = some (.int .i64 (lb cs).length) := hr.kp.cell (by simp) (unhide HB).c1
        have HK := hide hr.kp
        rw [← hn] at hfull hel
        clear hn hr
        have HC := hide HB
        clear HB
        have HS2 : Hid (LgTo B w gb F cs [] w1) := unhide HS _ (unhide HK)
        clear HS HC
        generalize cs.length = C at *
        generalize (lb cs).length = L at *
        have f1 : ¬ (40 : Int) ≤ (C : Int) := by omega
        have f2 : (3000 : Int) < (L : Int) + (nx : Int) := by omega
        go_wp2_with fail
        go_ret
        exact ⟨rfl, HS2⟩
    · have hc := lcode_ok hpf hf
      rw [hc]
      have h40 : ¬ 40 ≤ cs.length := fun q => hf (.inl q)
      have hroom : ¬ 3000 < (lb cs).length + (enc ps).length := fun q => hf (.inr q)
      have HC := hide hc
      have HB := hide h
      by_cases hk : ((enc ps).length : Int) ≤ keep
      · obtain ⟨e1, e2⟩ := ltear_all hc hk
        rw [e1, e2]
        clear h hp hpf hc e1 e2 hf
        go_enter Tryz.func188, Tryz.ntmps188
        go_wp2_with fail
        refine (unhide HE).mono ?_
        rintro e w1 ⟨gx, cx, nx, rfl, hn, hr⟩
        have r0 : w1.cell? ⟨gb, 0, none⟩ = some (.slice a (lb cs).length cap) := hr.kp.cell (by simp) (by have := (unhide HB).c0; rwa [List.append_nil] at this)
        have r1 : w1.cell? ⟨gb, 1, none⟩ = some (.int .i64 (lb cs).length) := hr.kp.cell (by simp) (unhide HB).c1
        have r2 : w1.cell? ⟨gb, 2, none⟩ = some (.int .i64 cs.length) := hr.kp.cell (by simp) (unhide HB).c2
        have hO : OwnU B w1 a cap (lb cs) := by have := (unhide HB).own.kp0 hr.kp; rwa [List.append_nil] at this
        have hsl := own_part hO (lb cs).length (lb cs).length (Nat.le_refl _) _ rfl
        have hsx := own_part hr.ownU nx nx (by omega) _ rfl
        have HO := hide hO
        have HR := hide hr
        have HK := hide hr.kp
        rw [← hn] at hroom hel hk
        have HN := hide hn
        have hB1 : B ≤ w1.heap.size := Nat.le_trans (unhide HB).hB hr.kp.size
        clear hn hr hO
        obtain ⟨C, hC⟩ : ∃ C, cs.length = C := ⟨_, rfl⟩
        obtain ⟨L, hL⟩ : ∃ L, (lb cs).length = L := ⟨_, rfl⟩
        rw [hC] at hn40 h40 r2
        rw [hL] at hb3000 hroom r0 r1 hsl
        have f1 : ¬ (40 : Int) ≤ (C : Int) := by omega
        have f2 : ¬ (3000 : Int) < (L : Int) + (nx : Int) := by omega
        have m0 : ¬ keep < 0 := by omega
        have HCC := hide hC
        have HLL := hide hL
        clear hC hL
        rcases Int.lt_or_eq_of_le hk with hk2 | hk2
        case' inr => subst hk2
        all_goals
         go_wp2_with fail
         go_region_law (refine step_appx (by rfl) (.tmp 47) (.tmp 50) 42 (by rfl) ((unhide HO).kp0 (Kp.refl [] _).drew) (by simpa using hB1) L (unhide HLL).symm (.slice (some ⟨gx, 0, none⟩) nx cx) (enc ps) (by rfl) (by rfl) (byt_srcn ((unhide HR).byt.kp0 (Kp.refl [] _).drew) (unhide HN)) (by have := unhide HLL; have := unhide HN; omega) ?_; intro a3 c3 n3 w3 hn3 ho3 hk3 hx3; obtain ⟨s0, s1, s2, s3, s4, s5⟩ := (unhide HB).far_cells ((unhide HK).trans0 (Kp.refl [] _).drew) (unhide hk3); rw [unhide HLL] at s0 s2; rw [unhide HCC] at s4)
         all_goals
          go_wp2_with fail
          go_ret
          exact ⟨rfl, (unhide HB).tear_all ((unhide HK).trans0 (Kp.refl [] _).drew) (unhide hk3) (unhide HC) (unhide ho3) (unhide hx3) (unhide hn3) (by have := unhide HLL; have := unhide HN; omega) (by have := unhide HCC; omega)⟩
      · obtain ⟨e1, e2⟩ := ltear_cut hc hk
        rw [e1, e2]
        clear h hp hpf hc e1 e2 hf
        by_cases hneg : keep < 0
        · rw [show keep.toNat = 0 by omega]
          go_enter Tryz.func188, Tryz.ntmps188
          go_wp2_with fail
          refine (unhide HE).mono ?_
          rintro e w1 ⟨gx, cx, nx, rfl, hn, hr⟩
          have r0 : w1.cell? ⟨gb, 0, none⟩ = some (.slice a (lb cs).length cap) := hr.kp.cell (by simp) (by have := (unhide HB).c0; rwa [List.append_nil] at this)
          have r1 : w1.cell? ⟨gb, 1, none⟩ = some (.int .i64 (lb cs).length) := hr.kp.cell (by simp) (unhide HB).c1
          have r2 : w1.cell? ⟨gb, 2, none⟩ = some (.int .i64 cs.length) := hr.kp.cell (by simp) (unhide HB).c2
          have hO : OwnU B w1 a cap (lb cs) := by have := (unhide HB).own.kp0 hr.kp; rwa [List.append_nil] at this
          have hsl := own_part hO (lb cs).length (lb cs).length (Nat.le_refl _) _ rfl
          have hsx := own_part hr.ownU 0 nx (by omega) (0) (by omega)
          have HO := hide hO
          have HR := hide ((hr.ownU.take 0 (by omega)).byt)
          have HK := hide hr.kp
          have hlt : ((enc ps).take 0).length = 0 := by simp
          rw [← hn] at hroom hel hk
          have HT := hide hlt
          have hB1 : B ≤ w1.heap.size := Nat.le_trans (unhide HB).hB hr.kp.size
          clear hn hr hO hlt
          obtain ⟨C, hC⟩ : ∃ C, cs.length = C := ⟨_, rfl⟩
          obtain ⟨L, hL⟩ : ∃ L, (lb cs).length = L := ⟨_, rfl⟩
          rw [hC] at hn40 h40 r2
          rw [hL] at hb3000 hroom r0 r1 hsl
          have f1 : ¬ (40 : Int) ≤ (C : Int) := by omega
          have f2 : ¬ (3000 : Int) < (L : Int) + (nx : Int) := by omega
          have m1 : ¬ (nx : Int) < 0 := by omega
          have m2 : ¬ (0 : Int) = (nx : Int) := by omega
          have HCC := hide hC
          have HLL := hide hL
          clear hC hL
          go_wp2_with fail
          go_region_law (refine step_appx (by rfl) (.tmp 47) (.tmp 50) 42 (by rfl) ((unhide HO).kp0 (Kp.refl [] _).drew) (by simpa using hB1) L (unhide HLL).symm (.slice (some ⟨gx, 0, none⟩) 0 cx) ((enc ps).take 0) (by rfl) (by rfl) (byt_srcn ((unhide HR).kp0 (Kp.refl [] _).drew) (unhide HT).symm) (by have := unhide HLL; have := unhide HT; omega) ?_; intro a3 c3 n3 w3 hn3 ho3 hk3 hx3; obtain ⟨s0, s1, s2, s3, s4, s5⟩ := (unhide HB).far_cells ((unhide HK).trans0 (Kp.refl [] _).drew) (unhide hk3); rw [unhide HLL] at s0 s2; rw [unhide HCC] at s4)
          all_goals
           go_wp2_with fail
           go_ret
           exact ⟨rfl, (unhide HB).tear_cut ((unhide HK).trans0 (Kp.refl [] _).drew) (unhide hk3) (unhide ho3) (unhide hx3) (unhide hn3) (by have := unhide HT; omega)⟩
        · obtain ⟨k, rfl⟩ : ∃ k : Nat, keep = (k : Int) := ⟨keep.toNat, by omega⟩
          rw [Int.toNat_natCast]
          go_enter Tryz.func188, Tryz.ntmps188
          go_wp2_with fail
          refine (unhide HE).mono ?_
          rintro e w1 ⟨gx, cx, nx, rfl, hn, hr⟩
          have r0 : w1.cell? ⟨gb, 0, none⟩ = some (.slice a (lb cs).length cap) := hr.kp.cell (by simp) (by have := (unhide HB).c0; rwa [List.append_nil] at this)
          have r1 : w1.cell? ⟨gb, 1, none⟩ = some (.int .i64 (lb cs).length) := hr.kp.cell (by simp) (unhide HB).c1
          have r2 : w1.cell? ⟨gb, 2, none⟩ = some (.int .i64 cs.length) := hr.kp.cell (by simp) (unhide HB).c2
          have hO : OwnU B w1 a cap (lb cs) := by have := (unhide HB).own.kp0 hr.kp; rwa [List.append_nil] at this
          have hsl := own_part hO (lb cs).length (lb cs).length (Nat.le_refl _) _ rfl
          have hsx := own_part hr.ownU k nx (by omega) ((k : Int)) (by omega)
          have HO := hide hO
          have HR := hide ((hr.ownU.take k (by omega)).byt)
          have HK := hide hr.kp
          have hlt : ((enc ps).take k).length = k := by simp; omega
          rw [← hn] at hroom hel hk
          have HT := hide hlt
          have hB1 : B ≤ w1.heap.size := Nat.le_trans (unhide HB).hB hr.kp.size
          clear hn hr hO hlt
          obtain ⟨C, hC⟩ : ∃ C, cs.length = C := ⟨_, rfl⟩
          obtain ⟨L, hL⟩ : ∃ L, (lb cs).length = L := ⟨_, rfl⟩
          rw [hC] at hn40 h40 r2
          rw [hL] at hb3000 hroom r0 r1 hsl
          have f1 : ¬ (40 : Int) ≤ (C : Int) := by omega
          have f2 : ¬ (3000 : Int) < (L : Int) + (nx : Int) := by omega
          have m1 : ¬ (nx : Int) < (k : Int) := by omega
          have m2 : ¬ ((k : Int) : Int) = (nx : Int) := by omega
          have HCC := hide hC
          have HLL := hide hL
          clear hC hL
          go_wp2_with fail
          go_region_law (refine step_appx (by rfl) (.tmp 47) (.tmp 50) 42 (by rfl) ((unhide HO).kp0 (Kp.refl [] _).drew) (by simpa using hB1) L (unhide HLL).symm (.slice (some ⟨gx, 0, none⟩) k cx) ((enc ps).take k) (by rfl) (by rfl) (byt_srcn ((unhide HR).kp0 (Kp.refl [] _).drew) (unhide HT).symm) (by have := unhide HLL; have := unhide HT; omega) ?_; intro a3 c3 n3 w3 hn3 ho3 hk3 hx3; obtain ⟨s0, s1, s2, s3, s4, s5⟩ := (unhide HB).far_cells ((unhide HK).trans0 (Kp.refl [] _).drew) (unhide hk3); rw [unhide HLL] at s0 s2; rw [unhide HCC] at s4)
          all_goals
           go_wp2_with fail
           go_ret
           exact ⟨rfl, (unhide HB).tear_cut ((unhide HK).trans0 (Kp.refl [] _).drew) (unhide hk3) (unhide ho3) (unhide hx3) (unhide hn3) (by have := unhide HT; omega)⟩
  · have hc := lcode_bad (cs := cs) hpf
    obtain ⟨e1, e2⟩ := ltear_code (cs := cs) (ps := ps) keep (by rw [hc]; exact hpf)
    rw [hc, e1, e2]
    have HE := hide (encode_bad a2 c ps w hp hm hpf)
    clear h hp hc e1 e2
    generalize pf (-1) ps = z at *
    go_enter Tryz.func188, Tryz.ntmps188
    go_wp2_with fail
    refine (unhide HE).mono ?_
    rintro e w1 ⟨rfl, hk1⟩
    have HK := hide (unhide HS _ hk1)
    clear hk1 HS HE
    go_wp2_with fail
    go_ret
    exact ⟨rfl, unhide HK⟩

set_option maxHeartbeats 400000 in
theorem lput31 {B gb : Nat} {F : List Nat} {cs : List (List Ver)} (a2 : Option Addr) (c : Nat) (ps : List Ver) (w : World) (h : Lg B w gb F cs []) (hp : Prs w a2 ps) (hm : ps.length ≤ 1000) :
    Calls Tryz.prog 170 #[.pointer (some ⟨gb, 0, none⟩), .slice a2 ps.length c] w fun e w' => e = .returned (.int .i64 (lcode cs ps)) ∧ LgTo B w gb F (lput cs ps) [] w' := by
  have ht := ltear30 a2 c ps 9223372036854775807 w h hp hm
  rw [lput_is.1, lput_is.2] at ht
  have HT := hide ht
  clear h hp ht
  generalize lput cs ps = cs' at *
  generalize lcode cs ps = z at *
  go_enter Tryz.func170, Tryz.ntmps170
  go_wp2_with fail
  refine (unhide HT).mono ?_
  rintro e w1 ⟨rfl, h1⟩
  have H1 := hide h1
  clear h1
  go_wp2_with fail
  go_ret
  exact ⟨rfl, unhide H1⟩
end
/- Tear of the document's roll, by its contract. -/
section
open Go.RowKit
attribute [local go_sem ↓] Go.wp_at_zero Go.wp_at_succ

theorem LInv.take {cs : List (List Ver)} (h : LInv cs) (k : Nat) : LInv (cs.take k) :=
  ⟨fun c hc => h.pf c (List.mem_of_mem_take hc), by have := h.n40; simp; omega, by have := h.b3000; have := lb_take_le cs k; omega⟩
section
variable {B : Nat} {w W w4 : World} {rb : Nat} {G : List Nat} {aL a' : Option Addr} {capL cap' : Nat} {xs : List El} {aT : Option Addr} {cT : Nat}
theorem RlL.torn (h : RlL B w rb G aL capL xs aT cT []) (hW : Kp [] w W) (hk : Kp [] W w4) {a3 : Option Addr} {c3 N : Nat} {t : List UInt8} (ho : OwnU B w4 a3 c3 t) (hn : ∀ x ∈ ob a3, W.heap.size ≤ x) (hN : N = t.length) (ht : t ≠ []) (htl : t.length ≤ 114) :
    RlTo B w rb G (cps xs) t (w4.setCell ⟨rb, 1, none⟩ (.slice a3 N c3)) := by
  subst hN
  have hWs := hW.size
  have hW1 := (h.kp hW (fun _ _ => by simp)).kp hk (fun _ _ => by simp)
  have hk3 : Kp [rb] w4 (w4.setCell ⟨rb, 1, none⟩ (.slice a3 t.length c3)) := (Kp.refl [rb] w4).setCell (.inl (by simp)) _
  have hKG : Kp G w (w4.setCell ⟨rb, 1, none⟩ (.slice a3 t.length c3)) := ((hW.trans0 hk).mono (fun x hx => by simp at hx)).trans hk3 (fun x hx => .inl (by rw [List.mem_singleton.1 hx]; exact h.rG))
  have hrb : ∀ x ∈ ob a3, x ≠ rb := fun x hx q => by
    have h1 := hn x hx
    have h2 := (h.lo rb h.rG).2
    omega
  refine ⟨G ++ ob a3, ⟨aL, capL, xs, a3, c3, ⟨?_, ?_, fun e he => ?_, ?_, fun q => absurd q ht, fun x hx => ⟨by simp [hx], hrb x hx⟩, h.ne, by simp [h.rG], fun x hx => by simp [h.aG x hx], fun x hx => ?_, h.inv, htl, Nat.le_trans h.hB hKG.size⟩, rfl⟩, hKG, fun x hx => ?_⟩
  · rw [heap_setCell_at 1 _ hW1.box]; rfl
  · exact hW1.own.kp hk3 (fun x hx q => h.ne (by rw [← List.mem_singleton.1 q]; exact hx))
  · exact ⟨(hW1.els e he).1.kp hk3 (fun x hx q => ((h.els e he).2 x hx).2.1 (List.mem_singleton.1 q)), fun x hx => ⟨by simp [((h.els e he).2 x hx).1], ((h.els e he).2 x hx).2⟩⟩
  · exact ho.byt.kpo hk3 (fun x hx q => hrb x hx (List.mem_singleton.1 q))
  · rcases List.mem_append.1 hx with q | q
    · exact ⟨(h.lo x q).1, Nat.lt_of_lt_of_le (h.lo x q).2 hKG.size⟩
    · exact ⟨(ho.lo x q).1, Nat.lt_of_lt_of_le (ho.lo x q).2 hk3.size⟩
  · rcases List.mem_append.1 hx with q | q
    · exact .inl q
    · exact .inr (Nat.le_trans hWs (hn x q))
end

end
/- The document's roll of commits, at a place of a greater box: its memory; Mend and Bytes, by their contracts. -/
section
open Go.RowKit
attribute [local go_sem ↓] Go.wp_at_zero Go.wp_at_succ

/-- A roll's memory: the box rb holds, from place o on, the commits and what is torn; bx: all its cells; G: all blocks that are the roll's own, the box among them. -/
structure RxL (B : Nat) (w : World) (rb o : Nat) (bx : Array Value) (T : TypeId) (G : List Nat) (aL : Option Addr) (capL : Nat) (xs : List El) (aT : Option Addr) (cT : Nat) (torn : List UInt8) : Prop where
  box : w.heap[rb]? = some (.cells bx T (0, 0))
  b0 : bx[o]? = some (.slice aL xs.length capL)
  b1 : bx[o + 1]? = some (.slice aT torn.length cT)
  own : OwnE B w aL capL xs
  els : ∀ e ∈ xs, SlO w e.a e.ps ∧ ∀ x ∈ ob e.a, x ∈ G ∧ x ≠ rb ∧ x ∉ ob aL
  tb : Byt w aT torn
  tn : torn = [] → aT = none ∧ cT = 0
  tG : ∀ x ∈ ob aT, x ∈ G ∧ x ≠ rb
  ne : rb ∉ ob aL
  rG : rb ∈ G
  aG : ∀ x ∈ ob aL, x ∈ G
  lo : ∀ x ∈ G, B ≤ x ∧ x < w.heap.size
  inv : LInv (cps xs)
  tl : torn.length ≤ 114
  hB : B ≤ w.heap.size
def Rx (B : Nat) (w : World) (rb o : Nat) (bx : Array Value) (T : TypeId) (G : List Nat) (cs : List (List Ver)) (torn : List UInt8) : Prop := ∃ aL capL xs aT cT, RxL B w rb o bx T G aL capL xs aT cT torn ∧ cs = cps xs
/-- All cells but the two at o are as they were. -/
def SameB (o : Nat) (bx bx' : Array Value) : Prop := bx'.size = bx.size ∧ ∀ i, i ≠ o → i ≠ o + 1 → bx'[i]? = bx[i]?
theorem SameB.trans {o : Nat} {a b c : Array Value} (h : SameB o a b) (k : SameB o b c) : SameB o a c := ⟨k.1.trans h.1, fun i h1 h2 => (k.2 i h1 h2).trans (h.2 i h1 h2)⟩
theorem sameB_set (o : Nat) (bx : Array Value) (i : Nat) (v : Value) (hi : i = o ∨ i = o + 1) : SameB o bx (bx.setIfInBounds i v) := ⟨by simp, fun j h1 h2 => by rw [Array.getElem?_setIfInBounds_ne (by omega)]⟩
theorem set_here {bx : Array Value} {i : Nat} {u : Value} (h : bx[i]? = some u) (v : Value) : (bx.setIfInBounds i v)[i]? = some v := by
  have hl : i < bx.size := (Array.getElem?_eq_some_iff.1 h).1
  simp [hl]
theorem set_there {bx : Array Value} {i j : Nat} {u : Value} (h : bx[j]? = some u) (hn : i ≠ j) (v : Value) : (bx.setIfInBounds i v)[j]? = some u := by
  rw [Array.getElem?_setIfInBounds_ne hn]; exact h

section
variable {B : Nat} {w w' : World} {rb o : Nat} {bx : Array Value} {T : TypeId} {G S : List Nat} {aL : Option Addr} {capL : Nat} {xs : List El} {aT : Option Addr} {cT : Nat} {torn : List UInt8} {cs : List (List Ver)}
theorem RxL.kp (h : RxL B w rb o bx T G aL capL xs aT cT torn) (hk : Kp S w w') (hS : ∀ x, x ∈ G → x ∉ S) : RxL B w' rb o bx T G aL capL xs aT cT torn :=
  ⟨by rw [hk.block rb (h.lo rb h.rG).2 (hS _ h.rG)]; exact h.box, h.b0, h.b1, h.own.kp hk (fun x hx => hS x (h.aG x hx)), fun e he => ⟨(h.els e he).1.kp hk (fun x hx => hS x ((h.els e he).2 x hx).1), (h.els e he).2⟩, h.tb.kpo hk (fun x hx => hS x (h.tG x hx).1), h.tn, h.tG, h.ne, h.rG, h.aG, fun x hx => ⟨(h.lo x hx).1, Nat.lt_of_lt_of_le (h.lo x hx).2 hk.size⟩, h.inv, h.tl, Nat.le_trans h.hB hk.size⟩
theorem Rx.kp (h : Rx B w rb o bx T G cs torn) (hk : Kp S w w') (hS : ∀ x, x ∈ G → x ∉ S) : Rx B w' rb o bx T G cs torn := by
  obtain ⟨aL, capL, xs, aT, cT, h, e⟩ := h
  exact ⟨aL, capL, xs, aT, cT, h.kp hk hS, e⟩
theorem Rx.kp0 (h : Rx B w rb o bx T G cs torn) (hk : Kp [] w w') : Rx B w' rb o bx T G cs torn := h.kp hk (fun _ _ => by simp)
theorem Rx.lo (h : Rx B w rb o bx T G cs torn) : ∀ x, x ∈ G → B ≤ x ∧ x < w.heap.size := by
  obtain ⟨aL, capL, xs, aT, cT, h, e⟩ := h
  exact h.lo
theorem Rx.inv (h : Rx B w rb o bx T G cs torn) : LInv cs := by
  obtain ⟨aL, capL, xs, aT, cT, h, e⟩ := h
  subst e
  exact h.inv
theorem Rx.base {C : Nat} (h : Rx B w rb o bx T G cs torn) (hC : C ≤ B) : Rx C w rb o bx T G cs torn := by
  obtain ⟨aL, capL, xs, aT, cT, h, e⟩ := h
  exact ⟨aL, capL, xs, aT, cT, ⟨h.box, h.b0, h.b1, h.own.base hC, h.els, h.tb, h.tn, h.tG, h.ne, h.rG, h.aG, fun x hx => ⟨Nat.le_trans hC (h.lo x hx).1, (h.lo x hx).2⟩, h.inv, h.tl, Nat.le_trans hC h.hB⟩, e⟩
theorem RxL.c0 (h : RxL B w rb o bx T G aL capL xs aT cT torn) : w.cell? ⟨rb, o, none⟩ = some (.slice aL xs.length capL) := cell_of_block h.box h.b0
theorem RxL.c1 (h : RxL B w rb o bx T G aL capL xs aT cT torn) : w.cell? ⟨rb, o + 1, none⟩ = some (.slice aT torn.length cT) := cell_of_block h.box h.b1
theorem RxL.fz (h : RxL B w rb o bx T G aL capL xs aT cT torn) (i : Nat) : w.frozen? ⟨rb, i, none⟩ = false := frozen_of_block i h.box
end

/-- What a call that changes a roll leaves. -/
def RxTo (B : Nat) (w : World) (rb o : Nat) (bx : Array Value) (T : TypeId) (G : List Nat) (cs : List (List Ver)) (torn : List UInt8) (w' : World) : Prop := ∃ G' bx', Rx B w' rb o bx' T G' cs torn ∧ SameB o bx bx' ∧ Kp G w w' ∧ ∀ x, x ∈ G' → x ∈ G ∨ w.heap.size ≤ x
theorem RxL.mend {B : Nat} {w : World} {rb o : Nat} {bx : Array Value} {T : TypeId} {G : List Nat} {aL : Option Addr} {capL : Nat} {xs : List El} {aT : Option Addr} {cT : Nat} {torn : List UInt8} (h : RxL B w rb o bx T G aL capL xs aT cT torn) :
    RxTo B w rb o bx T G (cps xs) [] (w.setCell ⟨rb, o + 1, none⟩ (.slice none 0 0)) := by
  have hk : Kp [rb] w (w.setCell ⟨rb, o + 1, none⟩ (.slice none 0 0)) := (Kp.refl [rb] w).setCell (.inl (by simp)) _
  refine ⟨G, bx.setIfInBounds (o + 1) (.slice none 0 0), ⟨aL, capL, xs, none, 0, ⟨?_, set_there h.b0 (by omega) _, set_here h.b1 _, ?_, fun e he => ⟨?_, (h.els e he).2⟩, byt_nil _ _, fun _ => ⟨rfl, rfl⟩, by simp [ob], h.ne, h.rG, h.aG, fun x hx => ⟨(h.lo x hx).1, Nat.lt_of_lt_of_le (h.lo x hx).2 hk.size⟩, h.inv, by simp, Nat.le_trans h.hB hk.size⟩, rfl⟩, sameB_set _ _ _ _ (.inr rfl), hk.mono (fun x hx => .inl (by rw [List.mem_singleton.1 hx]; exact h.rG)), fun x hx => .inl hx⟩
  · exact heap_setCell_at (o + 1) _ h.box
  · exact h.own.kp hk (fun x hx e => h.ne (by rw [← List.mem_singleton.1 e]; exact hx))
  · exact (h.els e he).1.kp hk (fun x hx e2 => ((h.els e he).2 x hx).2.1 (List.mem_singleton.1 e2))

end
/- Put of the document's roll at a place of a greater box, by its contract. -/
section
open Go.RowKit
attribute [local go_sem ↓] Go.wp_at_zero Go.wp_at_succ

section
variable {B : Nat} {w W w4 : World} {rb o : Nat} {bx : Array Value} {T : TypeId} {G : List Nat} {aL a' : Option Addr} {capL cap' : Nat} {xs : List El} {aT : Option Addr} {cT : Nat}
theorem RxL.far (h : RxL B w rb o bx T G aL capL xs aT cT []) (hW : Kp [] w W) (hk : Kp (ob aL) W w4) :
    w4.heap[rb]? = some (.cells bx T (0, 0)) := by
  rw [hk.block rb (Nat.lt_of_lt_of_le (h.lo rb h.rG).2 hW.size) h.ne, hW.block rb (h.lo rb h.rG).2 (by simp)]
  exact h.box
theorem RxL.far_cells (h : RxL B w rb o bx T G aL capL xs aT cT []) (hW : Kp [] w W) (hk : Kp (ob aL) W w4) : w4.cell? ⟨rb, o, none⟩ = some (.slice aL xs.length capL) ∧ w4.frozen? ⟨rb, o, none⟩ = false ∧ rb < w4.heap.size := by
  have hb := h.far hW hk
  exact ⟨cell_of_block hb h.b0, frozen_of_block _ hb, lt_of_block hb⟩

theorem RxL.put (h : RxL B w rb o bx T G aL capL xs aT cT []) (hW : Kp [] w W) (e : El) (he : SlO W e.a e.ps) (hen : ∀ x ∈ ob e.a, w.heap.size ≤ x ∧ x < W.heap.size) (hk : Kp (ob aL) W w4) (ho : OwnE B w4 a' cap' (xs ++ [e])) (hn : ∀ x ∈ ob a', x ∈ ob aL ∨ W.heap.size ≤ x)
    (hc : lcode (cps xs) e.ps = 0) : RxTo B w rb o bx T G (cps xs ++ [e.ps]) [] (w4.setCell ⟨rb, o, none⟩ (.slice a' (xs.length + 1) cap')) := by
  obtain ⟨rfl, rfl⟩ := h.tn rfl
  have hgl := (h.lo rb h.rG).2
  have hWs := hW.size
  have hk3 : Kp [rb] w4 (w4.setCell ⟨rb, o, none⟩ (.slice a' (xs.length + 1) cap')) := (Kp.refl [rb] w4).setCell (.inl (by simp)) _
  have hne : rb ∉ ob a' := fun hm => by
    rcases hn rb hm with q | q
    · exact h.ne q
    · omega
  have hKG : Kp G w (w4.setCell ⟨rb, o, none⟩ (.slice a' (xs.length + 1) cap')) := by
    have k1 : Kp G w w4 := (hW.mono (fun x hx => by simp at hx)).trans hk (fun x hx => .inl (h.aG x hx))
    exact k1.trans hk3 (fun x hx => .inl (by rw [List.mem_singleton.1 hx]; exact h.rG))
  refine ⟨G ++ ob e.a ++ ob a', bx.setIfInBounds o (.slice a' (xs.length + 1) cap'), ⟨a', cap', xs ++ [e], none, 0, ⟨?_, by rw [set_here h.b0]; simp, set_there h.b1 (by omega) _, ?_, fun e0 he0 => ?_, byt_nil _ _, fun _ => ⟨rfl, rfl⟩, by simp [ob], hne, by simp [h.rG], fun x hx => by simp [hx], fun x hx => ?_, ?_, by simp, Nat.le_trans h.hB hKG.size⟩, ?_⟩, sameB_set _ _ _ _ (.inl rfl), hKG, fun x hx => ?_⟩
  · exact heap_setCell_at o _ (h.far hW hk)
  · exact ho.kp hk3 (fun x hx q => hne (by rw [← List.mem_singleton.1 q]; exact hx))
  · rcases List.mem_append.1 he0 with q | q
    · obtain ⟨s1, s2⟩ := h.els e0 q
      refine ⟨((s1.kp0 hW).kp hk (fun x hx => (s2 x hx).2.2)).kp hk3 (fun x hx q2 => (s2 x hx).2.1 (List.mem_singleton.1 q2)), fun x hx => ⟨by simp [(s2 x hx).1], (s2 x hx).2.1, fun q2 => ?_⟩⟩
      rcases hn x q2 with q3 | q3
      · exact (s2 x hx).2.2 q3
      · have := (h.lo x (s2 x hx).1).2; omega
    · rw [List.mem_singleton.1 q]
      have haL : ∀ x ∈ ob e.a, x ∉ ob aL := fun x hx q2 => by
        have h1 := (hen x hx).1
        have h2 := (h.lo x (h.aG x q2)).2
        omega
      have hrb : ∀ x ∈ ob e.a, x ≠ rb := fun x hx q2 => by
        have h1 := (hen x hx).1
        omega
      refine ⟨(he.kp hk haL).kp hk3 (fun x hx q2 => hrb x hx (List.mem_singleton.1 q2)), fun x hx => ⟨by simp [hx], hrb x hx, fun q2 => ?_⟩⟩
      rcases hn x q2 with q3 | q3
      · exact haL x hx q3
      · have := (hen x hx).2; omega
  · have hs4 : W.heap.size ≤ (w4.setCell ⟨rb, o, none⟩ (.slice a' (xs.length + 1) cap')).heap.size := Nat.le_trans hk.size hk3.size
    rcases List.mem_append.1 hx with q | q
    · rcases List.mem_append.1 q with q | q
      · exact ⟨(h.lo x q).1, Nat.lt_of_lt_of_le (h.lo x q).2 hKG.size⟩
      · have h1 := hen x q
        have := h.hB
        exact ⟨by omega, by omega⟩
    · have h1 := ho.lo x q
      exact ⟨h1.1, Nat.lt_of_lt_of_le h1.2 hk3.size⟩
  · rw [cps_append]
    exact h.inv.snoc hc
  · rw [cps_append]; rfl
  · rcases List.mem_append.1 hx with q | q
    · rcases List.mem_append.1 q with q | q
      · exact .inl q
      · exact .inr (hen x q).1
    · rcases hn x q with q3 | q3
      · exact .inl (h.aG x q3)
      · exact .inr (by omega)
end

end
/- Tear of the document's roll at a place of a greater box, by its contract. -/
section
open Go.RowKit
attribute [local go_sem ↓] Go.wp_at_zero Go.wp_at_succ

section
variable {B : Nat} {w W w4 : World} {rb o : Nat} {bx : Array Value} {T : TypeId} {G : List Nat} {aL a' : Option Addr} {capL cap' : Nat} {xs : List El} {aT : Option Addr} {cT : Nat}
theorem RxL.torn (h : RxL B w rb o bx T G aL capL xs aT cT []) (hW : Kp [] w W) (hk : Kp [] W w4) {a3 : Option Addr} {c3 N : Nat} {t : List UInt8} (ho : OwnU B w4 a3 c3 t) (hn : ∀ x ∈ ob a3, W.heap.size ≤ x) (hN : N = t.length) (ht : t ≠ []) (htl : t.length ≤ 114) :
    RxTo B w rb o bx T G (cps xs) t (w4.setCell ⟨rb, o + 1, none⟩ (.slice a3 N c3)) := by
  subst hN
  have hWs := hW.size
  have hW1 := (h.kp hW (fun _ _ => by simp)).kp hk (fun _ _ => by simp)
  have hk3 : Kp [rb] w4 (w4.setCell ⟨rb, o + 1, none⟩ (.slice a3 t.length c3)) := (Kp.refl [rb] w4).setCell (.inl (by simp)) _
  have hKG : Kp G w (w4.setCell ⟨rb, o + 1, none⟩ (.slice a3 t.length c3)) := ((hW.trans0 hk).mono (fun x hx => by simp at hx)).trans hk3 (fun x hx => .inl (by rw [List.mem_singleton.1 hx]; exact h.rG))
  have hrb : ∀ x ∈ ob a3, x ≠ rb := fun x hx q => by
    have h1 := hn x hx
    have h2 := (h.lo rb h.rG).2
    omega
  refine ⟨G ++ ob a3, bx.setIfInBounds (o + 1) (.slice a3 t.length c3), ⟨aL, capL, xs, a3, c3, ⟨?_, set_there h.b0 (by omega) _, set_here h.b1 _, ?_, fun e he => ?_, ?_, fun q => absurd q ht, fun x hx => ⟨by simp [hx], hrb x hx⟩, h.ne, by simp [h.rG], fun x hx => by simp [h.aG x hx], fun x hx => ?_, h.inv, htl, Nat.le_trans h.hB hKG.size⟩, rfl⟩, sameB_set _ _ _ _ (.inr rfl), hKG, fun x hx => ?_⟩
  · exact heap_setCell_at (o + 1) _ hW1.box
  · exact hW1.own.kp hk3 (fun x hx q => h.ne (by rw [← List.mem_singleton.1 q]; exact hx))
  · exact ⟨(hW1.els e he).1.kp hk3 (fun x hx q => ((h.els e he).2 x hx).2.1 (List.mem_singleton.1 q)), fun x hx => ⟨by simp [((h.els e he).2 x hx).1], ((h.els e he).2 x hx).2⟩⟩
  · exact ho.byt.kpo hk3 (fun x hx q => hrb x hx (List.mem_singleton.1 q))
  · rcases List.mem_append.1 hx with q | q
    · exact ⟨(h.lo x q).1, Nat.lt_of_lt_of_le (h.lo x q).2 hKG.size⟩
    · exact ⟨(ho.lo x q).1, Nat.lt_of_lt_of_le (ho.lo x q).2 hk3.size⟩
  · rcases List.mem_append.1 hx with q | q
    · exact .inl q
    · exact .inr (Nat.le_trans hWs (hn x q))
end

end
/- readPairs, by its contract. -/
section
open Go.RowKit
attribute [local go_sem ↓] Go.wp_at_zero Go.wp_at_succ

theorem rp_step (m : Nat) (bs : List UInt8) : rp (m + 1) bs = if (rd1 bs).2.2 = true then (rp m (bs.drop (rd1 bs).2.1)).map ((rd1 bs).1 :: ·) else none := by
  match bs with
  | [] => simp [rp, rd1]
  | [x] => simp [rp, rd1]
  | k :: l :: r =>
    have e0 : ub (k :: l :: r) 0 = k.toNat := rfl
    have e1 : ub (k :: l :: r) 1 = l.toNat := rfl
    have h2 : ¬ (k :: l :: r).length < 2 := by simp
    have hlen : (k :: l :: r).length = r.length + 2 := rfl
    by_cases hl : l = 255
    · subst hl
      have er : rd1 (k :: 255 :: r) = (⟨k.toNat, false, ByteArray.empty⟩, 2, true) := by unfold rd1; rw [if_neg h2, e0, e1, if_pos (show UInt8.toNat 255 = 255 from rfl)]
      rw [er]
      simp [rp]
    · have hl' : ¬ l.toNat = 255 := fun e => hl (UInt8.toNat_inj.1 (by rw [e]; rfl))
      by_cases hr : r.length < l.toNat
      · have er : rd1 (k :: l :: r) = (dv, 0, false) := by unfold rd1; rw [if_neg h2, e1, if_neg hl', if_pos (by omega)]
        rw [er]
        simp [rp, hl, hr]
      · have ed : (k :: l :: r).drop (2 + l.toNat) = r.drop l.toNat := by rw [show 2 + l.toNat = l.toNat + 1 + 1 by omega]; rfl
        have et : ((k :: l :: r).take (2 + l.toNat)).drop 2 = r.take l.toNat := by rw [show 2 + l.toNat = l.toNat + 1 + 1 by omega]; rfl
        have er : rd1 (k :: l :: r) = (⟨k.toNat, true, ⟨(r.take l.toNat).toArray⟩⟩, 2 + l.toNat, true) := by unfold rd1; rw [if_neg h2, e0, e1, if_neg hl', if_neg (by omega), et]
        rw [er]
        simp only [rp, if_neg hl, if_neg hr, ed]
        simp
theorem rd1_le {bs : List UInt8} (h : (rd1 bs).2.2 = true) : (rd1 bs).2.1 ≤ bs.length := by
  unfold rd1 at h ⊢
  split at h
  · simp at h
  · rename_i h1
    rw [if_neg h1]
    split at h
    · rename_i h3
      rw [if_pos h3]
      simp; omega
    · rename_i h3
      rw [if_neg h3]
      split at h
      · simp at h
      · rename_i h4
        rw [if_neg h4]
        simp; omega

/-- At the head of a round of readPairs. -/
structure RpI (R : Option (List Ver)) (w : World) (m : Nat) (acc : List Ver) (a : Option Addr) (cap : Nat) (ab : Option Addr) (nb cb : Nat) (bs : List UInt8) (wr : World) : Prop where
  goes : (rp m bs).map (acc ++ ·) = R
  own : wr.ownsRow w.heap.size 106 3 (.slice a acc.length cap) acc.length (vcells acc)
  kp : Kp [] w wr
  byt : Byt w ab bs
  len : nb = bs.length
  cap : nb ≤ cb
  small : bs.length ≤ 10000

theorem RpI.fail {R : Option (List Ver)} {w : World} {m : Nat} {acc : List Ver} {a : Option Addr} {cap : Nat} {ab : Option Addr} {nb cb : Nat} {bs : List UInt8} {wr : World} (h : RpI R w (m + 1) acc a cap ab nb cb bs wr) (hr : (rd1 bs).2.2 = false) : R = none := by
  have := h.goes
  rw [rp_step, if_neg (by rw [hr]; decide)] at this
  rw [← this]; rfl
theorem RpI.next {R : Option (List Ver)} {w : World} {m : Nat} {acc : List Ver} {a : Option Addr} {cap : Nat} {ab : Option Addr} {nb cb : Nat} {bs : List UInt8} {wr W w2 : World} (h : RpI R w (m + 1) acc a cap ab nb cb bs wr) (hr : (rd1 bs).2.2 = true) {v : Ver} {sz : Nat} (hv : (rd1 bs).1 = v) (hs : (rd1 bs).2.1 = sz)
    (hw : Kp [] wr W) {g2 cap2 : Nat} (hown : w2.ownsRow w.heap.size 106 3 (.slice (some ⟨g2, 0, none⟩) (acc.length + 1) cap2) (acc.length + 1) (vcells acc ++ [.int .i64 v.a, .bool v.t, .string v.s]))
    (hgrow : W.grownBy w2 (Value.slice a acc.length cap).ownBlock) {ab' : Option Addr} (hb : Byt w ab' (bs.drop sz)) : RpI R w m (acc ++ [v]) (some ⟨g2, 0, none⟩) cap2 ab' (nb - sz) (cb - sz) (bs.drop sz) w2 := by
  subst hv hs
  refine ⟨?_, ?_, (h.kp.trans0 hw).grown hgrow (fun g hg => .inr (own_ge h.own hg)), hb, by rw [h.len]; simp, by have := h.cap; omega, by have := h.small; simp; omega⟩
  · rw [← h.goes, rp_step, if_pos hr, Option.map_map]
    congr 1
    funext x
    simp
  · have hv : vcells acc ++ [.int .i64 (rd1 bs).1.a, .bool (rd1 bs).1.t, .string (rd1 bs).1.s] = vcells (acc ++ [(rd1 bs).1]) := by rw [vcells_append]; rfl
    rw [hv] at hown
    simpa using hown

def RpsEnd (R : Option (List Ver)) (w : World) (e : Ending) (w' : World) : Prop :=
  ∃ a n cap, ∃ q : Bool, e = .returned (.tuple #[.slice a n cap, .bool q]) ∧ (q = true → ∃ ws, R = some ws ∧ n = ws.length ∧ w'.ownsRow w.heap.size 106 3 (.slice a n cap) n (vcells ws)) ∧ (q = false → R = none) ∧ Kp [] w w'
theorem rpsEnd_none {R : Option (List Ver)} {w w' : World} (h : R = none) (hk : Kp [] w w') : RpsEnd R w (.returned (.tuple #[.slice none 0 0, .bool false])) w' := ⟨none, 0, 0, false, rfl, (fun h => by simp at h), fun _ => h, hk⟩
theorem RpI.last {R : Option (List Ver)} {w : World} {acc : List Ver} {a : Option Addr} {cap : Nat} {ab : Option Addr} {nb cb : Nat} {bs : List UInt8} {wr : World} (h : RpI R w 0 acc a cap ab nb cb bs wr) (q : Bool) (hq : q = decide (nb = 0)) : RpsEnd R w (.returned (.tuple #[.slice a acc.length cap, .bool q])) wr := by
  have hg := h.goes
  have hl := h.len
  refine ⟨a, acc.length, cap, q, rfl, fun e => ⟨acc, ?_, rfl, h.own⟩, fun e => ?_, h.kp⟩
  · have e2 : nb = 0 := by subst hq; simpa using e
    have e3 : bs = [] := List.eq_nil_of_length_eq_zero (by omega)
    subst e3
    rw [← hg]; simp [rp]
  · have e2 : ¬ nb = 0 := by subst hq; simpa using e
    have e3 : ¬ bs = [] := fun e => by subst e; simp at hl; omega
    rw [← hg]; simp [rp, e3]

theorem beq0 (n : Nat) : ((n : Int) == 0) = decide (n = 0) := by rw [Bool.eq_iff_iff]; simp

set_option maxHeartbeats 2000000 in
theorem readPairs20 (ab : Option Addr) (n c : Nat) (bs : List UInt8) (m : Nat) (w : World) (h : Byt w ab bs) (hn : n = bs.length) (hc : n ≤ c) (hm : bs.length ≤ 10000) (hm2 : m ≤ 255) :
    Calls Tryz.prog 182 #[.slice ab n c, .int .i64 m] w fun e w' => RpsEnd (rp m bs) w e w' := by
  obtain ⟨i0, hi0, hz0, hz1, hz2⟩ := info_parts Tryz.info106
  have H0 : Hid (RpI (rp m bs) w m [] none 0 ab n c bs w) := ⟨by simp, World.ownsRow_nil _ _ _ _, Kp.refl _ _, h, hn, hc, hm⟩
  generalize rp m bs = R at *
  clear h hn hc hm
  go_enter Tryz.func182, Tryz.ntmps182
  go_wp2_with fail
  go_loopw [0, 6, 11] (fun b s i wr => ∃ (k : Nat) (acc : List Ver) (a : Option Addr) (cap : Nat) (ab : Option Addr) (nb cb : Nat) (bs : List UInt8), k ≤ m ∧ acc.length ≤ k ∧ b = .slice ab nb cb ∧ s = .slice a acc.length cap ∧ i = .int .i64 k ∧ Hid (RpI R w (m - k) acc a cap ab nb cb bs wr)) (fun _ _ i _ => m - (intOf i).toNat)
  case atStart => exact ⟨0, [], none, 0, ab, n, c, bs, by omega, by simp, rfl, rfl, rfl, H0⟩
  case round =>
    clear H0
    obtain ⟨k, acc, a, cap, ab, nb, cb, bs, hk, hal, rfl, rfl, rfl, HE⟩ := hrel
    by_cases hlt : k < m
    · have i1 : (k : Int) < (m : Int) := by omega
      rw [show m - k = (m - (k + 1)) + 1 by omega] at HE
      go_wp2_with fail
      refine (readPair23 ab nb cb bs wr ((unhide HE).byt.kp0 (unhide HE).kp) (unhide HE).len (unhide HE).cap (unhide HE).small).mono ?_
      rintro e w1 ⟨rfl, hk1⟩
      have HK1 := hide hk1
      clear hk1
      cases hr : (rd1 bs).2.2 with
      | false =>
        have HR := hide ((unhide HE).fail hr)
        clear hr
        have HK2 := hide ((((unhide HE).kp.trans0 (unhide HK1)).alloc (.cells #[.int .i64 (rd1 bs).1.a, .bool (rd1 bs).1.t, .string (rd1 bs).1.s] 106)))
        generalize (rd1 bs).1 = v at *
        generalize (rd1 bs).2.1 = sz at *
        go_wp2_with fail
        go_ret2
        exact rpsEnd_none (unhide HR) (unhide HK2)
      | true =>
        have hle := rd1_le hr
        obtain ⟨ab', hsl, hb'⟩ := part_l (unhide HE).byt (rd1 bs).2.1 cb nb (unhide HE).len hle (by have := (unhide HE).len; have := (unhide HE).cap; omega) (rd1 bs).2.1 rfl
        obtain ⟨v, hv⟩ : ∃ v, (rd1 bs).1 = v := ⟨_, rfl⟩
        obtain ⟨sz, hz⟩ : ∃ sz, (rd1 bs).2.1 = sz := ⟨_, rfl⟩
        rw [hv, hz]
        rw [hz] at hsl hb'
        have HR := hide hr
        have HV := hide hv
        have HZ := hide hz
        have HB := hide hb'
        clear hr hv hz hb' hle
        have hwl := ((unhide HE).kp.trans0 (unhide HK1)).size
        have hOW := hide (own_kp0 (unhide HE).own (((unhide HK1).alloc (.cells #[.int .i64 v.a, .bool v.t, .string v.s] 106)).alloc (.cells #[.int .i64 v.a, .bool v.t, .string v.s] 106)))
        go_wp2_with (at_builtin; refine wpList_append_lies _ rfl _ _ 100 rfl w.heap.size 106 i0 _ 3 32 Tryz.underlying100 hi0 hz0 hz1 hz2 rfl (by omega) (.slice a acc.length cap) acc.length (vcells acc) rfl (unhide hOW) ⟨w1.heap.size + 1, 0, none⟩ 1 1 [.int .i64 v.a, .bool v.t, .string v.s] (by rfl) (by rfl) (World.news_of_block (cs := #[.int .i64 v.a, .bool v.t, .string v.s]) (t := 106) (fr := (0, 0)) (by have := heap_alloc_new (w1.alloc (.cells #[.int .i64 v.a, .bool v.t, .string v.s] 106)) (.cells #[.int .i64 v.a, .bool v.t, .string v.s] 106); simpa using this)) (by simp [Value.oneCell']) (by omega) (by unfold maxLen; omega) (by omega) (by simp; omega) _ rfl ?_; intro g2 cap2 w2 hown hgrow hat hlt2; have HE2 := hide ((unhide HE).next (unhide HR) (unhide HV) (unhide HZ) (((unhide HK1).alloc _).alloc _) hown hgrow (unhide HB)); clear hown hgrow hat)
        exact ⟨⟨k + 1, _, _, _, _, _, _, _, by omega, by simp; omega, rfl, by simp, by go_num, HE2⟩, by simp [intOf]; omega⟩
    · have e : k = m := by omega
      subst e
      rw [Nat.sub_self] at HE
      go_wp2_with fail
      go_ret2
      exact (unhide HE).last _ (beq0 nb)
end
/- Decode, by its contract. -/
section
open Go.RowKit
attribute [local go_sem ↓] Go.wp_at_zero Go.wp_at_succ

/-- What Decode leaves: the pairs lie in memory of their own. -/
def DecEnd (D : List Ver × Nat × Int) (w : World) (e : Ending) (w' : World) : Prop :=
  ∃ a n cap, e = .returned (.tuple #[.slice a n cap, .int .i64 (D.2.1 : Nat), .int .i64 D.2.2]) ∧ n = D.1.length ∧ w'.ownsRow w.heap.size 106 3 (.slice a n cap) n (vcells D.1) ∧ Kp [] w w'
theorem decEnd_code {D : List Ver × Nat × Int} {w w' : World} (c : Int) (h : D = ([], 0, c)) (hk : Kp [] w w') : DecEnd D w (.returned (.tuple #[.slice none 0 0, .int .i64 0, .int .i64 c])) w' := by
  subst h
  exact ⟨none, 0, 0, rfl, rfl, World.ownsRow_nil _ _ _ _, hk⟩
theorem decEnd_mk {D : List Ver × Nat × Int} {w w' : World} (ws : List Ver) (z : Nat) (h : D = (ws, z, 0)) (a : Option Addr) (n cap : Nat) (hn : n = ws.length) (ho : w'.ownsRow w.heap.size 106 3 (.slice a n cap) n (vcells ws)) (hk : Kp [] w w') :
    DecEnd D w (.returned (.tuple #[.slice a n cap, .int .i64 z, .int .i64 0])) w' := by
  subst h
  exact ⟨a, n, cap, rfl, hn, ho, hk⟩

theorem dec_short0 {bs : List UInt8} (h : bs.length = 0) : dec bs = ([], 0, 6) := by unfold dec; rw [if_pos (.inl h)]
theorem dec_short {bs : List UInt8} (h : bs.length < ub bs 0) : dec bs = ([], 0, 6) := by unfold dec; rw [if_pos (.inr h)]
theorem dec_form {bs : List UInt8} (h0 : bs.length ≠ 0) (h : ¬ bs.length < ub bs 0) (h2 : ub bs 0 < 2) : dec bs = ([], 0, 4) := by
  unfold dec
  rw [if_neg (fun q => q.elim h0 h)]
  exact if_pos h2
theorem dec_pairs {bs : List UInt8} (h0 : bs.length ≠ 0) (h : ¬ bs.length < ub bs 0) (h2 : ¬ ub bs 0 < 2) : dec bs = match rp (ub bs 1) ((bs.take (ub bs 0)).drop 2) with
    | none => ([], 0, 4)
    | some ws => if pf (-1) ws = 0 then (ws, ub bs 0, 0) else ([], 0, pf (-1) ws) := by
  unfold dec
  rw [if_neg (fun q => q.elim h0 h)]
  exact if_neg h2

/-- Pairs that readPairs made may be checked. -/
theorem own_prs {B n : Nat} {w : World} {a : Option Addr} {cap : Nat} {ws : List Ver} (h : w.ownsRow B 106 3 (.slice a n cap) n (vcells ws)) (hn : n = ws.length) (hl : ws.length ≤ 1000) (hs : ∀ p ∈ ws, p.s.size ≤ 255) : Prs w a ws := by
  refine ⟨by unfold maxLen; omega, fun k hk => ?_, slo_own h hn⟩
  have : (vb ws k).size ≤ 255 := by
    simp only [vb, List.getD_eq_getElem?_getD, List.getElem?_eq_getElem hk, Option.getD_some]
    exact hs _ (List.getElem_mem hk)
  unfold maxLen; omega

set_option maxHeartbeats 2000000 in
theorem decode12 (a : Option Addr) (n c : Nat) (bs : List UInt8) (w : World) (h : Byt w a bs) (hn : n = bs.length) (hc : n ≤ c) (hm : bs.length ≤ 10000) :
    Calls Tryz.prog 161 #[.slice a n c] w fun e w' => DecEnd (dec bs) w e w' := by
  by_cases h0 : bs.length = 0
  · have hd := dec_short0 h0
    generalize dec bs = D at *
    have HD := hide hd
    have hn0 : n = 0 := by omega
    subst hn0
    clear h hd hn h0
    go_enter Tryz.func161, Tryz.ntmps161
    go_wp2_with fail
    go_ret3
    exact decEnd_code 6 (unhide HD) (Kp.refl _ _)
  · obtain ⟨g, o, rfl, hs⟩ := h (by omega)
    have q0 := hs 0 (by omega)
    have u0 := ub_lt bs 0
    have HB := hide h
    have i0 : (0 : Int) < (n : Int) := by omega
    have j0 : 0 < n := by omega
    have j0' : ¬ n = 0 := by omega
    have j0'' : ¬ (n : Int) = 0 := by omega
    simp only [Nat.add_zero] at q0
    by_cases h1 : bs.length < ub bs 0
    · have hd := dec_short h1
      have k0 : (n : Int) < (ub bs 0 : Nat) := by omega
      generalize dec bs = D at *
      have HD := hide hd
      clear h hd hn h0 h1 hs
      generalize ub bs 0 = x at *
      go_enter Tryz.func161, Tryz.ntmps161
      go_wp2_with fail
      go_ret3
      exact decEnd_code 6 (unhide HD) (Kp.refl _ _)
    · have k0 : ¬ (n : Int) < (ub bs 0 : Nat) := by omega
      by_cases h2 : ub bs 0 < 2
      · have hd := dec_form h0 h1 h2
        generalize dec bs = D at *
        have HD := hide hd
        clear h hd hn h0 h1 hs
        generalize ub bs 0 = x at *
        go_enter Tryz.func161, Tryz.ntmps161
        go_wp2_with fail
        go_ret3
        exact decEnd_code 4 (unhide HD) (Kp.refl _ _)
      · have hd := dec_pairs h0 h1 h2
        have q1 := hs 1 (by omega)
        have u1 := ub_lt bs 1
        have hwr : IntKind.i64.wrap ((ub bs 1 : Nat) : Int) = ((ub bs 1 : Nat) : Int) := wrap_i64_id _ (by omega) (by omega)
        have i1 : (1 : Int) < (n : Int) := by omega
        have j1 : 1 < n := by omega
        have k2 : ub bs 0 ≤ c := by omega
        obtain ⟨a2, hsl, hb2⟩ := part_lh (unhide HB) 2 (ub bs 0) c n (by omega) (by omega) (by omega) 2 (ub bs 0 : Nat) rfl rfl
        have hl2 : ub bs 0 - 2 = ((bs.take (ub bs 0)).drop 2).length := by simp; omega
        have hrp := fun W (hk : Kp [] w W) => readPairs20 a2 (ub bs 0 - 2) (c - 2) ((bs.take (ub bs 0)).drop 2) (ub bs 1) W (hb2.kp0 hk) hl2 (by omega) (by omega) (by omega)
        generalize dec bs = D at *
        generalize hR : rp (ub bs 1) ((bs.take (ub bs 0)).drop 2) = R at *
        have HR := hide hR
        have HD := hide hd
        have HRP := hide hrp
        clear h hd hn h0 h1 hs hb2 hl2 hrp hR
        generalize ub bs 0 = x at *
        generalize ub bs 1 = y at *
        go_enter Tryz.func161, Tryz.ntmps161
        go_wp2_with fail
        go_region_with (go_at_call 182; refine (unhide HRP w.drew (Kp.refl [] w).drew).mono ?_; rintro e w1 ⟨ar, nr, cr, q, rfl, hq1, hq2, hk1⟩; have HQ1 := hide hq1; have HQ2 := hide hq2; have HK1 := hide ((Kp.refl [] w).drew.trans0 hk1); clear hq1 hq2 hk1)
        cases q with
        | false =>
          have hd := unhide HD
          rw [unhide HQ2 rfl] at hd
          have HD2 := hide hd
          clear hd
          go_wp2_with fail
          go_ret3
          exact decEnd_code 4 (unhide HD2) (unhide HK1)
        | true =>
          obtain ⟨ws, hR, hnr, hown⟩ := unhide HQ1 rfl
          have hd := unhide HD
          rw [hR] at hd
          simp only at hd
          obtain ⟨hw1, _, hw3⟩ := rp_back ((unhide HR).trans hR)
          subst hnr
          have hwl : ws.length ≤ 1000 := by omega
          have HO := hide (own_base hown (Nat.le_refl w.heap.size))
          have hpr := own_prs hown rfl hwl hw3
          have hch := tcheck36 ar cr ws w1 hpr hwl
          have HCH := hide hch
          have HD2 := hide hd
          clear hd hR hown hw1 hw3 hpr hch HQ1 HQ2 HR HD HRP
          by_cases hp : pf (-1) ws = 0
          · have hd := unhide HD2
            rw [if_pos hp] at hd
            have HD3 := hide hd
            have HP := hide hp
            clear hd hp HD2
            go_wp2_with fail
            refine (unhide HCH).mono ?_
            rintro e w2 ⟨rfl, hk2⟩
            have HK2 := hide hk2
            clear hk2
            rw [unhide HP]
            go_wp2_with fail
            go_ret3
            exact decEnd_mk ws x (unhide HD3) ar _ cr rfl (own_kp0 (unhide HO) (unhide HK2)) ((unhide HK1).trans0 (unhide HK2))
          · have hd := unhide HD2
            rw [if_neg hp] at hd
            have HD3 := hide hd
            clear hd HD2
            go_wp2_with fail
            refine (unhide HCH).mono ?_
            rintro e w2 ⟨rfl, hk2⟩
            have HK2 := hide ((unhide HK1).trans0 hk2)
            clear hk2 HCH
            generalize pf (-1) ws = z at *
            go_wp2_with fail
            go_ret3
            exact decEnd_code z (unhide HD3) (unhide HK2)
end
/- The table of bytes, by its contract. -/
section
open Go.RowKit
attribute [local go_sem ↓] Go.wp_at_zero Go.wp_at_succ

/-- At the head of a round: the commits xs are read. -/
structure TaI (w : World) (bs : List UInt8) (D : List (List Ver)) (tb : Nat) (xs : List (List Ver)) (wr : World) : Prop where
  tbl : ∃ F, Tbl w.heap.size wr tb F (wal0 xs) xs.length
  kp : Kp [] w wr
  n40 : xs.length ≤ 40
  goes : xs ++ dcs (40 - xs.length) (bs.drop (lb xs).length) = D
  ple : (lb xs).length ≤ bs.length

theorem TaI.stop {w : World} {bs : List UInt8} {D xs : List (List Ver)} {tb : Nat} {wr : World} (h : TaI w bs D tb xs wr) (hc : (dec (bs.drop (lb xs).length)).2.2 ≠ 0) : xs = D := by
  have hg := h.goes
  rcases Nat.eq_zero_or_pos (40 - xs.length) with e | e
  · rw [e] at hg; simpa [dcs] using hg
  · obtain ⟨m, hm⟩ := Nat.exists_eq_succ_of_ne_zero (Nat.pos_iff_ne_zero.1 e)
    rw [hm] at hg
    simp only [dcs] at hg
    rw [if_neg hc] at hg
    simpa using hg
theorem TaI.full {w : World} {bs : List UInt8} {D xs : List (List Ver)} {tb : Nat} {wr : World} (h : TaI w bs D tb xs wr) (hc : 40 ≤ xs.length) : xs = D := by
  have hg := h.goes
  rw [show 40 - xs.length = 0 by omega] at hg
  simpa [dcs] using hg
theorem TaI.next {w : World} {bs : List UInt8} {D xs : List (List Ver)} {tb : Nat} {wr w' : World} (h : TaI w bs D tb xs wr) (hc : (dec (bs.drop (lb xs).length)).2.2 = 0) (hn : xs.length < 40)
    (ht : ∃ F, Tbl w.heap.size w' tb F (wst (wal0 xs) xs.length (dec (bs.drop (lb xs).length)).1) (wn xs.length (dec (bs.drop (lb xs).length)).1)) (hk : Kp [] w w') :
    TaI w bs D tb (xs ++ [(dec (bs.drop (lb xs).length)).1]) w' ∧ (lb (xs ++ [(dec (bs.drop (lb xs).length)).1])).length = (lb xs).length + (dec (bs.drop (lb xs).length)).2.1 ∧ 2 ≤ (dec (bs.drop (lb xs).length)).2.1 := by
  obtain ⟨h1, h2, h3, h4⟩ := dec_ok hc
  have hl : (lb (xs ++ [(dec (bs.drop (lb xs).length)).1])).length = (lb xs).length + (dec (bs.drop (lb xs).length)).2.1 := by rw [lb_snoc, List.length_append, ← h4]
  refine ⟨⟨?_, hk, by simp; omega, ?_, ?_⟩, hl, by rw [h4]; exact (enc_le h1).1⟩
  · rw [(wcode_ok h1 hn).2, ← wal0_snoc] at ht
    simpa using ht
  · have hg := h.goes
    rw [show 40 - xs.length = (40 - (xs.length + 1)) + 1 by omega] at hg
    simp only [dcs] at hg
    rw [if_pos hc, List.drop_drop] at hg
    rw [hl, List.length_append, List.append_assoc]
    exact hg
  · rw [hl]
    have := h.ple
    simp only [List.length_drop] at h2
    omega

def TaEnd (D : List (List Ver)) (w : World) (e : Ending) (w' : World) : Prop := ∃ tb F p, e = .returned (.tuple #[.pointer (some ⟨tb, 0, none⟩), .int .i64 (p : Nat)]) ∧ p = (lb D).length ∧ Tbl w.heap.size w' tb F (wal0 D) D.length ∧ Kp [] w w'
theorem TaEnd_mk {D xs : List (List Ver)} {w : World} {tb : Nat} {bs : List UInt8} {wr w' : World} (h : TaI w bs D tb xs wr) (hx : xs = D) (hk : Kp [] wr w') {p : Nat} (hp : p = (lb xs).length) : TaEnd D w (.returned (.tuple #[.pointer (some ⟨tb, 0, none⟩), .int .i64 p])) w' := by
  subst hx
  obtain ⟨F, ht⟩ := h.tbl
  exact ⟨tb, F, p, rfl, hp, ht.kp0 hk, h.kp.trans0 hk⟩

/-- Write of pairs that lie in memory of their own. -/
theorem ta_write {w : World} {bs : List UInt8} {D xs : List (List Ver)} {tb : Nat} {wr W : World} (h : TaI w bs D tb xs wr) (hW : Kp [] wr W) (a : Option Addr) (n c : Nat) (ps : List Ver) (hn : n = ps.length) (ho : W.ownsRow wr.heap.size 106 3 (.slice a n c) n (vcells ps)) (hl : ps.length ≤ 1000) (hs : ∀ p ∈ ps, p.s.size ≤ 255) :
    Calls Tryz.prog 162 #[.pointer (some ⟨tb, 0, none⟩), .slice a n c] W fun e w' => e = .returned (.tuple #[.int .i64 (wnum xs.length ps), .int .i64 (wcode xs.length ps)]) ∧
      (∃ F, Tbl w.heap.size w' tb F (wst (wal0 xs) xs.length ps) (wn xs.length ps)) ∧ Kp [] w w' := by
  obtain ⟨F, ht⟩ := h.tbl
  have hpr := own_prs ho hn hl hs
  subst hn
  refine (twrite45 a c ps W (ht.kp0 hW) hpr (fun _ g o e hg => ?_) hl).mono ?_
  · have h1 := own_ge (g := g) ho (by subst e; rfl)
    have h2 := (ht.lo g hg).2
    omega
  · rintro e w' ⟨rfl, F', k1, k2, k3⟩
    exact ⟨rfl, ⟨F', k1⟩, (h.kp.trans0 hW).trans k2 (fun x hx => .inr (ht.lo x hx).1)⟩

set_option maxHeartbeats 2000000 in
theorem ltable25 (a : Option Addr) (n c : Nat) (bs : List UInt8) (w : World) (h : Byt w a bs) (hn : n = bs.length) (hc : n ≤ c) (hm : bs.length ≤ 10000) :
    Calls Tryz.prog 127 #[.slice a n c] w fun e w' => TaEnd (dcs 40 bs) w e w' := by
  have HB := hide h
  have HN := hide hn
  have hn' : n ≤ 10000 := by omega
  have HG : Hid (dcs 40 bs = dcs 40 bs) := rfl
  generalize hD : dcs 40 bs = D at *
  have HD := hide hD
  clear h hD HG hn
  go_enter Tryz.func127, Tryz.ntmps127
  go_wp2_with fail
  refine (tnew47 w).mono ?_
  rintro e w1 ⟨rfl, ht, hk⟩
  have H0 : Hid (TaI w bs D w.heap.size [] w1) := ⟨ht, hk, by simp, by simpa [lb] using unhide HD, by simp [lb]⟩
  clear ht hk HD
  generalize w.heap.size = tb at *
  go_wp2_with fail
  go_loopw [5] (fun i wr => ∃ (p : Nat) (xs : List (List Ver)), i = .int .i64 p ∧ p ≤ n ∧ Hid (p = (lb xs).length) ∧ Hid (TaI w bs D tb xs wr)) (fun i _ => n - (intOf i).toNat)
  case atStart => exact ⟨0, [], rfl, by omega, rfl, H0⟩
  case round =>
    clear H0
    obtain ⟨p, xs, rfl, hp, HP, HI⟩ := hrel
    obtain ⟨a2, hsl, hb2⟩ := part_l ((unhide HB).kp0 (unhide HI).kp) p c n (unhide HN) (by have := unhide HN; omega) (by have := unhide HN; omega) p rfl
    have hd := decode12 a2 (n - p) (c - p) (bs.drop p) wr hb2 (by rw [List.length_drop]; have := unhide HN; omega) (by omega) (by simp; omega)
    have HDD := hide hd
    have ip : (p : Int) ≤ (n : Int) := by omega
    clear hb2 hd
    by_cases hcode : (dec (bs.drop p)).2.2 = 0
    · have hok := dec_ok hcode
      have hl8 := @dec_len (bs.drop p)
      have hst := @dec_str (bs.drop p)
      have hle2 : (dec (bs.drop p)).2.1 ≤ n - p := by have := hok.2.1; rw [List.length_drop] at this; have := unhide HN; omega
      by_cases h40 : 40 ≤ xs.length
      · have hw9 := wcode_full hok.1 h40
        have HX := hide ((unhide HI).full h40)
        have HW := hide (fun W hW a n c hn ho => ta_write (unhide HI) (W := W) hW a n c _ hn ho (by omega) hst)
        rw [hw9] at HW
        have hD2 : ∃ z, (dec (bs.drop p)).2.1 = z := ⟨_, rfl⟩
        obtain ⟨z, hz⟩ := hD2
        clear hok hl8 hst hw9
        go_wp2_with fail
        refine (unhide HDD).mono ?_
        rintro e w2 ⟨a3, n3, c3, rfl, hn3, ho3, hk3⟩
        rw [hcode, hz]
        have HWW := hide (unhide HW w2 hk3 a3 n3 c3 hn3 ho3)
        clear hn3 ho3 hk3 HW HDD hsl
        generalize wnum xs.length (dec (bs.drop p)).1 = y at *
        go_wp2_with fail
        refine (unhide HWW).mono ?_
        rintro e w3 ⟨rfl, ⟨F3, ht3⟩, hk3⟩
        have HE : Hid (TaEnd D w (.returned (.tuple #[.pointer (some ⟨tb, 0, none⟩), .int .i64 p])) w3) := by
          have hx := unhide HX
          have e9 : wst (wal0 xs) xs.length (dec (bs.drop p)).1 = wal0 xs ∧ wn xs.length (dec (bs.drop p)).1 = xs.length := by
            have := wcode_full (dec_ok hcode).1 h40
            unfold wst wn
            rw [this]
            simp
          rw [e9.1, e9.2, hx] at ht3
          exact ⟨tb, F3, p, rfl, by rw [← hx]; exact unhide HP, ht3, hk3⟩
        clear ht3 hk3 HWW
        go_wp2_with fail
        go_ret2
        exact unhide HE
      · have hw0 := (wcode_ok hok.1 (by omega : xs.length < 40)).1
        have HW := hide (fun W hW a n c hn ho => ta_write (unhide HI) (W := W) hW a n c _ hn ho (by omega) hst)
        rw [hw0] at HW
        have hD2 : ∃ z, (dec (bs.drop p)).2.1 = z := ⟨_, rfl⟩
        obtain ⟨z, hz⟩ := hD2
        rw [hz] at hle2
        clear hok hl8 hst hw0
        go_wp2_with fail
        refine (unhide HDD).mono ?_
        rintro e w2 ⟨a3, n3, c3, rfl, hn3, ho3, hk3⟩
        rw [hcode, hz]
        have HWW := hide (unhide HW w2 hk3 a3 n3 c3 hn3 ho3)
        clear hn3 ho3 hk3 HW HDD hsl
        generalize wnum xs.length (dec (bs.drop p)).1 = y at *
        go_wp2_with fail
        refine (unhide HWW).mono ?_
        rintro e w3 ⟨rfl, ht3, hk3⟩
        have hpx := unhide HP
        subst hpx
        obtain ⟨j1, j2, j3⟩ := (unhide HI).next hcode (by omega) ht3 hk3
        rw [hz] at j2 j3
        have J1 := hide j1
        have J2 := hide j2
        clear ht3 hk3 HWW j1 j2
        go_wp2_with fail
        exact ⟨⟨_, _, by go_num, by omega, (unhide J2).symm, J1⟩, by simp [intOf]; omega⟩
    · have HX := hide ((unhide HI).stop (by rw [← unhide HP]; exact hcode))
      generalize dec (bs.drop p) = Dd at *
      obtain ⟨d1, d2, d3⟩ := Dd
      simp only at hcode
      go_wp2_with fail
      refine (unhide HDD).mono ?_
      rintro e w2 ⟨a3, n3, c3, rfl, hn3, ho3, hk3⟩
      have HE := hide (TaEnd_mk (unhide HI) (unhide HX) hk3 (unhide HP))
      clear hn3 ho3 hk3 HDD hsl
      go_wp2_with fail
      go_ret2
      exact unhide HE
end
/- Put and List of a deed, by their contracts. -/
section
open Go.RowKit
attribute [local go_sem ↓] Go.wp_at_zero Go.wp_at_succ

theorem Tbl.kp1 {B : Nat} {w w' : World} {tb db : Nat} {F : List Nat} {f : Nat → List Ver} {n : Nat} (h : Tbl B w tb F f n) (hk : Kp [db] w w') (hF : db ∉ F) : Tbl B w' tb F f n :=
  h.kp hk (fun x hx hm => hF (by have e : x = db := by simpa using hm
                                 rw [← e]; exact hx))

theorem dpw_not {md : Int} {ws : List Ver} {k : Int} {t : Bool} {s : ByteArray} (h : ¬ dpc md k t s = 0) : dpw md ws k t s = ws := by unfold dpw; rw [if_neg h]
theorem dpw_yes {md : Int} {ws : List Ver} {k : Int} {t : Bool} {s : ByteArray} (h : dpc md k t s = 0) : dpw md ws k t s = ws ++ [⟨k, t, s⟩] := by unfold dpw; rw [if_pos h]

set_option maxHeartbeats 1000000 in
theorem dput57 {db : Nat} {md y : Int} {rs : List Int} {ws : List Ver} (k : Int) (t : Bool) (s : ByteArray) (w : World) (h : Ded w db md y rs ws) (hs : s.size ≤ maxLen) :
    Calls Tryz.prog 134 #[.pointer (some ⟨db, 0, none⟩), .int .i64 k, .agg #[.bool t, .string s]] w fun e w' => e = .returned (.int .i64 (dpc md k t s)) ∧ Ded w' db md y rs (dpw md ws k t s) ∧ Kp [db] w w' := by
  have HD := hide h
  have hlt := h.lt
  have qm := h.mcell
  clear h
  by_cases hk : keyB k = true
  · by_cases hm : md = 3
    · have hc : dpc md k t s = 3 := by unfold dpc; rw [if_pos hk, if_pos hm]
      rw [dpw_not (by rw [hc]; decide), hc]
      clear hc
      subst hm
      go_enter Tryz.func134, Tryz.ntmps134
      go_wp2_with fail
      refine (key11 _ _).mono ?_
      rintro e w' ⟨rfl, rfl⟩
      rw [hk]
      clear hk
      go_wp2_with fail
      go_ret
      exact ⟨rfl, (unhide HD).kp0 ((Kp.refl [] w).alloc _), ((Kp.refl [] w).alloc _).mono (by simp)⟩
    · have hc : dpc md k t s = chk t s := by unfold dpc; rw [if_pos hk, if_neg hm]
      have em : (md == 3) = false := beq_eq_false_iff_ne.2 hm
      by_cases h0 : chk t s = 0
      · obtain ⟨j, hj, rfl⟩ := keyB_nat hk
        rw [dpw_yes (by rw [hc]; exact h0), hc, h0]
        have H0 := hide h0
        have i0 : (0 : Int) ≤ (j : Int) := by omega
        have i1 : (j : Int) < 8 := by omega
        clear hc h0 hm
        go_enter Tryz.func134, Tryz.ntmps134
        go_wp2_with fail
        refine (key11 _ _).mono ?_
        rintro e w' ⟨rfl, rfl⟩
        rw [hk]
        clear hk
        go_wp2_with fail
        refine (check13 t s _ hs).mono ?_
        rintro e w1 ⟨rfl, hkp⟩
        rw [unhide H0]
        have b0 : w1.cell? ⟨w.heap.size, 0, none⟩ = some (.bool t) := hkp.cell (by simp) (by simp)
        have b1 : w1.cell? ⟨w.heap.size, 1, none⟩ = some (.string s) := hkp.cell (by simp) (by simp)
        have hkp1 := ((Kp.refl [] w).alloc (.cells #[.bool t, .string s] 99)).trans0 hkp
        have hd1 := (unhide HD).kp0 hkp1
        have c1 := hd1.ncell1 hj
        have c2 := hd1.ncell2 hj
        have c3 := hd1.ncell3 hj
        have f1 := hd1.frozen (2 + j * 4 + 1)
        have f2 := hd1.frozen (2 + j * 4 + 2)
        have f3 := hd1.frozen (2 + j * 4 + 2 + 1)
        have hne : db ≠ w.heap.size := by omega
        have HD1 := hide hd1
        have HK1 := hide hkp1
        clear hd1 hkp hkp1 qm em
        go_wp2_with fail
        go_region
        all_goals
          go_wp2_with fail
          go_ret
          refine ⟨rfl, ((unhide HD1).kp0 (Kp.refl [] w1).drew).write hj t s, ?_⟩
          exact ((((unhide HK1).mono (T := [db]) (by simp)).drew.setCell (.inl (by simp)) _).setCell (.inl (by simp)) _).setCell (.inl (by simp)) _
      · rw [dpw_not (by rw [hc]; exact h0), hc]
        clear hc hm
        go_enter Tryz.func134, Tryz.ntmps134
        go_wp2_with fail
        refine (key11 _ _).mono ?_
        rintro e w' ⟨rfl, rfl⟩
        rw [hk]
        clear hk
        go_wp2_with fail
        refine (check13 t s _ hs).mono ?_
        rintro e w1 ⟨rfl, hkp⟩
        have hkp1 := ((Kp.refl [] w).alloc (.cells #[.bool t, .string s] 99)).trans0 hkp
        have HK1 := hide hkp1
        clear hkp hkp1 qm em
        generalize hcc : chk t s = c at *
        have HCC := hide hcc
        clear hcc
        go_wp2_with fail
        go_ret
        exact ⟨ret_int (unhide HCC).symm, (unhide HD).kp0 (unhide HK1), (unhide HK1).mono (by simp)⟩
  · have hk2 : keyB k = false := by simpa using hk
    have hc : dpc md k t s = 1 := by unfold dpc; rw [if_neg hk]
    rw [dpw_not (by rw [hc]; decide), hc]
    clear hc hk
    go_enter Tryz.func134, Tryz.ntmps134
    go_wp2_with fail
    refine (key11 _ _).mono ?_
    rintro e w' ⟨rfl, rfl⟩
    rw [hk2]
    clear hk2
    go_wp2_with fail
    go_ret
    exact ⟨rfl, (unhide HD).kp0 ((Kp.refl [] w).alloc _), ((Kp.refl [] w).alloc _).mono (by simp)⟩

/-- What List tells, and what it leaves. -/
def DlEnd (L : List Ver × Int × List Int) (w : World) (db : Nat) (md y : Int) (ws : List Ver) (e : Ending) (w' : World) : Prop :=
  ∃ a cap, e = .returned (.tuple #[.slice a L.1.length cap, .int .i64 L.2.1]) ∧ w'.ownsRow w.heap.size 106 3 (.slice a L.1.length cap) L.1.length (vcells L.1) ∧ Ded w' db md y L.2.2 ws ∧ Kp [db] w w'
theorem dlEnd_mk {L : List Ver × Int × List Int} {w w' : World} {db : Nat} {md y : Int} {ws : List Ver} (acc : List Ver) (code : Int) (rs : List Int) (a : Option Addr) (cap : Nat) (h : L = (acc, code, rs)) (ho : w'.ownsRow w.heap.size 106 3 (.slice a acc.length cap) acc.length (vcells acc))
    (hd : Ded w' db md y rs ws) (hk : Kp [db] w w') : DlEnd L w db md y ws (.returned (.tuple #[.slice a acc.length cap, .int .i64 code])) w' := by
  subst h; exact ⟨a, cap, rfl, ho, hd, hk⟩

/-- What stands at the head of a round of List. -/
structure DlI (R : List Ver × Int × List Int) (w : World) (db : Nat) (md y : Int) (f : Nat → List Ver) (n : Nat) (ws : List Ver) (t k : Nat) (acc : List Ver) (rs : List Int) (a : Option Addr) (cap : Nat) (wr : World) : Prop where
  goes : dgo f n y ws k (t + 1 - k) acc rs = R
  own : wr.ownsRow w.heap.size 106 3 (.slice a acc.length cap) acc.length (vcells acc)
  ded : Ded wr db md y rs ws
  kp : Kp [db] w wr
  len : acc.length ≤ k
  lt : db < w.heap.size

section
variable {R : List Ver × Int × List Int} {w wr w1 W w2 : World} {db : Nat} {md y : Int} {f : Nat → List Ver} {n : Nat} {ws : List Ver} {t k : Nat} {acc : List Ver} {rs : List Int} {a : Option Addr} {cap : Nat}
theorem DlI.own1 (h : DlI R w db md y f n ws t k acc rs a cap wr) (hk : Kp [db] wr w1) : w1.ownsRow w.heap.size 106 3 (.slice a acc.length cap) acc.length (vcells acc) :=
  own_kp h.own hk (fun g hg => by have := own_ge h.own hg; have := h.lt; simp; omega)
theorem DlI.skip (h : DlI R w db md y f n ws t k acc rs a cap wr) (hk : k ≤ t) (hw : Kp [db] wr w1) (hd : Ded w1 db md y (dr f n y rs ws k) ws)
    (h0 : (dg f n y ws k).a = 0) (ht : ¬ (dg f n y ws k).t = true) : DlI R w db md y f n ws t (k + 1) acc (dr f n y rs ws k) a cap w1 :=
  ⟨by have := h.goes; rw [show t + 1 - k = (t + 1 - (k + 1)) + 1 by omega] at this; exact dgo_skip this h0 ht, h.own1 hw, hd, h.kp.trans hw (by simp), by have := h.len; omega, h.lt⟩
theorem DlI.more (h : DlI R w db md y f n ws t k acc rs a cap wr) (hk : k ≤ t) (hw : Kp [db] wr W) (hd : Ded W db md y (dr f n y rs ws k) ws)
    (h0 : (dg f n y ws k).a = 0) (ht : (dg f n y ws k).t = true) {g2 cap2 : Nat} (hown : w2.ownsRow w.heap.size 106 3 (.slice (some ⟨g2, 0, none⟩) (acc.length + 1) cap2) (acc.length + 1) (vcells acc ++ [.int .i64 k, .bool true, .string (dg f n y ws k).s]))
    (hgrow : W.grownBy w2 (Value.slice a acc.length cap).ownBlock) : DlI R w db md y f n ws t (k + 1) (acc ++ [⟨k, (dg f n y ws k).t, (dg f n y ws k).s⟩]) (dr f n y rs ws k) (some ⟨g2, 0, none⟩) cap2 w2 := by
  have hkp : Kp [db] w w2 := (h.kp.trans hw (by simp)).grown hgrow (fun g hg => .inr (own_ge h.own hg))
  refine ⟨by have := h.goes; rw [show t + 1 - k = (t + 1 - (k + 1)) + 1 by omega] at this; exact dgo_more this h0 ht, ?_, ?_, hkp, by have := h.len; simp; omega, h.lt⟩
  · have hv : vcells acc ++ [.int .i64 k, .bool true, .string (dg f n y ws k).s] = vcells (acc ++ [⟨k, (dg f n y ws k).t, (dg f n y ws k).s⟩]) := by rw [vcells_append, ht]; rfl
    rw [hv] at hown
    simpa using hown
  · unfold Ded at hd ⊢
    rw [hgrow.block db (lt_of_block hd) (fun e => by have := own_ge h.own e.symm; have := h.lt; omega)]
    exact hd
end

theorem dls_in {f : Nat → List Ver} {n : Nat} {y : Int} {ws : List Ver} {rs : List Int} {p t : Nat} (hf : keyB p = true) (ht : keyB t = true) : dls f n y ws rs p t = dgo f n y ws p (t + 1 - p) [] rs := by
  unfold dls
  rw [if_pos ⟨hf, ht⟩, Int.toNat_natCast]
  congr 1
  omega
theorem dls_out {f : Nat → List Ver} {n : Nat} {y : Int} {ws : List Ver} {rs : List Int} {p t : Int} (h : ¬ (keyB p = true ∧ keyB t = true)) : dls f n y ws rs p t = ([], 1, rs) := by
  unfold dls
  rw [if_neg h]

set_option maxHeartbeats 2000000 in
theorem dlist59 {B tb n db : Nat} {F : List Nat} {f : Nat → List Ver} {md y : Int} {rs : List Int} {ws : List Ver} (fr to_ : Int) (w : World) (h : Tbl B w tb F f n) (hd : Ded w db md y rs ws) (hF : db ∉ F) :
    Calls Tryz.prog 135 #[.pointer (some ⟨db, 0, none⟩), .pointer (some ⟨tb, 0, none⟩), .int .i64 fr, .int .i64 to_] w fun e w' => DlEnd (dls f n y ws rs fr to_) w db md y ws e w' := by
  obtain ⟨in0, hi0, hz0, hz1, hz2⟩ := info_parts Tryz.info106
  have HT := hide h
  have HD := hide hd
  have HF := hide hF
  clear h hd hF
  by_cases hf : keyB fr = true
  · by_cases ht : keyB to_ = true
    · obtain ⟨p, hp, rfl⟩ := keyB_nat hf
      obtain ⟨t, ht8, rfl⟩ := keyB_nat ht
      have H0 : Hid (DlI (dls f n y ws rs p t) w db md y f n ws t p [] rs none 0 w) := ⟨(dls_in hf ht).symm, World.ownsRow_nil _ _ _ _, unhide HD, Kp.refl _ _, by simp, (unhide HD).lt⟩
      generalize dls f n y ws rs p t = R at *
      go_enter Tryz.func135, Tryz.ntmps135
      go_wp2_with fail
      refine (key11 _ _).mono ?_
      rintro e w' ⟨rfl, hw'⟩
      subst w'
      rw [hf]
      go_wp2_with fail
      refine (key11 _ _).mono ?_
      rintro e w' ⟨rfl, hw'⟩
      subst w'
      rw [ht]
      clear hf ht
      go_wp2_with fail
      go_loopw [10, 11] (fun s i wr => ∃ (k : Nat) (acc : List Ver) (rk : List Int) (a : Option Addr) (cap : Nat), k ≤ 8 ∧ s = .slice a acc.length cap ∧ i = .int .i64 k ∧ Hid (DlI R w db md y f n ws t k acc rk a cap wr)) (fun _ i _ => 8 - (intOf i).toNat)
      case atStart => exact ⟨p, [], rs, none, 0, by omega, rfl, rfl, H0⟩
      case round =>
        obtain ⟨k, acc, rk, a, cap, hk, rfl, rfl, HL⟩ := hrel
        by_cases hlt : k ≤ t
        · have j0 : (k : Int) ≤ (t : Int) := by omega
          go_wp2_with fail
          refine (dget55 k _ ((unhide HT).kp1 (unhide HL).kp (unhide HF)) (unhide HL).ded).mono ?_
          rintro e w1 ⟨rfl, hd1, hk1⟩
          have HK1 := hide hk1
          have HD1 := hide hd1
          clear hk1 hd1
          by_cases h0 : (dg f n y ws k).a = 0
          · have H00 := hide h0
            rw [h0]
            clear h0
            by_cases h1 : (dg f n y ws k).t = true
            · have H1 := hide h1
              rw [h1]
              have hOW := hide ((unhide HL).own1 (((unhide HK1).alloc (.cells #[.bool true, .string (dg f n y ws k).s] 99)).alloc (.cells #[.int .i64 k, .bool true, .string (dg f n y ws k).s] 106)))
              have hal := (unhide HL).len
              have hwl := ((unhide HL).kp.trans (unhide HK1) (by simp)).size
              go_wp2_with (at_builtin; refine wpList_append_lies _ rfl _ _ 100 rfl w.heap.size 106 in0 _ 3 32 Tryz.underlying100 hi0 hz0 hz1 hz2 rfl (by omega) (.slice a acc.length cap) acc.length (vcells acc) rfl (unhide hOW) ⟨w1.heap.size + 1, 0, none⟩ 1 1 [.int .i64 k, .bool true, .string (dg f n y ws k).s] (by rfl) (by rfl) (World.news_of_block (cs := #[.int .i64 k, .bool true, .string (dg f n y ws k).s]) (t := 106) (fr := (0, 0)) (by have := heap_alloc_new (w1.alloc (.cells #[.bool true, .string (dg f n y ws k).s] 99)) (.cells #[.int .i64 k, .bool true, .string (dg f n y ws k).s] 106); simpa using this)) (by simp [Value.oneCell']) (by omega) (by unfold maxLen; omega) (by omega) (by simp; omega) _ rfl ?_; intro g2 cap2 w2 hown hgrow hat hlt2)
              have HL2 := hide ((unhide HL).more hlt (((unhide HK1).alloc _).alloc _) ((unhide HD1).kp0 (((Kp.refl [] w1).alloc _).alloc _)) (unhide H00) (unhide H1) hown hgrow)
              clear hown hgrow hat
              go_wp2_with fail
              exact ⟨⟨k + 1, _, _, _, _, by omega, by simp, by go_num, HL2⟩, by simp [intOf]; omega⟩
            · have HL2 := hide ((unhide HL).skip hlt ((unhide HK1).alloc (.cells #[.bool (dg f n y ws k).t, .string (dg f n y ws k).s] 99)) ((unhide HD1).kp0 ((Kp.refl [] w1).alloc _)) (unhide H00) h1)
              have h1' : (dg f n y ws k).t = false := by simpa using h1
              rw [h1'] at HL2 ⊢
              clear h1 h1'
              go_wp2_with fail
              exact ⟨⟨k + 1, acc, _, a, cap, by omega, rfl, by go_num, HL2⟩, by simp [intOf]; omega⟩
          · have hg := (unhide HL).goes
            rw [show t + 1 - k = (t - k) + 1 by omega] at hg
            have hst := dgo_stop hg h0
            clear hg
            have HST := hide hst
            have HK2 := hide (((unhide HL).kp.trans (unhide HK1) (by simp)).alloc (.cells #[.bool (dg f n y ws k).t, .string (dg f n y ws k).s] 99))
            have HD2 := hide ((unhide HD1).kp0 ((Kp.refl [] w1).alloc (.cells #[.bool (dg f n y ws k).t, .string (dg f n y ws k).s] 99)))
            clear hst
            generalize (dg f n y ws k).a = q at *
            generalize (dg f n y ws k).t = qt at *
            generalize (dg f n y ws k).s = qs at *
            go_wp2_with fail
            go_ret2
            exact dlEnd_mk [] _ _ none 0 (unhide HST) (World.ownsRow_nil _ _ _ _) (unhide HD2) (unhide HK2)
        · have j0 : ¬ (k : Int) ≤ (t : Int) := by omega
          have hst := dgo_end (unhide HL).goes (by omega)
          have HST := hide hst
          clear hst
          go_wp2_with fail
          go_ret2
          exact dlEnd_mk acc 0 _ a cap (unhide HST) (unhide HL).own (unhide HL).ded (unhide HL).kp
    · have HE1 := hide (dls_out (f := f) (n := n) (y := y) (ws := ws) (rs := rs) (p := fr) (t := to_) (fun h => ht h.2))
      have ht2 : keyB to_ = false := by simpa using ht
      clear ht
      go_enter Tryz.func135, Tryz.ntmps135
      go_wp2_with fail
      refine (key11 _ _).mono ?_
      rintro e w' ⟨rfl, rfl⟩
      rw [hf]
      go_wp2_with fail
      refine (key11 _ _).mono ?_
      rintro e w' ⟨rfl, rfl⟩
      rw [ht2]
      go_wp2_with fail
      go_ret2
      exact dlEnd_mk [] 1 _ none 0 (unhide HE1) (World.ownsRow_nil _ _ _ _) (unhide HD) (Kp.refl _ _)
  · have HE1 := hide (dls_out (f := f) (n := n) (y := y) (ws := ws) (rs := rs) (p := fr) (t := to_) (fun h => hf h.1))
    have hf2 : keyB fr = false := by simpa using hf
    clear hf
    go_enter Tryz.func135, Tryz.ntmps135
    go_wp2_with fail
    refine (key11 _ _).mono ?_
    rintro e w' ⟨rfl, rfl⟩
    rw [hf2]
    go_wp2_with fail
    go_ret2
    exact dlEnd_mk [] 1 _ none 0 (unhide HE1) (World.ownsRow_nil _ _ _ _) (unhide HD) (Kp.refl _ _)
end
/- The document's own deed: its memory; In, SameInts and last, by their contracts. -/
section
open Go.RowKit
attribute [local go_sem ↓] Go.wp_at_zero Go.wp_at_succ

def ig (l : List Int) (k : Nat) : Int := l.getD k 0
/-- The numbers lie behind the slice's address. -/
def SlI (w : World) (a : Option Addr) (l : List Int) : Prop := 0 < l.length → ∃ g o, a = some ⟨g, o, none⟩ ∧ ∀ j, j < l.length → w.cell? ⟨g, o + j, none⟩ = some (.int .i64 (ig l j))
theorem SlI.kp0 {w w' : World} {a : Option Addr} {l : List Int} (h : SlI w a l) (hk : Kp [] w w') : SlI w' a l := fun hp => by
  obtain ⟨g, o, e, hs⟩ := h hp
  exact ⟨g, o, e, fun j hj => hk.cell (p := ⟨g, o + j, none⟩) (by simp) (hs j hj)⟩
/-- The document's deed: the box wb holds the mode, the commit, what was read and what was written; H: all blocks that are its own. -/
structure WrkL (B : Nat) (w : World) (wb : Nat) (H : List Nat) (ra : Option Addr) (rc : Nat) (wa : Option Addr) (wc : Nat) (md y : Int) (rs : List Int) (ws : List Ver) : Prop where
  box : w.heap[wb]? = some (.cells #[.int .i64 md, .int .i64 y, .slice ra rs.length rc, .slice wa ws.length wc] 127 (0, 0))
  ro : w.ownsRow B 3 1 (.slice ra rs.length rc) rs.length (icells rs)
  wo : w.ownsRow B 106 3 (.slice wa ws.length wc) ws.length (vcells ws)
  rb : ∀ g, (Value.slice ra rs.length rc).ownBlock = some g → g ≠ wb ∧ g ∈ H
  ab : ∀ g, (Value.slice wa ws.length wc).ownBlock = some g → g ≠ wb ∧ g ∈ H
  rw : ∀ g g', (Value.slice ra rs.length rc).ownBlock = some g → (Value.slice wa ws.length wc).ownBlock = some g' → g ≠ g'
  bH : wb ∈ H
  lo : ∀ x, x ∈ H → B ≤ x ∧ x < w.heap.size
def Wrk (B : Nat) (w : World) (wb : Nat) (H : List Nat) (md y : Int) (rs : List Int) (ws : List Ver) : Prop := ∃ ra rc wa wc, WrkL B w wb H ra rc wa wc md y rs ws

section
variable {B : Nat} {w w' : World} {wb : Nat} {H : List Nat} {ra : Option Addr} {rc : Nat} {wa : Option Addr} {wc : Nat} {md y : Int} {rs : List Int} {ws : List Ver}
theorem WrkL.kp {S : List Nat} (h : WrkL B w wb H ra rc wa wc md y rs ws) (hk : Kp S w w') (hS : ∀ x, x ∈ H → x ∉ S) : WrkL B w' wb H ra rc wa wc md y rs ws :=
  ⟨by rw [hk.block wb (lt_of_block h.box) (hS _ h.bH)]; exact h.box, own_kp h.ro hk (fun g hg => hS g (h.rb g hg).2), own_kp h.wo hk (fun g hg => hS g (h.ab g hg).2), h.rb, h.ab, h.rw, h.bH, fun x hx => ⟨(h.lo x hx).1, Nat.lt_of_lt_of_le (h.lo x hx).2 hk.size⟩⟩
theorem WrkL.kp0 (h : WrkL B w wb H ra rc wa wc md y rs ws) (hk : Kp [] w w') : WrkL B w' wb H ra rc wa wc md y rs ws := h.kp hk (fun _ _ => by simp)
theorem Wrk.kp {S : List Nat} (h : Wrk B w wb H md y rs ws) (hk : Kp S w w') (hS : ∀ x, x ∈ H → x ∉ S) : Wrk B w' wb H md y rs ws := by
  obtain ⟨ra, rc, wa, wc, h⟩ := h
  exact ⟨ra, rc, wa, wc, h.kp hk hS⟩
theorem Wrk.kp0 (h : Wrk B w wb H md y rs ws) (hk : Kp [] w w') : Wrk B w' wb H md y rs ws := h.kp hk (fun _ _ => by simp)
theorem Wrk.lo (h : Wrk B w wb H md y rs ws) : ∀ x, x ∈ H → B ≤ x ∧ x < w.heap.size := by
  obtain ⟨ra, rc, wa, wc, h⟩ := h
  exact h.lo
theorem WrkL.c0 (h : WrkL B w wb H ra rc wa wc md y rs ws) : w.cell? ⟨wb, 0, none⟩ = some (.int .i64 md) := cell_of_block h.box rfl
theorem WrkL.c1 (h : WrkL B w wb H ra rc wa wc md y rs ws) : w.cell? ⟨wb, 1, none⟩ = some (.int .i64 y) := cell_of_block h.box rfl
theorem WrkL.c2 (h : WrkL B w wb H ra rc wa wc md y rs ws) : w.cell? ⟨wb, 2, none⟩ = some (.slice ra rs.length rc) := cell_of_block h.box rfl
theorem WrkL.c3 (h : WrkL B w wb H ra rc wa wc md y rs ws) : w.cell? ⟨wb, 3, none⟩ = some (.slice wa ws.length wc) := cell_of_block h.box rfl
end

end
/- Get and Put of the document's deed, by their contracts. -/
section
open Go.RowKit
attribute [local go_sem ↓] Go.wp_at_zero Go.wp_at_succ

section
variable {B : Nat} {W w2 : World} {wb : Nat} {H : List Nat} {ra : Option Addr} {rc : Nat} {wa : Option Addr} {wc : Nat} {md y : Int} {rs : List Int} {ws : List Ver} {g2 cap2 : Nat}
end

/-- A variable of two cells: a value. -/
def Two (w : World) (p : Nat) (t : Bool) (s : ByteArray) : Prop := w.heap[p]? = some (.cells #[.bool t, .string s] 99 (0, 0))
section
variable {w w' : World} {p : Nat} {t : Bool} {s : ByteArray}
theorem Two.kp {S : List Nat} (h : Two w p t s) (hk : Kp S w w') (hS : p ∉ S) : Two w' p t s := by
  unfold Two at h ⊢
  rw [hk.block p (lt_of_block h) hS]; exact h
theorem Two.kp0 (h : Two w p t s) (hk : Kp [] w w') : Two w' p t s := h.kp hk (by simp)
theorem Two.c0 (h : Two w p t s) : w.cell? ⟨p, 0, none⟩ = some (.bool t) := cell_of_block h rfl
theorem Two.c1 (h : Two w p t s) : w.cell? ⟨p, 1, none⟩ = some (.string s) := cell_of_block h rfl
theorem Two.f0 (h : Two w p t s) : w.frozen? ⟨p, 0, none⟩ = false := frozen_of_block 0 h
theorem Two.f1 (h : Two w p t s) : w.frozen? ⟨p, 1, none⟩ = false := frozen_of_block 1 h
theorem Two.lt (h : Two w p t s) : p < w.heap.size := lt_of_block h
theorem Two.grown {ob : Option Nat} (h : Two w p t s) (hg : w.grownBy w' ob) (hne : some p ≠ ob) : Two w' p t s := by
  unfold Two at h ⊢
  rw [hg.block p (lt_of_block h) hne]; exact h
end
end
/- Put, Reads and Writes of the document's deed, by their contracts. -/
section
open Go.RowKit
attribute [local go_sem ↓] Go.wp_at_zero Go.wp_at_succ

end
/- The things of a vault's world: a vault, a court, a house, a deed with the document's deed; what a call leaves of them. -/
section
open Go.RowKit

/-- What a call that changes a thing leaves of it. -/
def Ch (o' : Thing) (B : Nat) (w : World) (F : List Nat) (w' : World) : Prop := ∃ F', o'.holds B w' F' ∧ Kp F w w' ∧ ∀ x, x ∈ F' → x ∈ F ∨ w.heap.size ≤ x

section
variable {w0 w w' : World} {o o1 o2 o3 : Thing} {r : List Thing}
theorem zoo_at0 (h : Zoo w0 w (o :: r)) : ∃ F, o.holds w0.heap.size w F ∧ ∀ (o' : Thing) (w' : World), Ch o' w0.heap.size w F w' → Zoo w0 w' (o' :: r) := h.head
theorem zoo_at1 (h : Zoo w0 w (o1 :: o :: r)) : ∃ F, o.holds w0.heap.size w F ∧ ∀ (o' : Thing) (w' : World), Ch o' w0.heap.size w F w' → Zoo w0 w' (o1 :: o' :: r) := Zoo.at_ (l1 := [o1]) h
theorem Ch.same {o : Thing} {B : Nat} {F : List Nat} (h : o.holds B w F) (hk : Kp [] w w') : Ch o B w F w' := ⟨F, o.kp h hk (fun _ _ => by simp), hk.mono (fun x hx => by simp at hx), fun x hx => .inl hx⟩
theorem Ch.trans {o' : Thing} {B : Nat} {F F1 : List Nat} {w1 : World} (h2 : Kp F w w1) (h3 : ∀ x, x ∈ F1 → x ∈ F ∨ w.heap.size ≤ x) (k : Ch o' B w1 F1 w') : Ch o' B w F w' := by
  obtain ⟨F2, k1, k2, k3⟩ := k
  refine ⟨F2, k1, h2.trans k2 h3, fun x hx => ?_⟩
  rcases k3 x hx with e | e
  · exact h3 x e
  · exact .inr (Nat.le_trans h2.size e)
theorem Ch.to {o o' : Thing} {B : Nat} {F : List Nat} {w1 : World} (h : Ch o B w F w1) (k : ∀ F1, o.holds B w1 F1 → Ch o' B w1 F1 w') : Ch o' B w F w' := by
  obtain ⟨F1, h1, h2, h3⟩ := h
  exact Ch.trans h2 h3 (k F1 h1)
theorem Ch.kp0 {o' : Thing} {B : Nat} {F : List Nat} {w1 : World} (h : Ch o' B w F w1) (hk : Kp [] w1 w') : Ch o' B w F w' := h.to (fun _ h1 => Ch.same h1 hk)
theorem Ch.after {o' : Thing} {B : Nat} {F : List Nat} {w1 : World} (hk : Kp [] w w1) (h : Ch o' B w1 F w') : Ch o' B w F w' := by
  obtain ⟨F1, h1, h2, h3⟩ := h
  refine ⟨F1, h1, (hk.mono (fun x hx => by simp at hx)).trans h2 (fun x hx => .inl hx), fun x hx => ?_⟩
  rcases h3 x hx with e | e
  · exact .inl e
  · exact .inr (Nat.le_trans hk.size e)
end

/-- A vault's memory: its box holds the table's and the log's. -/
structure Vlt (B : Nat) (w : World) (vb tb gb : Nat) (F Ft Fg : List Nat) (f : Nat → List Ver) (n : Nat) (cs : List (List Ver)) (torn : List UInt8) : Prop where
  box : w.heap[vb]? = some (.cells #[.pointer (some ⟨tb, 0, none⟩), .pointer (some ⟨gb, 0, none⟩)] 77 (0, 0))
  t : Tbl B w tb Ft f n
  g : Lg B w gb Fg cs torn
  vt : vb ∉ Ft
  vg : vb ∉ Fg
  tg : ∀ x, x ∈ Ft → x ∉ Fg
  vF : vb ∈ F
  tF : ∀ x, x ∈ Ft → x ∈ F
  gF : ∀ x, x ∈ Fg → x ∈ F
  lo : ∀ x, x ∈ F → B ≤ x ∧ x < w.heap.size
section
variable {B : Nat} {w w' : World} {vb tb gb : Nat} {F Ft Fg S : List Nat} {f f' : Nat → List Ver} {n n' : Nat} {cs cs' : List (List Ver)} {torn torn' : List UInt8}
theorem Vlt.kp (h : Vlt B w vb tb gb F Ft Fg f n cs torn) (hk : Kp S w w') (hS : ∀ x, x ∈ F → x ∉ S) : Vlt B w' vb tb gb F Ft Fg f n cs torn :=
  ⟨by rw [hk.block vb (h.lo vb h.vF).2 (hS _ h.vF)]; exact h.box, h.t.kp hk (fun x hx => hS x (h.tF x hx)), h.g.kp hk (fun x hx => hS x (h.gF x hx)), h.vt, h.vg, h.tg, h.vF, h.tF, h.gF, fun x hx => ⟨(h.lo x hx).1, Nat.lt_of_lt_of_le (h.lo x hx).2 hk.size⟩⟩
theorem Vlt.kp0 (h : Vlt B w vb tb gb F Ft Fg f n cs torn) (hk : Kp [] w w') : Vlt B w' vb tb gb F Ft Fg f n cs torn := h.kp hk (fun _ _ => by simp)
theorem Vlt.base {C : Nat} (h : Vlt B w vb tb gb F Ft Fg f n cs torn) (hC : C ≤ B) : Vlt C w vb tb gb F Ft Fg f n cs torn :=
  ⟨h.box, h.t.base hC, h.g.base hC, h.vt, h.vg, h.tg, h.vF, h.tF, h.gF, fun x hx => ⟨Nat.le_trans hC (h.lo x hx).1, (h.lo x hx).2⟩⟩
theorem Vlt.c0 (h : Vlt B w vb tb gb F Ft Fg f n cs torn) : w.cell? ⟨vb, 0, none⟩ = some (.pointer (some ⟨tb, 0, none⟩)) := cell_of_block h.box rfl
theorem Vlt.c1 (h : Vlt B w vb tb gb F Ft Fg f n cs torn) : w.cell? ⟨vb, 1, none⟩ = some (.pointer (some ⟨gb, 0, none⟩)) := cell_of_block h.box rfl
theorem Vlt.fz (h : Vlt B w vb tb gb F Ft Fg f n cs torn) (i : Nat) : w.frozen? ⟨vb, i, none⟩ = false := frozen_of_block i h.box
end
def VltT (vb tb gb : Nat) (f : Nat → List Ver) (n : Nat) (cs : List (List Ver)) (torn : List UInt8) : Thing where
  holds B w F := ∃ Ft Fg, Vlt B w vb tb gb F Ft Fg f n cs torn
  kp := fun ⟨Ft, Fg, h⟩ hk hS => ⟨Ft, Fg, h.kp hk hS⟩
  lo := fun ⟨_, _, h⟩ => h.lo
  base := fun ⟨Ft, Fg, h⟩ hC => ⟨Ft, Fg, h.base hC⟩
section
variable {B : Nat} {w w' : World} {vb tb gb : Nat} {F Ft Fg S : List Nat} {f f' : Nat → List Ver} {n n' : Nat} {cs cs' : List (List Ver)} {torn torn' : List UInt8}
/-- Another log of the vault. -/
theorem Vlt.log (h : Vlt B w vb tb gb F Ft Fg f n cs torn) (k : LgTo B w gb Fg cs' torn' w') : Ch (VltT vb tb gb f n cs' torn') B w F w' := by
  obtain ⟨Fg', k1, k2, k3⟩ := k
  have hvb := (h.lo vb h.vF).2
  refine ⟨F ++ Fg', ⟨Ft, Fg', ?_, h.t.kp k2 h.tg, k1, h.vt, fun hm => ?_, fun x hx hm => ?_, by simp [h.vF], fun x hx => by simp [h.tF x hx], fun x hx => by simp [hx], fun x hx => ?_⟩, k2.mono (fun x hx => .inl (h.gF x hx)), fun x hx => ?_⟩
  · rw [k2.block vb hvb h.vg]; exact h.box
  · rcases k3 vb hm with e | e
    · exact h.vg e
    · omega
  · rcases k3 x hm with e | e
    · exact h.tg x hx e
    · have := (h.lo x (h.tF x hx)).2; omega
  · rcases List.mem_append.1 hx with e | e
    · exact ⟨(h.lo x e).1, Nat.lt_of_lt_of_le (h.lo x e).2 k2.size⟩
    · exact k1.lo x e
  · rcases List.mem_append.1 hx with e | e
    · exact .inl e
    · rcases k3 x e with e | e
      · exact .inl (h.gF x e)
      · exact .inr e
/-- Its table changed. -/
theorem Vlt.table (h : Vlt B w vb tb gb F Ft Fg f n cs torn) {Ft' : List Nat} (k1 : Tbl B w' tb Ft' f' n') (k2 : Kp Ft w w') (k3 : ∀ x, x ∈ Ft' → x ∈ Ft ∨ w.heap.size ≤ x) : Ch (VltT vb tb gb f' n' cs torn) B w F w' := by
  have hvb := (h.lo vb h.vF).2
  refine ⟨F ++ Ft', ⟨Ft', Fg, ?_, k1, h.g.kp k2 (fun x hx hm => h.tg x hm hx), fun hm => ?_, h.vg, fun x hx hm => ?_, by simp [h.vF], fun x hx => by simp [hx], fun x hx => by simp [h.gF x hx], fun x hx => ?_⟩, k2.mono (fun x hx => .inl (h.tF x hx)), fun x hx => ?_⟩
  · rw [k2.block vb hvb h.vt]; exact h.box
  · rcases k3 vb hm with e | e
    · exact h.vt e
    · omega
  · rcases k3 x hx with e | e
    · exact h.tg x e hm
    · have := (h.lo x (h.gF x hm)).2; omega
  · rcases List.mem_append.1 hx with e | e
    · exact ⟨(h.lo x e).1, Nat.lt_of_lt_of_le (h.lo x e).2 k2.size⟩
    · exact k1.lo x e
  · rcases List.mem_append.1 hx with e | e
    · exact .inl e
    · rcases k3 x e with e | e
      · exact .inl (h.tF x e)
      · exact .inr e
/-- Another table in its place. -/
theorem Vlt.put (h : Vlt B w vb tb gb F Ft Fg f n cs torn) {W : World} (hW : Kp [] w W) {tb' : Nat} {Ft' : List Nat} (k1 : Tbl w.heap.size W tb' Ft' f' n') : Ch (VltT vb tb' gb f' n' cs torn) B w F (W.setCell ⟨vb, 0, none⟩ (.pointer (some ⟨tb', 0, none⟩))) := by
  have hvb := (h.lo vb h.vF).2
  have hBw : B ≤ w.heap.size := by have := (h.lo vb h.vF).1; omega
  have hk3 : Kp [vb] W (W.setCell ⟨vb, 0, none⟩ (.pointer (some ⟨tb', 0, none⟩))) := (Kp.refl [vb] W).setCell (.inl (by simp)) _
  have hW1 := h.kp0 hW
  have hne : ∀ x, x ∈ Ft' → x ≠ vb := fun x hx e => by have := (k1.lo x hx).1; omega
  refine ⟨vb :: (Fg ++ Ft'), ⟨Ft', Fg, ?_, (k1.base hBw).kp hk3 (fun x hx e => hne x hx (List.mem_singleton.1 e)), hW1.g.kp hk3 (fun x hx e => h.vg (by rw [← List.mem_singleton.1 e]; exact hx)), fun hm => hne vb hm rfl, h.vg, fun x hx hm => ?_, by simp, fun x hx => by simp [hx], fun x hx => by simp [hx], fun x hx => ?_⟩, (hW.mono (fun x hx => by simp at hx)).trans hk3 (fun x hx => .inl (by rw [List.mem_singleton.1 hx]; exact h.vF)), fun x hx => ?_⟩
  · exact heap_setCell_at 0 _ hW1.box
  · have h1 := (k1.lo x hx).1
    have h2 := (h.lo x (h.gF x hm)).2
    omega
  · rcases List.mem_cons.1 hx with e | e
    · subst e; exact ⟨(h.lo _ h.vF).1, Nat.lt_of_lt_of_le (hW1.lo _ h.vF).2 hk3.size⟩
    · rcases List.mem_append.1 e with e | e
      · exact ⟨(h.lo x (h.gF x e)).1, Nat.lt_of_lt_of_le (hW1.lo x (h.gF x e)).2 hk3.size⟩
      · exact ⟨Nat.le_trans hBw (k1.lo x e).1, Nat.lt_of_lt_of_le (k1.lo x e).2 hk3.size⟩
  · rcases List.mem_cons.1 hx with e | e
    · subst e; exact .inl h.vF
    · rcases List.mem_append.1 e with e | e
      · exact .inl (h.gF x e)
      · exact .inr (k1.lo x e).1
end

/-- The document's court: its box holds the sheet's, the roll, and the seats. -/
structure Crt (B : Nat) (w : World) (cb sb : Nat) (G Gr Gs : List Nat) (bx : Array Value) (f : Nat → List Ver) (n : Nat) (cs : List (List Ver)) (torn : List UInt8) (st : Nat → Option Addr) : Prop where
  r : Rx B w cb 1 bx 68 Gr cs torn
  b0 : bx[0]? = some (.pointer (some ⟨sb, 0, none⟩))
  bs : ∀ i, i < 5 → bx[3 + i]? = some (.pointer (st i))
  sz : bx.size = 8
  s : Sht B w sb Gs f n
  rs : ∀ x, x ∈ Gr → x ∉ Gs
  rG : ∀ x, x ∈ Gr → x ∈ G
  sG : ∀ x, x ∈ Gs → x ∈ G
  lo : ∀ x, x ∈ G → B ≤ x ∧ x < w.heap.size
section
variable {B : Nat} {w w' W : World} {cb sb : Nat} {G Gr Gs S : List Nat} {bx : Array Value} {f f' : Nat → List Ver} {n n' : Nat} {cs cs' : List (List Ver)} {torn torn' : List UInt8} {st : Nat → Option Addr}
theorem Crt.kp (h : Crt B w cb sb G Gr Gs bx f n cs torn st) (hk : Kp S w w') (hS : ∀ x, x ∈ G → x ∉ S) : Crt B w' cb sb G Gr Gs bx f n cs torn st :=
  ⟨h.r.kp hk (fun x hx => hS x (h.rG x hx)), h.b0, h.bs, h.sz, h.s.kp hk (fun x hx => hS x (h.sG x hx)), h.rs, h.rG, h.sG, fun x hx => ⟨(h.lo x hx).1, Nat.lt_of_lt_of_le (h.lo x hx).2 hk.size⟩⟩
theorem Crt.kp0 (h : Crt B w cb sb G Gr Gs bx f n cs torn st) (hk : Kp [] w w') : Crt B w' cb sb G Gr Gs bx f n cs torn st := h.kp hk (fun _ _ => by simp)
theorem Crt.base {C : Nat} (h : Crt B w cb sb G Gr Gs bx f n cs torn st) (hC : C ≤ B) : Crt C w cb sb G Gr Gs bx f n cs torn st :=
  ⟨h.r.base hC, h.b0, h.bs, h.sz, h.s.base hC, h.rs, h.rG, h.sG, fun x hx => ⟨Nat.le_trans hC (h.lo x hx).1, (h.lo x hx).2⟩⟩
theorem Rx.box {o : Nat} {T : TypeId} (h : Rx B w cb o bx T Gr cs torn) : w.heap[cb]? = some (.cells bx T (0, 0)) := by
  obtain ⟨aL, capL, xs, aT, cT, h, e⟩ := h
  exact h.box
theorem Rx.rG {o : Nat} {T : TypeId} (h : Rx B w cb o bx T Gr cs torn) : cb ∈ Gr := by
  obtain ⟨aL, capL, xs, aT, cT, h, e⟩ := h
  exact h.rG
theorem Crt.c0 (h : Crt B w cb sb G Gr Gs bx f n cs torn st) : w.cell? ⟨cb, 0, none⟩ = some (.pointer (some ⟨sb, 0, none⟩)) := cell_of_block h.r.box h.b0
theorem Crt.seat (h : Crt B w cb sb G Gr Gs bx f n cs torn st) {i : Nat} (hi : i < 5) : w.cell? ⟨cb, 3 + i, none⟩ = some (.pointer (st i)) := cell_of_block h.r.box (h.bs i hi)
theorem Crt.fz (h : Crt B w cb sb G Gr Gs bx f n cs torn st) (i : Nat) : w.frozen? ⟨cb, i, none⟩ = false := frozen_of_block i h.r.box
theorem Crt.cG (h : Crt B w cb sb G Gr Gs bx f n cs torn st) : cb ∈ G := h.rG _ h.r.rG
/-- Another cell of the box than the roll's. -/
theorem RxL.other {o : Nat} {T : TypeId} {aL : Option Addr} {capL : Nat} {xs : List El} {aT : Option Addr} {cT : Nat} (h : RxL B w cb o bx T Gr aL capL xs aT cT torn) (i : Nat) (v : Value) (h0 : i ≠ o) (h1 : i ≠ o + 1) :
    RxL B (w.setCell ⟨cb, i, none⟩ v) cb o (bx.setIfInBounds i v) T Gr aL capL xs aT cT torn := by
  have hk : Kp [cb] w (w.setCell ⟨cb, i, none⟩ v) := (Kp.refl [cb] w).setCell (.inl (by simp)) _
  refine ⟨heap_setCell_at i _ h.box, set_there h.b0 h0 _, set_there h.b1 h1 _, h.own.kp hk (fun x hx e => h.ne (by rw [← List.mem_singleton.1 e]; exact hx)), fun e he => ⟨(h.els e he).1.kp hk (fun x hx e2 => ((h.els e he).2 x hx).2.1 (List.mem_singleton.1 e2)), (h.els e he).2⟩, h.tb.kpo hk (fun x hx e => (h.tG x hx).2 (List.mem_singleton.1 e)), h.tn, h.tG, h.ne, h.rG, h.aG, fun x hx => ⟨(h.lo x hx).1, Nat.lt_of_lt_of_le (h.lo x hx).2 hk.size⟩, h.inv, h.tl, Nat.le_trans h.hB hk.size⟩
theorem Rx.other {o : Nat} {T : TypeId} (h : Rx B w cb o bx T Gr cs torn) (i : Nat) (v : Value) (h0 : i ≠ o) (h1 : i ≠ o + 1) : Rx B (w.setCell ⟨cb, i, none⟩ v) cb o (bx.setIfInBounds i v) T Gr cs torn := by
  obtain ⟨aL, capL, xs, aT, cT, h, e⟩ := h
  exact ⟨aL, capL, xs, aT, cT, h.other i v h0 h1, e⟩
end
def CrtT (cb sb : Nat) (f : Nat → List Ver) (n : Nat) (cs : List (List Ver)) (torn : List UInt8) (st : Nat → Option Addr) : Thing where
  holds B w G := ∃ Gr Gs bx, Crt B w cb sb G Gr Gs bx f n cs torn st
  kp := fun ⟨Gr, Gs, bx, h⟩ hk hS => ⟨Gr, Gs, bx, h.kp hk hS⟩
  lo := fun ⟨_, _, _, h⟩ => h.lo
  base := fun ⟨Gr, Gs, bx, h⟩ hC => ⟨Gr, Gs, bx, h.base hC⟩
section
variable {B : Nat} {w w' W : World} {cb sb : Nat} {G Gr Gs S : List Nat} {bx : Array Value} {f f' : Nat → List Ver} {n n' : Nat} {cs cs' : List (List Ver)} {torn torn' : List UInt8} {st : Nat → Option Addr}
/-- Another one at a seat. -/
theorem Crt.sit (h : Crt B w cb sb G Gr Gs bx f n cs torn st) {i : Nat} (hi : i < 5) (p : Option Addr) : Ch (CrtT cb sb f n cs torn (upd st i p)) B w G (w.setCell ⟨cb, 3 + i, none⟩ (.pointer p)) := by
  have hk : Kp [cb] w (w.setCell ⟨cb, 3 + i, none⟩ (.pointer p)) := (Kp.refl [cb] w).setCell (.inl (by simp)) _
  refine ⟨G, ⟨Gr, Gs, bx.setIfInBounds (3 + i) (.pointer p), h.r.other _ _ (by omega) (by omega), set_there h.b0 (by omega) _, fun j hj => ?_, by simp [h.sz], h.s.kp hk (fun x hx e => h.rs cb h.r.rG (by rw [← List.mem_singleton.1 e]; exact hx)), h.rs, h.rG, h.sG, fun x hx => ⟨(h.lo x hx).1, Nat.lt_of_lt_of_le (h.lo x hx).2 hk.size⟩⟩, hk.mono (fun x hx => .inl (by rw [List.mem_singleton.1 hx]; exact h.cG)), fun x hx => .inl hx⟩
  by_cases e : j = i
  · subst e
    rw [set_here (h.bs j hj), upd_same]
  · rw [set_there (h.bs j hj) (by omega), upd_other _ _ _ e]
/-- Another roll. -/
theorem Crt.roll (h : Crt B w cb sb G Gr Gs bx f n cs torn st) (k : RxTo B w cb 1 bx 68 Gr cs' torn' w') : Ch (CrtT cb sb f n cs' torn' st) B w G w' := by
  obtain ⟨Gr', bx', k1, kb, k2, k3⟩ := k
  refine ⟨G ++ Gr', ⟨Gr', Gs, bx', k1, by rw [kb.2 0 (by omega) (by omega)]; exact h.b0, fun i hi => by rw [kb.2 (3 + i) (by omega) (by omega)]; exact h.bs i hi, by rw [kb.1]; exact h.sz, h.s.kp k2 (fun x hx hm => h.rs x hm hx), fun x hx hm => ?_, fun x hx => by simp [hx], fun x hx => by simp [h.sG x hx], fun x hx => ?_⟩, k2.mono (fun x hx => .inl (h.rG x hx)), fun x hx => ?_⟩
  · rcases k3 x hx with e | e
    · exact h.rs x e hm
    · have := (h.lo x (h.sG x hm)).2; omega
  · rcases List.mem_append.1 hx with e | e
    · exact ⟨(h.lo x e).1, Nat.lt_of_lt_of_le (h.lo x e).2 k2.size⟩
    · exact k1.lo x e
  · rcases List.mem_append.1 hx with e | e
    · exact .inl e
    · rcases k3 x e with e | e
      · exact .inl (h.rG x e)
      · exact .inr e
/-- Its sheet changed. -/
theorem Crt.sheet (h : Crt B w cb sb G Gr Gs bx f n cs torn st) {Gs' : List Nat} (k1 : Sht B w' sb Gs' f' n') (k2 : Kp Gs w w') (k3 : ∀ x, x ∈ Gs' → x ∈ Gs ∨ w.heap.size ≤ x) : Ch (CrtT cb sb f' n' cs torn st) B w G w' := by
  refine ⟨G ++ Gs', ⟨Gr, Gs', bx, h.r.kp k2 h.rs, h.b0, h.bs, h.sz, k1, fun x hx hm => ?_, fun x hx => by simp [h.rG x hx], fun x hx => by simp [hx], fun x hx => ?_⟩, k2.mono (fun x hx => .inl (h.sG x hx)), fun x hx => ?_⟩
  · rcases k3 x hm with e | e
    · exact h.rs x hx e
    · have := (h.lo x (h.rG x hx)).2; omega
  · rcases List.mem_append.1 hx with e | e
    · exact ⟨(h.lo x e).1, Nat.lt_of_lt_of_le (h.lo x e).2 k2.size⟩
    · exact k1.lo x e
  · rcases List.mem_append.1 hx with e | e
    · exact .inl e
    · rcases k3 x e with e | e
      · exact .inl (h.sG x e)
      · exact .inr e
end

/-- A deed, and the document's deed. -/
structure Pr (B : Nat) (w : World) (db wb : Nat) (F H : List Nat) (md y : Int) (rs rs2 : List Int) (ws ws2 : List Ver) : Prop where
  d : Ded w db md y rs ws
  k : Wrk B w wb H md y rs2 ws2
  ne : db ∉ H
  dF : db ∈ F
  kF : ∀ x, x ∈ H → x ∈ F
  lo : ∀ x, x ∈ F → B ≤ x ∧ x < w.heap.size
theorem Wrk.base {B C : Nat} {w : World} {wb : Nat} {H : List Nat} {md y : Int} {rs : List Int} {ws : List Ver} (h : Wrk B w wb H md y rs ws) (hC : C ≤ B) : Wrk C w wb H md y rs ws := by
  obtain ⟨ra, rc, wa, wc, h⟩ := h
  exact ⟨ra, rc, wa, wc, h.box, own_base h.ro hC, own_base h.wo hC, h.rb, h.ab, h.rw, h.bH, fun x hx => ⟨Nat.le_trans hC (h.lo x hx).1, (h.lo x hx).2⟩⟩
def PrT (db wb : Nat) (md y : Int) (rs rs2 : List Int) (ws ws2 : List Ver) : Thing where
  holds B w F := ∃ H, Pr B w db wb F H md y rs rs2 ws ws2
  kp := fun ⟨H, h⟩ hk hS => ⟨H, h.d.kp hk (hS _ h.dF), h.k.kp hk (fun x hx => hS x (h.kF x hx)), h.ne, h.dF, h.kF, fun x hx => ⟨(h.lo x hx).1, Nat.lt_of_lt_of_le (h.lo x hx).2 hk.size⟩⟩
  lo := fun ⟨_, h⟩ => h.lo
  base := fun ⟨H, h⟩ hC => ⟨H, h.d, h.k.base hC, h.ne, h.dF, h.kF, fun x hx => ⟨Nat.le_trans hC (h.lo x hx).1, (h.lo x hx).2⟩⟩
section
variable {B : Nat} {w w' : World} {db wb : Nat} {F H : List Nat} {md y : Int} {rs rs2 rs' : List Int} {ws ws2 ws' : List Ver}
theorem Pr.deed (h : Pr B w db wb F H md y rs rs2 ws ws2) (hd : Ded w' db md y rs' ws') (hk : Kp [db] w w') : Ch (PrT db wb md y rs' rs2 ws' ws2) B w F w' :=
  ⟨F, ⟨H, hd, h.k.kp hk (fun x hx e => h.ne (by rw [← List.mem_singleton.1 e]; exact hx)), h.ne, h.dF, h.kF, fun x hx => ⟨(h.lo x hx).1, Nat.lt_of_lt_of_le (h.lo x hx).2 hk.size⟩⟩, hk.mono (fun x hx => .inl (by rw [List.mem_singleton.1 hx]; exact h.dF)), fun x hx => .inl hx⟩
end
end
/- May of a deed, by its contract. -/
section
open Go.RowKit
attribute [local go_sem ↓] Go.wp_at_zero Go.wp_at_succ

/-- The code under way: some key of those that were looked at is stale. -/
def mcd (f : Nat → List Ver) (md y : Int) (rs : List Int) (k : Nat) : Int := if md = 2 ∧ stl f y rs k = true then 11 else 0

theorem cls_mono {f : Nat → List Ver} {y : Int} {ws : List Ver} {k : Nat} (h : cls f y ws k = true) : ∀ m, k ≤ m → cls f y ws m = true := by
  intro m
  induction m with
  | zero => intro hm; have : k = 0 := by omega
            subst this; exact h
  | succ m ih =>
    intro hm
    by_cases e : k = m + 1
    · subst e; exact h
    · simp only [cls]
      split
      · rfl
      · exact ih (by omega)
theorem cls_yes {f : Nat → List Ver} {y : Int} {ws : List Ver} {k : Nat} {v : Ver} (h : lwr ws k = some v) (hy : y < snc f k) : cls f y ws (k + 1) = true := by
  simp only [cls]; rw [if_pos ⟨by rw [h]; rfl, hy⟩]
theorem cls_old {f : Nat → List Ver} {y : Int} {ws : List Ver} {k : Nat} (hy : snc f k ≤ y) : cls f y ws (k + 1) = cls f y ws k := by
  simp only [cls]; rw [if_neg (fun h => by have := h.2; omega)]
theorem cls_no {f : Nat → List Ver} {y : Int} {ws : List Ver} {k : Nat} (h : lwr ws k = none) : cls f y ws (k + 1) = cls f y ws k := by
  simp only [cls]; rw [if_neg (fun hc => by have := hc.1; rw [h] at this; simp at this)]
theorem stl_yes {f : Nat → List Ver} {y : Int} {rs : List Int} {k : Nat} (h : (k : Int) ∈ rs) (hy : y < snc f k) : stl f y rs (k + 1) = true := by
  simp only [stl]; rw [if_pos ⟨h, hy⟩]
theorem stl_old {f : Nat → List Ver} {y : Int} {rs : List Int} {k : Nat} (hy : snc f k ≤ y) : stl f y rs (k + 1) = stl f y rs k := by
  simp only [stl]; rw [if_neg (fun h => by have := h.2; omega)]
theorem stl_no {f : Nat → List Ver} {y : Int} {rs : List Int} {k : Nat} (h : ¬ (k : Int) ∈ rs) : stl f y rs (k + 1) = stl f y rs k := by
  simp only [stl]; rw [if_neg (fun hc => h hc.1)]
theorem dm_clash {f : Nat → List Ver} {md y : Int} {rs : List Int} {ws : List Ver} (h : cls f y ws 8 = true) : dm f md y rs ws = 10 := by unfold dm; rw [if_pos h]
theorem dm_end {f : Nat → List Ver} {md y : Int} {rs : List Int} {ws : List Ver} (h : cls f y ws 8 = false) : dm f md y rs ws = mcd f md y rs 8 := by unfold dm mcd; rw [if_neg (by simp [h])]
theorem mcd_not {f : Nat → List Ver} {md y : Int} {rs : List Int} {k : Nat} (h : ¬ md = 2) : mcd f md y rs k = 0 := by unfold mcd; rw [if_neg (fun hc => h hc.1)]
theorem mcd_eq {f : Nat → List Ver} {md y : Int} {rs : List Int} {k m : Nat} (h : stl f y rs m = stl f y rs k) : mcd f md y rs m = mcd f md y rs k := by unfold mcd; rw [h]
theorem mcd_yes {f : Nat → List Ver} {md y : Int} {rs : List Int} {k : Nat} (hm : md = 2) (h : stl f y rs k = true) : mcd f md y rs k = 11 := by unfold mcd; rw [if_pos ⟨hm, h⟩]

/-- Since, as May asks it: what it keeps. -/
theorem may_since {B tb n db : Nat} {F : List Nat} {f : Nat → List Ver} {md y : Int} {rs : List Int} {ws : List Ver} {w W : World} {p : Nat} {b0 b1 : Bool} (k : Int) (h : Tbl B w tb F f n) (hd : Ded w db md y rs ws) (hW : Kp [] w W)
    (c0 : W.cell? ⟨p, 0, none⟩ = some (.bool b0)) (c1 : W.cell? ⟨p, 1, none⟩ = some (.bool b1)) (s : Int) (hs : snc f k = s) :
    Calls Tryz.prog 191 #[.pointer (some ⟨tb, 0, none⟩), .int .i64 k] W fun e w' => e = .returned (.int .i64 s) ∧ w'.cell? ⟨db, 1, none⟩ = some (.int .i64 y) ∧ w'.cell? ⟨db, 0, none⟩ = some (.int .i64 md) ∧ w'.cell? ⟨p, 0, none⟩ = some (.bool b0) ∧ w'.cell? ⟨p, 1, none⟩ = some (.bool b1) ∧ Hid (Kp [] w w') := by
  refine (tsince40 k W (h.kp0 hW)).mono ?_
  rintro e w' ⟨rfl, hk⟩
  have hd' := hd.kp0 (hW.trans0 hk)
  exact ⟨by rw [hs], hd'.ycell, hd'.mcell, hk.cell (p := ⟨p, 0, none⟩) (by simp) c0, hk.cell (p := ⟨p, 1, none⟩) (by simp) c1, hW.trans0 hk⟩

set_option maxHeartbeats 2000000 in
theorem dmay68 {B tb n db : Nat} {F : List Nat} {f : Nat → List Ver} {md y : Int} {rs : List Int} {ws : List Ver} (w : World) (h : Tbl B w tb F f n) (hd : Ded w db md y rs ws) :
    Calls Tryz.prog 186 #[.pointer (some ⟨db, 0, none⟩), .pointer (some ⟨tb, 0, none⟩)] w fun e w' => e = .returned (.int .i64 (dm f md y rs ws)) ∧ Kp [] w w' := by
  have HT := hide h
  have HD := hide hd
  have HR := hide hd.range
  clear h hd
  have HC0 : Hid (cls f y ws 0 = false) := rfl
  go_enter Tryz.func186, Tryz.ntmps186
  go_wp2_with (refine wpList_load_mid rfl 160 _ rfl db 2 rfl _ _ (unhide HR) Tryz.underlying160 rfl Tryz.size160 ?_)
  obtain ⟨A, hA, hAk⟩ := notes_ex rs ws
  rw [hA]
  have HA := hide hAk
  clear hA hAk HR
  go_loopw [5, 12] (fun s i wr => ∃ k : Nat, k ≤ 8 ∧ s = .int .i64 (mcd f md y rs k) ∧ i = .int .i64 k ∧ Hid (cls f y ws k = false) ∧ Hid (Kp [] w wr)) (fun _ i _ => 8 - (intOf i).toNat)
  case atStart => exact ⟨0, by omega, by simp [mcd, stl], rfl, HC0, Kp.refl _ _⟩
  case round =>
    obtain ⟨k, hk, rfl, rfl, HC, HK⟩ := hrel
    by_cases hlt8 : k < 8
    · have i0 : (0 : Int) ≤ (k : Int) := by omega
      have i1 : (k : Int) < 8 := by omega
      have hx := (unhide HA) k hlt8
      have hdr := (unhide HD).kp0 (unhide HK)
      have qy := hdr.ycell
      have hdl := hdr.lt
      have HDR := hide hdr
      have HTR := hide ((unhide HT).kp0 (unhide HK))
      clear hdr
      generalize ((lwr ws k).getD dv).t = b2 at *
      generalize ((lwr ws k).getD dv).s = b3 at *
      generalize hsn : snc f k = sn at *
      have HSN := hide hsn
      clear hsn
      by_cases hle : sn ≤ y
      · have HN1 := hide (cls_old (ws := ws) (by rw [unhide HSN]; exact hle))
        have HN2 := hide (mcd_eq (md := md) (stl_old (rs := rs) (by rw [unhide HSN]; exact hle)))
        generalize decide ((k : Int) ∈ rs) = b0 at *
        generalize (lwr ws k).isSome = b1 at *
        go_wp2_with fail
        go_region_with (go_at_call 191; refine (may_since (p := wr.heap.size) (b0 := b0) (b1 := b1) k (unhide HTR) (unhide HDR) ((Kp.refl [] wr).alloc (.cells #[.bool b0, .bool b1, .bool b2, .string b3] 159)).drew (by simp) (by simp) sn (unhide HSN)).mono ?_; rintro e w3 ⟨rfl, z1, z0, z2, z3, HK3⟩)
        all_goals
          go_wp2_with fail
          exact ⟨⟨k + 1, by omega, by rw [unhide HN2], by go_num, by rw [unhide HN1]; exact HC, (unhide HK).trans0 (unhide HK3)⟩, by simp [intOf]; omega⟩
      · have hgt : y < sn := by omega
        cases hv : lwr ws k with
        | some v =>
          have HN := hide (dm_clash (md := md) (rs := rs) (cls_mono (cls_yes hv (by rw [unhide HSN]; exact hgt)) 8 (by omega)))
          rw [hv] at hx
          simp only [Option.isSome_some] at hx
          clear hv
          generalize decide ((k : Int) ∈ rs) = b0 at *
          go_wp2_with fail
          go_region_with (go_at_call 191; refine (may_since (p := wr.heap.size) (b0 := b0) (b1 := true) k (unhide HTR) (unhide HDR) ((Kp.refl [] wr).alloc (.cells #[.bool b0, .bool true, .bool b2, .string b3] 159)).drew (by simp) (by simp) sn (unhide HSN)).mono ?_; rintro e w3 ⟨rfl, z1, z0, z2, z3, HK3⟩)
          all_goals
            go_wp2_with fail
            go_ret
            exact ⟨ret_int (unhide HN).symm, (unhide HK).trans0 (unhide HK3)⟩
        | none =>
          have HN1 := hide (cls_no (f := f) (y := y) hv)
          rw [hv] at hx
          simp only [Option.isSome_none] at hx
          clear hv
          by_cases hr : (k : Int) ∈ rs
          · have hd : decide ((k : Int) ∈ rs) = true := by simp [hr]
            rw [hd] at hx
            clear hd
            by_cases hm : md = 2
            · have HN2 := hide (mcd_yes hm (stl_yes hr (by rw [unhide HSN]; exact hgt)))
              subst hm
              clear hr
              go_wp2_with fail
              go_region_with (go_at_call 191; refine (may_since (p := wr.heap.size) (b0 := true) (b1 := false) k (unhide HTR) (unhide HDR) ((Kp.refl [] wr).alloc (.cells #[.bool true, .bool false, .bool b2, .string b3] 159)).drew (by simp) (by simp) sn (unhide HSN)).mono ?_; rintro e w3 ⟨rfl, z1, z0, z2, z3, HK3⟩)
              all_goals
                go_wp2_with fail
                exact ⟨⟨k + 1, by omega, by rw [unhide HN2], by go_num, by rw [unhide HN1]; exact HC, (unhide HK).trans0 (unhide HK3)⟩, by simp [intOf]; omega⟩
            · have HN2 : Hid (mcd f md y rs (k + 1) = mcd f md y rs k) := by rw [mcd_not hm, mcd_not hm]; exact rfl
              have em : (md == 2) = false := beq_eq_false_iff_ne.2 hm
              clear hr hm
              go_wp2_with fail
              go_region_with (go_at_call 191; refine (may_since (p := wr.heap.size) (b0 := true) (b1 := false) k (unhide HTR) (unhide HDR) ((Kp.refl [] wr).alloc (.cells #[.bool true, .bool false, .bool b2, .string b3] 159)).drew (by simp) (by simp) sn (unhide HSN)).mono ?_; rintro e w3 ⟨rfl, z1, z0, z2, z3, HK3⟩)
              all_goals
                go_wp2_with fail
                exact ⟨⟨k + 1, by omega, by rw [unhide HN2], by go_num, by rw [unhide HN1]; exact HC, (unhide HK).trans0 (unhide HK3)⟩, by simp [intOf]; omega⟩
          · have hd : decide ((k : Int) ∈ rs) = false := by simp [hr]
            rw [hd] at hx
            have HN2 := hide (mcd_eq (md := md) (stl_no (f := f) (y := y) hr))
            clear hd hr
            go_wp2_with fail
            go_region_with (go_at_call 191; refine (may_since (p := wr.heap.size) (b0 := false) (b1 := false) k (unhide HTR) (unhide HDR) ((Kp.refl [] wr).alloc (.cells #[.bool false, .bool false, .bool b2, .string b3] 159)).drew (by simp) (by simp) sn (unhide HSN)).mono ?_; rintro e w3 ⟨rfl, z1, z0, z2, z3, HK3⟩)
            all_goals
              go_wp2_with fail
              exact ⟨⟨k + 1, by omega, by rw [unhide HN2], by go_num, by rw [unhide HN1]; exact HC, (unhide HK).trans0 (unhide HK3)⟩, by simp [intOf]; omega⟩
    · have e : k = 8 := by omega
      subst e
      have HN := hide (dm_end (md := md) (rs := rs) (unhide HC))
      go_wp2_with fail
      go_ret
      exact ⟨ret_int (unhide HN).symm, unhide HK⟩
end
/- Package vault, by contracts: New, Log, Crash, Begin, writes, Commit, tearLog, Tear. -/
section
open Go.RowKit
attribute [local go_sem ↓] Go.wp_at_zero Go.wp_at_succ

theorem vlt_new {w w1 w2 : World} {tb gb : Nat} {Ft Fg : List Nat} {f : Nat → List Ver} {n : Nat} {cs : List (List Ver)} {torn : List UInt8} (h1 : Tbl w.heap.size w1 tb Ft f n) (k1 : Kp [] w w1) (h2 : Lg w1.heap.size w2 gb Fg cs torn) (k2 : Kp [] w1 w2) :
    Vlt w.heap.size (w2.alloc (.cells #[.pointer (some ⟨tb, 0, none⟩), .pointer (some ⟨gb, 0, none⟩)] 77)) w2.heap.size tb gb (w2.heap.size :: (Ft ++ Fg)) Ft Fg f n cs torn := by
  have ka : Kp [] w2 (w2.alloc (.cells #[.pointer (some ⟨tb, 0, none⟩), .pointer (some ⟨gb, 0, none⟩)] 77)) := (Kp.refl [] w2).alloc _
  have hs1 := k1.size
  have hs2 := k2.size
  have hsa : (w2.alloc (.cells #[.pointer (some ⟨tb, 0, none⟩), .pointer (some ⟨gb, 0, none⟩)] 77)).heap.size = w2.heap.size + 1 := by simp
  refine ⟨heap_alloc_new w2 _, (h1.kp0 k2).kp0 ka, (h2.base hs1).kp0 ka, fun hm => ?_, fun hm => ?_, fun x hx hm => ?_, by simp, fun x hx => by simp [hx], fun x hx => by simp [hx], fun x hx => ?_⟩
  · have := (h1.lo _ hm).2; omega
  · have := (h2.lo _ hm).2; omega
  · have := (h1.lo x hx).2
    have := (h2.lo x hm).1
    omega
  · rw [hsa]
    rcases List.mem_cons.1 hx with e | e
    · omega
    · rcases List.mem_append.1 e with e | e
      · have := h1.lo x e; omega
      · have := h2.lo x e; omega

theorem own_addr1 {B : Nat} {w : World} {e : TypeId} {size n cap : Nat} {a : Option Addr} {xs : List Value} (h : w.ownsRow B e size (.slice a n cap) n xs) : ∀ g o, a = some ⟨g, o, none⟩ → B ≤ g ∧ g < w.heap.size := by
  intro g o ea
  subst ea
  exact h.lt g rfl
set_option maxHeartbeats 400000 in
theorem vnew (w : World) : Calls Tryz.prog 20 #[] w fun e w' => ∃ vb tb gb F, e = .returned (.pointer (some ⟨vb, 0, none⟩)) ∧ (VltT vb tb gb (fun _ => [dv]) 0 [] []).holds w.heap.size w' F ∧ Kp [] w w' := by
  go_enter Tryz.func20, Tryz.ntmps20
  go_wp2_with fail
  refine (tnew47 w).mono ?_
  rintro e w1 ⟨rfl, ⟨Ft, hT⟩, hk1⟩
  have HT := hide hT
  have HK1 := hide hk1
  clear hT hk1
  generalize ht : w.heap.size = tb at HT ⊢
  have HTB := hide ht
  clear ht
  go_wp2_with fail
  refine (lnew w1).mono ?_
  rintro e w2 ⟨rfl, hL, hk2⟩
  have HL := hide hL
  have HK2 := hide hk2
  clear hL hk2
  generalize hg : w1.heap.size = gb at HL ⊢
  have HGB := hide hg
  clear hg
  go_wp2_with fail
  go_ret
  have e1 := (unhide HTB).symm
  subst e1
  have e2 := (unhide HGB).symm
  subst e2
  exact ⟨_, _, _, _, rfl, ⟨_, _, vlt_new (unhide HT) (unhide HK1) (unhide HL) (unhide HK2)⟩, ((unhide HK1).trans0 (unhide HK2)).alloc _⟩

set_option maxHeartbeats 400000 in
theorem vcrash {B vb tb gb n : Nat} {F Ft Fg : List Nat} {f : Nat → List Ver} {cs : List (List Ver)} {torn : List UInt8} (w : World) (h : Vlt B w vb tb gb F Ft Fg f n cs torn) :
    Calls Tryz.prog 88 #[.pointer (some ⟨vb, 0, none⟩)] w fun e w' => e = .returned (.tuple #[]) ∧ ∃ tb', Ch (VltT vb tb' gb (wal0 cs) cs.length cs []) B w F w' := by
  have c1 := h.c1
  have HI := hide h.g.inv
  have HV := hide h
  have HG := hide h.g
  clear h
  go_enter Tryz.func88, Tryz.ntmps88
  go_wp2_with fail
  refine (lmend w (unhide HG)).mono ?_
  rintro e w1 ⟨rfl, hL, hk⟩
  obtain ⟨F1, ⟨Ft1, Fg1, h1⟩, k1, s1⟩ := (unhide HV).log ⟨Fg, hL, hk, fun x hx => .inl hx⟩
  have d1 := h1.c1
  have H1 := hide h1
  have K1 := hide k1
  have S1 := hide s1
  clear h1 k1 s1 c1 HG HV hL hk
  go_wp2_with fail
  refine (lbytes w1 (unhide H1).g).mono ?_
  rintro e w2 ⟨a, nb, cap, rfl, hn, hcap, hbyt, hk2⟩
  have HN := hide hn
  have HB := hide hbyt
  have K2 := hide hk2
  have HC := hide hcap
  clear hn hbyt hk2 hcap
  go_wp2_with fail
  refine (ltable25 a nb cap (lb cs ++ []) w2 (unhide HB) (unhide HN) (unhide HC) (by rw [List.append_nil]; have := (unhide HI).b3000; omega)).mono ?_
  rintro e w3 ⟨tb', Ft', p, rfl, hp, hT, hk3⟩
  have K3 := hide hk3
  have HT := hide hT
  rw [List.append_nil, dcs_all (unhide HI)] at HT
  have h3 := (unhide H1).kp0 ((unhide K2).trans0 hk3)
  have d0 := h3.c0
  have f0 := h3.fz 0
  clear h3 hT hk3 hp d1
  go_wp2_with fail
  go_end0
  exact ⟨rfl, tb', Ch.trans (unhide K1) (unhide S1) ((unhide H1).put ((unhide K2).trans0 (unhide K3)) ((unhide HT).base (unhide K2).size))⟩

set_option maxHeartbeats 400000 in
theorem vwrites {B vb tb gb n db : Nat} {F Ft Fg : List Nat} {f : Nat → List Ver} {cs : List (List Ver)} {torn : List UInt8} {md y : Int} {rs : List Int} {ws : List Ver} (w : World) (h : Vlt B w vb tb gb F Ft Fg f n cs torn) (hd : Ded w db md y rs ws) :
    Calls Tryz.prog 169 #[.pointer (some ⟨vb, 0, none⟩), .pointer (some ⟨db, 0, none⟩)] w fun e w' => LstEnd (if dm f md y rs ws = 0 then wk ws 8 else [], dm f md y rs ws) w e w' := by
  have c0 := h.c0
  have HM := hide (dmay68 w h.t hd)
  have HD := hide hd
  clear h hd
  generalize dm f md y rs ws = z at *
  by_cases hz : z = 0
  · subst hz
    rw [if_pos rfl]
    go_enter Tryz.func169, Tryz.ntmps169
    go_wp2_with fail
    refine (unhide HM).mono ?_
    rintro e w1 ⟨rfl, hk1⟩
    have HK1 := hide hk1
    clear hk1 HM
    go_wp2_with fail
    refine (dwrites66 w1 ((unhide HD).kp0 (unhide HK1))).mono ?_
    rintro e w2 ⟨a, cap, rfl, ho, hk2⟩
    have HO := hide ho
    have HK2 := hide hk2
    clear ho hk2
    go_wp2_with fail
    go_ret2
    exact ⟨a, cap, rfl, own_base (unhide HO) (unhide HK1).size, (unhide HK1).trans0 (unhide HK2)⟩
  · rw [if_neg hz]
    go_enter Tryz.func169, Tryz.ntmps169
    go_wp2_with fail
    refine (unhide HM).mono ?_
    rintro e w1 ⟨rfl, hk1⟩
    have HK1 := hide hk1
    clear hk1 HM
    go_wp2_with fail
    go_ret2
    exact ⟨none, 0, rfl, World.ownsRow_nil _ _ _ _, unhide HK1⟩

/-- What Begin tells, and leaves. -/
def VbEnd (f : Nat → List Ver) (n : Nat) (md at_ : Int) (w : World) (e : Ending) (w' : World) : Prop :=
  (bcode f n md at_ = 0 ∧ ∃ D, e = .returned (.tuple #[.pointer (some ⟨D, 0, none⟩), .int .i64 0]) ∧ w.heap.size ≤ D ∧ Ded w' D md (bat n md at_) [] [] ∧ Kp [] w w') ∨
  (¬ bcode f n md at_ = 0 ∧ e = .returned (.tuple #[.pointer none, .int .i64 (bcode f n md at_)]) ∧ Kp [] w w')

set_option maxHeartbeats 1000000 in
theorem vbegin {B vb tb gb n : Nat} {F Ft Fg : List Nat} {f : Nat → List Ver} {cs : List (List Ver)} {torn : List UInt8} (md at_ : Int) (w : World) (h : Vlt B w vb tb gb F Ft Fg f n cs torn) :
    Calls Tryz.prog 131 #[.pointer (some ⟨vb, 0, none⟩), .int .i64 md, .int .i64 at_] w fun e w' => VbEnd f n md at_ w e w' := by
  have c0 := h.c0
  have HT := hide h.t
  obtain ⟨x0, x1⟩ := fmx_le h.t.inv 8 (Nat.le_refl _)
  have hn40 := h.t.inv.n40
  clear h
  by_cases hm : 1 ≤ md ∧ md ≤ 3
  · by_cases h3 : md = 3
    · subst h3
      by_cases hr : at_ < 0 ∨ (n : Int) < at_
      · have hb : bcode f n 3 at_ = 1 := by unfold bcode; rw [if_pos (by omega), if_pos rfl, if_pos hr]
        unfold VbEnd
        rw [hb]
        clear hb
        rcases hr with hr | hr
        · go_enter Tryz.func131, Tryz.ntmps131
          go_wp2_with fail
          refine (dnew54 3 at_ w).mono ?_
          rintro e w1 (⟨_, _, rfl, hd, hk⟩ | ⟨hc, _, _⟩)
          rotate_left
          · exact (hc ⟨by omega, by omega⟩).elim
          have HD := hide hd
          have HK := hide hk
          have HT1 := hide ((unhide HT).kp0 hk)
          have d0 : w1.cell? ⟨vb, 0, none⟩ = some (.pointer (some ⟨tb, 0, none⟩)) := hk.cell (by simp) c0
          clear hd hk c0 HT
          generalize hD : w.heap.size = D at HD ⊢
          have HE := hide hD
          clear hD
          go_wp2_with fail
          go_ret2
          exact .inr ⟨by omega, rfl, unhide HK⟩
        · have hr0 : ¬ at_ < 0 := by omega
          go_enter Tryz.func131, Tryz.ntmps131
          go_wp2_with fail
          refine (dnew54 3 at_ w).mono ?_
          rintro e w1 (⟨_, _, rfl, hd, hk⟩ | ⟨hc, _, _⟩)
          rotate_left
          · exact (hc ⟨by omega, by omega⟩).elim
          have HD := hide hd
          have HK := hide hk
          have HT1 := hide ((unhide HT).kp0 hk)
          have d0 : w1.cell? ⟨vb, 0, none⟩ = some (.pointer (some ⟨tb, 0, none⟩)) := hk.cell (by simp) c0
          clear hd hk c0 HT
          generalize hD : w.heap.size = D at HD ⊢
          have HE := hide hD
          clear hD
          go_wp2_with fail
          refine (tlast38 w1 (unhide HT1)).mono ?_
          rintro e w2 ⟨rfl, hw⟩
          subst w2
          go_wp2_with fail
          go_ret2
          exact .inr ⟨by omega, rfl, unhide HK⟩
      · by_cases ho : at_ < fmx f 8
        · have hb : bcode f n 3 at_ = 12 := by unfold bcode; rw [if_pos (by omega), if_pos rfl, if_neg hr, if_pos ho]
          unfold VbEnd
          rw [hb]
          clear hb
          have hr0 : ¬ at_ < 0 := by omega
          have hr1 : ¬ (n : Int) < at_ := by omega
          go_enter Tryz.func131, Tryz.ntmps131
          go_wp2_with fail
          refine (dnew54 3 at_ w).mono ?_
          rintro e w1 (⟨_, _, rfl, hd, hk⟩ | ⟨hc, _, _⟩)
          rotate_left
          · exact (hc ⟨by omega, by omega⟩).elim
          have HD := hide hd
          have HK := hide hk
          have HT1 := hide ((unhide HT).kp0 hk)
          have d0 : w1.cell? ⟨vb, 0, none⟩ = some (.pointer (some ⟨tb, 0, none⟩)) := hk.cell (by simp) c0
          clear hd hk c0 HT
          generalize hD : w.heap.size = D at HD ⊢
          have HE := hide hD
          clear hD
          go_wp2_with fail
          refine (tlast38 w1 (unhide HT1)).mono ?_
          rintro e w2 ⟨rfl, hw⟩
          subst w2
          go_wp2_with fail
          refine (tfirst42 w1 (unhide HT1)).mono ?_
          rintro e w2 ⟨rfl, hw⟩
          subst w2
          go_wp2_with fail
          go_ret2
          exact .inr ⟨by omega, rfl, unhide HK⟩
        · have hb : bcode f n 3 at_ = 0 := by unfold bcode; rw [if_pos (by omega), if_pos rfl, if_neg hr, if_neg ho]
          unfold VbEnd
          rw [hb]
          clear hb
          have hr0 : ¬ at_ < 0 := by omega
          have hr1 : ¬ (n : Int) < at_ := by omega
          go_enter Tryz.func131, Tryz.ntmps131
          go_wp2_with fail
          refine (dnew54 3 at_ w).mono ?_
          rintro e w1 (⟨_, _, rfl, hd, hk⟩ | ⟨hc, _, _⟩)
          rotate_left
          · exact (hc ⟨by omega, by omega⟩).elim
          have HD := hide hd
          have HK := hide hk
          have HT1 := hide ((unhide HT).kp0 hk)
          have d0 : w1.cell? ⟨vb, 0, none⟩ = some (.pointer (some ⟨tb, 0, none⟩)) := hk.cell (by simp) c0
          clear hd hk c0 HT
          generalize hD : w.heap.size = D at HD ⊢
          have HE := hide hD
          clear hD
          go_wp2_with fail
          refine (tlast38 w1 (unhide HT1)).mono ?_
          rintro e w2 ⟨rfl, hw⟩
          subst w2
          go_wp2_with fail
          refine (tfirst42 w1 (unhide HT1)).mono ?_
          rintro e w2 ⟨rfl, hw⟩
          subst w2
          go_wp2_with fail
          go_ret2
          exact .inl ⟨by trivial, D, rfl, by have := unhide HE; omega, by rw [show bat n 3 at_ = at_ from if_pos rfl]; exact unhide HD, unhide HK⟩
    · have hb : bcode f n md at_ = 0 := by unfold bcode; rw [if_pos hm, if_neg h3]
      unfold VbEnd
      rw [hb]
      clear hb
      have hr0 : ¬ (n : Int) < 0 := by omega
      have hr1 : ¬ (n : Int) < (n : Int) := by omega
      have hr2 : ¬ (n : Int) < fmx f 8 := by omega
      go_enter Tryz.func131, Tryz.ntmps131
      go_wp2_with fail
      refine (tlast38 w (unhide HT)).mono ?_
      rintro e w0 ⟨rfl, hw⟩
      subst w0
      go_wp2_with fail
      refine (dnew54 md n w).mono ?_
      rintro e w1 (⟨_, _, rfl, hd, hk⟩ | ⟨hc, _, _⟩)
      rotate_left
      · exact (hc ⟨by omega, by omega⟩).elim
      have HD := hide hd
      have HK := hide hk
      have HT1 := hide ((unhide HT).kp0 hk)
      have d0 : w1.cell? ⟨vb, 0, none⟩ = some (.pointer (some ⟨tb, 0, none⟩)) := hk.cell (by simp) c0
      clear hd hk c0 HT
      generalize hD : w.heap.size = D at HD ⊢
      have HE := hide hD
      clear hD
      go_wp2_with fail
      refine (tlast38 w1 (unhide HT1)).mono ?_
      rintro e w2 ⟨rfl, hw⟩
      subst w2
      go_wp2_with fail
      refine (tfirst42 w1 (unhide HT1)).mono ?_
      rintro e w2 ⟨rfl, hw⟩
      subst w2
      go_wp2_with fail
      go_ret2
      exact .inl ⟨by trivial, D, rfl, by have := unhide HE; omega, by rw [show bat n md at_ = n from if_neg h3]; exact unhide HD, unhide HK⟩
  · have hb : bcode f n md at_ = 3 := by unfold bcode; rw [if_neg hm]
    have h3 : ¬ md = 3 := by omega
    unfold VbEnd
    rw [hb]
    clear hb
    go_enter Tryz.func131, Tryz.ntmps131
    go_wp2_with fail
    refine (tlast38 w (unhide HT)).mono ?_
    rintro e w0 ⟨rfl, hw⟩
    subst w0
    go_wp2_with fail
    refine (dnew54 md n w).mono ?_
    rintro e w1 (⟨q1, q2, _⟩ | ⟨_, rfl, hw⟩)
    · exact (hm ⟨q1, q2⟩).elim
    subst w1
    go_wp2_with fail
    go_ret2
    exact .inr ⟨by omega, rfl, Kp.refl _ _⟩

set_option maxHeartbeats 1000000 in
theorem vcommit {B vb tb gb n db : Nat} {F Ft Fg : List Nat} {f : Nat → List Ver} {cs : List (List Ver)} {md y : Int} {rs : List Int} {ws : List Ver} (w : World) (h : Vlt B w vb tb gb F Ft Fg f n cs []) (hv : VI f n cs) (hd : Ded w db md y rs ws) (hw : WOk ws) :
    Calls Tryz.prog 136 #[.pointer (some ⟨vb, 0, none⟩), .pointer (some ⟨db, 0, none⟩)] w fun e w' => e = .returned (.tuple #[.int .i64 (vnum f n cs md y rs ws), .int .i64 (vcode f cs md y rs ws)]) ∧ Ch (VltT vb tb gb (vf f n cs md y rs ws) (vn f n cs md y rs ws) (vcs f cs md y rs ws) []) B w F w' := by
  have HW := hide (vwrites w h hd)
  have HV := hide h
  have hpl := wk_len ws 8
  have HP := hide hw.pf
  have HR := hide hv
  have hn40 := h.t.inv.n40
  clear h hd hw hv
  by_cases hz : dm f md y rs ws = 0
  · rw [if_pos hz, hz] at HW
    by_cases hl : (wk ws 8).length = 0
    · obtain ⟨e1, e2⟩ := v_none (cs := cs) hz hl
      obtain ⟨e3, e4, e5, e6⟩ := v_not (n := n) e2
      rw [e1, e3, e4, e5, e6]
      clear e1 e2 e3 e4 e5 e6 HR HP
      go_enter Tryz.func136, Tryz.ntmps136
      go_wp2_with fail
      refine (unhide HW).mono ?_
      rintro e w1 ⟨a, cap, rfl, _, hk⟩
      rw [hl]
      have HK := hide hk
      clear hk hl
      go_wp2_with fail
      go_ret2
      exact ⟨rfl, Ch.same ⟨Ft, Fg, unhide HV⟩ (unhide HK)⟩
    · have HL := hide hl
      by_cases hc : lcode cs (wk ws 8) = 0
      · obtain ⟨e1, e2⟩ := v_yes hz hl hc
        obtain ⟨e3, e4, e5, e6⟩ := v_did (n := n) e2
        rw [e1, e3, e4, e5, e6]
        clear e1 e2 e3 e4 e5 e6
        obtain ⟨q1, q2, q3⟩ := (unhide HR).room hc
        have hlp : lput cs (wk ws 8) = cs ++ [wk ws 8] := by unfold lput; rw [if_pos hc]
        have HLP := hide hlp
        have HC := hide hc
        have HQ := hide (And.intro q1 (And.intro q2 q3))
        clear q1 q2 q3 hlp hc hz
        generalize wk ws 8 = ps at *
        go_enter Tryz.func136, Tryz.ntmps136
        go_wp2_with fail
        refine (unhide HW).mono ?_
        rintro e w1 ⟨a, cap, rfl, ho, hk⟩
        dsimp only at ho ⊢
        have h1 := (unhide HV).kp0 hk
        have d1 := h1.c1
        have HPR := hide (slo_prs (slo_own ho rfl) (unhide HP))
        have HO := hide ho
        have H1 := hide h1
        have HK := hide hk
        clear ho h1 hk HW
        go_wp2_with fail
        refine (lput31 a cap ps w1 (unhide H1).g (unhide HPR) (by omega)).mono ?_
        rintro e w2 ⟨rfl, hL⟩
        rw [unhide HC]
        rw [unhide HLP] at hL
        obtain ⟨F2, ⟨Ft2, Fg2, h2⟩, k2, s2⟩ := (unhide H1).log hL
        have hfar : ∀ g o, a = some ⟨g, o, none⟩ → g ∉ F := fun g o ea hm => by
          have h3 := (own_addr1 (unhide HO) g o ea).1
          have h4 := ((unhide HV).lo g hm).2
          omega
        have hfar2 : ∀ g o, a = some ⟨g, o, none⟩ → g ∉ Ft2 := fun g o ea hm => by
          rcases s2 g (h2.tF g hm) with e | e
          · exact hfar g o ea e
          · have h3 := (own_addr1 (unhide HO) g o ea).2
            omega
        have HPR2 := hide ((unhide HPR).kp k2 hfar)
        have HFAR := hide hfar2
        have d0 := h2.c0
        have H2 := hide h2
        have K2 := hide k2
        have S2 := hide s2
        clear h2 k2 s2 hL hfar hfar2 d1
        go_wp2_with fail
        refine (twrite45 a cap ps w2 (unhide H2).t (unhide HPR2) (fun _ => unhide HFAR) (by omega)).mono ?_
        rintro e w3 ⟨rfl, Ft3, hT, hk3, hs3⟩
        rw [(unhide HQ).1, (unhide HQ).2.2]
        rw [(unhide HQ).2.1] at hT
        have HZ := hide (Ch.after (unhide HK) (Ch.trans (unhide K2) (unhide S2) ((unhide H2).table hT hk3 hs3)))
        clear hT hk3 hs3
        go_wp2_with fail
        go_ret2
        exact ⟨rfl, unhide HZ⟩
      · obtain ⟨e1, e2⟩ := v_full hz hl hc
        obtain ⟨e3, e4, e5, e6⟩ := v_not (n := n) e2
        rw [e1, e3, e4, e5, e6]
        clear e1 e2 e3 e4 e5 e6
        have hlp : lput cs (wk ws 8) = cs := by unfold lput; rw [if_neg hc]
        have HLP := hide hlp
        clear hlp hz
        generalize hzz : lcode cs (wk ws 8) = z at *
        have HZZ := hide hzz
        clear hzz
        generalize wk ws 8 = ps at *
        go_enter Tryz.func136, Tryz.ntmps136
        go_wp2_with fail
        refine (unhide HW).mono ?_
        rintro e w1 ⟨a, cap, rfl, ho, hk⟩
        dsimp only at ho ⊢
        have h1 := (unhide HV).kp0 hk
        have d1 := h1.c1
        have HPR := hide (slo_prs (slo_own ho rfl) (unhide HP))
        have H1 := hide h1
        have HK := hide hk
        clear ho h1 hk HW
        go_wp2_with fail
        refine (lput31 a cap ps w1 (unhide H1).g (unhide HPR) (by omega)).mono ?_
        rintro e w2 ⟨rfl, hL⟩
        rw [unhide HZZ]
        rw [unhide HLP] at hL
        have HX := hide (Ch.after (unhide HK) ((unhide H1).log hL))
        clear hL d1
        go_wp2_with fail
        go_ret2
        exact ⟨rfl, unhide HX⟩
  · rw [if_neg hz] at HW
    obtain ⟨e1, e2⟩ := v_may (cs := cs) hz
    obtain ⟨e3, e4, e5, e6⟩ := v_not (n := n) e2
    rw [e1, e3, e4, e5, e6]
    clear e1 e2 e3 e4 e5 e6 HR HP
    generalize dm f md y rs ws = z at *
    go_enter Tryz.func136, Tryz.ntmps136
    go_wp2_with fail
    refine (unhide HW).mono ?_
    rintro e w1 ⟨a, cap, rfl, _, hk⟩
    have HK := hide hk
    clear hk HW
    go_wp2_with fail
    go_ret2
    exact ⟨rfl, Ch.same ⟨Ft, Fg, unhide HV⟩ (unhide HK)⟩

set_option maxHeartbeats 1000000 in
theorem vtearLog {B vb tb gb n db : Nat} {F Ft Fg : List Nat} {f : Nat → List Ver} {cs : List (List Ver)} {md y : Int} {rs : List Int} {ws : List Ver} (keep : Int) (w : World) (h : Vlt B w vb tb gb F Ft Fg f n cs []) (hd : Ded w db md y rs ws) (hw : WOk ws) :
    Calls Tryz.prog 171 #[.pointer (some ⟨vb, 0, none⟩), .pointer (some ⟨db, 0, none⟩), .int .i64 keep] w fun e w' => e = .returned (.int .i64 (vcode f cs md y rs ws)) ∧ ∃ torn, Ch (VltT vb tb gb f n (tcs f cs md y rs ws keep) torn) B w F w' := by
  have HW := hide (vwrites w h hd)
  have HV := hide h
  have hpl := wk_len ws 8
  have HP := hide hw.pf
  clear h hd hw
  by_cases hz : dm f md y rs ws = 0
  · rw [if_pos hz, hz] at HW
    by_cases hl : (wk ws 8).length = 0
    · rw [(v_none (cs := cs) hz hl).1, t_none (f := f) (cs := cs) (md := md) (y := y) (rs := rs) (keep := keep) hl]
      clear HP
      go_enter Tryz.func171, Tryz.ntmps171
      go_wp2_with fail
      refine (unhide HW).mono ?_
      rintro e w1 ⟨a, cap, rfl, _, hk⟩
      rw [hl]
      have HK := hide hk
      clear hk hl
      go_wp2_with fail
      go_ret
      exact ⟨rfl, [], Ch.same ⟨Ft, Fg, unhide HV⟩ (unhide HK)⟩
    · have hvc : vcode f cs md y rs ws = lcode cs (wk ws 8) := by unfold vcode; rw [if_pos hz, if_neg hl]
      rw [hvc, t_tear hz hl]
      clear hvc hz
      generalize wk ws 8 = ps at *
      go_enter Tryz.func171, Tryz.ntmps171
      go_wp2_with fail
      refine (unhide HW).mono ?_
      rintro e w1 ⟨a, cap, rfl, ho, hk⟩
      dsimp only at ho ⊢
      have h1 := (unhide HV).kp0 hk
      have d1 := h1.c1
      have HPR := hide (slo_prs (slo_own ho rfl) (unhide HP))
      have H1 := hide h1
      have HK := hide hk
      clear ho h1 hk HW
      go_wp2_with fail
      refine (ltear30 a cap ps keep w1 (unhide H1).g (unhide HPR) (by omega)).mono ?_
      rintro e w2 ⟨rfl, hL⟩
      have HX := hide (Ch.after (unhide HK) ((unhide H1).log hL))
      clear hL d1
      go_wp2_with fail
      go_ret
      exact ⟨rfl, _, unhide HX⟩
  · rw [if_neg hz] at HW
    rw [(v_may (cs := cs) hz).1, t_may hz]
    clear HP
    generalize dm f md y rs ws = z at *
    go_enter Tryz.func171, Tryz.ntmps171
    go_wp2_with fail
    refine (unhide HW).mono ?_
    rintro e w1 ⟨a, cap, rfl, _, hk⟩
    have HK := hide hk
    clear hk HW
    go_wp2_with fail
    go_ret
    exact ⟨rfl, [], Ch.same ⟨Ft, Fg, unhide HV⟩ (unhide HK)⟩

set_option maxHeartbeats 1000000 in
theorem vtear {B vb tb gb n db : Nat} {F Ft Fg : List Nat} {f : Nat → List Ver} {cs : List (List Ver)} {md y : Int} {rs : List Int} {ws : List Ver} (keep : Int) (w : World) (h : Vlt B w vb tb gb F Ft Fg f n cs []) (hv : VI f n cs) (hd : Ded w db md y rs ws) (hw : WOk ws) :
    Calls Tryz.prog 137 #[.pointer (some ⟨vb, 0, none⟩), .pointer (some ⟨db, 0, none⟩), .int .i64 keep] w fun e w' => e = .returned (.tuple #[.int .i64 (tnum f cs md y rs ws keep), .int .i64 (vcode f cs md y rs ws)]) ∧ ∃ tb', Ch (VltT vb tb' gb (wal0 (tcs f cs md y rs ws keep)) (tcs f cs md y rs ws keep).length (tcs f cs md y rs ws keep) []) B w F w' := by
  have HG := hide (vtearLog keep w h hd hw)
  have c0 := h.c0
  have HV := hide h
  have hn40 := h.t.inv.n40
  have hlen := hv.len
  clear h hd hw hv
  rcases tcs_cases (f := f) (cs := cs) (md := md) (y := y) (rs := rs) (ws := ws) (keep := keep) with hcs | ⟨hcs, hc0, _⟩
  · rw [tnum_same hcs]
    have HCS := hide hcs
    rw [hcs]
    clear hcs
    have HLEN := hide hlen
    clear hlen
    generalize hzz : vcode f cs md y rs ws = z at *
    clear hzz
    by_cases hz : z = 0
    · subst hz
      go_enter Tryz.func137, Tryz.ntmps137
      go_wp2_with fail
      refine (tlast38 w (unhide HV).t).mono ?_
      rintro e w0 ⟨rfl, hw0⟩
      subst w0
      go_wp2_with fail
      refine (unhide HG).mono ?_
      rintro e w1 ⟨rfl, torn, F1, ⟨Ft1, Fg1, h1⟩, k1, s1⟩
      have H1 := hide h1
      have K1 := hide k1
      have S1 := hide s1
      clear h1 k1 s1 HG
      rw [unhide HCS] at H1
      go_wp2_with fail
      refine (vcrash w1 (unhide H1)).mono ?_
      rintro e w2 ⟨rfl, tb2, F2, ⟨Ft2, Fg2, h2⟩, k2, s2⟩
      have d0 := h2.c0
      have H2 := hide h2
      have HX := hide (Ch.trans (o' := VltT vb tb2 gb (wal0 cs) cs.length cs []) (unhide K1) (unhide S1) ⟨F2, ⟨Ft2, Fg2, h2⟩, k2, s2⟩)
      clear h2 k2 s2 c0
      go_wp2_with fail
      refine (tlast38 w2 (unhide H2).t).mono ?_
      rintro e w3 ⟨rfl, hw3⟩
      subst w3
      rw [← unhide HLEN]
      go_wp2_with fail
      go_ret2
      exact ⟨rfl, tb2, unhide HX⟩
    · go_enter Tryz.func137, Tryz.ntmps137
      go_wp2_with fail
      refine (tlast38 w (unhide HV).t).mono ?_
      rintro e w0 ⟨rfl, hw0⟩
      subst w0
      go_wp2_with fail
      refine (unhide HG).mono ?_
      rintro e w1 ⟨rfl, torn, F1, ⟨Ft1, Fg1, h1⟩, k1, s1⟩
      have H1 := hide h1
      have K1 := hide k1
      have S1 := hide s1
      clear h1 k1 s1 HG
      rw [unhide HCS] at H1
      go_wp2_with fail
      refine (vcrash w1 (unhide H1)).mono ?_
      rintro e w2 ⟨rfl, tb2, F2, ⟨Ft2, Fg2, h2⟩, k2, s2⟩
      have d0 := h2.c0
      have H2 := hide h2
      have HX := hide (Ch.trans (o' := VltT vb tb2 gb (wal0 cs) cs.length cs []) (unhide K1) (unhide S1) ⟨F2, ⟨Ft2, Fg2, h2⟩, k2, s2⟩)
      clear h2 k2 s2 c0
      go_wp2_with fail
      go_ret2
      exact ⟨rfl, tb2, unhide HX⟩
  · rw [tnum_more hcs, hc0]
    rw [hc0] at HG
    have HCS := hide hcs
    rw [hcs]
    clear hcs hc0
    have HLEN := hide hlen
    have hN : ¬ ((cs ++ [wk ws 8]).length : Int) = (n : Int) := by have : (cs ++ [wk ws 8]).length = cs.length + 1 := (by simp); omega
    have hN2 : ((cs ++ [wk ws 8]).length : Int) = (cs.length : Int) + 1 := by simp
    generalize cs ++ [wk ws 8] = cs2 at *
    have HN2 := hide hN2
    clear hlen hN2
    go_enter Tryz.func137, Tryz.ntmps137
    go_wp2_with fail
    refine (tlast38 w (unhide HV).t).mono ?_
    rintro e w0 ⟨rfl, hw0⟩
    subst w0
    go_wp2_with fail
    refine (unhide HG).mono ?_
    rintro e w1 ⟨rfl, torn, F1, ⟨Ft1, Fg1, h1⟩, k1, s1⟩
    have H1 := hide h1
    have K1 := hide k1
    have S1 := hide s1
    clear h1 k1 s1 HG
    rw [unhide HCS] at H1
    go_wp2_with fail
    refine (vcrash w1 (unhide H1)).mono ?_
    rintro e w2 ⟨rfl, tb2, F2, ⟨Ft2, Fg2, h2⟩, k2, s2⟩
    have d0 := h2.c0
    have H2 := hide h2
    have HX := hide (Ch.trans (o' := VltT vb tb2 gb (wal0 cs2) cs2.length cs2 []) (unhide K1) (unhide S1) ⟨F2, ⟨Ft2, Fg2, h2⟩, k2, s2⟩)
    clear h2 k2 s2 c0
    go_wp2_with fail
    refine (tlast38 w2 (unhide H2).t).mono ?_
    rintro e w3 ⟨rfl, hw3⟩
    subst w3
    go_wp2_with fail
    refine (tlast38 w2 (unhide H2).t).mono ?_
    rintro e w3 ⟨rfl, hw3⟩
    subst w3
    go_wp2_with fail
    go_ret2
    exact ⟨by rw [unhide HN2]; rfl, tb2, unhide HX⟩

end
/- May of the document's deed, by its contract. -/
section
open Go.RowKit
attribute [local go_sem ↓] Go.wp_at_zero Go.wp_at_succ

end
/- The document's court, by contracts: NewCourt, Begin, commit, again. -/
section
open Go.RowKit
attribute [local go_sem ↓] Go.wp_at_zero Go.wp_at_succ

theorem Sht.ncell {B : Nat} {w : World} {sb : Nat} {G : List Nat} {f : Nat → List Ver} {n : Nat} (h : Sht B w sb G f n) : w.cell? ⟨sb, 8, none⟩ = some (.int .i64 n) := by
  obtain ⟨g, o, cap, h⟩ := h
  exact h.ncell
theorem Sht.inv {B : Nat} {w : World} {sb : Nat} {G : List Nat} {f : Nat → List Ver} {n : Nat} (h : Sht B w sb G f n) : Inv f n := by
  obtain ⟨g, o, cap, h⟩ := h
  exact h.inv
theorem Sht.lt {B : Nat} {w : World} {sb : Nat} {G : List Nat} {f : Nat → List Ver} {n : Nat} (h : Sht B w sb G f n) : sb < w.heap.size := by
  obtain ⟨g, o, cap, h⟩ := h
  exact (h.lo sb h.sG).2
end
/- The document's court: again, by its contract. -/
section
open Go.RowKit
attribute [local go_sem ↓] Go.wp_at_zero Go.wp_at_succ

/-- At the head of a round of again: the first i commits are written. -/
structure AgL (B : Nat) (w : World) (G : List Nat) (cb sb : Nat) (bx : Array Value) (st : Nat → Option Addr) (aL : Option Addr) (capL : Nat) (xs : List El) (i : Nat) (wr : World) (Gr Gs : List Nat) : Prop where
  r : ∃ aT cT, RxL B wr cb 1 bx 68 Gr aL capL xs aT cT []
  s : Sht B wr sb Gs (wal0 ((cps xs).take i)) i
  rs : ∀ x, x ∈ Gr → x ∉ Gs
  b0 : bx[0]? = some (.pointer (some ⟨sb, 0, none⟩))
  bs : ∀ j, j < 5 → bx[3 + j]? = some (.pointer (st j))
  sz : bx.size = 8
  kp : Kp G w wr
  rG : ∀ x, x ∈ Gr → x ∈ G ∨ w.heap.size ≤ x
  sG : ∀ x, x ∈ Gs → x ∈ G ∨ w.heap.size ≤ x
def Ag (B : Nat) (w : World) (G : List Nat) (cb sb : Nat) (bx : Array Value) (st : Nat → Option Addr) (aL : Option Addr) (capL : Nat) (xs : List El) (i : Nat) (wr : World) : Prop := ∃ Gr Gs, AgL B w G cb sb bx st aL capL xs i wr Gr Gs
section
variable {B : Nat} {w wr w' : World} {G : List Nat} {cb sb : Nat} {bx : Array Value} {st : Nat → Option Addr} {aL : Option Addr} {capL : Nat} {xs : List El} {i : Nat}
theorem Ag.kp0 (h : Ag B w G cb sb bx st aL capL xs i wr) (hk : Kp [] wr w') : Ag B w G cb sb bx st aL capL xs i w' := by
  obtain ⟨Gr, Gs, h⟩ := h
  obtain ⟨aT, cT, hr⟩ := h.r
  exact ⟨Gr, Gs, ⟨aT, cT, hr.kp hk (fun _ _ => by simp)⟩, h.s.kp0 hk, h.rs, h.b0, h.bs, h.sz, h.kp.trans0 hk, h.rG, h.sG⟩
theorem Ag.c0 (h : Ag B w G cb sb bx st aL capL xs i wr) : wr.cell? ⟨cb, 0, none⟩ = some (.pointer (some ⟨sb, 0, none⟩)) := by
  obtain ⟨Gr, Gs, h⟩ := h
  obtain ⟨aT, cT, hr⟩ := h.r
  exact cell_of_block hr.box h.b0
theorem Ag.c1 (h : Ag B w G cb sb bx st aL capL xs i wr) : wr.cell? ⟨cb, 1, none⟩ = some (.slice aL xs.length capL) := by
  obtain ⟨Gr, Gs, h⟩ := h
  obtain ⟨aT, cT, hr⟩ := h.r
  exact hr.c0
theorem Ag.at_ (h : Ag B w G cb sb bx st aL capL xs i wr) {k : Nat} (hk : k < xs.length) : ∃ g, aL = some ⟨g, 0, none⟩ ∧ wr.cell? ⟨g, k, none⟩ = some (.slice (eat xs k).a (eat xs k).ps.length (eat xs k).c) := by
  obtain ⟨Gr, Gs, h⟩ := h
  obtain ⟨aT, cT, hr⟩ := h.r
  exact hr.own.cell hk
end
end
/- The document's court: Do of SCrash, SCommit and STear, by contracts. -/
section
open Go.RowKit
attribute [local go_sem ↓] Go.wp_at_zero Go.wp_at_succ

def seatB (s : Int) : Bool := decide (0 ≤ s ∧ s < 5)
theorem Ch.far {o' : Thing} {B : Nat} {W w1 : World} {G : List Nat} (h : Ch o' B W G w1) {p : Nat} {o : Obj} (hp : p ∉ G) (hb : W.heap[p]? = some o) : w1.heap[p]? = some o := by
  obtain ⟨F1, h1, h2, h3⟩ := h
  rw [h2.block p (lt_of_block hb) hp]; exact hb

/-- An event in a variable. -/
def EvB (w : World) (p : Nat) : Prop := w.heap[p]? = some (.cells #[.int .i64 0, .int .i64 0, .bool false, .string ⟨#[]⟩, .slice none 0 0] 102 (0, 0))
structure EvC (w : World) (p : Nat) : Prop where
  c0 : w.cell? ⟨p, 0, none⟩ = some (.int .i64 0)
  c1 : w.cell? ⟨p, 1, none⟩ = some (.int .i64 0)
  c2 : w.cell? ⟨p, 2, none⟩ = some (.bool false)
  c3 : w.cell? ⟨p, 3, none⟩ = some (.string ⟨#[]⟩)
  c4 : w.cell? ⟨p, 4, none⟩ = some (.slice none 0 0)
  f0 : w.frozen? ⟨p, 0, none⟩ = false
  f1 : w.frozen? ⟨p, 1, none⟩ = false
  f2 : w.frozen? ⟨p, 2, none⟩ = false
  f3 : w.frozen? ⟨p, 3, none⟩ = false
  f4 : w.frozen? ⟨p, 4, none⟩ = false
theorem EvB.c {w : World} {p : Nat} (h : EvB w p) : EvC w p :=
  ⟨cell_of_block h rfl, cell_of_block h rfl, cell_of_block h rfl, cell_of_block h rfl, cell_of_block h rfl, frozen_of_block _ h, frozen_of_block _ h, frozen_of_block _ h, frozen_of_block _ h, frozen_of_block _ h⟩
/-- The cells of a step in a variable that are looked at. -/
structure StpC (w : World) (q : Nat) (k keep : Int) : Prop where
  c0 : w.cell? ⟨q, 0, none⟩ = some (.int .i64 k)
  c1 : w.cell? ⟨q, 1, none⟩ = some (.int .i64 0)
  c6 : w.cell? ⟨q, 6, none⟩ = some (.int .i64 keep)
def StpB (w : World) (q : Nat) (k keep : Int) : Prop := w.heap[q]? = some (.cells #[.int .i64 k, .int .i64 0, .int .i64 0, .int .i64 0, .int .i64 0, .int .i64 0, .int .i64 keep, .string ⟨#[]⟩] 79 (0, 0))
theorem StpB.c {w : World} {q : Nat} {k keep : Int} (h : StpB w q k keep) : StpC w q k keep := ⟨cell_of_block h rfl, cell_of_block h rfl, cell_of_block h rfl⟩
/-- The world in which Do begins: the step and the event lie in new variables. -/
structure DoW (w W : World) (q p : Nat) (k keep : Int) : Prop where
  kp : Kp [] w W
  s : StpB W q k keep
  e : EvB W p
  hq : q = w.heap.size
  hp : p = w.heap.size + 1
theorem DoW.kp0 {w W W' : World} {q p : Nat} {k keep : Int} (h : DoW w W q p k keep) (hk : Kp [] W W') : DoW w W' q p k keep :=
  ⟨h.kp.trans0 hk, by show W'.heap[q]? = _; rw [hk.block q (lt_of_block h.s) (by simp)]; exact h.s, by show W'.heap[p]? = _; rw [hk.block p (lt_of_block h.e) (by simp)]; exact h.e, h.hq, h.hp⟩
end
/- A house: a vault, a court, and deeds of both; its memory, and what calls leave of it. -/
section
open Go.RowKit

/-- A variable: a block that is known whole. -/
def BoxT (q : Nat) (cs : Array Value) (T : TypeId) : Thing where
  holds B w F := w.heap[q]? = some (.cells cs T (0, 0)) ∧ F = [q] ∧ B ≤ q
  kp := fun ⟨h1, h2, h3⟩ hk hS => ⟨by rw [hk.block q (lt_of_block h1) (hS q (by rw [h2]; simp))]; exact h1, h2, h3⟩
  lo := fun ⟨h1, h2, h3⟩ x hx => by rw [h2] at hx; simp at hx; rw [hx]; exact ⟨h3, lt_of_block h1⟩
  base := fun ⟨h1, h2, h3⟩ hC => ⟨h1, h2, Nat.le_trans hC h3⟩

section
variable {w0 w w' : World} {o o1 o2 o3 : Thing} {r : List Thing}
theorem Zoo.box (h : Zoo w0 w r) (cs : Array Value) (T : TypeId) : Zoo w0 (w.alloc (.cells cs T)) (BoxT w.heap.size cs T :: r) :=
  h.cons (F := [w.heap.size]) ⟨heap_alloc_new w _, rfl, Nat.le_refl _⟩ ((Kp.refl [] w).alloc _)
theorem Zoo.var {q : Nat} {cs : Array Value} {T : TypeId} (h : Zoo w0 w (BoxT q cs T :: r)) : w.heap[q]? = some (.cells cs T (0, 0)) := by
  obtain ⟨F, h1, _⟩ := zoo_at0 h
  exact h1.1
theorem Zoo.base (h : Zoo w0 w r) : w0.heap.size ≤ w.heap.size := h.kp.size
end

section
variable {B : Nat} {w w' W : World} {hb : Nat} {F S : List Nat} {vb cb : Nat} {da a' : Option Addr} {dc c' : Nat} {wa : Option Addr} {wc dn wn : Nat} {dbs wbs l : List Nat}
end
/-- A deed of a house, both. -/
structure Dd where
  db : Nat
  wb : Nat
  md : Int
  y : Int
  rs : List Int
  ws : List Ver
def dOk (i : Nat) (d : Dd) : Prop := WOk d.ws ∧ d.rs.length ≤ i ∧ d.ws.length ≤ i
theorem dOk.mono {i j : Nat} {d : Dd} (h : dOk i d) (hij : i ≤ j) : dOk j d := ⟨h.1, Nat.le_trans h.2.1 hij, Nat.le_trans h.2.2 hij⟩

end
/- The desk's memory: a builder of what is told, and the hall; copyCheck, WriteString, String, Reset on it, by their contracts. -/
section
open Go.RowKit
attribute [local go_sem ↓] Go.wp_at_zero Go.wp_at_succ

theorem kp_of_below {w w' : World} (h : Below w.heap.size w w') : Kp [] w w' := ⟨h.os, h.tape, h.output, h.size, fun k hk _ => h.block k hk⟩
theorem below_of_kp {w w' : World} (h : Kp [] w w') : Below w.heap.size w w' := ⟨h.os, h.tape, h.output, h.size, fun k hk => h.block k hk (by simp)⟩

/-- A desk: what was told since the builder was emptied, and its hall. -/
def DskT (d hb : Nat) (bs : List UInt8) : Thing where
  holds B w F := ∃ (p : Value) (a : Option Addr) (cap : Nat), (p = .pointer none ∨ p = .pointer (some ⟨d, 0, none⟩)) ∧ w.heap[d]? = some (.cells #[p, .slice a bs.length cap, .pointer (some ⟨hb, 0, none⟩)] 46 (0, 0)) ∧ OwnU B w a cap bs ∧ F = d :: ob a ∧ B ≤ d ∧ d ∉ ob a ∧ (bs = [] → a = none)
  kp := fun ⟨p, a, cap, h1, h2, h3, h4, h5, h6⟩ hk hS => ⟨p, a, cap, h1, by rw [hk.block d (lt_of_block h2) (hS d (by rw [h4]; simp))]; exact h2, h3.kp hk (fun x hx => hS x (by rw [h4]; simp [hx])), h4, h5, h6⟩
  lo := fun ⟨p, a, cap, h1, h2, h3, h4, h5, h6⟩ x hx => by
    rw [h4] at hx
    rcases List.mem_cons.1 hx with e | e
    · rw [e]; exact ⟨h5, lt_of_block h2⟩
    · exact h3.lo x e
  base := fun ⟨p, a, cap, h1, h2, h3, h4, h5, h6⟩ hC => ⟨p, a, cap, h1, h2, h3.base hC, h4, Nat.le_trans hC h5, h6⟩

theorem dsk_lies : liesAt Tryz.prog Tryz.prog.depth 46 (3 / Tryz.prog.cellsOf 46) 0 44 1 = true := by kernel_rfl
set_option maxHeartbeats 1000000 in
theorem dcheck_used (b : Nat) (w : World) (h0 : w.cell? ⟨b, 0, none⟩ = some (.pointer (some ⟨b, 0, none⟩))) :
    Calls Tryz.prog 82 #[.pointer (some ⟨b, 0, none⟩)] w fun e w' => e = .returned (.tuple #[]) ∧ w' = w := bcheck_used b w h0
set_option maxHeartbeats 1000000 in
theorem dcheck_fresh (b : Nat) (w : World) (h0 : w.cell? ⟨b, 0, none⟩ = some (.pointer none)) (hsh : w.shape? b = some (46, 3)) (hfz : w.frozen? ⟨b, 0, none⟩ = false) :
    Calls Tryz.prog 82 #[.pointer (some ⟨b, 0, none⟩)] w fun e w' => e = .returned (.tuple #[]) ∧ w' = w.setCell ⟨b, 0, none⟩ (.pointer (some ⟨b, 0, none⟩)) := by
  obtain ⟨j, hj, hjs⟩ := Option.map_eq_some_iff.1 btX.sizeBuilder
  go_enter Tryz.func82, Tryz.ntmps82
  go_wp2
  rw [Lib.run_to_unsafe w ⟨b, 0, none⟩ Tryz.underlying41 Tryz.underlying186 hj (by rw [hjs]; decide) hsh (Nat.zero_lt_succ 2)]
  simp only [Result.andThen]
  rw [Oper.upon_value]
  go_wp2
  rw [run_callFunc_extern Tryz.func117 (by kernel_rfl) (by kernel_rfl) (by kernel_rfl) (e := Extern.AbiNoEscape.same) (by kernel_rfl)]
  rw [Lib.run_noEscape]
  simp only [Result.andThen]
  rw [Oper.upon_value]
  go_wp2
  rw [Lib.run_from_unsafe w ⟨b, 0, none⟩ Tryz.underlying186 Tryz.underlying41 hj hsh dsk_lies]
  simp only [Result.andThen]
  rw [Oper.upon_value]
  go_wp2
  go_end0
  exact ⟨rfl, rfl⟩
theorem dcheck {d : Nat} {w : World} {p v u : Value} (hp : p = .pointer none ∨ p = .pointer (some ⟨d, 0, none⟩)) (hb : w.heap[d]? = some (.cells #[p, v, u] 46 (0, 0))) :
    Calls Tryz.prog 82 #[.pointer (some ⟨d, 0, none⟩)] w fun e w' => e = .returned (.tuple #[]) ∧ w'.heap[d]? = some (.cells #[.pointer (some ⟨d, 0, none⟩), v, u] 46 (0, 0)) ∧ Kp [d] w w' := by
  rcases hp with rfl | rfl
  · refine (dcheck_fresh d w (cell_of_block hb rfl) (by simp [World.shape?, hb]) (frozen_of_block _ hb)).mono ?_
    rintro e w' ⟨rfl, rfl⟩
    refine ⟨rfl, ?_, (Kp.refl [d] w).setCell (.inl (by simp)) _⟩
    rw [heap_setCell_at 0 _ hb]
    rfl
  · refine (dcheck_used d w (cell_of_block hb rfl)).mono ?_
    rintro e w' ⟨rfl, rfl⟩
    exact ⟨rfl, hb, Kp.refl _ _⟩

set_option maxHeartbeats 2000000 in
/-- Bytes more are told. -/
theorem dwrite {B d hb : Nat} {bs : List UInt8} {w : World} {F : List Nat} (h : (DskT d hb bs).holds B w F) (hB : B ≤ w.heap.size) (s : ByteArray) (hs0 : 0 < s.data.toList.length) (hm : bs.length + s.data.toList.length ≤ 100000) :
    Calls Tryz.prog 47 #[.pointer (some ⟨d, 0, none⟩), .string s] w fun e w' => (∃ v, e = .returned v) ∧ Hid (Ch (DskT d hb (bs ++ s.data.toList)) B w F w') := by
  obtain ⟨p, a, cap, hp, hbk, hown, rfl, hBd, hda, _⟩ := h
  go_enter Tryz.func47, Tryz.ntmps47
  go_wp2_with (go_at_call 82; refine (dcheck hp hbk).mono ?_)
  rintro e w1 ⟨rfl, hb1, hk1⟩
  have c1 : w1.cell? ⟨d, 1, none⟩ = some (.slice a bs.length cap) := cell_of_block hb1 rfl
  have hown1 : OwnU B w1 a cap bs := hown.kp hk1 (fun x hx e => hda (by rw [← List.mem_singleton.1 e]; exact hx))
  have hsz := hk1.size
  have H1 := hide hb1
  have H2 := hide hk1
  have H3 := hide hown1
  clear hb1 hk1 hown1 hbk hown hp
  go_wp2_with (at_builtin; refine wpList_appx (by rfl) (.tmp 12) (.tmp 13) 9 (by rfl) (unhide H3) (by omega) _ rfl (.string s) s.data.toList (by rfl) (by rfl) (str_src _ s) hm ?_; intro a' cap' n' w2 HN HO HK HX; have hb2 := hide (show w2.heap[d]? = some (.cells #[.pointer (some ⟨d, 0, none⟩), .slice a bs.length cap, .pointer (some ⟨hb, 0, none⟩)] 46 (0, 0)) by rw [(unhide HK).block d (lt_of_block (unhide H1)) hda]; exact unhide H1); have f1 : w2.frozen? ⟨d, 1, none⟩ = false := frozen_of_block _ (unhide hb2); have d1 : w2.cell? ⟨d, 1, none⟩ = some (.slice a bs.length cap) := cell_of_block (unhide hb2) rfl)
  go_ret2
  refine ⟨⟨_, rfl⟩, ?_⟩
  have hn' := unhide HN
  subst hn'
  have hk2 : Kp (d :: ob a) w w2 := ((unhide H2).mono (fun x hx => by simp at hx; simp [hx])).trans (unhide HK) (fun x hx => .inl (by simp [hx]))
  have hne : d ∉ ob a' := fun hm => by
    rcases unhide HX d hm with e | e
    · exact hda e
    · have := lt_of_block (unhide H1); omega
  have hk3 : Kp [d] w2 (w2.setCell ⟨d, 1, none⟩ (.slice a' (bs ++ s.data.toList).length cap')) := (Kp.refl [d] w2).setCell (.inl (by simp)) _
  refine ⟨d :: ob a', ⟨_, a', cap', .inr rfl, ?_, (unhide HO).kp hk3 (fun x hx e => hne (by rw [← List.mem_singleton.1 e]; exact hx)), rfl, hBd, hne, fun e => by have := congrArg List.length e; rw [List.length_append, List.length_nil] at this; omega⟩, hk2.trans hk3 (fun x hx => .inl (by simp at hx; simp [hx])), fun x hx => ?_⟩
  · rw [heap_setCell_at 1 _ (unhide hb2)]
    rfl
  · rcases List.mem_cons.1 hx with e | e
    · exact .inl (by simp [e])
    · rcases unhide HX x e with q | q
      · exact .inl (by simp [q])
      · exact .inr (by omega)
end
end Go.Proofs.YtldkeaeohceckadGreatDoor
