/- Bound together for a claim. -/
import Derived.Test.YtldkeaeohceckadGreatDoorM4
import Derived.WalkKit
import Derived.Lib.Bytealg
import Derived.Test.YtldkeaeohceckadGreatDoorRows
import Derived.Shelf.Strings.BuilderK
import Derived.WalkSpells
import Derived.WalkLawsBesides
import Derived.Deep.QuietTactic
import Derived.BigQuiet
import Derived.Deep.RegionHeld3
import Derived.Deep.DrawnRows
import Derived.Lib.AtoiAll
import Derived.Lib.ItoaNum
import Derived.Lib.Join
import Derived.Lib.TrimByte
import Derived.Lib.CutLaws
import Derived.Deep.AppendSrc
import Derived.Shelf.LaysM
import Derived.Shelf.LaysC
import Derived.Shelf.Strings.OnBuilder
import Derived.Shelf.Strings.Trim
import Derived.Shelf.Small.Wraps
import Derived.Shelf.Strconv.Itoa3
import Derived.Shelf.Strconv.AtoiAll
import Derived.Shelf.Strings.Search3
import Derived.Shelf.Strings.Cut
import Derived.Test.YtldkeaeohceckadGreatDoorProg
import Derived.Lib.SmallJoins
import Derived.Lib.LaidTab
import Derived.Stop.LaidErr
import Derived.Shelf.Vars
import Derived.OpenShut
import Derived.ProofKit
import Derived.LaidLaws
import Derived.SliceStrings
import Derived.SizedLaws
import Derived.Deep.Slices
import Derived.Lib.ItoaLen
namespace Go.Proofs.YtldkeaeohceckadGreatDoor
set_option maxRecDepth 20000
set_option maxHeartbeats 64000000
/- Plain words for values as texts: what bytes are shown as, what a text means. -/
section
open Go.RowKit

/-- The digits, and a digit. -/
def dgs : List UInt8 := [48, 49, 50, 51, 52, 53, 54, 55, 56, 57, 97, 98, 99, 100, 101, 102]
def hxd (n : Nat) : UInt8 := dgs.getD n 0
/-- Is a byte shown as it is? -/
def pln (c : UInt8) : Bool := decide (33 ≤ c.toNat) && decide (c.toNat ≤ 126) && !decide (c.toNat = 92)
/-- What a byte is shown as. -/
def shb (c : UInt8) : List UInt8 := if pln c = true then [c] else [92, hxd (c.toNat / 16), hxd (c.toNat % 16)]
/-- What bytes are shown as. -/
def sh (l : List UInt8) : List UInt8 := l.flatMap shb
def idx (h : UInt8) : Int := Lib.indexByte dgs h
/-- The byte that a text shows first, and by how many bytes. -/
def mby : List UInt8 → Option (UInt8 × Nat)
  | [] => none
  | c :: r => if pln c = true then some (c, 1) else if c.toNat ≠ 92 then none else match r with
    | h :: l :: _ => if idx h < 0 ∨ idx l < 0 then none else if pln (UInt8.ofNat (16 * (idx h).toNat + (idx l).toNat)) = true then none else some (UInt8.ofNat (16 * (idx h).toNat + (idx l).toNat), 3)
    | _ => none
def mnf : Nat → List UInt8 → Option (List UInt8)
  | 0, l => if l = [] then some [] else none
  | f + 1, l => if l = [] then some [] else match mby l with
    | none => none
    | some (c, n) => (mnf f (l.drop n)).map (c :: ·)
/-- What a text means. -/
def mn (l : List UInt8) : Option (List UInt8) := mnf l.length l

theorem all8 {p : UInt8 → Prop} [DecidablePred p] (h : ∀ n : Fin 256, p (UInt8.ofNat n.val)) (c : UInt8) : p c := by
  have := h ⟨c.toNat, c.toNat_lt⟩
  rwa [UInt8.ofNat_toNat] at this
theorem sh_nil : sh [] = [] := rfl
theorem sh_cons (c : UInt8) (l : List UInt8) : sh (c :: l) = shb c ++ sh l := rfl
theorem sh_app (l m : List UInt8) : sh (l ++ m) = sh l ++ sh m := List.flatMap_append
theorem sh_snoc (l : List UInt8) (c : UInt8) : sh (l ++ [c]) = sh l ++ shb c := by rw [sh_app, sh_cons, sh_nil, List.append_nil]
theorem shb_len (c : UInt8) : (shb c).length = 1 ∨ (shb c).length = 3 := by unfold shb; split <;> simp
theorem sh_len (l : List UInt8) : l.length ≤ (sh l).length ∧ (sh l).length ≤ 3 * l.length := by
  induction l with
  | nil => simp [sh]
  | cons c l ih =>
    rw [sh_cons, List.length_append, List.length_cons]
    rcases shb_len c with h | h <;> omega
theorem idx_facts : ∀ h : UInt8, idx h < 0 ∨ (idx h < 16 ∧ hxd (idx h).toNat = h) := all8 (p := fun h => idx h < 0 ∨ (idx h < 16 ∧ hxd (idx h).toNat = h)) (by decide)
theorem idx_ge (h : UInt8) : -1 ≤ idx h := Lib.indexByte_ge _ _
theorem mby_shb : ∀ c : UInt8, mby (shb c) = some (c, (shb c).length) := all8 (p := fun c => mby (shb c) = some (c, (shb c).length)) (by decide)
/-- What stands behind a byte's text changes nothing. -/
theorem mby_app (c : UInt8) (r : List UInt8) : mby (shb c ++ r) = some (c, (shb c).length) := by
  have h := mby_shb c
  unfold shb at h ⊢
  split
  · rename_i e
    simp [mby, e]
  · rename_i e
    rw [if_neg e] at h
    exact h
theorem mby_pre {l : List UInt8} {c : UInt8} {n : Nat} (h : mby l = some (c, n)) : n = (shb c).length ∧ l = shb c ++ l.drop n := by
  cases l with
  | nil => simp [mby] at h
  | cons x r =>
    simp only [mby] at h
    by_cases e : pln x = true
    · rw [if_pos e] at h
      simp only [Option.some.injEq, Prod.mk.injEq] at h
      obtain ⟨rfl, rfl⟩ := h
      simp [shb, e]
    · rw [if_neg e] at h
      by_cases e2 : x.toNat ≠ 92
      · rw [if_pos e2] at h; simp at h
      · rw [if_neg e2] at h
        match r, h with
        | [], h => simp at h
        | [_], h => simp at h
        | a :: b :: t, h =>
          simp only at h
          by_cases e3 : idx a < 0 ∨ idx b < 0
          · rw [if_pos e3] at h; simp at h
          · rw [if_neg e3] at h
            by_cases e4 : pln (UInt8.ofNat (16 * (idx a).toNat + (idx b).toNat)) = true
            · rw [if_pos e4] at h; simp at h
            · rw [if_neg e4] at h
              simp only [Option.some.injEq, Prod.mk.injEq] at h
              obtain ⟨rfl, rfl⟩ := h
              have ha := idx_facts a
              have hb := idx_facts b
              have hx : x = 92 := by
                have : x.toNat = 92 := by omega
                exact UInt8.toNat_inj.1 this
              obtain ⟨a1, a2⟩ := ha.resolve_left (fun q => e3 (.inl q))
              obtain ⟨b1, b2⟩ := hb.resolve_left (fun q => e3 (.inr q))
              have t : (UInt8.ofNat (16 * (idx a).toNat + (idx b).toNat)).toNat = 16 * (idx a).toNat + (idx b).toNat := by
                rw [UInt8.toNat_ofNat']; omega
              have d1 : (16 * (idx a).toNat + (idx b).toNat) / 16 = (idx a).toNat := by omega
              have d2 : (16 * (idx a).toNat + (idx b).toNat) % 16 = (idx b).toNat := by omega
              generalize UInt8.ofNat (16 * (idx a).toNat + (idx b).toNat) = z at *
              rw [shb, if_neg e4, t, d1, d2, a2, b2, hx]
              exact ⟨rfl, rfl⟩
theorem mnf_nil (f : Nat) : mnf f [] = some [] := by cases f <;> simp [mnf]
theorem mnf_fuel : ∀ (f g : Nat) (l : List UInt8), l.length ≤ f → l.length ≤ g → mnf f l = mnf g l := by
  intro f
  induction f with
  | zero =>
    intro g l hf hg
    have : l = [] := List.eq_nil_of_length_eq_zero (by omega)
    subst this
    rw [mnf_nil, mnf_nil]
  | succ f ih =>
    intro g l hf hg
    by_cases hl : l = []
    · subst hl; rw [mnf_nil, mnf_nil]
    · have hp : 0 < l.length := by
        rcases Nat.eq_zero_or_pos l.length with e | e
        · exact absurd (List.eq_nil_of_length_eq_zero e) hl
        · exact e
      cases g with
      | zero => omega
      | succ g =>
        simp only [mnf, if_neg hl]
        cases hm : mby l with
        | none => rfl
        | some x =>
          obtain ⟨c, n⟩ := x
          obtain ⟨e1, e2⟩ := mby_pre hm
          have hn : 1 ≤ n := by rcases shb_len c with h | h <;> omega
          simp only
          rw [ih g (l.drop n) (by rw [List.length_drop]; omega) (by rw [List.length_drop]; omega)]
theorem mn_nil : mn [] = some [] := rfl
theorem mn_step {l : List UInt8} (hl : l ≠ []) : mn l = match mby l with | none => none | some (c, n) => (mn (l.drop n)).map (c :: ·) := by
  have hp : 0 < l.length := by
    rcases Nat.eq_zero_or_pos l.length with e | e
    · exact absurd (List.eq_nil_of_length_eq_zero e) hl
    · exact e
  unfold mn
  rw [mnf_fuel l.length (l.length + 1) l (Nat.le_refl _) (by omega)]
  simp only [mnf, if_neg hl]
  cases hm : mby l with
  | none => rfl
  | some x =>
    obtain ⟨c, n⟩ := x
    simp only
    rw [mnf_fuel l.length (l.drop n).length (l.drop n) (by rw [List.length_drop]; omega) (Nat.le_refl _)]
theorem sh_mn : ∀ (m : Nat) (l y : List UInt8), l.length ≤ m → mn l = some y → sh y = l := by
  intro m
  induction m with
  | zero =>
    intro l y hl h
    have : l = [] := List.eq_nil_of_length_eq_zero (by omega)
    subst this
    rw [mn_nil] at h
    cases h
    rfl
  | succ m ih =>
    intro l y hl h
    by_cases e : l = []
    · subst e
      rw [mn_nil] at h
      cases h
      rfl
    · rw [mn_step e] at h
      cases hm : mby l with
      | none => rw [hm] at h; simp at h
      | some x =>
        obtain ⟨c, n⟩ := x
        obtain ⟨e1, e2⟩ := mby_pre hm
        rw [hm] at h
        simp only [Option.map_eq_some_iff] at h
        obtain ⟨z, hz, rfl⟩ := h
        have hn : 1 ≤ n := by rcases shb_len c with h | h <;> omega
        have hp : 0 < l.length := by
          rcases Nat.eq_zero_or_pos l.length with q | q
          · exact absurd (List.eq_nil_of_length_eq_zero q) e
          · exact q
        rw [sh_cons, ih (l.drop n) z (by rw [List.length_drop]; omega) hz]
        exact e2.symm
end
/- A strings.Builder that a call fills byte by byte: copyCheck, WriteByte, String, by their contracts; IndexByte of the digits. -/
section
open Go.RowKit Go.Shelf
attribute [local go_sem ↓] Go.wp_at_zero Go.wp_at_succ

/-- The shelf's numbers at this program. -/
def btR : Go.Shelf.Ren := ⟨fun | 169 => 16 | n => n, fun | 70 => 41 | 9 => 9 | 0 => 0 | 72 => 44 | 37 => 42 | 127 => 85 | 3 => 3 | 5 => 5 | n => n, fun | n => n⟩
theorem btL : Go.Proofs.Lays.n169 Tryz.prog btR := {
  mixed := by kernel_rfl
  f169 := Tryz.func16.trans (congrArg some (by kernel_rfl))
  t0 := Tryz.underlying0
  a0 := Tryz.isAgg0
  z0 := Tryz.sizeOf0
  v0 := Tryz.zeroValue0
  t3 := Tryz.underlying3
  a3 := Tryz.isAgg3
  z3 := Tryz.sizeOf3
  v3 := Tryz.zeroValue3
  t9 := Tryz.underlying9
  a9 := Tryz.isAgg9
  z9 := Tryz.sizeOf9
  v9 := Tryz.zeroValue9
  t37 := Tryz.underlying42
  a37 := Tryz.isAgg42
  z37 := Tryz.sizeOf42
  v37 := Tryz.zeroValue42
  t70 := Tryz.underlying41
  a70 := Tryz.isAgg41
  z70 := Tryz.sizeOf41
  v70 := Tryz.zeroValue41
  t72 := Tryz.underlying44
  a72 := Tryz.isAgg44
  z72 := Tryz.sizeOf44
  v72 := Tryz.zeroValue44
  t127 := Tryz.underlying85
  a127 := Tryz.isAgg85
  z127 := Tryz.sizeOf85
  v127 := Tryz.zeroValue85 }
theorem btX : Builder.Extra Tryz.prog btR := {
  sizeBuilder := by kernel_rfl
  liesBuilder := by kernel_rfl
  t5 := Tryz.underlying5
  a5 := Tryz.isAgg5
  z5 := Tryz.sizeOf5
  v5 := Tryz.zeroValue5
  infoByte := by kernel_rfl
  cellsByte := by kernel_rfl
  sizeByte := by kernel_rfl
  neB5 := by decide }
/-- A builder at block b, made since the world with B blocks, that holds these bytes. -/
def Bld (B b : Nat) (l : List UInt8) (w : World) : Prop := Lib.IsBuilderF 44 5 B b (Lib.byteCells l) w
theorem bstring (B b : Nat) (l : List UInt8) (w : World) (h : Bld B b l w) (hB : B ≤ w.heap.size) :
    Calls Tryz.prog 16 #[.pointer (some ⟨b, 0, none⟩)] w fun e w' => e = .returned (.string ⟨l.toArray⟩) ∧ Below B w w' := by
  refine (Any.Builder_String_any_k btL btX B b l w h hB).mono ?_
  rintro e w' ⟨h1, _, h2, _⟩
  exact ⟨h1, h2⟩

set_option maxHeartbeats 1000000 in
theorem bcheck_used (b : Nat) (w : World) (h0 : w.cell? ⟨b, 0, none⟩ = some (.pointer (some ⟨b, 0, none⟩))) :
    Calls Tryz.prog 82 #[.pointer (some ⟨b, 0, none⟩)] w fun e w' => e = .returned (.tuple #[]) ∧ w' = w := by
  obtain ⟨j, hj, hjs⟩ := Option.map_eq_some_iff.1 btX.sizeBuilder
  go_enter Tryz.func82, Tryz.ntmps82
  go_wp2
  rw [Lib.run_neq_ptr_same w _ Tryz.underlying41 hj]
  go_wp2
  go_end0
  exact ⟨rfl, rfl⟩
set_option maxHeartbeats 1000000 in
theorem bcheck_fresh (b : Nat) (w : World) (h0 : w.cell? ⟨b, 0, none⟩ = some (.pointer none)) (hsh : w.shape? b = some (44, 2)) (hfz : w.frozen? ⟨b, 0, none⟩ = false) :
    Calls Tryz.prog 82 #[.pointer (some ⟨b, 0, none⟩)] w fun e w' => e = .returned (.tuple #[]) ∧ w' = w.setCell ⟨b, 0, none⟩ (.pointer (some ⟨b, 0, none⟩)) := by
  obtain ⟨j, hj, hjs⟩ := Option.map_eq_some_iff.1 btX.sizeBuilder
  go_enter Tryz.func82, Tryz.ntmps82
  go_wp2
  rw [Lib.run_to_unsafe w ⟨b, 0, none⟩ Tryz.underlying41 Tryz.underlying186 hj (by rw [hjs]; decide) hsh (Nat.zero_lt_succ 1)]
  simp only [Result.andThen]
  rw [Oper.upon_value]
  go_wp2
  rw [run_callFunc_extern Tryz.func117 (by kernel_rfl) (by kernel_rfl) (by kernel_rfl) (e := Extern.AbiNoEscape.same) (by kernel_rfl)]
  rw [Lib.run_noEscape]
  simp only [Result.andThen]
  rw [Oper.upon_value]
  go_wp2
  rw [Lib.run_from_unsafe w ⟨b, 0, none⟩ Tryz.underlying186 Tryz.underlying41 hj hsh btX.liesBuilder]
  simp only [Result.andThen]
  rw [Oper.upon_value]
  go_wp2
  go_end0
  exact ⟨rfl, rfl⟩
theorem bcheck (B b : Nat) (bs : List Value) (w : World) (h : Lib.IsBuilderF 44 5 B b bs w) :
    Calls Tryz.prog 82 #[.pointer (some ⟨b, 0, none⟩)] w fun e w' => e = .returned (.tuple #[]) ∧ (Lib.BuilderAtF 44 5 B b (.pointer (some ⟨b, 0, none⟩)) bs w' ∧ Below B w w') := by
  rcases h with h | h
  · refine (bcheck_fresh b w h.cell0 h.shape h.frozen0).mono ?_
    rintro e w' ⟨rfl, rfl⟩
    exact ⟨rfl, h.used _, (Below.refl B w).setCell (p := ⟨b, 0, none⟩) h.1 _⟩
  · refine (bcheck_used b w h.cell0).mono ?_
    rintro e w' ⟨rfl, rfl⟩
    exact ⟨rfl, h, Below.refl B _⟩
set_option maxHeartbeats 2000000 in
/-- A byte more. -/
theorem bwrite (B b : Nat) (l : List UInt8) (c : UInt8) (w : World) (h : Bld B b l w) (hlen : l.length + 1 ≤ 100000) (hB : B ≤ w.heap.size) :
    Calls Tryz.prog 158 #[.pointer (some ⟨b, 0, none⟩), .int .u8 (c.toNat : Int)] w fun e w' => e = .returned .nilIface ∧ Bld B b (l ++ [c]) w' ∧ Below B w w' := by
  obtain ⟨i0, hi, hz0, hz1, hz2⟩ := info_parts btX.infoByte
  have hbl := Lib.byteCells_length l
  have happ : Lib.byteCells (l ++ [c]) = Lib.byteCells l ++ [.int .u8 (c.toNat : Int)] := by rw [Lib.byteCells_append]; rfl
  unfold Bld at h ⊢
  rw [happ]
  generalize (c.toNat : Int) = x at *
  generalize Lib.byteCells l = bs at *
  have hl2 : bs.length + 1 ≤ 100000 := by omega
  clear hbl hlen happ
  go_enter Tryz.func158, Tryz.ntmps158
  go_wp2_with (go_at_call 82; refine (bcheck B b bs _ h).mono ?_)
  rintro e w1 ⟨rfl, h1, hb1⟩
  obtain ⟨hBb, v, hbk, hown, hne⟩ := h1
  have c0 : w1.cell? ⟨b, 0, none⟩ = some (.pointer (some ⟨b, 0, none⟩)) := by rw [Lib.cell_of_heap hbk]; rfl
  have c1 : w1.cell? ⟨b, 1, none⟩ = some v := by rw [Lib.cell_of_heap hbk]; rfl
  have hsz1 := hb1.size
  go_wp2_with (at_builtin; refine wpList_append_ownF _ rfl _ _ 42 rfl B 5 i0 (.int .u8 0) 1 1 Tryz.underlying42 hi hz0 hz1 hz2 rfl (by decide) _ _ _ rfl (hown.alloc _) ⟨w1.heap.size, 0, none⟩ 1 1 [.int .u8 x] rfl rfl ?c1 ?c2 ?c3 ?c4 ?c5 ?_)
  case c1 =>
    intro j u hj
    match j, hj with
    | 0, hj => simp at hj; subst hj; simp [Addr.add]
  case c2 => intro u hu; simp at hu; subst hu; rfl
  case c3 => unfold maxLen; omega
  case c4 => omega
  case c5 => simp; omega
  intro v' w2 hown' hgrow _
  have hlt : b < w1.heap.size := by
    rcases Nat.lt_or_ge b w1.heap.size with h' | h'
    · exact h'
    · simp [Array.getElem?_eq_none h'] at hbk
  have hb2 : w2.heap[b]? = some (.cells #[.pointer (some ⟨b, 0, none⟩), v] 44 (0, 0)) := by
    rw [hgrow.block b (by simp; omega) (fun e => hne e.symm), Lib.alloc_old w1 _ b hlt]
    exact hbk
  have d0 : w2.cell? ⟨b, 0, none⟩ = some (.pointer (some ⟨b, 0, none⟩)) := by rw [Lib.cell_of_heap hb2]; rfl
  have d1 : w2.cell? ⟨b, 1, none⟩ = some v := by rw [Lib.cell_of_heap hb2]; rfl
  have f1 : w2.frozen? ⟨b, 1, none⟩ = false := Lib.frozen_of_heap hb2 1
  obtain ⟨g, cap, rfl⟩ : ∃ g cap, v' = .slice (some ⟨g, 0, none⟩) (bs.length + 1) cap := by
    rcases hown'.2 with ⟨_, h0⟩ | ⟨g, cap, cur, fz, hv, _⟩
    · omega
    · exact ⟨g, cap, hv⟩
  go_wp2
  go_ret
  refine ⟨rfl, Or.inr ?_, ?_⟩
  · exact Lib.BuilderAtF.put hBb hb2 (bs' := bs ++ [.int .u8 x]) (by simpa using hown') (by decide)
  · exact ((hb1.alloc (by omega) _).grown hgrow (by simp; omega) (fun k hk => (hown.lt k hk).1)).setCell (p := ⟨b, 1, none⟩) hBb _
set_option maxHeartbeats 1000000 in
theorem tindex0 (s : ByteArray) (c : UInt8) (w : World) :
    Calls Tryz.prog 110 #[.string s, .int .u8 (c.toNat : Int)] w fun e w' => e = .returned (.int .i64 (Lib.indexByte s.data.toList c)) ∧ w' = w := by
  have hc : ((c.toNat : Int)).toNat.toUInt8 = c := by simp
  go_enter Tryz.func110, Tryz.ntmps110
  go_wp2
  rw [run_callFunc_extern Tryz.func146 (by kernel_rfl) (by kernel_rfl) (by kernel_rfl) (e := Extern.BytealgIndexByte.indexByte) (by kernel_rfl), Lib.run_indexByteString, hc]
  simp only [Result.andThen]
  rw [Oper.upon_value]
  go_wp2
  go_ret
  exact ⟨rfl, rfl⟩
/-- Where a byte stands among others. -/
theorem tindex (s : ByteArray) (c : UInt8) (w : World) :
    Calls Tryz.prog 175 #[.string s, .int .u8 (c.toNat : Int)] w fun e w' => e = .returned (.int .i64 (Lib.indexByte s.data.toList c)) ∧ w' = w := by
  go_enter Tryz.func175, Tryz.ntmps175
  go_wp2_with (go_at_call 110; refine (tindex0 _ _ _).mono ?_; rintro e w' ⟨rfl, rfl⟩)
  go_ret
  exact ⟨rfl, rfl⟩
end
/- Values as texts: plain, showByte, Show, Value, by their contracts. -/
section
open Go.RowKit
attribute [local go_sem ↓] Go.wp_at_zero Go.wp_at_succ

theorem tret_bool {a b : Bool} (h : a = b) : Ending.returned (.bool a) = .returned (.bool b) := by rw [h]
theorem thide {p : Prop} (h : p) : Hid p := h
theorem tunhide {p : Prop} (h : Hid p) : p := h
set_option maxHeartbeats 1000000 in
theorem tplain (c : UInt8) (w : World) : Calls Tryz.prog 172 #[.int .u8 (c.toNat : Int)] w fun e w' => e = .returned (.bool (pln c)) ∧ w' = w := by
  have hb : c.toNat < 256 := c.toNat_lt
  unfold pln
  generalize c.toNat = n at *
  by_cases h1 : 33 ≤ n
  · by_cases h2 : n ≤ 126
    · by_cases h3 : n = 92
      · have i1 : (33 : Int) ≤ (n : Int) := by omega
        have i2 : (n : Int) ≤ 126 := by omega
        have i3 : (n : Int) = 92 := by omega
        go_enter Tryz.func172, Tryz.ntmps172
        go_wp2
        go_ret
        exact ⟨tret_bool (by simp [h3]), rfl⟩
      · have i1 : (33 : Int) ≤ (n : Int) := by omega
        have i2 : (n : Int) ≤ 126 := by omega
        have i3 : ¬ (n : Int) = 92 := by omega
        go_enter Tryz.func172, Tryz.ntmps172
        go_wp2
        go_ret
        exact ⟨tret_bool (by rw [show ((n : Int) != 92) = true by simpa using i3, decide_eq_true h1, decide_eq_true h2, decide_eq_false h3]; rfl), rfl⟩
    · have i1 : (33 : Int) ≤ (n : Int) := by omega
      have i2 : ¬ (n : Int) ≤ 126 := by omega
      go_enter Tryz.func172, Tryz.ntmps172
      go_wp2
      go_ret
      exact ⟨tret_bool (by simp), rfl⟩
  · have i1 : ¬ (33 : Int) ≤ (n : Int) := by omega
    go_enter Tryz.func172, Tryz.ntmps172
    go_wp2
    go_ret
    exact ⟨tret_bool (by simp), rfl⟩
theorem dig_at : ∀ {k : Nat} (h : k < 16), ((⟨#[48, 49, 50, 51, 52, 53, 54, 55, 56, 57, 97, 98, 99, 100, 101, 102]⟩ : ByteArray)[k]'h).toNat = (hxd k).toNat := by decide
set_option maxHeartbeats 1000000 in
/-- The text of a byte is written. -/
theorem tshowByte (B b : Nat) (l : List UInt8) (c : UInt8) (w : World) (h : Bld B b l w) (hlen : l.length + 3 ≤ 100000) (hB : B ≤ w.heap.size) :
    Calls Tryz.prog 138 #[.pointer (some ⟨b, 0, none⟩), .int .u8 (c.toNat : Int)] w fun e w' => e = .returned (.tuple #[]) ∧ Bld B b (l ++ shb c) w' ∧ Below B w w' := by
  have HB := thide h
  clear h
  by_cases hp : pln c = true
  · have es : shb c = [c] := by unfold shb; rw [if_pos hp]
    rw [es]
    clear es
    go_enter Tryz.func138, Tryz.ntmps138
    go_wp2_with fail
    refine (tplain c w).mono ?_
    rintro e w' ⟨rfl, hw'⟩
    subst w'
    rw [hp]
    go_wp2_with fail
    refine (bwrite B b l c w (tunhide HB) (by omega) hB).mono ?_
    rintro e w1 ⟨rfl, h1, k1⟩
    go_wp2_with fail
    exact bodyPost_ret (v := .tuple #[]) (results_none rfl _ _ _) rfl ⟨rfl, h1, k1⟩
  · have hp2 : pln c = false := by simpa using hp
    have es : shb c = [92, hxd (c.toNat / 16), hxd (c.toNat % 16)] := by unfold shb; rw [if_neg hp]
    rw [es]
    clear es hp
    go_enter Tryz.func138, Tryz.ntmps138
    go_wp2_with fail
    refine (tplain c w).mono ?_
    rintro e w' ⟨rfl, hw'⟩
    subst w'
    rw [hp2]
    go_wp2_with fail
    refine (bwrite B b l 92 w (tunhide HB) (by omega) hB).mono ?_
    rintro e w1 ⟨rfl, h1, k1⟩
    have hz1 := k1.size
    have n0 : c.toNat < 256 := c.toNat_lt
    have q1 : (0 : Int) ≤ (c.toNat : Int) / 16 := by omega
    have q2 : (c.toNat : Int) / 16 < 16 := by omega
    have q3 : (0 : Int) ≤ (c.toNat : Int) / 16 ∧ (c.toNat : Int) / 16 < 16 := ⟨q1, q2⟩
    go_wp2_with fail
    rw [dig_at (by omega)]
    refine (bwrite B b _ (hxd (c.toNat / 16)) w1 h1 (by simp; omega) (by omega)).mono ?_
    rintro e w2 ⟨rfl, h2, k2⟩
    have hz2 := k2.size
    clear q1 q2 q3
    have q1 : (0 : Int) ≤ (c.toNat : Int) % 16 := by omega
    have q2 : (c.toNat : Int) % 16 < 16 := by omega
    have q3 : (0 : Int) ≤ (c.toNat : Int) % 16 ∧ (c.toNat : Int) % 16 < 16 := ⟨q1, q2⟩
    go_wp2_with fail
    rw [dig_at (by omega)]
    refine (bwrite B b _ (hxd (c.toNat % 16)) w2 h2 (by simp; omega) (by omega)).mono ?_
    rintro e w3 ⟨rfl, h3, k3⟩
    go_wp2_with fail
    go_end0
    refine ⟨rfl, ?_, k1.trans (k2.trans k3)⟩
    simpa using h3

theorem take_snoc8 (s : ByteArray) (k : Nat) (h : k < s.size) : s.data.toList.take (k + 1) = s.data.toList.take k ++ [s[k]] := by
  rw [List.take_succ_eq_append_getElem (by simpa using h)]; rfl
theorem len8 (s : ByteArray) : s.data.toList.length = s.size := Array.length_toList
theorem take_len8 (s : ByteArray) (k : Nat) : (sh (s.data.toList.take k)).length ≤ 3 * k := by
  have h1 := (sh_len (s.data.toList.take k)).2
  have h2 := List.length_take_le k s.data.toList
  omega
theorem bld_new (w : World) : Bld w.heap.size w.heap.size [] (w.alloc (.cells #[.pointer none, .slice none 0 0] 44)) := Lib.IsBuilderF.of (Lib.fresh_isBuilder 44 5 w)
set_option maxHeartbeats 1000000 in
/-- What bytes are shown as. -/
theorem tshow (s : ByteArray) (w : World) (hs : s.size ≤ 30000) :
    Calls Tryz.prog 93 #[.string s] w fun e w' => e = .returned (.string ⟨(sh s.data.toList).toArray⟩) ∧ Below w.heap.size w w' := by
  have HN := thide (bld_new w)
  have HW := thide ((Below.refl w.heap.size w).alloc (Nat.le_refl _) (.cells #[.pointer none, .slice none 0 0] 44))
  go_enter Tryz.func93, Tryz.ntmps93
  go_wp2_with fail
  generalize w.alloc (.cells #[.pointer none, .slice none 0 0] 44) = W at *
  go_loopw [7] (fun t wr => ∃ k : Nat, k ≤ s.size ∧ t = .int .i64 k ∧ Hid (Bld w.heap.size w.heap.size (sh (s.data.toList.take k)) wr) ∧ Hid (Below w.heap.size w wr)) (fun t _ => s.size - (intOf t).toNat)
  case atStart => exact ⟨0, Nat.zero_le _, rfl, HN, HW⟩
  case round =>
    obtain ⟨k, hk, rfl, HB, HL⟩ := hrel
    have hz := (tunhide HL).size
    by_cases hlt : k < s.size
    · have i0 : (0 : Int) ≤ (k : Int) := by omega
      have i1 : (k : Int) < (s.size : Int) := by omega
      have HT := thide (take_snoc8 s k hlt)
      have hl3 := take_len8 s k
      go_wp2_with fail
      refine (tshowByte w.heap.size w.heap.size _ s[k] wr (tunhide HB) (by omega) hz).mono ?_
      rintro e w1 ⟨rfl, h1, k1⟩
      have H1 := thide h1
      have K1 := thide k1
      clear h1 k1
      go_wp2_with fail
      refine ⟨⟨k + 1, by omega, by go_num, ?_, (tunhide HL).trans (tunhide K1)⟩, by simp [intOf]; omega⟩
      rw [tunhide HT, sh_snoc]
      exact H1
    · have i1 : ¬ (k : Int) < (s.size : Int) := by omega
      have e1 : s.data.toList.take k = s.data.toList := List.take_of_length_le (by rw [len8]; omega)
      rw [e1] at HB
      clear e1
      go_wp2_with fail
      refine (bstring w.heap.size w.heap.size _ wr (tunhide HB) hz).mono ?_
      rintro e w1 ⟨rfl, k1⟩
      have K1 := thide k1
      clear k1
      go_wp2_with fail
      go_ret
      exact ⟨rfl, (tunhide HL).trans (tunhide K1)⟩
/-- A value's text. -/
def vtx (t : Bool) (s : ByteArray) : List UInt8 := if t = true then 61 :: sh s.data.toList else [45]
theorem mk_app (x y : List UInt8) : (ByteArray.mk x.toArray ++ ByteArray.mk y.toArray) = ByteArray.mk (x ++ y).toArray := ByteArray.mk_append_mk x y
theorem mk_size (x : List UInt8) : (ByteArray.mk x.toArray).size = x.length := by simp [ByteArray.size]
set_option maxHeartbeats 1000000 in
theorem tvalue (t : Bool) (s : ByteArray) (w : World) (hs : s.size ≤ 30000) :
    Calls Tryz.prog 55 #[.agg #[.bool t, .string s]] w fun e w' => e = .returned (.string ⟨(vtx t s).toArray⟩) ∧ Below w.heap.size w w' := by
  have HW := thide ((Below.refl w.heap.size w).alloc (Nat.le_refl _) (.cells #[.bool t, .string s] 99))
  cases t with
  | false =>
    go_enter Tryz.func55, Tryz.ntmps55
    go_wp2_with fail
    go_ret
    exact ⟨rfl, HW⟩
  | true =>
    go_enter Tryz.func55, Tryz.ntmps55
    go_wp2_with fail
    refine (tshow s _ hs).mono ?_
    rintro e w1 ⟨rfl, k1⟩
    have K1 := thide k1
    clear k1
    have h1 := (sh_len s.data.toList).2
    rw [len8] at h1
    have h2 := mk_size (sh s.data.toList)
    have hz : (ByteArray.mk (sh s.data.toList).toArray).size ≤ 90000 := by omega
    have HE := thide (mk_app [61] (sh s.data.toList))
    generalize ByteArray.mk (sh s.data.toList).toArray = R at *
    clear h2
    go_wp2_with fail
    go_ret
    refine ⟨?_, (tunhide HW).trans ((tunhide K1).mono (by simp))⟩
    rw [show (ByteArray.mk #[61] : ByteArray) ++ R = _ from tunhide HE]
    rfl
end
/- The desk, of no program: the words of a line, a line's step, what is told. -/
section

/-- The words of a line, behind the bytes of one that has begun. -/
def wgo : List UInt8 → List UInt8 → List (List UInt8)
  | cur, [] => if cur = [] then [] else [cur]
  | cur, c :: r => if c = 32 then (if cur = [] then wgo [] r else cur :: wgo [] r) else wgo (cur ++ [c]) r
def wds (l : List UInt8) : List (List UInt8) := wgo [] l
/-- A number, as short as can be. -/
def num (w : List UInt8) : Option Int := match Lib.atoiAll w with
  | .ok v => if Lib.itoa v = w then some v else none
  | _ => none
/-- Bytes: = and their text. -/
def bts : List UInt8 → Option (List UInt8)
  | [] => none
  | c :: r => if c = 61 then mn r else none
structure Od where
  name : List UInt8
  letters : List UInt8
  kind : Int
  mode : Int
def ods : List Od := [⟨[115, 104, 111, 116], [83], 1, 1⟩, ⟨[115, 117, 114, 101], [83], 1, 2⟩, ⟨[108, 111, 111, 107], [83, 65], 1, 3⟩, ⟨[103, 101, 116], [83, 75], 2, 0⟩, ⟨[112, 117, 116], [83, 75, 66], 3, 0⟩, ⟨[100, 114, 111, 112], [83, 75], 4, 0⟩, ⟨[108, 105, 115, 116], [83, 75, 84], 5, 0⟩, ⟨[99, 111, 109, 109, 105, 116], [83], 6, 0⟩, ⟨[99, 108, 101, 97, 114], [], 8, 0⟩, ⟨[116, 101, 97, 114], [83, 78], 10, 0⟩, ⟨[97, 98, 111, 114, 116], [83], 7, 0⟩, ⟨[99, 114, 97, 115, 104], [], 9, 0⟩]
/-- One word of a line laid into its step. -/
def put1 (x : HStep) (c : UInt8) (w : List UInt8) : Option HStep :=
  if c = 83 then (num w).map fun v => { x with s := v }
  else if c = 65 then (num w).map fun v => { x with at_ := v }
  else if c = 75 then (num w).map fun v => { x with key := v }
  else if c = 84 then (num w).map fun v => { x with to_ := v }
  else if c = 78 then (num w).map fun v => { x with keep := v }
  else if c = 66 then (bts w).map fun b => { x with b := ⟨b.toArray⟩ }
  else none
def fgo (x : HStep) : List UInt8 → List (List UInt8) → Option HStep
  | c :: cs, w :: ws => match put1 x c w with
    | some y => fgo y cs ws
    | none => none
  | _, _ => some x
def fil (o : Od) (ws : List (List UInt8)) : Option HStep := fgo ⟨o.kind, 0, o.mode, 0, 0, 0, 0, ⟨#[]⟩⟩ o.letters ws
def rdg (nm : List UInt8) (ws : List (List UInt8)) : List Od → Option HStep
  | [] => none
  | o :: r => if o.name = nm ∧ o.letters.length = ws.length then fil o ws else rdg nm ws r
/-- The step that a line is. -/
def rdl (nm : List UInt8) (ws : List (List UInt8)) : Option HStep := rdg nm ws ods
def say (ws : List (List UInt8)) : List UInt8 := Lib.join ws [32] ++ [10]
def pvx (p : Ver) : List UInt8 := Lib.itoa p.a ++ vtx p.t p.s
/-- The words that are told of an event, of a kind of steps. -/
def telk (d : Int) (e : Ev) : List (List UInt8) :=
  if d = 2 then [[104, 97, 115], vtx e.t e.s]
  else if d = 5 then [97, 108, 108] :: e.l.map pvx
  else if d = 6 ∨ d = 8 ∨ d = 10 then [[111, 107], Lib.itoa e.n]
  else [[111, 107]]
def tell (d : Int) (e : Ev) : List (List UInt8) := if e.c ≠ 0 then [[110, 111], Lib.itoa e.c] else telk d e
/-- What a line leaves, and tells. -/
def dln (h : HSt) (l : List UInt8) : HSt × List UInt8 := match wds l with
  | [] => (h, [])
  | w :: ws => if w = [108, 97, 115, 116] ∧ ws = [] then (h, say [[108, 97, 115, 116], Lib.itoa h.n, Lib.itoa (fmx h.f 8), Lib.itoa (least h.n h.seat 5)])
    else match rdl w ws with
      | none => (h, say [[119, 104, 97, 116]])
      | some x => (hdo h x, say (tell x.d (hev h x)))
def drun (h : HSt) : List (List UInt8) → HSt × List UInt8
  | [] => (h, [])
  | l :: r => ((drun (dln h l).1 r).1, (dln h l).2 ++ (drun (dln h l).1 r).2)
/-- Where the first line with a newline stands, from i on. -/
def lfg (i : Nat) : List (List UInt8) → Int × Int
  | [] => (0, 0)
  | l :: r => if (10 : UInt8) ∈ l then (15, (i : Int)) else lfg (i + 1) r
def lft (ls : List (List UInt8)) : Int × Int := if 150 < ls.length then (14, -1) else lfg 0 ls

theorem drun_app (h : HSt) (l r : List (List UInt8)) : drun h (l ++ r) = ((drun (drun h l).1 r).1, (drun h l).2 ++ (drun (drun h l).1 r).2) := by
  induction l generalizing h with
  | nil => simp [drun]
  | cons a l ih => simp only [List.cons_append, drun, ih, List.append_assoc]
theorem drun_snoc (h : HSt) (l : List (List UInt8)) (a : List UInt8) : drun h (l ++ [a]) = ((dln (drun h l).1 a).1, (drun h l).2 ++ (dln (drun h l).1 a).2) := by
  rw [drun_app]; simp [drun]
theorem wgo_blank (r : List UInt8) : wgo [] (32 :: r) = wgo [] r := by simp [wgo]
theorem wds_trim (l : List UInt8) : wds (Lib.trimLeftB l 32) = wds l := by
  unfold wds
  induction l with
  | nil => rfl
  | cons c r ih =>
    unfold Lib.trimLeftB at ih ⊢
    rw [List.dropWhile_cons]
    by_cases hc : c = 32
    · subst hc
      simp only [beq_self_eq_true, if_true, wgo_blank]
      exact ih
    · rw [if_neg (by simpa using hc)]
theorem wgo_word : ∀ (l cur : List UInt8), cur ++ l.takeWhile (· != 32) ≠ [] → wgo cur l = (cur ++ l.takeWhile (· != 32)) :: wgo [] ((l.dropWhile (· != 32)).drop 1)
  | [], cur, h => by simp at h; simp [wgo, h]
  | c :: r, cur, h => by
    by_cases hc : c = 32
    · subst hc
      simp at h
      simp [wgo, h]
    · have := wgo_word r (cur ++ [c]) (by simp)
      simp [wgo, hc, this]
theorem lfg_val {ls : List (List UInt8)} : ∀ {i : Nat}, (lfg i ls).1 = 0 → lfg i ls = (0, 0) := by
  induction ls with
  | nil => intro i _; rfl
  | cons a r ih =>
    intro i h
    unfold lfg at h ⊢
    split at h
    · cases h
    · rename_i hn
      rw [if_neg hn]
      exact ih h
/-- More words than any line of the table has: none of these. -/
theorem rdl_take (nm : List UInt8) (ws : List (List UInt8)) : rdl nm (ws.take 4) = rdl nm ws := by
  by_cases hl : ws.length ≤ 4
  · rw [List.take_of_length_le hl]
  · have h4 : (ws.take 4).length = 4 := by simp; omega
    have hn : ∀ vs : List (List UInt8), 4 ≤ vs.length → rdl nm vs = none := by
      intro vs hv
      have q : ∀ o ∈ ods, o.letters.length ≤ 3 := by decide
      unfold rdl
      generalize ods = os at q ⊢
      induction os with
      | nil => rfl
      | cons o r ih =>
        unfold rdg
        have := q o (by simp)
        rw [if_neg (fun h => by omega)]
        exact ih (fun o ho => q o (by simp [ho]))
    rw [hn _ (by omega), hn _ (by omega)]
theorem index_32 (l : List UInt8) : Lib.index l [32] = if 32 ∈ l then ((l.takeWhile (· != 32)).length : Int) else -1 := by
  induction l with
  | nil => rfl
  | cons c r ih =>
    unfold Lib.index
    by_cases hc : c = 32
    · subst hc; simp
    · have h1 : ([32] : List UInt8).isPrefixOf (c :: r) = false := by simp [List.isPrefixOf, Ne.symm hc]
      rw [h1, ih]
      have h2 : ((32 : UInt8) ∈ c :: r) = ((32 : UInt8) ∈ r) := by simp [Ne.symm hc]
      rw [if_neg (by simp)]
      simp only [h2]
      by_cases hm : (32 : UInt8) ∈ r
      · have h3 : ¬ (((List.takeWhile (fun x => x != 32) r).length : Int) == -1) = true := by simp
        simp only [if_pos hm, if_neg h3]
        simp [hc]
      · simp [hm]
theorem takeWhile_all {l : List UInt8} (h : (32 : UInt8) ∉ l) : l.takeWhile (· != 32) = l := by
  induction l with
  | nil => rfl
  | cons c r ih =>
    simp at h
    simp [Ne.symm h.1, ih h.2]
theorem take_drop_while (l : List UInt8) : l.take (l.takeWhile (· != 32)).length = l.takeWhile (· != 32) ∧ l.drop (l.takeWhile (· != 32)).length = l.dropWhile (· != 32) := by
  induction l with
  | nil => exact ⟨rfl, rfl⟩
  | cons c r ih =>
    by_cases hc : c = 32
    · subst hc; simp
    · simp [hc, ih.1, ih.2]
theorem cut_32 (l : List UInt8) : (Lib.cut l [32]).1 = l.takeWhile (· != 32) ∧ (Lib.cut l [32]).2.1 = (l.dropWhile (· != 32)).drop 1 := by
  unfold Lib.cut
  rw [index_32]
  by_cases hm : (32 : UInt8) ∈ l
  · rw [if_pos hm, if_pos (by omega)]
    have := take_drop_while l
    refine ⟨?_, ?_⟩
    · show l.take ((_ : Int).toNat) = _
      rw [Int.toNat_natCast]; exact this.1
    · show l.drop ((_ : Int).toNat + 1) = _
      rw [Int.toNat_natCast, ← List.drop_drop, this.2]
  · rw [if_neg hm, if_neg (by omega)]
    refine ⟨(takeWhile_all hm).symm, ?_⟩
    have := take_drop_while l
    rw [takeWhile_all hm] at this
    rw [← this.2]; simp
/-- A line that does not begin with a blank: its first word, and the rest. -/
theorem wds_cut {c : UInt8} {r : List UInt8} (hc : c ≠ 32) : wds (c :: r) = (Lib.cut (c :: r) [32]).1 :: wds (Lib.cut (c :: r) [32]).2.1 := by
  obtain ⟨h1, h2⟩ := cut_32 (c :: r)
  rw [h1, h2]
  unfold wds
  have := wgo_word (c :: r) [] (by simp [hc])
  rw [this, List.nil_append]
theorem trim_head {l r : List UInt8} {c : UInt8} (h : Lib.trimLeftB l 32 = c :: r) : c ≠ 32 := by
  intro e; subst e
  unfold Lib.trimLeftB at h
  have := List.head_dropWhile_not (p := (· == (32 : UInt8))) (l := l) (by rw [h]; simp)
  simp [h] at this
theorem cut_len (l : List UInt8) : (Lib.cut l [32]).1.length + (Lib.cut l [32]).2.1.length ≤ l.length := by
  obtain ⟨h1, h2⟩ := cut_32 l
  rw [h1, h2, List.length_drop]
  have := congrArg List.length (List.takeWhile_append_dropWhile (p := (· != (32 : UInt8))) (l := l))
  rw [List.length_append] at this
  omega
theorem trim_len (l : List UInt8) : (Lib.trimLeftB l 32).length ≤ l.length := by
  unfold Lib.trimLeftB
  have := congrArg List.length (List.takeWhile_append_dropWhile (p := (· == (32 : UInt8))) (l := l))
  rw [List.length_append] at this
  omega
end
/- The desk's memory: a builder of what is told, and the hall; copyCheck, WriteString, String, Reset on it, by their contracts. -/
section
open Go.RowKit
attribute [local go_sem ↓] Go.wp_at_zero Go.wp_at_succ

theorem kp_of_below {w w' : World} (h : Below w.heap.size w w') : Kp [] w w' := ⟨h.os, h.tape, h.output, h.size, fun k hk _ => h.block k hk⟩
theorem below_of_kp {w w' : World} (h : Kp [] w w') : Below w.heap.size w w' := ⟨h.os, h.tape, h.output, h.size, fun k hk => h.block k hk (by simp)⟩

/-- A desk: what was told since the builder was emptied, and its hall. -/
def DskT (d hb : Nat) (bs : List UInt8) : Thing where
  holds B w F := ∃ (p : Value) (a : Option Addr) (cap : Nat), (p = .pointer none ∨ p = .pointer (some ⟨d, 0, none⟩)) ∧ w.heap[d]? = some (.cells #[p, .slice a bs.length cap, .pointer (some ⟨hb, 0, none⟩)] 46 (0, 0)) ∧ OwnU B w a cap bs ∧ F = d :: ob a ∧ B ≤ d ∧ d ∉ ob a ∧ (bs = [] → a = none)
  kp := fun ⟨p, a, cap, h1, h2, h3, h4, h5, h6⟩ hk hS => ⟨p, a, cap, h1, by rw [hk.block d (lt_of_block h2) (hS d (by rw [h4]; simp))]; exact h2, h3.kp hk (fun x hx => hS x (by rw [h4]; simp [hx])), h4, h5, h6⟩
  lo := fun ⟨p, a, cap, h1, h2, h3, h4, h5, h6⟩ x hx => by
    rw [h4] at hx
    rcases List.mem_cons.1 hx with e | e
    · rw [e]; exact ⟨h5, lt_of_block h2⟩
    · exact h3.lo x e
  base := fun ⟨p, a, cap, h1, h2, h3, h4, h5, h6⟩ hC => ⟨p, a, cap, h1, h2, h3.base hC, h4, Nat.le_trans hC h5, h6⟩

theorem dsk_lies : liesAt Tryz.prog Tryz.prog.depth 46 (3 / Tryz.prog.cellsOf 46) 0 44 1 = true := by kernel_rfl
set_option maxHeartbeats 1000000 in
theorem dcheck_used (b : Nat) (w : World) (h0 : w.cell? ⟨b, 0, none⟩ = some (.pointer (some ⟨b, 0, none⟩))) :
    Calls Tryz.prog 82 #[.pointer (some ⟨b, 0, none⟩)] w fun e w' => e = .returned (.tuple #[]) ∧ w' = w := bcheck_used b w h0
set_option maxHeartbeats 1000000 in
theorem dcheck_fresh (b : Nat) (w : World) (h0 : w.cell? ⟨b, 0, none⟩ = some (.pointer none)) (hsh : w.shape? b = some (46, 3)) (hfz : w.frozen? ⟨b, 0, none⟩ = false) :
    Calls Tryz.prog 82 #[.pointer (some ⟨b, 0, none⟩)] w fun e w' => e = .returned (.tuple #[]) ∧ w' = w.setCell ⟨b, 0, none⟩ (.pointer (some ⟨b, 0, none⟩)) := by
  obtain ⟨j, hj, hjs⟩ := Option.map_eq_some_iff.1 btX.sizeBuilder
  go_enter Tryz.func82, Tryz.ntmps82
  go_wp2
  rw [Lib.run_to_unsafe w ⟨b, 0, none⟩ Tryz.underlying41 Tryz.underlying186 hj (by rw [hjs]; decide) hsh (Nat.zero_lt_succ 2)]
  simp only [Result.andThen]
  rw [Oper.upon_value]
  go_wp2
  rw [run_callFunc_extern Tryz.func117 (by kernel_rfl) (by kernel_rfl) (by kernel_rfl) (e := Extern.AbiNoEscape.same) (by kernel_rfl)]
  rw [Lib.run_noEscape]
  simp only [Result.andThen]
  rw [Oper.upon_value]
  go_wp2
  rw [Lib.run_from_unsafe w ⟨b, 0, none⟩ Tryz.underlying186 Tryz.underlying41 hj hsh dsk_lies]
  simp only [Result.andThen]
  rw [Oper.upon_value]
  go_wp2
  go_end0
  exact ⟨rfl, rfl⟩
theorem dcheck {d : Nat} {w : World} {p v u : Value} (hp : p = .pointer none ∨ p = .pointer (some ⟨d, 0, none⟩)) (hb : w.heap[d]? = some (.cells #[p, v, u] 46 (0, 0))) :
    Calls Tryz.prog 82 #[.pointer (some ⟨d, 0, none⟩)] w fun e w' => e = .returned (.tuple #[]) ∧ w'.heap[d]? = some (.cells #[.pointer (some ⟨d, 0, none⟩), v, u] 46 (0, 0)) ∧ Kp [d] w w' := by
  rcases hp with rfl | rfl
  · refine (dcheck_fresh d w (cell_of_block hb rfl) (by simp [World.shape?, hb]) (frozen_of_block _ hb)).mono ?_
    rintro e w' ⟨rfl, rfl⟩
    refine ⟨rfl, ?_, (Kp.refl [d] w).setCell (.inl (by simp)) _⟩
    rw [heap_setCell_at 0 _ hb]
    rfl
  · refine (dcheck_used d w (cell_of_block hb rfl)).mono ?_
    rintro e w' ⟨rfl, rfl⟩
    exact ⟨rfl, hb, Kp.refl _ _⟩

set_option maxHeartbeats 2000000 in
/-- Bytes more are told. -/
theorem dwrite {B d hb : Nat} {bs : List UInt8} {w : World} {F : List Nat} (h : (DskT d hb bs).holds B w F) (hB : B ≤ w.heap.size) (s : ByteArray) (hs0 : 0 < s.data.toList.length) (hm : bs.length + s.data.toList.length ≤ 100000) :
    Calls Tryz.prog 47 #[.pointer (some ⟨d, 0, none⟩), .string s] w fun e w' => (∃ v, e = .returned v) ∧ Hid (Ch (DskT d hb (bs ++ s.data.toList)) B w F w') := by
  obtain ⟨p, a, cap, hp, hbk, hown, rfl, hBd, hda, _⟩ := h
  go_enter Tryz.func47, Tryz.ntmps47
  go_wp2_with (go_at_call 82; refine (dcheck hp hbk).mono ?_)
  rintro e w1 ⟨rfl, hb1, hk1⟩
  have c1 : w1.cell? ⟨d, 1, none⟩ = some (.slice a bs.length cap) := cell_of_block hb1 rfl
  have hown1 : OwnU B w1 a cap bs := hown.kp hk1 (fun x hx e => hda (by rw [← List.mem_singleton.1 e]; exact hx))
  have hsz := hk1.size
  have H1 := hide hb1
  have H2 := hide hk1
  have H3 := hide hown1
  clear hb1 hk1 hown1 hbk hown hp
  go_wp2_with (at_builtin; refine wpList_appx (by rfl) (.tmp 12) (.tmp 13) 9 (by rfl) (unhide H3) (by omega) _ rfl (.string s) s.data.toList (by rfl) (by rfl) (str_src _ s) hm ?_; intro a' cap' n' w2 HN HO HK HX; have hb2 := hide (show w2.heap[d]? = some (.cells #[.pointer (some ⟨d, 0, none⟩), .slice a bs.length cap, .pointer (some ⟨hb, 0, none⟩)] 46 (0, 0)) by rw [(unhide HK).block d (lt_of_block (unhide H1)) hda]; exact unhide H1); have f1 : w2.frozen? ⟨d, 1, none⟩ = false := frozen_of_block _ (unhide hb2); have d1 : w2.cell? ⟨d, 1, none⟩ = some (.slice a bs.length cap) := cell_of_block (unhide hb2) rfl)
  go_ret2
  refine ⟨⟨_, rfl⟩, ?_⟩
  have hn' := unhide HN
  subst hn'
  have hk2 : Kp (d :: ob a) w w2 := ((unhide H2).mono (fun x hx => by simp at hx; simp [hx])).trans (unhide HK) (fun x hx => .inl (by simp [hx]))
  have hne : d ∉ ob a' := fun hm => by
    rcases unhide HX d hm with e | e
    · exact hda e
    · have := lt_of_block (unhide H1); omega
  have hk3 : Kp [d] w2 (w2.setCell ⟨d, 1, none⟩ (.slice a' (bs ++ s.data.toList).length cap')) := (Kp.refl [d] w2).setCell (.inl (by simp)) _
  refine ⟨d :: ob a', ⟨_, a', cap', .inr rfl, ?_, (unhide HO).kp hk3 (fun x hx e => hne (by rw [← List.mem_singleton.1 e]; exact hx)), rfl, hBd, hne, fun e => by have := congrArg List.length e; rw [List.length_append, List.length_nil] at this; omega⟩, hk2.trans hk3 (fun x hx => .inl (by simp at hx; simp [hx])), fun x hx => ?_⟩
  · rw [heap_setCell_at 1 _ (unhide hb2)]
    rfl
  · rcases List.mem_cons.1 hx with e | e
    · exact .inl (by simp [e])
    · rcases unhide HX x e with q | q
      · exact .inl (by simp [q])
      · exact .inr (by omega)
end
end Go.Proofs.YtldkeaeohceckadGreatDoor
/-
  DERIVED: THE SHELF's CONTRACTS AT THIS DUMP, IN PLAIN WORDS (tools/lay-plain.mjs out of 'TryzShelf.lean', which tools/lay-shelf.mjs wrote): THE SAME DECLARATIONS UNDER THE SAME NAMES: 'import', 'namespace', 'open', 'def', 'theorem' AND NOTHING ELSE: no command of the shelf's: FOR A HAND-IN. Each laying: the table of numbers ('.._ren') and one theorem, a field a fact of the dump's own or the kernel's comparison; each contract: ONE APPLICATION.
-/
namespace Go.Proofs
open Go.Shelf
def Tryz.lays156_ren : Go.Shelf.Ren := ⟨fun | 156 => 48 | 165 => 83 | 166 => 47 | 169 => 16 | 240 => 82 | 241 => 118 | 276 => 117 | 277 => 150 | n => n, fun | 31 => 22 | 9 => 9 | 3 => 3 | 4 => 4 | 0 => 0 | 20 => 20 | 72 => 44 | 76 => 91 | 70 => 41 | 37 => 42 | 75 => 90 | 127 => 85 | 164 => 186 | 5 => 5 | 80 => 52 | n => n, fun | n => n⟩
theorem Tryz.lays156 : Go.Proofs.Lays.n156 Tryz.prog Tryz.lays156_ren := {
  mixed := by kernel_rfl
  f156 := Tryz.func48.trans (congrArg some (by kernel_rfl))
  f165 := Tryz.func83.trans (congrArg some (by kernel_rfl))
  f166 := Tryz.func47.trans (congrArg some (by kernel_rfl))
  f169 := Tryz.func16.trans (congrArg some (by kernel_rfl))
  f240 := Tryz.func82.trans (congrArg some (by kernel_rfl))
  f241 := Tryz.func118.trans (congrArg some (by kernel_rfl))
  f276 := Tryz.func117.trans (congrArg some (by kernel_rfl))
  f277 := Tryz.func150.trans (congrArg some (by kernel_rfl))
  t0 := Tryz.underlying0
  a0 := Tryz.isAgg0
  z0 := Tryz.sizeOf0
  v0 := Tryz.zeroValue0
  t3 := Tryz.underlying3
  a3 := Tryz.isAgg3
  z3 := Tryz.sizeOf3
  v3 := Tryz.zeroValue3
  t4 := Tryz.underlying4
  a4 := Tryz.isAgg4
  z4 := Tryz.sizeOf4
  v4 := Tryz.zeroValue4
  t9 := Tryz.underlying9
  a9 := Tryz.isAgg9
  z9 := Tryz.sizeOf9
  v9 := Tryz.zeroValue9
  t20 := Tryz.underlying20
  a20 := Tryz.isAgg20
  z20 := Tryz.sizeOf20
  v20 := Tryz.zeroValue20
  t31 := Tryz.underlying22
  a31 := Tryz.isAgg22
  z31 := Tryz.sizeOf22
  v31 := Tryz.zeroValue22
  t37 := Tryz.underlying42
  a37 := Tryz.isAgg42
  z37 := Tryz.sizeOf42
  v37 := Tryz.zeroValue42
  t70 := Tryz.underlying41
  a70 := Tryz.isAgg41
  z70 := Tryz.sizeOf41
  v70 := Tryz.zeroValue41
  t72 := Tryz.underlying44
  a72 := Tryz.isAgg44
  z72 := Tryz.sizeOf44
  v72 := Tryz.zeroValue44
  t75 := Tryz.underlying90
  a75 := Tryz.isAgg90
  z75 := Tryz.sizeOf90
  v75 := Tryz.zeroValue90
  t76 := Tryz.underlying91
  a76 := Tryz.isAgg91
  z76 := Tryz.sizeOf91
  v76 := Tryz.zeroValue91
  t127 := Tryz.underlying85
  a127 := Tryz.isAgg85
  z127 := Tryz.sizeOf85
  v127 := Tryz.zeroValue85
  t164 := Tryz.underlying186
  a164 := Tryz.isAgg186
  z164 := Tryz.sizeOf186
  v164 := Tryz.zeroValue186 }
theorem Tryz.Builder_Extra_156 : Builder.Extra Tryz.prog Tryz.lays156_ren := {
  sizeBuilder := by kernel_rfl
  liesBuilder := by kernel_rfl
  t5 := Tryz.underlying5
  a5 := Tryz.isAgg5
  z5 := Tryz.sizeOf5
  v5 := Tryz.zeroValue5
  infoByte := by kernel_rfl
  cellsByte := by kernel_rfl
  sizeByte := by kernel_rfl
  neB5 := by decide }
open Go.RowKit in
theorem Tryz.strings_Join_none (a : Option Addr) (c : Nat) (sep : ByteArray) (w : World) :
    Calls Tryz.prog 48 #[.slice a 0 c, .string sep] w fun e w' => e = .returned (.string ⟨#[]⟩) ∧ w' = w := Any.strings_Join_none Tryz.lays156 Tryz.Builder_Extra_156 a c sep w
open Go.RowKit in
theorem Tryz.strings_Join (bk o c : Nat) (xs : List ByteArray) (sep : ByteArray) (w : World) (hcells : ∀ (j : Nat) x, xs[j]? = some x → w.cell? ⟨bk, o + j, none⟩ = some (.string x)) (hbk : bk < w.heap.size) (hN : xs.length ≤ 140737488355328) (hcap : xs.length ≤ c) (hlen : (Lib.join (xs.map (·.data.toList)) sep.data.toList).length ≤ 140737488355328) :
    Calls Tryz.prog 48 #[.slice (some ⟨bk, o, none⟩) xs.length c, .string sep] w fun e w' => e = .returned (.string ⟨(Lib.join (xs.map (·.data.toList)) sep.data.toList).toArray⟩) ∧ Below w.heap.size w w' := Any.strings_Join Tryz.lays156 Tryz.Builder_Extra_156 bk o c xs sep w hcells hbk hN hcap hlen
def Tryz.lays161_ren : Go.Shelf.Ren := ⟨fun | 161 => 45 | 231 => 77 | 227 => 78 | 233 => 79 | 235 => 80 | 228 => 114 | 197 => 115 | 151 => 116 | 260 => 148 | 152 => 149 | 137 => 175 | 119 => 176 | 224 => 112 | 225 => 111 | 217 => 110 | 266 => 146 | n => n, fun | 9 => 9 | 4 => 4 | 3 => 3 | 5 => 5 | 117 => 150 | 116 => 149 | 0 => 0 | 124 => 153 | 105 => 183 | 21 => 21 | 119 => 239 | 46 => 37 | 139 => 242 | 138 => 241 | n => n, fun | 3 => 5 | 4 => 6 | n => n⟩
theorem Tryz.lays161 : Go.Proofs.Lays.n161 Tryz.prog Tryz.lays161_ren := {
  mixed := by kernel_rfl
  f119 := Tryz.func176.trans (congrArg some (by kernel_rfl))
  f137 := Tryz.func175.trans (congrArg some (by kernel_rfl))
  f151 := Tryz.func116.trans (congrArg some (by kernel_rfl))
  f152 := Tryz.func149.trans (congrArg some (by kernel_rfl))
  f161 := Tryz.func45.trans (congrArg some (by kernel_rfl))
  f197 := Tryz.func115.trans (congrArg some (by kernel_rfl))
  f217 := Tryz.func110.trans (congrArg some (by kernel_rfl))
  f224 := Tryz.func112.trans (congrArg some (by kernel_rfl))
  f225 := Tryz.func111.trans (congrArg some (by kernel_rfl))
  f227 := Tryz.func78.trans (congrArg some (by kernel_rfl))
  f228 := Tryz.func114.trans (congrArg some (by kernel_rfl))
  f231 := Tryz.func77.trans (congrArg some (by kernel_rfl))
  f233 := Tryz.func79.trans (congrArg some (by kernel_rfl))
  f235 := Tryz.func80.trans (congrArg some (by kernel_rfl))
  f260 := Tryz.func148.trans (congrArg some (by kernel_rfl))
  f266 := Tryz.func146.trans (congrArg some (by kernel_rfl))
  t0 := Tryz.underlying0
  a0 := Tryz.isAgg0
  z0 := Tryz.sizeOf0
  v0 := Tryz.zeroValue0
  t3 := Tryz.underlying3
  a3 := Tryz.isAgg3
  z3 := Tryz.sizeOf3
  v3 := Tryz.zeroValue3
  t4 := Tryz.underlying4
  a4 := Tryz.isAgg4
  z4 := Tryz.sizeOf4
  v4 := Tryz.zeroValue4
  t5 := Tryz.underlying5
  a5 := Tryz.isAgg5
  z5 := Tryz.sizeOf5
  v5 := Tryz.zeroValue5
  t9 := Tryz.underlying9
  a9 := Tryz.isAgg9
  z9 := Tryz.sizeOf9
  v9 := Tryz.zeroValue9
  t21 := Tryz.underlying21
  a21 := Tryz.isAgg21
  z21 := Tryz.sizeOf21
  v21 := Tryz.zeroValue21
  t46 := Tryz.underlying37
  a46 := Tryz.isAgg37
  z46 := Tryz.sizeOf37
  v46 := Tryz.zeroValue37
  t105 := Tryz.underlying183
  a105 := Tryz.isAgg183
  z105 := Tryz.sizeOf183
  v105 := Tryz.zeroValue183
  t116 := Tryz.underlying149
  a116 := Tryz.isAgg149
  z116 := Tryz.sizeOf149
  t117 := Tryz.underlying150
  a117 := Tryz.isAgg150
  z117 := Tryz.sizeOf150
  v117 := Tryz.zeroValue150
  t119 := Tryz.underlying239
  a119 := Tryz.isAgg239
  z119 := Tryz.sizeOf239
  t124 := Tryz.underlying153
  a124 := Tryz.isAgg153
  z124 := Tryz.sizeOf153
  v124 := Tryz.zeroValue153
  t138 := Tryz.underlying241
  a138 := Tryz.isAgg241
  z138 := Tryz.sizeOf241
  v138 := Tryz.zeroValue241
  t139 := Tryz.underlying242
  a139 := Tryz.isAgg242
  z139 := Tryz.sizeOf242
  v139 := Tryz.zeroValue242
  g3 := by kernel_rfl
  g4 := by kernel_rfl }
open Go.RowKit in
theorem Tryz.strings_TrimLeft_one (s : ByteArray) (c : UInt8) (hc : c.toNat < 128) (w : World) :
    Calls Tryz.prog 45 #[.string s, .string ⟨#[c]⟩] w fun e w' => e = .returned (.string ⟨(Lib.trimLeftB s.data.toList c).toArray⟩) ∧ w' = w := Any.strings_TrimLeft_one Tryz.lays161 s c hc w
def Tryz.lays103_ren : Go.Shelf.Ren := ⟨fun | 103 => 123 | 210 => 156 | 206 => 179 | n => n, fun | 9 => 9 | 4 => 4 | 24 => 87 | 3 => 3 | n => n, fun | n => n⟩
theorem Tryz.lays103 : Go.Proofs.Lays.n103 Tryz.prog Tryz.lays103_ren := {
  mixed := by kernel_rfl
  f103 := Tryz.func123.trans (congrArg some (by kernel_rfl))
  f206 := Tryz.func179.trans (congrArg some (by kernel_rfl))
  f210 := Tryz.func156.trans (congrArg some (by kernel_rfl))
  t3 := Tryz.underlying3
  a3 := Tryz.isAgg3
  z3 := Tryz.sizeOf3
  v3 := Tryz.zeroValue3
  t4 := Tryz.underlying4
  a4 := Tryz.isAgg4
  z4 := Tryz.sizeOf4
  v4 := Tryz.zeroValue4
  t9 := Tryz.underlying9
  a9 := Tryz.isAgg9
  z9 := Tryz.sizeOf9
  v9 := Tryz.zeroValue9
  t24 := Tryz.underlying87
  a24 := Tryz.isAgg87
  z24 := Tryz.sizeOf87
  v24 := Tryz.zeroValue87 }
open Go.RowKit in
theorem Tryz.strings_CutPrefix (s p : ByteArray) (w : World) :
    Calls Tryz.prog 123 #[.string s, .string p] w fun e w' => e = .returned (.tuple #[.string ⟨(Lib.trimPrefix s.data.toList p.data.toList).toArray⟩, .bool (Lib.hasPrefix s.data.toList p.data.toList)]) ∧ w' = w := Any.strings_CutPrefix Tryz.lays103 s p w
def Tryz.laysM171_ren : Go.Shelf.Ren := ⟨fun | 171 => 25 | 243 => 49 | 246 => 84 | 283 => 119 | 284 => 120 | 285 => 121 | 286 => 122 | 129 => 152 | 317 => 151 | 318 => 153 | 319 => 154 | 320 => 155 | 337 => 177 | 338 => 178 | n => n, fun | 3 => 3 | 9 => 9 | 2 => 2 | 4 => 4 | 171 => 188 | 0 => 0 | 53 => 189 | 37 => 42 | 5 => 5 | 173 => 192 | 212 => 219 | 51 => 213 | 20 => 20 | 213 => 220 | 46 => 37 | 232 => 249 | 233 => 250 | n => n, fun | 17 => 4 | 18 => 7 | 19 => 8 | n => n⟩
theorem Tryz.laysM171 : Go.Proofs.LaysM.n171 Tryz.prog Tryz.laysM171_ren := {
  mixed := by kernel_rfl
  f129 := Tryz.func152.trans (congrArg some (by kernel_rfl))
  f171 := Tryz.func25.trans (congrArg some (by kernel_rfl))
  f243 := Tryz.func49.trans (congrArg some (by kernel_rfl))
  f246 := Tryz.func84.trans (congrArg some (by kernel_rfl))
  f283 := Tryz.func119.trans (congrArg some (by kernel_rfl))
  f284 := Tryz.func120.trans (congrArg some (by kernel_rfl))
  f285 := Tryz.func121.trans (congrArg some (by kernel_rfl))
  f286 := Tryz.func122.trans (congrArg some (by kernel_rfl))
  f317 := Tryz.func151.trans (congrArg some (by kernel_rfl))
  f318 := Tryz.func153.trans (congrArg some (by kernel_rfl))
  f319 := Tryz.func154.trans (congrArg some (by kernel_rfl))
  f320 := Tryz.func155.trans (congrArg some (by kernel_rfl))
  f337 := Tryz.func177.trans (congrArg some (by kernel_rfl))
  f338 := Tryz.func178.trans (congrArg some (by kernel_rfl))
  t0 := Tryz.underlying0
  a0 := Tryz.isAgg0
  z0 := Tryz.sizeOf0
  v0 := Tryz.zeroValue0
  t2 := Tryz.underlying2
  a2 := Tryz.isAgg2
  z2 := Tryz.sizeOf2
  v2 := Tryz.zeroValue2
  t3 := Tryz.underlying3
  a3 := Tryz.isAgg3
  z3 := Tryz.sizeOf3
  v3 := Tryz.zeroValue3
  t4 := Tryz.underlying4
  a4 := Tryz.isAgg4
  z4 := Tryz.sizeOf4
  v4 := Tryz.zeroValue4
  t5 := Tryz.underlying5
  a5 := Tryz.isAgg5
  z5 := Tryz.sizeOf5
  v5 := Tryz.zeroValue5
  t9 := Tryz.underlying9
  a9 := Tryz.isAgg9
  z9 := Tryz.sizeOf9
  v9 := Tryz.zeroValue9
  t20 := Tryz.underlying20
  a20 := Tryz.isAgg20
  z20 := Tryz.sizeOf20
  v20 := Tryz.zeroValue20
  t37 := Tryz.underlying42
  a37 := Tryz.isAgg42
  z37 := Tryz.sizeOf42
  v37 := Tryz.zeroValue42
  t46 := Tryz.underlying37
  a46 := Tryz.isAgg37
  z46 := Tryz.sizeOf37
  v46 := Tryz.zeroValue37
  t51 := Tryz.underlying213
  a51 := Tryz.isAgg213
  z51 := Tryz.sizeOf213
  v51 := Tryz.zeroValue213
  t53 := Tryz.underlying189
  a53 := Tryz.isAgg189
  z53 := Tryz.sizeOf189
  v53 := Tryz.zeroValue189
  t171 := Tryz.underlying188
  a171 := Tryz.isAgg188
  z171 := Tryz.sizeOf188
  v171 := Tryz.zeroValue188
  t173 := Tryz.underlying192
  a173 := Tryz.isAgg192
  z173 := Tryz.sizeOf192
  v173 := Tryz.zeroValue192
  t212 := Tryz.underlying219
  a212 := Tryz.isAgg219
  z212 := Tryz.sizeOf219
  v212 := Tryz.zeroValue219
  t213 := Tryz.underlying220
  a213 := Tryz.isAgg220
  z213 := Tryz.sizeOf220
  t232 := Tryz.underlying249
  a232 := Tryz.isAgg249
  z232 := Tryz.sizeOf249
  v232 := Tryz.zeroValue249
  t233 := Tryz.underlying250
  a233 := Tryz.isAgg250
  z233 := Tryz.sizeOf250
  v233 := Tryz.zeroValue250
  g17 := by kernel_rfl
  g18 := by kernel_rfl
  g19 := by kernel_rfl
  i0 := by kernel_rfl
  i2 := by kernel_rfl
  i3 := by kernel_rfl
  i4 := by kernel_rfl
  i5 := by kernel_rfl
  i9 := by kernel_rfl
  i20 := by kernel_rfl
  i37 := by kernel_rfl
  i46 := by kernel_rfl
  i51 := by kernel_rfl
  i53 := by kernel_rfl
  i171 := by kernel_rfl
  i173 := by kernel_rfl
  i212 := by kernel_rfl
  i232 := by kernel_rfl
  i233 := by kernel_rfl
  m17 := by kernel_rfl
  m18 := by kernel_rfl
  m19 := by kernel_rfl }
open Go.RowKit Go.Sort Go.Lib in
theorem Tryz.strconv_Itoa (n : Int) (h0 : -9223372036854775808 ≤ n) (h1 : n ≤ 9223372036854775807) (w : World) (htab : Lib.TabIs Tryz.prog w "internal/strconv.uint64pow10" .u64 Lib.pow10Tab) :
    Calls Tryz.prog 25 #[.int .i64 n] w fun e w' => e = .returned (.string ⟨(Lib.itoa n).toArray⟩) ∧ ∃ k os, w' = grow (w.drewN k) os := Any.strconv_Itoa Tryz.laysM171 n h0 h1 w htab
def Tryz.laysC172_ren : Go.Shelf.Ren := ⟨fun | 172 => 35 | 244 => 61 | 245 => 62 | 247 => 94 | 279 => 95 | 280 => 96 | 281 => 97 | 282 => 98 | 287 => 139 | 316 => 140 | 171 => 25 | 205 => 141 | 321 => 173 | 322 => 174 | 243 => 49 | 246 => 84 | 283 => 119 | 284 => 120 | 285 => 121 | 286 => 122 | 129 => 152 | 317 => 151 | 318 => 153 | 319 => 154 | 320 => 155 | 337 => 177 | 338 => 178 | n => n, fun | 9 => 9 | 3 => 3 | 75 => 90 | 76 => 91 | 4 => 4 | 5 => 5 | 167 => 166 | 37 => 42 | 0 => 0 | 85 => 167 | 2 => 2 | 168 => 169 | 53 => 189 | 175 => 206 | 46 => 37 | 210 => 209 | 127 => 85 | 145 => 238 | 143 => 236 | 21 => 21 | 171 => 188 | 173 => 192 | 212 => 219 | 51 => 213 | 20 => 20 | 213 => 220 | 232 => 249 | 233 => 250 | 80 => 52 | n => n, fun | 15 => 2 | 16 => 3 | 17 => 4 | 18 => 7 | 19 => 8 | n => n⟩
theorem Tryz.laysC172 : Go.Proofs.LaysC.n172 Tryz.prog Tryz.laysC172_ren := {
  mixed := by kernel_rfl
  f129 := Tryz.func152.trans (congrArg some (by kernel_rfl))
  f171 := Tryz.func25.trans (congrArg some (by kernel_rfl))
  f172 := Tryz.func35.trans (congrArg some (by kernel_rfl))
  f205 := Tryz.func141.trans (congrArg some (by kernel_rfl))
  f243 := Tryz.func49.trans (congrArg some (by kernel_rfl))
  f244 := Tryz.func61.trans (congrArg some (by kernel_rfl))
  f245 := Tryz.func62.trans (congrArg some (by kernel_rfl))
  f246 := Tryz.func84.trans (congrArg some (by kernel_rfl))
  f247 := Tryz.func94.trans (congrArg some (by kernel_rfl))
  f279 := Tryz.func95.trans (congrArg some (by kernel_rfl))
  f280 := Tryz.func96.trans (congrArg some (by kernel_rfl))
  f281 := Tryz.func97.trans (congrArg some (by kernel_rfl))
  f282 := Tryz.func98.trans (congrArg some (by kernel_rfl))
  f283 := Tryz.func119.trans (congrArg some (by kernel_rfl))
  f284 := Tryz.func120.trans (congrArg some (by kernel_rfl))
  f285 := Tryz.func121.trans (congrArg some (by kernel_rfl))
  f286 := Tryz.func122.trans (congrArg some (by kernel_rfl))
  f287 := Tryz.func139.trans (congrArg some (by kernel_rfl))
  f316 := Tryz.func140.trans (congrArg some (by kernel_rfl))
  f317 := Tryz.func151.trans (congrArg some (by kernel_rfl))
  f318 := Tryz.func153.trans (congrArg some (by kernel_rfl))
  f319 := Tryz.func154.trans (congrArg some (by kernel_rfl))
  f320 := Tryz.func155.trans (congrArg some (by kernel_rfl))
  f321 := Tryz.func173.trans (congrArg some (by kernel_rfl))
  f322 := Tryz.func174.trans (congrArg some (by kernel_rfl))
  f337 := Tryz.func177.trans (congrArg some (by kernel_rfl))
  f338 := Tryz.func178.trans (congrArg some (by kernel_rfl))
  t0 := Tryz.underlying0
  a0 := Tryz.isAgg0
  z0 := Tryz.sizeOf0
  v0 := Tryz.zeroValue0
  t2 := Tryz.underlying2
  a2 := Tryz.isAgg2
  z2 := Tryz.sizeOf2
  v2 := Tryz.zeroValue2
  t3 := Tryz.underlying3
  a3 := Tryz.isAgg3
  z3 := Tryz.sizeOf3
  v3 := Tryz.zeroValue3
  t4 := Tryz.underlying4
  a4 := Tryz.isAgg4
  z4 := Tryz.sizeOf4
  v4 := Tryz.zeroValue4
  t5 := Tryz.underlying5
  a5 := Tryz.isAgg5
  z5 := Tryz.sizeOf5
  v5 := Tryz.zeroValue5
  t9 := Tryz.underlying9
  a9 := Tryz.isAgg9
  z9 := Tryz.sizeOf9
  v9 := Tryz.zeroValue9
  t20 := Tryz.underlying20
  a20 := Tryz.isAgg20
  z20 := Tryz.sizeOf20
  v20 := Tryz.zeroValue20
  t21 := Tryz.underlying21
  a21 := Tryz.isAgg21
  z21 := Tryz.sizeOf21
  v21 := Tryz.zeroValue21
  t37 := Tryz.underlying42
  a37 := Tryz.isAgg42
  z37 := Tryz.sizeOf42
  v37 := Tryz.zeroValue42
  t46 := Tryz.underlying37
  a46 := Tryz.isAgg37
  z46 := Tryz.sizeOf37
  v46 := Tryz.zeroValue37
  t51 := Tryz.underlying213
  a51 := Tryz.isAgg213
  z51 := Tryz.sizeOf213
  v51 := Tryz.zeroValue213
  t53 := Tryz.underlying189
  a53 := Tryz.isAgg189
  z53 := Tryz.sizeOf189
  v53 := Tryz.zeroValue189
  t75 := Tryz.underlying90
  a75 := Tryz.isAgg90
  z75 := Tryz.sizeOf90
  v75 := Tryz.zeroValue90
  t76 := Tryz.underlying91
  a76 := Tryz.isAgg91
  z76 := Tryz.sizeOf91
  v76 := Tryz.zeroValue91
  t85 := Tryz.underlying167
  a85 := Tryz.isAgg167
  z85 := Tryz.sizeOf167
  v85 := Tryz.zeroValue167
  t127 := Tryz.underlying85
  a127 := Tryz.isAgg85
  z127 := Tryz.sizeOf85
  v127 := Tryz.zeroValue85
  t143 := Tryz.underlying236
  a143 := Tryz.isAgg236
  z143 := Tryz.sizeOf236
  v143 := Tryz.zeroValue236
  t145 := Tryz.underlying238
  a145 := Tryz.isAgg238
  z145 := Tryz.sizeOf238
  v145 := Tryz.zeroValue238
  t167 := Tryz.underlying166
  a167 := Tryz.isAgg166
  z167 := Tryz.sizeOf166
  v167 := Tryz.zeroValue166
  t168 := Tryz.underlying169
  a168 := Tryz.isAgg169
  z168 := Tryz.sizeOf169
  v168 := Tryz.zeroValue169
  t171 := Tryz.underlying188
  a171 := Tryz.isAgg188
  z171 := Tryz.sizeOf188
  v171 := Tryz.zeroValue188
  t173 := Tryz.underlying192
  a173 := Tryz.isAgg192
  z173 := Tryz.sizeOf192
  v173 := Tryz.zeroValue192
  t175 := Tryz.underlying206
  a175 := Tryz.isAgg206
  z175 := Tryz.sizeOf206
  v175 := Tryz.zeroValue206
  t210 := Tryz.underlying209
  a210 := Tryz.isAgg209
  z210 := Tryz.sizeOf209
  v210 := Tryz.zeroValue209
  t212 := Tryz.underlying219
  a212 := Tryz.isAgg219
  z212 := Tryz.sizeOf219
  v212 := Tryz.zeroValue219
  t213 := Tryz.underlying220
  a213 := Tryz.isAgg220
  z213 := Tryz.sizeOf220
  t232 := Tryz.underlying249
  a232 := Tryz.isAgg249
  z232 := Tryz.sizeOf249
  v232 := Tryz.zeroValue249
  t233 := Tryz.underlying250
  a233 := Tryz.isAgg250
  z233 := Tryz.sizeOf250
  v233 := Tryz.zeroValue250
  g15 := by kernel_rfl
  g16 := by kernel_rfl
  g17 := by kernel_rfl
  g18 := by kernel_rfl
  g19 := by kernel_rfl
  t80 := Tryz.underlying52
  a80 := Tryz.isAgg52
  z80 := Tryz.sizeOf52
  v80 := Tryz.zeroValue52
  i0 := by kernel_rfl
  i2 := by kernel_rfl
  i3 := by kernel_rfl
  i4 := by kernel_rfl
  i5 := by kernel_rfl
  i9 := by kernel_rfl
  i20 := by kernel_rfl
  i21 := by kernel_rfl
  i37 := by kernel_rfl
  i46 := by kernel_rfl
  i51 := by kernel_rfl
  i53 := by kernel_rfl
  i75 := by kernel_rfl
  i76 := by kernel_rfl
  i80 := by kernel_rfl
  i85 := by kernel_rfl
  i127 := by kernel_rfl
  i143 := by kernel_rfl
  i145 := by kernel_rfl
  i167 := by kernel_rfl
  i168 := by kernel_rfl
  i171 := by kernel_rfl
  i173 := by kernel_rfl
  i175 := by kernel_rfl
  i210 := by kernel_rfl
  i212 := by kernel_rfl
  i232 := by kernel_rfl
  i233 := by kernel_rfl
  m15 := by kernel_rfl
  m16 := by kernel_rfl
  m17 := by kernel_rfl
  m18 := by kernel_rfl
  m19 := by kernel_rfl
  c0 := by kernel_rfl
  c2 := by kernel_rfl
  c3 := by kernel_rfl
  c4 := by kernel_rfl
  c5 := by kernel_rfl
  c9 := by kernel_rfl
  c20 := by kernel_rfl
  c21 := by kernel_rfl
  c37 := by kernel_rfl
  c46 := by kernel_rfl
  c51 := by kernel_rfl
  c53 := by kernel_rfl
  c75 := by kernel_rfl
  c76 := by kernel_rfl
  c80 := by kernel_rfl
  c85 := by kernel_rfl
  c127 := by kernel_rfl
  c143 := by kernel_rfl
  c145 := by kernel_rfl
  c167 := by kernel_rfl
  c168 := by kernel_rfl
  c171 := by kernel_rfl
  c173 := by kernel_rfl
  c175 := by kernel_rfl
  c210 := by kernel_rfl
  c212 := by kernel_rfl
  c213 := by kernel_rfl
  c232 := by kernel_rfl
  c233 := by kernel_rfl }
open Go.RowKit in
theorem Tryz.strconv_Atoi_ok (s : ByteArray) (hmax : s.size ≤ 9223372036854775806) (v : Int) (h : Lib.atoiAll s.data.toList = .ok v) (w : World) :
    Calls Tryz.prog 35 #[.string s] w fun e w' => e = .returned (.tuple #[.int .i64 v, .nilIface]) ∧ (w' = w ∨ ∃ t, w' = Lib.bytesWorld w 5 t) := Any.strconv_Atoi_ok Tryz.laysC172 s hmax v h w
open Go.RowKit in
theorem Tryz.strconv_Atoi_syntax (s : ByteArray) (hlim : s.size ≤ 281474976710656) (h : Lib.atoiAll s.data.toList = .«syntax») (ev : Value) (w : World) (hv : w.cell? ⟨2, 0, none⟩ = some ev) (hev : ev = .nilIface ∨ ∃ te pe, ev = .iface te pe) :
    Calls Tryz.prog 35 #[.string s] w fun e w' => ∃ N, e = .returned (.tuple #[.int .i64 (0), .iface 169 (.pointer (some ⟨N, 0, none⟩))]) ∧ w.heap.size ≤ N ∧ w'.heap[N]? = some (.cells #[.string ⟨#[65, 116, 111, 105]⟩, .string s, ev] 209 (0, 0)) ∧ Below w.heap.size w w' := Any.strconv_Atoi_syntax Tryz.laysC172 s hlim h ev w hv hev
open Go.RowKit in
theorem Tryz.strconv_Atoi_range (s : ByteArray) (hlim : s.size ≤ 281474976710656) (h : Lib.atoiAll s.data.toList = .range) (ev : Value) (w : World) (hv : w.cell? ⟨3, 0, none⟩ = some ev) (hev : ev = .nilIface ∨ ∃ te pe, ev = .iface te pe) :
    Calls Tryz.prog 35 #[.string s] w fun e w' => ∃ N, e = .returned (.tuple #[.int .i64 (Lib.atoiSat s.data.toList), .iface 169 (.pointer (some ⟨N, 0, none⟩))]) ∧ w.heap.size ≤ N ∧ w'.heap[N]? = some (.cells #[.string ⟨#[65, 116, 111, 105]⟩, .string s, ev] 209 (0, 0)) ∧ Below w.heap.size w w' := Any.strconv_Atoi_range Tryz.laysC172 s hlim h ev w hv hev
def Tryz.lays144_ren : Go.Shelf.Ren := ⟨fun | 144 => 22 | 143 => 44 | 219 => 76 | 217 => 110 | 225 => 111 | 224 => 112 | 267 => 113 | 266 => 146 | 314 => 147 | n => n, fun | 9 => 9 | 4 => 4 | 3 => 3 | 5 => 5 | 46 => 37 | 146 => 214 | 51 => 213 | n => n, fun | 1 => 1 | n => n⟩
theorem Tryz.lays144 : Go.Proofs.Lays.n144 Tryz.prog Tryz.lays144_ren := {
  mixed := by kernel_rfl
  f143 := Tryz.func44.trans (congrArg some (by kernel_rfl))
  f144 := Tryz.func22.trans (congrArg some (by kernel_rfl))
  f217 := Tryz.func110.trans (congrArg some (by kernel_rfl))
  f219 := Tryz.func76.trans (congrArg some (by kernel_rfl))
  f224 := Tryz.func112.trans (congrArg some (by kernel_rfl))
  f225 := Tryz.func111.trans (congrArg some (by kernel_rfl))
  f266 := Tryz.func146.trans (congrArg some (by kernel_rfl))
  f267 := Tryz.func113.trans (congrArg some (by kernel_rfl))
  f314 := Tryz.func147.trans (congrArg some (by kernel_rfl))
  t3 := Tryz.underlying3
  a3 := Tryz.isAgg3
  z3 := Tryz.sizeOf3
  v3 := Tryz.zeroValue3
  t4 := Tryz.underlying4
  a4 := Tryz.isAgg4
  z4 := Tryz.sizeOf4
  v4 := Tryz.zeroValue4
  t5 := Tryz.underlying5
  a5 := Tryz.isAgg5
  z5 := Tryz.sizeOf5
  v5 := Tryz.zeroValue5
  t9 := Tryz.underlying9
  a9 := Tryz.isAgg9
  z9 := Tryz.sizeOf9
  v9 := Tryz.zeroValue9
  t46 := Tryz.underlying37
  a46 := Tryz.isAgg37
  z46 := Tryz.sizeOf37
  v46 := Tryz.zeroValue37
  t51 := Tryz.underlying213
  a51 := Tryz.isAgg213
  z51 := Tryz.sizeOf213
  v51 := Tryz.zeroValue213
  t146 := Tryz.underlying214
  a146 := Tryz.isAgg214
  z146 := Tryz.sizeOf214
  v146 := Tryz.zeroValue214
  g1 := by kernel_rfl }
open Go.RowKit Go.Lib in
theorem Tryz.strings_Contains_one (s : ByteArray) (c : UInt8) (w : World) :
    Calls Tryz.prog 22 #[.string s, .string ⟨#[c]⟩] w fun e w' => e = .returned (.bool (decide (0 ≤ Lib.indexByte s.data.toList c))) ∧ w' = w := Any.strings_Contains_one Tryz.lays144 s c w
def Tryz.lays145_ren : Go.Shelf.Ren := ⟨fun | 145 => 46 | 220 => 81 | 219 => 76 | 217 => 110 | 225 => 111 | 224 => 112 | 267 => 113 | 266 => 146 | 314 => 147 | n => n, fun | 9 => 9 | 4 => 4 | 59 => 112 | 3 => 3 | 5 => 5 | 46 => 37 | 146 => 214 | 51 => 213 | n => n, fun | 1 => 1 | n => n⟩
theorem Tryz.lays145 : Go.Proofs.Lays.n145 Tryz.prog Tryz.lays145_ren := {
  mixed := by kernel_rfl
  f145 := Tryz.func46.trans (congrArg some (by kernel_rfl))
  f217 := Tryz.func110.trans (congrArg some (by kernel_rfl))
  f219 := Tryz.func76.trans (congrArg some (by kernel_rfl))
  f220 := Tryz.func81.trans (congrArg some (by kernel_rfl))
  f224 := Tryz.func112.trans (congrArg some (by kernel_rfl))
  f225 := Tryz.func111.trans (congrArg some (by kernel_rfl))
  f266 := Tryz.func146.trans (congrArg some (by kernel_rfl))
  f267 := Tryz.func113.trans (congrArg some (by kernel_rfl))
  f314 := Tryz.func147.trans (congrArg some (by kernel_rfl))
  t3 := Tryz.underlying3
  a3 := Tryz.isAgg3
  z3 := Tryz.sizeOf3
  v3 := Tryz.zeroValue3
  t4 := Tryz.underlying4
  a4 := Tryz.isAgg4
  z4 := Tryz.sizeOf4
  v4 := Tryz.zeroValue4
  t5 := Tryz.underlying5
  a5 := Tryz.isAgg5
  z5 := Tryz.sizeOf5
  v5 := Tryz.zeroValue5
  t9 := Tryz.underlying9
  a9 := Tryz.isAgg9
  z9 := Tryz.sizeOf9
  v9 := Tryz.zeroValue9
  t46 := Tryz.underlying37
  a46 := Tryz.isAgg37
  z46 := Tryz.sizeOf37
  v46 := Tryz.zeroValue37
  t51 := Tryz.underlying213
  a51 := Tryz.isAgg213
  z51 := Tryz.sizeOf213
  v51 := Tryz.zeroValue213
  t59 := Tryz.underlying112
  a59 := Tryz.isAgg112
  z59 := Tryz.sizeOf112
  v59 := Tryz.zeroValue112
  t146 := Tryz.underlying214
  a146 := Tryz.isAgg214
  z146 := Tryz.sizeOf214
  v146 := Tryz.zeroValue214
  g1 := by kernel_rfl }
open Go.RowKit Go.Lib in
theorem Tryz.strings_Cut (s sep : ByteArray) (m : Int) (w : World) (hs : s.size < 4294967281) (hm : w.cell? ⟨1, 0, none⟩ = some (.int .i64 m)) :
    Calls Tryz.prog 46 #[.string s, .string sep] w fun e w' => e = .returned (.tuple #[.string ⟨(Lib.cut s.data.toList sep.data.toList).1.toArray⟩, .string ⟨(Lib.cut s.data.toList sep.data.toList).2.1.toArray⟩, .bool (Lib.cut s.data.toList sep.data.toList).2.2]) ∧ ∃ n, w' = w.drewN n := Any.strings_Cut Tryz.lays145 s sep m w hs hm
end Go.Proofs
namespace Go.Proofs.YtldkeaeohceckadGreatDoor
set_option maxRecDepth 20000
set_option maxHeartbeats 64000000
/- What the library's functions tell that a desk calls, by the shelf's contracts; the variables that they read. -/
section
open Go.RowKit

def odv (o : Od) : List Value := [.string ⟨o.name.toArray⟩, .string ⟨o.letters.toArray⟩, .int .i64 o.kind, .int .i64 o.mode]
def odc : Array Value := (ods.flatMap odv).toArray
/-- The variables of packages, as they lie when a call begins. -/
structure Gnd (w : World) : Prop where
  mx : ∃ m, w.cell? ⟨1, 0, none⟩ = some (.int .i64 m)
  syn : ∃ ev, w.cell? ⟨2, 0, none⟩ = some ev ∧ (ev = .nilIface ∨ ∃ te pe, ev = .iface te pe)
  rng : ∃ ev, w.cell? ⟨3, 0, none⟩ = some ev ∧ (ev = .nilIface ∨ ∃ te pe, ev = .iface te pe)
  pow : Lib.TabIs Tryz.prog w "internal/strconv.uint64pow10" .u64 Lib.pow10Tab
  ord : ∃ T fr, w.heap[0]? = some (.cells odc T fr)
theorem gnd_kp {w w' : World} (h : Gnd w) (hk : Kp [] w w') : Gnd w' := by
  obtain ⟨⟨m, h1⟩, ⟨v2, h2, e2⟩, ⟨v3, h3, e3⟩, h4, T, fr, h5⟩ := h
  refine ⟨⟨m, hk.cell (by simp) h1⟩, ⟨v2, hk.cell (by simp) h2, e2⟩, ⟨v3, hk.cell (by simp) h3, e3⟩, Go.Joins.tab_stays (g := 4) (by kernel_rfl) h4 (below_of_kp hk) (Nat.le_refl _), T, fr, ?_⟩
  rw [hk.block 0 (lt_of_block h5) (by simp)]
  exact h5
theorem kp_drewN (w : World) (n : Nat) : Kp [] w (w.drewN n) := ⟨rfl, rfl, rfl, Nat.le_refl _, fun _ _ _ => rfl⟩
theorem mk8 (l : List UInt8) : (ByteArray.mk l.toArray).data.toList = l := by simp
theorem size8 (l : List UInt8) : (ByteArray.mk l.toArray).size = l.length := by simp [ByteArray.size]
theorem scontains (l : List UInt8) (w : World) : Calls Tryz.prog 22 #[.string ⟨l.toArray⟩, .string ⟨#[10]⟩] w fun e w' => e = .returned (.bool (decide ((10 : UInt8) ∈ l))) ∧ w' = w := by
  refine (Tryz.strings_Contains_one ⟨l.toArray⟩ 10 w).mono ?_
  rintro e w' ⟨rfl, rfl⟩
  refine ⟨?_, rfl⟩
  rw [mk8]
  have : (decide (0 ≤ Lib.indexByte l 10)) = decide ((10 : UInt8) ∈ l) := by
    rw [decide_eq_decide]
    constructor
    · intro h
      obtain ⟨o, ho⟩ : ∃ o : Nat, Lib.indexByte l 10 = o := ⟨(Lib.indexByte l 10).toNat, by omega⟩
      have := (Lib.indexByte_some ho).1
      exact List.mem_of_getElem? this
    · intro h
      by_cases hn : Lib.indexByte l 10 = -1
      · obtain ⟨k, hk⟩ := List.getElem?_of_mem h
        exact absurd hk (Lib.indexByte_none hn k)
      · have := Lib.indexByte_ge l 10; omega
  rw [this]
theorem strim (l : List UInt8) (w : World) : Calls Tryz.prog 45 #[.string ⟨l.toArray⟩, .string ⟨#[32]⟩] w fun e w' => e = .returned (.string ⟨(Lib.trimLeftB l 32).toArray⟩) ∧ w' = w := by
  have := Tryz.strings_TrimLeft_one ⟨l.toArray⟩ 32 (by decide) w
  rw [mk8] at this
  exact this
theorem scut (l : List UInt8) (w : World) (hg : Gnd w) (hl : l.length ≤ 100000) : Calls Tryz.prog 46 #[.string ⟨l.toArray⟩, .string ⟨#[32]⟩] w fun e w' => ∃ b, e = .returned (.tuple #[.string ⟨(Lib.cut l [32]).1.toArray⟩, .string ⟨(Lib.cut l [32]).2.1.toArray⟩, .bool b]) ∧ Kp [] w w' := by
  obtain ⟨m, hm⟩ := hg.mx
  refine (Tryz.strings_Cut ⟨l.toArray⟩ ⟨#[32]⟩ m w (by rw [size8]; omega) hm).mono ?_
  rintro e w' ⟨rfl, n, rfl⟩
  rw [mk8]
  exact ⟨_, rfl, kp_drewN w n⟩
theorem sitoa (n : Int) (w : World) (hg : Gnd w) (h0 : -9223372036854775808 ≤ n) (h1 : n ≤ 9223372036854775807) : Calls Tryz.prog 25 #[.int .i64 n] w fun e w' => e = .returned (.string ⟨(Lib.itoa n).toArray⟩) ∧ Kp [] w w' := by
  refine (Tryz.strconv_Itoa n h0 h1 w hg.pow).mono ?_
  rintro e w' ⟨rfl, k, os, rfl⟩
  exact ⟨rfl, ⟨rfl, rfl, rfl, Nat.le_trans (Nat.le_add_right _ _) (Nat.le_of_eq (Array.size_append (xs := w.heap) (ys := os)).symm), fun g hg _ => Array.getElem?_append_left (xs := w.heap) (ys := os) hg⟩⟩
theorem scutp (l : List UInt8) (w : World) : Calls Tryz.prog 123 #[.string ⟨l.toArray⟩, .string ⟨#[61]⟩] w fun e w' => e = .returned (.tuple #[.string ⟨(Lib.trimPrefix l [61]).toArray⟩, .bool (Lib.hasPrefix l [61])]) ∧ w' = w := by
  have := Tryz.strings_CutPrefix ⟨l.toArray⟩ ⟨#[61]⟩ w
  rw [mk8] at this
  exact this
theorem kp_bytes (w : World) (t : ByteArray) : Kp [] w (Lib.bytesWorld w 5 t) := kp_of_below (Go.Joins.below_bytesWorld _ w 5 t (Nat.le_refl _))
/-- What Atoi tells: a number, or that it is none. -/
theorem satoi (l : List UInt8) (w : World) (hg : Gnd w) (hl : l.length ≤ 100000) : Calls Tryz.prog 35 #[.string ⟨l.toArray⟩] w fun e w' => ∃ (z : Int) (ev : Value), e = .returned (.tuple #[.int .i64 z, ev]) ∧ (Lib.atoiAll l = .ok z ∧ ev = .nilIface ∧ -9223372036854775808 ≤ z ∧ z ≤ 9223372036854775807 ∨ (∀ v, Lib.atoiAll l ≠ .ok v) ∧ ∃ T p, ev = .iface T p) ∧ Kp [] w w' := by
  cases ha : Lib.atoiAll l with
  | ok v =>
    refine (Tryz.strconv_Atoi_ok ⟨l.toArray⟩ (by rw [size8]; omega) v (by rw [mk8]; exact ha) w).mono ?_
    rintro e w' ⟨rfl, hw⟩
    have hb := Lib.atoiAll_bounds ha
    refine ⟨v, .nilIface, rfl, .inl ⟨rfl, rfl, hb.1, hb.2⟩, ?_⟩
    rcases hw with rfl | ⟨t, rfl⟩
    · exact Kp.refl _ _
    · exact kp_bytes w t
  | «syntax» =>
    obtain ⟨ev, hv, hev⟩ := hg.syn
    refine (Tryz.strconv_Atoi_syntax ⟨l.toArray⟩ (by rw [size8]; omega) (by rw [mk8]; exact ha) ev w hv hev).mono ?_
    rintro e w' ⟨N, rfl, _, _, hb⟩
    exact ⟨_, _, rfl, .inr ⟨(by intro v h; cases h), _, _, rfl⟩, kp_of_below hb⟩
  | range =>
    obtain ⟨ev, hv, hev⟩ := hg.rng
    refine (Tryz.strconv_Atoi_range ⟨l.toArray⟩ (by rw [size8]; omega) (by rw [mk8]; exact ha) ev w hv hev).mono ?_
    rintro e w' ⟨N, rfl, _, _, hb⟩
    exact ⟨_, _, rfl, .inr ⟨(by intro v h; cases h), _, _, rfl⟩, kp_of_below hb⟩
end
/- What the listed variables of packages give: the ground that the desk's walks stand on. -/
section
open Go.ChangeShapes Go.WideShapes Go.ChangeAt Go.RowKit

theorem oc120 : Tryz.prog.cellsOf 120 = 4 := by kernel_rfl
theorem oc121 : Tryz.prog.cellsOf 121 = 48 := by kernel_rfl
theorem oc9 : Tryz.prog.cellsOf 9 = 1 := by kernel_rfl
theorem oc3 : Tryz.prog.cellsOf 3 = 1 := by kernel_rfl
def odd {H : Type} (o : Od) : DataW H := .agg [.lit (.string o.name), .lit (.string o.letters), .lit (.int .i64 o.kind), .lit (.int .i64 o.mode)]
theorem odd_all : (Rows.laid_vaultage_desk_orders : DataW Unit) = .agg (ods.map odd) := rfl
theorem od_of {m : Nat} {W : World} {cs : List Value} {o : Od} {p : List MemPlace} {sp : Nat → Bool} {held : Bool}
    (h : DataW.trod (fun _ => ()) Tryz.prog W 0 sp held m 120 cs = some (odd o, p)) : cs = odv o := by
  obtain ⟨y0, y1, y2, y3, n, hx, hl, h0, h1, h2, h3⟩ := Go.Joins.trod_struct4 Tryz.underlying120 h
  rw [oc120] at hl
  match cs, hl with
  | [c0, c1, c2, c3], _ =>
    simp only [oc9, oc3] at h0 h1 h2 h3
    obtain ⟨s0, e0, f0, _⟩ := DataW.trod_string Tryz.underlying9 h0
    obtain ⟨s1, e1, f1, _⟩ := DataW.trod_string Tryz.underlying9 h1
    obtain ⟨n2, e2, f2, _⟩ := DataW.trod_int Tryz.underlying3 h2
    obtain ⟨n3, e3, f3, _⟩ := DataW.trod_int Tryz.underlying3 h3
    simp at e0 e1 e2 e3
    rw [f0, f1, f2, f3] at hx
    unfold odd at hx
    simp only [Prod.mk.injEq, DataW.agg.injEq, List.cons.injEq, DataW.lit.injEq, Lit.string.injEq, Lit.int.injEq, true_and, and_true] at hx
    obtain ⟨⟨a0, a1, a2, a3⟩, _⟩ := hx
    unfold odv
    rw [e0, e1, e2, e3, a0, a1, a2, a3]
theorem chunk4 (L : List Value) (k : Nat) : L.drop k = (L.drop k).take 4 ++ L.drop (k + 4) := by rw [← List.drop_drop, List.take_append_drop]
theorem ods_of {m : Nat} {W : World} {cs : Array Value} {p : List MemPlace} {sp : Nat → Bool} {held : Bool}
    (h : DataW.trod (fun _ => ()) Tryz.prog W 0 sp held m 121 cs.toList = some (.agg (ods.map odd), p)) : cs = odc := by
  obtain ⟨xs, k, _, hx, hl, hlen, hel⟩ := DataW.trod_array Tryz.underlying121 h
  rw [oc121] at hl
  rw [oc120] at hel
  simp only [Prod.mk.injEq, DataW.agg.injEq] at hx
  have key : ∀ i o, ods[i]? = some o → (cs.toList.drop (i * 4)).take 4 = odv o := fun i o ho => by
    have hi : i < 12 := (List.getElem?_eq_some_iff.1 ho).1
    have h1 := hel i hi
    obtain ⟨y, hy⟩ : ∃ y, xs[i]? = some y := ⟨_, List.getElem?_eq_getElem (by omega)⟩
    rw [hy] at h1
    have h2 : (xs.map (·.1))[i]? = some (odd o) := by rw [← hx.1, List.getElem?_map, ho]; rfl
    rw [List.getElem?_map, hy] at h2
    have h3 : y.1 = odd o := Option.some.inj h2
    obtain ⟨d, q⟩ := y
    dsimp only at h3
    subst h3
    exact od_of h1
  apply Array.ext'
  generalize cs.toList = L at *
  have e0 := key 0 _ rfl
  have e1 := key 1 _ rfl
  have e2 := key 2 _ rfl
  have e3 := key 3 _ rfl
  have e4 := key 4 _ rfl
  have e5 := key 5 _ rfl
  have e6 := key 6 _ rfl
  have e7 := key 7 _ rfl
  have e8 := key 8 _ rfl
  have e9 := key 9 _ rfl
  have e10 := key 10 _ rfl
  have e11 := key 11 _ rfl
  have hend : L.drop 48 = [] := List.drop_of_length_le (by omega)
  have d0 : L.drop 0 = _ ++ L.drop 4 := (chunk4 L 0).trans (congrArg (· ++ L.drop 4) (show (L.drop 0).take 4 = _ from e0))
  have d1 : L.drop 4 = _ ++ L.drop 8 := (chunk4 L 4).trans (congrArg (· ++ L.drop 8) (show (L.drop 4).take 4 = _ from e1))
  have d2 : L.drop 8 = _ ++ L.drop 12 := (chunk4 L 8).trans (congrArg (· ++ L.drop 12) (show (L.drop 8).take 4 = _ from e2))
  have d3 : L.drop 12 = _ ++ L.drop 16 := (chunk4 L 12).trans (congrArg (· ++ L.drop 16) (show (L.drop 12).take 4 = _ from e3))
  have d4 : L.drop 16 = _ ++ L.drop 20 := (chunk4 L 16).trans (congrArg (· ++ L.drop 20) (show (L.drop 16).take 4 = _ from e4))
  have d5 : L.drop 20 = _ ++ L.drop 24 := (chunk4 L 20).trans (congrArg (· ++ L.drop 24) (show (L.drop 20).take 4 = _ from e5))
  have d6 : L.drop 24 = _ ++ L.drop 28 := (chunk4 L 24).trans (congrArg (· ++ L.drop 28) (show (L.drop 24).take 4 = _ from e6))
  have d7 : L.drop 28 = _ ++ L.drop 32 := (chunk4 L 28).trans (congrArg (· ++ L.drop 32) (show (L.drop 28).take 4 = _ from e7))
  have d8 : L.drop 32 = _ ++ L.drop 36 := (chunk4 L 32).trans (congrArg (· ++ L.drop 36) (show (L.drop 32).take 4 = _ from e8))
  have d9 : L.drop 36 = _ ++ L.drop 40 := (chunk4 L 36).trans (congrArg (· ++ L.drop 40) (show (L.drop 36).take 4 = _ from e9))
  have d10 : L.drop 40 = _ ++ L.drop 44 := (chunk4 L 40).trans (congrArg (· ++ L.drop 44) (show (L.drop 40).take 4 = _ from e10))
  have d11 : L.drop 44 = _ ++ L.drop 48 := (chunk4 L 44).trans (congrArg (· ++ L.drop 48) (show (L.drop 44).take 4 = _ from e11))
  have h0 : L = L.drop 0 := rfl
  rw [h0, d0, d1, d2, d3, d4, d5, d6, d7, d8, d9, d10, d11, hend]
  rfl
theorem esStar : "*" ++ "errors.errorString" = "*errors.errorString" := by decide
theorem esRow (u : TypeId) (h : Tryz.prog.typeName? 3 u = some "*errors.errorString") : u = 236 :=
  typeName_ptr_named (nm := "errors.errorString") (by rw [esStar]; kernel_rfl) (by kernel_rfl) (by decide) u (by rw [esStar]; exact h)
theorem var_cell {W : World} {n : String} {g : Nat} {v : Value} (hg : Tryz.prog.globalNamed n = some g) (h : W.var? Tryz.prog n = some #[v]) : W.cell? ⟨g, 0, none⟩ = some v := by simpa using World.var?_cell hg h 0
theorem pow_data : (Rows.laid_internal_strconv_uint64pow10 : DataW Unit) = Lib.tabData .u64 Lib.pow10Tab := by kernel_rfl
theorem gnd_of {W : World} (hL : laidMet Tryz.prog Rows.deskJoinsRow.laid W) (hsh : W.ShapedOpen Tryz.prog) : Gnd W := by
  have h2 : laidMet Tryz.prog (("internal/strconv.uint64pow10", Rows.laid_internal_strconv_uint64pow10) :: _) W := hL.tail.tail
  have h4 : laidMet Tryz.prog (("strconv.ErrRange", Rows.laid_strconv_ErrRange) :: _) W := h2.tail.tail
  have h5 : laidMet Tryz.prog (("strconv.ErrSyntax", Rows.laid_strconv_ErrSyntax) :: _) W := h4.tail
  have h6 : laidMet Tryz.prog (("vaultage/desk.orders", Rows.laid_vaultage_desk_orders) :: _) W := h5.tail
  rw [pow_data] at h2
  obtain ⟨ar, sr, hvr, _, _, _⟩ := laid_sentinel (ti := 90) h4 (g := 3) (by kernel_rfl) (by kernel_rfl) Tryz.underlying90 esRow Tryz.underlying236 Tryz.underlying238 rfl rfl Tryz.underlying9 (by kernel_rfl) oc9
  obtain ⟨as2, ss, hvs, _, _, _⟩ := laid_sentinel (ti := 90) h5 (g := 2) (by kernel_rfl) (by kernel_rfl) Tryz.underlying90 esRow Tryz.underlying236 Tryz.underlying238 rfl rfl Tryz.underlying9 (by kernel_rfl) oc9
  refine ⟨cell_of_shapedOpen_int (g := 1) (t := 3) (zero := #[.int .i64 0]) hsh (of_decide_eq_true (by kernel_rfl)) (by kernel_rfl) rfl (by kernel_rfl) (by kernel_rfl) Tryz.underlying3, ⟨_, var_cell (by kernel_rfl) hvs, .inr ⟨_, _, rfl⟩⟩, ⟨_, var_cell (by kernel_rfl) hvr, .inr ⟨_, _, rfl⟩⟩, Lib.tabIs_of_head (g := 4) (t := 219) (by kernel_rfl) (by kernel_rfl) Tryz.underlying219 Tryz.underlying189 (by kernel_rfl) (by kernel_rfl) h2, ?_⟩
  obtain ⟨ps, ⟨g0, t0, cs0, f0, p0, q0, hg0, ht0, hv0, hd0, _, e0⟩, _⟩ := h6
  have eg : g0 = 0 := (Option.some.inj ((show Tryz.prog.globalNamed "vaultage/desk.orders" = some 0 by kernel_rfl).symm.trans hg0)).symm
  subst eg
  have et : t0 = 121 := (Option.some.inj ((show (Tryz.prog.globals[0]?).map (·.type) = some 121 by kernel_rfl).symm.trans ht0)).symm
  subst et
  rw [odd_all] at hd0
  have ec := ods_of hd0
  subst ec
  unfold World.var? at hv0
  rw [hg0] at hv0
  simp only [Option.bind_some] at hv0
  cases hh : W.heap[0]? with
  | none => rw [hh] at hv0; cases hv0
  | some o =>
    rw [hh] at hv0
    cases o with
    | cells c t f => cases hv0; exact ⟨t, f, rfl⟩
    | _ => cases hv0
end
/- The desk's cut: the words of a line, by its contract. -/
section
open Go.RowKit
attribute [local go_sem ↓] Go.wp_at_zero Go.wp_at_succ

def strs (ws : List (List UInt8)) : List Value := ws.map fun l => .string ⟨l.toArray⟩
theorem strs_len (ws : List (List UInt8)) : (strs ws).length = ws.length := by simp [strs]
theorem strs_app (ws vs : List (List UInt8)) : strs (ws ++ vs) = strs ws ++ strs vs := by simp [strs]
theorem strs_one (ws : List (List UInt8)) : ∀ u ∈ strs ws, u.oneCell' = true := by
  intro u hu
  obtain ⟨_, _, rfl⟩ := List.mem_map.1 hu
  rfl
theorem strs_at {ws : List (List UInt8)} {k : Nat} {l : List UInt8} (h : ws[k]? = some l) : (strs ws)[k]? = some (.string ⟨l.toArray⟩) := by simp [strs, h]
theorem Tryz.infoS : (Tryz.prog.info? 9).map (fun i => (i.zero, i.size, i.bytes)) = some (some (.string ⟨#[]⟩), 1, 16) := by kernel_rfl
/-- Words in memory: behind a slice's address. -/
def Wrd (w : World) (a : Option Addr) (ws : List (List UInt8)) : Prop := 0 < ws.length → ∃ g o, a = some ⟨g, o, none⟩ ∧ ∀ k l, ws[k]? = some l → w.cell? ⟨g, o + k, none⟩ = some (.string ⟨l.toArray⟩)
theorem Wrd.kp0 {w w' : World} {a : Option Addr} {ws : List (List UInt8)} (h : Wrd w a ws) (hk : Kp [] w w') : Wrd w' a ws := fun hp => by
  obtain ⟨g, o, e, h1⟩ := h hp
  exact ⟨g, o, e, fun k l hl => hk.cell (by simp) (h1 k l hl)⟩
theorem krow_wrd {B : Nat} {w : World} {a : Option Addr} {n cap : Nat} {ws : List (List UInt8)} (h : KRow 9 1 B w a n cap (strs ws)) : Wrd w a ws := fun hp => by
  obtain ⟨h0, h1⟩ := h
  rw [strs_len, Nat.mul_one] at h0
  rcases h1 with ⟨_, e, _⟩ | ⟨g, cur, e, _, hb, _, _, _, ht⟩
  · omega
  · refine ⟨g, 0, e, fun k l hl => ?_⟩
    have hk := (List.getElem?_eq_some_iff.1 hl).1
    have h2 : cur[k]? = some (.string ⟨l.toArray⟩) := by
      have h3 := strs_at hl
      rw [← ht, Nat.mul_one, List.getElem?_take_of_lt (by omega)] at h3
      simpa using h3
    rw [Nat.zero_add]
    exact cell_of_block hb h2
/-- Rows of one word. -/
theorem src_strs {w : World} {g : Nat} {cs : Array Value} {T : TypeId} (ws : List (List UInt8)) (hb : w.heap[g]? = some (.cells cs T (0, 0))) (hc : cs.toList = strs ws) (c : Nat) : Src Tryz.prog 1 22 (.slice (some ⟨g, 0, none⟩) ws.length c) ws.length (strs ws) w := by
  refine Src.ofSlice w Tryz.underlying22 ⟨g, 0, none⟩ ws.length c (strs ws) (by rw [strs_len]; omega) ?_ (strs_one ws)
  intro j u hj
  have h1 : cs[j]? = some u := by
    have h2 : cs.toList[j]? = some u := by rw [hc]; exact hj
    simpa using h2
  have h3 := cell_of_block (i := j) hb h1
  have h4 : (⟨g, 0, none⟩ : Addr).add j = ⟨g, j, none⟩ := by simp only [Addr.add]; split <;> simp_all
  rw [h4]; exact h3

def slLen : Value → Nat
  | .slice _ n _ => n
  | _ => 0
def CutEnd (l : List UInt8) (w : World) (e : Ending) (w' : World) : Prop := ∃ (ws : List (List UInt8)) (a : Option Addr) (cap : Nat), ws = (wds l).take 5 ∧ e = .returned (.slice a ws.length cap) ∧ KRow 9 1 w.heap.size w' a ws.length cap (strs ws) ∧ Kp [] w w'
theorem wds_take (acc : List (List UInt8)) (r : List UInt8) (h : acc.length ≤ 5) : (acc ++ wds r).take 5 = acc ++ (wds r).take (5 - acc.length) := by
  rw [List.take_append, List.take_of_length_le h]
set_option maxHeartbeats 1000000 in
theorem dcut (l : List UInt8) (w : World) (hg : Gnd w) (hl : l.length ≤ 10000) :
    Calls Tryz.prog 23 #[.string ⟨l.toArray⟩] w fun e w' => CutEnd l w e w' := by
  have HG := hide hg
  clear hg
  have hu : Tryz.prog.underlying 22 = some (.slice 9) := Tryz.underlying22
  go_enter Tryz.func23, Tryz.ntmps23
  go_wp2_with fail
  go_loopw [0, 3] (fun t0 t3 wr => ∃ (r : List UInt8) (acc : List (List UInt8)) (a : Option Addr) (n cap : Nat), t0 = .string ⟨r.toArray⟩ ∧ t3 = .slice a n cap ∧ n ≤ 5 ∧ r.length ≤ 10000 ∧ Hid (n = acc.length) ∧ Hid (wds l = acc ++ wds r) ∧ Hid (KRow 9 1 w.heap.size wr a n cap (strs acc)) ∧ Hid (Kp [] w wr)) (fun _ t3 _ => 5 - (slLen t3))
  case atStart => exact ⟨l, [], none, 0, 0, rfl, rfl, by omega, hl, rfl, rfl, krow_nil _ _ _ _, Kp.refl _ _⟩
  case round =>
    obtain ⟨r, acc, a, n, cap, rfl, rfl, hn5, hr, HN, HW, HR, HK⟩ := hrel
    have HG2 := hide (gnd_kp (unhide HG) (unhide HK))
    have hsz := (unhide HK).size
    by_cases h5 : n = 5
    · subst h5
      have fin : CutEnd l w (.returned (.slice a 5 cap)) wr := by
        refine ⟨acc, a, cap, ?_, ?_, ?_, unhide HK⟩
        · rw [unhide HW, wds_take acc r (by have := unhide HN; omega), ← unhide HN]; simp
        · rw [← unhide HN]
        · rw [← unhide HN]; exact unhide HR
      have HF := hide fin
      clear fin
      go_wp2_with fail
      go_ret
      exact unhide HF
    · have i1 : (n : Int) ≤ 4 := by omega
      obtain ⟨r2, hr2⟩ : ∃ r2, Lib.trimLeftB r 32 = r2 := ⟨_, rfl⟩
      have hst := strim r wr
      have hr3 : r2.length ≤ 10000 := by have := trim_len r; rw [hr2] at this; omega
      have hw2 := wds_trim r
      rw [hr2] at hst hw2
      have HS := hide hst
      cases r2 with
      | nil =>
        have fin : CutEnd l w (.returned (.slice a n cap)) wr := by
          refine ⟨acc, a, cap, ?_, ?_, ?_, unhide HK⟩
          · rw [unhide HW, ← hw2, wds_take acc [] (by have := unhide HN; omega)]; simp [wds, wgo]
          · rw [← unhide HN]
          · rw [← unhide HN]; exact unhide HR
        have HF := hide fin
        clear fin hst hw2 hr2
        go_wp2_with (go_at_call 45; refine (unhide HS).mono ?_; rintro e w' ⟨rfl, rfl⟩)
        go_ret
        exact unhide HF
      | cons c q =>
        have hc := trim_head hr2
        have hcut := wds_cut (r := q) hc
        have HW2 := hide (show wds l = (acc ++ [(Lib.cut (c :: q) [32]).1]) ++ wds (Lib.cut (c :: q) [32]).2.1 by rw [unhide HW, ← hw2, hcut]; simp)
        have hlen := cut_len (c :: q)
        have HC := hide (scut (c :: q) wr (unhide HG2) (by omega))
        generalize (Lib.cut (c :: q) [32]).1 = w1 at *
        generalize (Lib.cut (c :: q) [32]).2.1 = w2 at *
        clear hst hw2 hr2 hc hcut
        go_wp2_with (first | (go_at_call 45; refine (unhide HS).mono ?_; rintro e w' ⟨rfl, rfl⟩) | (go_at_call 46; refine (unhide HC).mono ?_; rintro e wc ⟨b, rfl, hkc⟩; have HKC := hide hkc; have hszc := hkc.size; clear hkc) | (at_builtin; refine wpList_krow (by rfl) (.tmp 20) (.tmp 22) 22 (by rfl) hu Tryz.infoS rfl (by omega) ((unhide HR).kp0 ((unhide HKC).alloc _)) (by simp; omega) (.slice (some ⟨wc.heap.size, 0, none⟩) 1 1) (strs [w1]) 1 (by rfl) (by rfl) (src_strs [w1] (heap_alloc_new wc _) rfl 1) (by omega) (n + 1) rfl ?_; intro a' cap' wd HR' HK' HX'))
        refine ⟨⟨w2, acc ++ [w1], a', n + 1, cap', rfl, rfl, by omega, by omega, ?_, HW2, ?_, ?_⟩, by simp [slLen]; omega⟩
        · rw [List.length_append, ← unhide HN]; rfl
        · rw [strs_app]; exact HR'
        · exact ((unhide HK).trans0 ((unhide HKC).alloc _)).trans (unhide HK') (fun x hx => .inr ((unhide HR).lo x hx).1)
end
/- Lines that came in, opened. -/
section
open Go.ChangeShapes Go.WideShapes Go.ChangeAt Go.RowKit

theorem mk_data8 (s : ByteArray) : ByteArray.mk s.data.toList.toArray = s := by cases s; simp
def LnD {H : Type} (d : DataW H) (ls : List (List UInt8)) : Prop := ls = [] ∨ ∃ sp, d = .slice (ls.map fun l => .lit (.string l)) sp
theorem lines_of {H : Type} {enc : TypeId × Value → H} {W : World} {a : Option Addr} {len cap : Nat} {d : DataW H} {p : List MemPlace}
    (h : DataW.Trod enc Tryz.prog W 0 (fun _ => true) true 22 (.slice a len cap) d p) :
    ∃ ls : List (List UInt8), len = ls.length ∧ Wrd W a ls ∧ len ≤ cap ∧ cap ≤ maxLen ∧ (a = none → cap = 0) ∧ LnD d ls := by
  obtain ⟨fuel, hf⟩ := h
  rcases open_strings Tryz.underlying22 Tryz.underlying9 (by kernel_rfl) hf with ⟨hcs, hx⟩ | ⟨ad, l2, c2, ss, hcs, _, hlc, hcm, hsl, hx, hcell, _⟩
  · simp [Value.cells] at hcs
    obtain ⟨rfl, rfl, rfl⟩ := hcs
    exact ⟨[], rfl, fun hp => by simp at hp, Nat.le_refl _, by unfold maxLen; omega, fun _ => rfl, .inl rfl⟩
  · simp [Value.cells] at hcs
    obtain ⟨rfl, rfl, rfl⟩ := hcs
    simp only [if_true] at hsl
    refine ⟨(ss.take len).map (·.data.toList), by simp; omega, fun hp => ?_, hlc, hcm, (fun e => (by cases e)), .inr ⟨ChangeShapes.strs (ss.drop len), ?_⟩⟩
    · have hl0 : 0 < len := by simp at hp; omega
      obtain ⟨b, o, sp⟩ := ad
      have hsp : sp = none := by
        have := hcell 0 (by omega)
        simpa [Addr.add] using World.cell?_spot this
      subst hsp
      refine ⟨b, o, rfl, fun k l hl => ?_⟩
      rw [List.getElem?_map] at hl
      obtain ⟨s, hs, rfl⟩ := Option.map_eq_some_iff.1 hl
      rw [List.getElem?_take] at hs
      split at hs
      · have hk := (List.getElem?_eq_some_iff.1 hs).1
        have := hcell k hk
        rw [addr_add, List.getD_eq_getElem?_getD, hs] at this
        rw [mk_data8]
        exact this
      · cases hs
    · cases hx
      congr 1
      unfold ChangeShapes.strs
      rw [List.map_map]
      rfl
theorem weightsAll_in {H : Type} {P : Program} {e : TypeId} {d : DataW H} : ∀ {ds : List (DataW H)}, d ∈ ds → ∀ n ∈ d.weights P e, n ∈ DataW.weightsAll P e ds
  | x :: r, hd, n, hn => by
    simp only [DataW.weightsAll, List.mem_append]
    rcases List.mem_cons.1 hd with e1 | e1
    · subst e1; exact .inl hn
    · exact .inr (weightsAll_in e1 n hn)
theorem sized_lines {H : Type} {ts : List TypeId} {ds : List (DataW H)} (h : (DataW.weightsEach Tryz.prog ts ds).all (· ≤ reachBytes) = true) {j : Nat} {d : DataW H} {ls : List (List UInt8)} (ht : ts[j]? = some 22) (hd : ds[j]? = some d) (hl : LnD d ls) : ∀ l ∈ ls, l.length ≤ 140737488355327 := by
  intro l hm
  rcases hl with e | ⟨sp, e⟩
  · subst e; cases hm
  · subst e
    have := List.all_eq_true.1 h _ (DataW.weights_mem_each ht hd l.length (by
      simp only [DataW.weights, Tryz.underlying22, List.mem_cons, List.mem_append]
      exact .inr (.inl (weightsAll_in (d := .lit (.string l)) (List.mem_map.2 ⟨l, hm, rfl⟩) _ (by simp [DataW.weights])))))
    have h2 : l.length ≤ reachBytes := of_decide_eq_true this
    unfold reachBytes at h2
    omega
end
/- Values as texts: meanByte, Mean, by their contracts. -/
section
open Go.RowKit
attribute [local go_sem ↓] Go.wp_at_zero Go.wp_at_succ

theorem tbelow_drewN {B : Nat} {a w : World} (h : Below B a w) (n : Nat) : Below B a (w.drewN n) := h.trans ⟨rfl, rfl, rfl, Nat.le_refl _, fun _ _ => rfl⟩
/-- What meanByte tells. -/
def mbv : Option (UInt8 × Nat) → Value
  | none => .tuple #[.int .u8 0, .int .i64 0, .bool false]
  | some (c, n) => .tuple #[.int .u8 (c.toNat : Int), .int .i64 (n : Int), .bool true]
theorem get8 (s : ByteArray) (k : Nat) (h : k < s.size) : s.data.toList.drop k = s[k] :: s.data.toList.drop (k + 1) := by
  rw [List.drop_eq_getElem_cons (by rw [len8]; exact h)]
  rfl
theorem mby_c {s : ByteArray} (h0 : 0 < s.size) : ∃ r, s.data.toList = s[0] :: r := ⟨_, by have := get8 s 0 h0; rwa [List.drop_zero] at this⟩
theorem mby_p {s : ByteArray} (h0 : 0 < s.size) (hp : pln s[0] = true) : mby s.data.toList = some (s[0], 1) := by
  obtain ⟨r, hr⟩ := mby_c h0
  rw [hr]
  show (if pln s[0] = true then some (s[0], 1) else _) = _
  rw [if_pos hp]
theorem mby_m {s : ByteArray} (h0 : 0 < s.size) (hp : pln s[0] = false) (hm : s[0].toNat ≠ 92) : mby s.data.toList = none := by
  obtain ⟨r, hr⟩ := mby_c h0
  rw [hr]
  show (if pln s[0] = true then some (s[0], 1) else if s[0].toNat ≠ 92 then none else _) = _
  rw [if_neg (by rw [hp]; simp), if_pos hm]
theorem mby_s {s : ByteArray} (h0 : 0 < s.size) (h3 : s.size < 3) (hp : pln s[0] = false) : mby s.data.toList = none := by
  obtain ⟨r, hr⟩ := mby_c h0
  have hl := len8 s
  rw [hr] at hl
  rw [hr]
  have hq : ¬ pln s[0] = true := by rw [hp]; simp
  match r, hl with
  | [], _ =>
    show (if pln s[0] = true then some (s[0], 1) else if s[0].toNat ≠ 92 then none else none) = _
    rw [if_neg hq, ite_self]
  | [_], _ =>
    show (if pln s[0] = true then some (s[0], 1) else if s[0].toNat ≠ 92 then none else none) = _
    rw [if_neg hq, ite_self]
  | _ :: _ :: _, hl => simp at hl; omega
theorem mby_t {s : ByteArray} (h3 : 2 < s.size) (hp : pln s[0] = false) (hm : s[0].toNat = 92) : mby s.data.toList = if idx s[1] < 0 ∨ idx s[2] < 0 then none else if pln (UInt8.ofNat (16 * (idx s[1]).toNat + (idx s[2]).toNat)) = true then none else some (UInt8.ofNat (16 * (idx s[1]).toNat + (idx s[2]).toNat), 3) := by
  have e : s.data.toList = s[0] :: s[1] :: s[2] :: s.data.toList.drop 3 := by
    have h0 := get8 s 0 (by omega)
    rw [List.drop_zero] at h0
    rw [h0, get8 s 1 (by omega), get8 s 2 (by omega)]
    rfl
  have hq : ¬ pln s[0] = true := by rw [hp]; simp
  have hm2 : ¬ s[0].toNat ≠ 92 := fun q => q hm
  rw [e]
  show (if pln s[0] = true then some (s[0], 1) else if s[0].toNat ≠ 92 then none else _) = _
  rw [if_neg hq, if_neg hm2]
theorem dgs_eq : (ByteArray.mk #[48, 49, 50, 51, 52, 53, 54, 55, 56, 57, 97, 98, 99, 100, 101, 102]).data.toList = dgs := rfl
theorem or_byte0 : ∀ i j : Fin 16, bits BinOp.or IntKind.i64 ((i.val : Int) * 16) (j.val : Int) % 256 = ((UInt8.ofNat (16 * i.val + j.val)).toNat : Int) := by decide +kernel
theorem or_byte (i j : Nat) (hi : i < 16) (hj : j < 16) : bits BinOp.or IntKind.i64 ((i : Int) * 16) (j : Int) % 256 = ((UInt8.ofNat (16 * i + j)).toNat : Int) := or_byte0 ⟨i, hi⟩ ⟨j, hj⟩
set_option maxHeartbeats 1000000 in
theorem tmeanByte (s : ByteArray) (w : World) (h0 : 0 < s.size) (hs : s.size ≤ 30000) :
    Calls Tryz.prog 157 #[.string s] w fun e w' => e = .returned (mbv (mby s.data.toList)) ∧ Below w.heap.size w w' := by
  have i0 : (0 : Int) < (s.size : Int) := by omega
  by_cases hp : pln s[0] = true
  · rw [mby_p h0 hp]
    go_enter Tryz.func157, Tryz.ntmps157
    go_wp2_with fail
    refine (tplain s[0] w).mono ?_
    rintro e w' ⟨rfl, hw'⟩
    subst w'
    rw [hp]
    go_wp2_with fail
    exact bodyPost_ret (v := mbv (some (s[0], 1))) (by simp [results, Tryz.results157, go_sem, mbv]) rfl ⟨rfl, Below.refl _ _⟩
  · have hp2 : pln s[0] = false := by simpa using hp
    clear hp
    by_cases hm : s[0].toNat = 92
    · by_cases h3 : s.size < 3
      · rw [mby_s h0 h3 hp2]
        have i3 : (s.size : Int) < 3 := by omega
        have HM := thide hm
        clear hm
        go_enter Tryz.func157, Tryz.ntmps157
        go_wp2_with fail
        refine (tplain s[0] w).mono ?_
        rintro e w' ⟨rfl, hw'⟩
        subst w'
        rw [hp2]
        have im : (s[0].toNat : Int) = 92 := by have := tunhide HM; omega
        go_wp2_with fail
        exact bodyPost_ret (v := mbv none) (by simp [results, Tryz.results157, go_sem, mbv]) rfl ⟨rfl, Below.refl _ _⟩
      · have h3' : 2 < s.size := by omega
        have ho := mby_t h3' hp2 hm
        generalize mby s.data.toList = o at *
        have HO := thide ho
        clear ho
        have i3 : ¬ (s.size : Int) < 3 := by omega
        have i1 : (1 : Int) < (s.size : Int) := by omega
        have i2 : (2 : Int) < (s.size : Int) := by omega
        have j1 : 1 < s.size := by omega
        have HM := thide hm
        clear hm
        go_enter Tryz.func157, Tryz.ntmps157
        go_wp2_with fail
        refine (tplain s[0] w).mono ?_
        rintro e w' ⟨rfl, hw'⟩
        subst w'
        rw [hp2]
        have im : (s[0].toNat : Int) = 92 := by have := tunhide HM; omega
        go_wp2_with fail
        go_quiet ((go_at_call 175; exact Calls.quiet_of_same (tindex _ _ _)))
        rw [dgs_eq]
        have ha := idx_facts s[1]
        have hb := idx_facts s[2]
        have ha2 := idx_ge s[1]
        have hb2 := idx_ge s[2]
        rw [show Lib.indexByte dgs s[1] = idx s[1] from rfl, show Lib.indexByte dgs s[2] = idx s[2] from rfl]
        have HW := thide (tbelow_drewN (Below.refl w.heap.size w) nq)
        generalize w.drewN nq = W at *
        clear im HM
        generalize idx s[1] = x at *
        generalize idx s[2] = y at *
        by_cases hx : x < 0
        · have ho : o = none := by rw [tunhide HO, if_pos (Or.inl hx)]
          clear ha hb HO
          go_wp2_with fail
          exact bodyPost_ret (v := mbv none) (by simp [results, Tryz.results157, go_sem, mbv]) rfl ⟨by rw [ho], HW⟩
        · by_cases hy : y < 0
          · have ho : o = none := by rw [tunhide HO, if_pos (Or.inr hy)]
            clear ha hb HO
            go_wp2_with fail
            exact bodyPost_ret (v := mbv none) (by simp [results, Tryz.results157, go_sem, mbv]) rfl ⟨by first | rfl | rw [ho], HW⟩
          · have HO2 := thide (tunhide HO)
            rw [if_neg (fun q => q.elim hx hy)] at HO2
            have hx16 := (ha.resolve_left hx).1
            have hy16 := (hb.resolve_left hy).1
            clear ha hb ha2 hb2
            obtain ⟨i, rfl⟩ : ∃ i : Nat, x = (i : Int) := ⟨x.toNat, by omega⟩
            obtain ⟨j, rfl⟩ : ∃ j : Nat, y = (j : Int) := ⟨y.toNat, by omega⟩
            simp only [Int.toNat_natCast] at HO2
            clear HO
            have HE := thide (or_byte i j (by omega) (by omega))
            go_wp2_with fail
            rw [tunhide HE]
            clear HE
            generalize UInt8.ofNat (16 * i + j) = c at *
            refine (tplain c W).mono ?_
            rintro e w' ⟨rfl, hw'⟩
            subst w'
            by_cases hc : pln c = true
            · have ho : o = none := by rw [tunhide HO2, if_pos hc]
              clear HO2
              rw [hc]
              go_wp2_with fail
              exact bodyPost_ret (v := mbv none) (by simp [results, Tryz.results157, go_sem, mbv]) rfl ⟨by first | rfl | rw [ho], HW⟩
            · have ho : o = some (c, 3) := by rw [tunhide HO2, if_neg hc]
              have hc2 : pln c = false := by simpa using hc
              clear HO2
              rw [hc2]
              go_wp2_with fail
              exact bodyPost_ret (v := mbv (some (c, 3))) (by simp [results, Tryz.results157, go_sem, mbv]) rfl ⟨by first | rfl | rw [ho], HW⟩
    · rw [mby_m h0 hp2 hm]
      have i3 : ¬ (s[0].toNat : Int) = 92 := by omega
      go_enter Tryz.func157, Tryz.ntmps157
      go_wp2_with fail
      refine (tplain s[0] w).mono ?_
      rintro e w' ⟨rfl, hw'⟩
      subst w'
      rw [hp2]
      go_wp2_with fail
      exact bodyPost_ret (v := mbv none) (by simp [results, Tryz.results157, go_sem, mbv]) rfl ⟨rfl, Below.refl _ _⟩
end
/- Values as texts: Mean, by its contract. -/
section
open Go.RowKit
attribute [local go_sem ↓] Go.wp_at_zero Go.wp_at_succ

/-- What Mean tells. -/
def mnv : Option (List UInt8) → Value
  | none => .tuple #[.string ⟨#[]⟩, .bool false]
  | some y => .tuple #[.string ⟨y.toArray⟩, .bool true]
def strSz : Value → Nat
  | .string b => b.size
  | _ => 0
theorem drop8 (r : ByteArray) (n : Nat) : (r.extract n r.size).data.toList = r.data.toList.drop n := by
  rw [ByteArray.data_extract, Array.toList_extract, List.extract_eq_take_drop]
  exact List.take_of_length_le (by rw [List.length_drop, len8]; omega)
theorem size_drop8 (r : ByteArray) (n : Nat) : (r.extract n r.size).size = r.size - n := by
  rw [← len8, drop8, List.length_drop, len8]
theorem empty8 {r : ByteArray} (h : r.size = 0) : r = ⟨#[]⟩ := by
  apply ByteArray.ext
  have h1 := len8 r
  rw [h] at h1
  have h2 := List.eq_nil_of_length_eq_zero h1
  have : r.data.toList = (#[] : Array UInt8).toList := h2
  exact Array.toList_inj.1 this
theorem Bld.kp {B b : Nat} {l : List UInt8} {w w' : World} (h : Bld B b l w) (hk : Below w.heap.size w w') : Bld B b l w' := by
  have hg : w.grownBy w' none := ⟨hk.os, hk.tape, hk.output, hk.size, fun k h _ => hk.block k h⟩
  have at_ : ∀ {p : Value}, Lib.BuilderAtF 44 5 B b p (Lib.byteCells l) w → Lib.BuilderAtF 44 5 B b p (Lib.byteCells l) w' := fun h => by
    have hlt := h.lt
    obtain ⟨hB, v, hb, hown, hne⟩ := h
    exact ⟨hB, v, (hk.block b hlt).trans hb, hown.kept hg (by cases v.ownBlock <;> simp), hne⟩
  exact h.imp at_ at_
/-- From acc and what is left on. -/
def MnI (l acc r : List UInt8) : Prop := mn l = (mn r).map (acc ++ ·)
theorem mni_0 (l : List UInt8) : MnI l [] l := by unfold MnI; cases mn l <;> simp
theorem MnI.step {l acc r : List UInt8} (h : MnI l acc r) (hr : r ≠ []) {c : UInt8} {n : Nat} (hm : mby r = some (c, n)) : MnI l (acc ++ [c]) (r.drop n) := by
  unfold MnI at *
  rw [h, mn_step hr, hm]
  show ((mn (r.drop n)).map (c :: ·)).map (acc ++ ·) = (mn (r.drop n)).map (acc ++ [c] ++ ·)
  generalize mn (r.drop n) = z
  cases z <;> simp
theorem MnI.none_ {l acc r : List UInt8} (h : MnI l acc r) (hr : r ≠ []) (hm : mby r = none) : mn l = none := by
  unfold MnI at h
  rw [h, mn_step hr, hm]; rfl
theorem MnI.fin {l acc : List UInt8} (h : MnI l acc []) : mn l = some acc := by
  unfold MnI at h
  rw [h, mn_nil]; simp
theorem mby_n {r : List UInt8} {c : UInt8} {n : Nat} (hm : mby r = some (c, n)) : 1 ≤ n ∧ n ≤ r.length := by
  obtain ⟨h1, h2⟩ := mby_pre hm
  have h3 := congrArg List.length h2
  rw [List.length_append, List.length_drop] at h3
  rcases shb_len c with h | h <;> omega
set_option maxHeartbeats 1000000 in
theorem tmean (s : ByteArray) (w : World) (hs : s.size ≤ 30000) :
    Calls Tryz.prog 124 #[.string s] w fun e w' => e = .returned (mnv (mn s.data.toList)) ∧ Below w.heap.size w w' := by
  have HN := thide (bld_new w)
  have HW := thide ((Below.refl w.heap.size w).alloc (Nat.le_refl _) (.cells #[.pointer none, .slice none 0 0] 44))
  obtain ⟨o, ho⟩ : ∃ o, mn s.data.toList = o := ⟨_, rfl⟩
  have HO := thide ho
  rw [ho]
  clear ho
  go_enter Tryz.func124, Tryz.ntmps124
  go_wp2_with fail
  generalize w.alloc (.cells #[.pointer none, .slice none 0 0] 44) = W at *
  go_loopw [0] (fun t wr => ∃ (r : ByteArray) (acc : List UInt8), t = .string r ∧ acc.length + r.size ≤ s.size ∧ Hid (MnI s.data.toList acc r.data.toList) ∧ Hid (Bld w.heap.size w.heap.size acc wr) ∧ Hid (Below w.heap.size w wr)) (fun t _ => strSz t)
  case atStart => exact ⟨s, [], rfl, by simp, mni_0 _, HN, HW⟩
  case round =>
    obtain ⟨r, acc, rfl, hl, HI, HB, HL⟩ := hrel
    have hz := (tunhide HL).size
    by_cases h0 : r.size = 0
    · have e := empty8 h0
      subst e
      have ho : o = some acc := by rw [← tunhide HO]; exact (tunhide HI).fin
      clear HO HI
      go_wp2_with fail
      refine (bstring w.heap.size w.heap.size _ wr (tunhide HB) hz).mono ?_
      rintro e w1 ⟨rfl, k1⟩
      have K1 := thide k1
      clear k1
      go_wp2_with fail
      exact bodyPost_ret (v := mnv (some acc)) (by simp [results, Tryz.results124, go_sem, mnv]) rfl ⟨by first | rfl | rw [ho], (tunhide HL).trans (tunhide K1)⟩
    · have hne : ¬ r = ⟨#[]⟩ := fun e => h0 (by rw [e]; rfl)
      have hb : r.toList.isEmpty = false := by rw [← decide_eq_emptyBytes]; exact decide_eq_false hne
      have hrl : r.data.toList ≠ [] := fun e => h0 (by rw [← len8, e]; rfl)
      have HR := thide hrl
      clear hrl
      have HC := thide (tmeanByte r wr (by omega) (by omega))
      obtain ⟨m, hm⟩ : ∃ m, mby r.data.toList = m := ⟨_, rfl⟩
      rw [hm] at HC
      have HM := thide hm
      clear hm
      go_wp2_with fail
      refine (tunhide HC).mono ?_
      rintro e w1 ⟨rfl, k1⟩
      clear HC
      have hz1 := k1.size
      have HB1 := thide ((tunhide HB).kp k1)
      have K1 := thide (k1.mono hz)
      clear k1
      cases m with
      | none =>
        have ho : o = none := by rw [← tunhide HO]; exact (tunhide HI).none_ (tunhide HR) (tunhide HM)
        clear HO HI HM
        simp only [mbv]
        go_wp2_with fail
        exact bodyPost_ret (v := mnv none) (by simp [results, Tryz.results124, go_sem, mnv]) rfl ⟨by first | rfl | rw [ho], (tunhide HL).trans (tunhide K1)⟩
      | some x =>
        obtain ⟨c, n⟩ := x
        simp only [mbv]
        have hn := mby_n (tunhide HM)
        rw [len8] at hn
        have HS := thide ((tunhide HI).step (tunhide HR) (tunhide HM))
        have n1 : (0 : Int) ≤ (n : Int) := by omega
        have n2 : (n : Int) ≤ (r.size : Int) := by omega
        go_wp2_with fail
        refine (bwrite w.heap.size w.heap.size acc c w1 (tunhide HB1) (by omega) (by omega)).mono ?_
        rintro e w2 ⟨rfl, h2, k2⟩
        have H2 := thide h2
        have K2 := thide k2
        clear h2 k2
        go_wp2_with fail
        refine ⟨⟨r.extract n r.size, acc ++ [c], rfl, ?_, ?_, H2, (tunhide HL).trans ((tunhide K1).trans (tunhide K2))⟩, ?_⟩
        · rw [size_drop8]; simp; omega
        · rw [drop8]; exact HS
        · simp only [strSz]; rw [size_drop8]; omega
end
/- The desk's number and meant, by their contracts. -/
section
open Go.RowKit
attribute [local go_sem ↓] Go.wp_at_zero Go.wp_at_succ

def NuEnd (l : List UInt8) (w : World) (e : Ending) (w' : World) : Prop := ∃ (z : Int) (b : Bool), e = .returned (.tuple #[.int .i64 z, .bool b]) ∧ num l = (if b = true then some z else none) ∧ Kp [] w w'
theorem nuEnd_mk {l : List UInt8} {w w' : World} (z : Int) (b : Bool) (h : num l = (if b = true then some z else none)) (hk : Kp [] w w') : NuEnd l w (.returned (.tuple #[.int .i64 z, .bool b])) w' := ⟨z, b, rfl, h, hk⟩
set_option maxHeartbeats 1000000 in
theorem dnum (l : List UInt8) (w : World) (hg : Gnd w) (hl : l.length ≤ 10000) :
    Calls Tryz.prog 85 #[.string ⟨l.toArray⟩] w fun e w' => NuEnd l w e w' := by
  have HA := hide (satoi l w hg (by omega))
  have HG := hide hg
  clear hg
  go_enter Tryz.func85, Tryz.ntmps85
  go_wp2_with (first | (go_at_call 35; refine (unhide HA).mono ?_; rintro e w1 ⟨z, ev, rfl, hz, hk⟩; have HK := hide hk; have HG1 := hide (gnd_kp (unhide HG) hk); clear hk; rcases hz with ⟨ha, rfl, hb1, hb2⟩ | ⟨ha, T, p, rfl⟩) | (go_at_call 25; refine (sitoa z w1 (unhide HG1) hb1 hb2).mono ?_; rintro e w2 ⟨rfl, hk2⟩; have HK2 := hide hk2; clear hk2))
  · go_ret2
    refine nuEnd_mk z _ ?_ ((unhide HK).trans0 (unhide HK2))
    unfold num
    rw [ha]
    by_cases h : Lib.itoa z = l <;> simp [h]
  · go_ret2
    refine nuEnd_mk z _ ?_ (unhide HK)
    unfold num
    cases hc : Lib.atoiAll l with
    | ok v => exact absurd hc (ha v)
    | _ => rfl
def MtEnd (l : List UInt8) (w : World) (e : Ending) (w' : World) : Prop := ∃ (s : List UInt8) (b : Bool), e = .returned (.tuple #[.string ⟨s.toArray⟩, .bool b]) ∧ bts l = (if b = true then some s else none) ∧ s.length ≤ l.length ∧ Kp [] w w'
theorem mtEnd_mk {l : List UInt8} {w w' : World} (s : List UInt8) (b : Bool) (h : bts l = (if b = true then some s else none)) (hs : s.length ≤ l.length) (hk : Kp [] w w') : MtEnd l w (.returned (.tuple #[.string ⟨s.toArray⟩, .bool b])) w' := ⟨s, b, rfl, h, hs, hk⟩
theorem mn_len {l y : List UInt8} (h : mn l = some y) : y.length ≤ l.length := by
  have := sh_mn _ l y (Nat.le_refl _) h
  rw [← this]
  exact (sh_len y).1
set_option maxHeartbeats 1000000 in
theorem dmeant (l : List UInt8) (w : World) (hl : l.length ≤ 10000) :
    Calls Tryz.prog 86 #[.string ⟨l.toArray⟩] w fun e w' => MtEnd l w e w' := by
  have hcp := scutp l w
  by_cases hp : ∃ r, l = 61 :: r
  · obtain ⟨r, rfl⟩ := hp
    have e1 : Lib.trimPrefix (61 :: r) [61] = r := by simp [Lib.trimPrefix, Lib.hasPrefix]
    have e2 : Lib.hasPrefix (61 :: r) [61] = true := by simp [Lib.hasPrefix]
    rw [e1, e2] at hcp
    have HC := hide hcp
    have hb : bts (61 :: r) = mn r := by simp [bts]
    have htm := tmean ⟨r.toArray⟩ w (by rw [size8]; simp at hl; omega)
    rw [mk8] at htm
    have HM := hide htm
    clear hcp e1 e2 htm
    go_enter Tryz.func86, Tryz.ntmps86
    cases hm : mn r with
    | none =>
      rw [hm] at HM hb
      go_wp2_with (first | (go_at_call 123; refine (unhide HC).mono ?_; rintro e w1 ⟨rfl, rfl⟩) | (go_at_call 124; refine (unhide HM).mono ?_; rintro e w2 ⟨rfl, hk2⟩; have HK2 := hide (kp_of_below hk2); clear hk2; unfold mnv))
      go_ret2
      exact mtEnd_mk [] false (by rw [hb]; rfl) (by simp) (unhide HK2)
    | some y =>
      have hy := mn_len hm
      rw [hm] at HM hb
      go_wp2_with (first | (go_at_call 123; refine (unhide HC).mono ?_; rintro e w1 ⟨rfl, rfl⟩) | (go_at_call 124; refine (unhide HM).mono ?_; rintro e w2 ⟨rfl, hk2⟩; have HK2 := hide (kp_of_below hk2); clear hk2; unfold mnv))
      go_ret2
      exact mtEnd_mk y true (by rw [hb]; rfl) (by simp; omega) (unhide HK2)
  · have e2 : Lib.hasPrefix l [61] = false := by
      cases l with
      | nil => rfl
      | cons c r =>
        have : c ≠ 61 := fun e => hp ⟨r, by rw [e]⟩
        simp [Lib.hasPrefix, List.isPrefixOf, Ne.symm this]
    rw [e2] at hcp
    have HC := hide hcp
    have hb : bts l = none := by
      cases l with
      | nil => rfl
      | cons c r =>
        have : c ≠ 61 := fun e => hp ⟨r, by rw [e]⟩
        simp [bts, this]
    clear hcp e2 hp
    go_enter Tryz.func86, Tryz.ntmps86
    go_wp2_with (go_at_call 123; refine (unhide HC).mono ?_; rintro e w1 ⟨rfl, rfl⟩)
    go_ret2
    exact mtEnd_mk [] false (by rw [hb]; rfl) (by simp) (Kp.refl _ _)
end
/- The desk's fill: a line's words laid into its step, by its contract. -/
section
open Go.RowKit
attribute [local go_sem ↓] Go.wp_at_zero Go.wp_at_succ

theorem zoo_setc {w0 w : World} {l1 r : List Thing} {p i : Nat} {v : Value} {c : Array Value} {T : TypeId} (hz : Zoo w0 w (l1 ++ BoxT p c T :: r)) : Zoo w0 (w.setCell ⟨p, i, none⟩ v) (l1 ++ BoxT p (c.setIfInBounds i v) T :: r) := by
  obtain ⟨F, ⟨h1, h2, h3⟩, k⟩ := hz.at_
  subst h2
  refine k _ _ ⟨[p], ⟨?_, rfl, h3⟩, (Kp.refl [p] w).setCell (.inl (by simp)) _, fun x hx => .inl hx⟩
  rw [heap_setCell_at i _ h1]
theorem size_box (w : World) (c : Array Value) (T : TypeId) : (w.alloc (.cells c T)).heap.size = w.heap.size + 1 := by simp
theorem zoo_box2 {w0 w : World} {r : List Thing} (hz : Zoo w0 w r) (a b : Array Value) (A B : TypeId) : Zoo w0 ((w.alloc (.cells a A)).alloc (.cells b B)) (BoxT (w.heap.size + 1) b B :: BoxT w.heap.size a A :: r) := by
  have h := (hz.box a A).box b B
  rw [size_box] at h
  exact h
theorem zoo_box3 {w0 w : World} {r : List Thing} (hz : Zoo w0 w r) (a b c : Array Value) (A B C : TypeId) : Zoo w0 (((w.alloc (.cells a A)).alloc (.cells b B)).alloc (.cells c C)) (BoxT (w.heap.size + 1 + 1) c C :: BoxT (w.heap.size + 1) b B :: BoxT w.heap.size a A :: r) := by
  have h := (zoo_box2 hz a b A B).box c C
  rw [size_box, size_box] at h
  exact h
theorem zoo_setrow {w0 w : World} {l1 r : List Thing} {p : Nat} {c c' : Array Value} {T : TypeId} (hz : Zoo w0 w (l1 ++ BoxT p c T :: r)) : Zoo w0 (w.setRow p c') (l1 ++ BoxT p c' T :: r) := by
  obtain ⟨F, ⟨h1, h2, h3⟩, k⟩ := hz.at_
  subst h2
  obtain ⟨z1, z2⟩ := setRow_kp (cs := c') h1
  exact k _ _ ⟨[p], ⟨z1, rfl, h3⟩, z2, fun x hx => .inl hx⟩
theorem Tryz.sizeSt : (Tryz.prog.info? 79).map (·.size) = some 8 := by kernel_rfl
theorem stload {w : World} {p : Nat} {c : Array Value} (hs : c.size = 8) (h : w.heap[p]? = some (.cells c 79 (0, 0))) : (loadVar 79 ⟨p, 0, none⟩).run Tryz.prog w = .ok (.agg c) w :=
  run_loadVar_row w p 79 79 c (0, 0) _ h Tryz.underlying79 rfl (by rw [hs]; exact Tryz.sizeSt)
theorem xcs_one (x : HStep) : (xcs x).all (·.oneCell') = true := by simp [xcs, Value.oneCell']
theorem u8_ne {c d : UInt8} {m : Int} (h : ¬ c = d) (hd : (d.toNat : Int) = m) : ¬ ((c.toNat : Int) = m) := fun e => h (UInt8.toNat_inj.1 (by omega))
theorem fgo_nil (x : HStep) (ws : List (List UInt8)) : fgo x [] ws = some x := by cases ws <;> simp [fgo]
def FlEnd (r : Option HStep) (w : World) (e : Ending) (w' : World) : Prop := ∃ (x : HStep) (b : Bool), e = .returned (.tuple #[.agg (xcs x), .bool b]) ∧ r = (if b = true then some x else none) ∧ Kp [] w w'
theorem flEnd_mk {r : Option HStep} {w w' : World} (x : HStep) (b : Bool) (h : r = (if b = true then some x else none)) (hk : Kp [] w w') : FlEnd r w (.returned (.tuple #[.agg (xcs x), .bool b])) w' := ⟨x, b, rfl, h, hk⟩
theorem fgo_step {x : HStep} {ls : List UInt8} {ws : List (List UInt8)} {k : Nat} {c : UInt8} {v : List UInt8} (hc : ls[k]? = some c) (hv : ws[k]? = some v) : fgo x (ls.drop k) (ws.drop k) = match put1 x c v with | some y => fgo y (ls.drop (k + 1)) (ws.drop (k + 1)) | none => none := by
  have h1 : ls.drop k = c :: ls.drop (k + 1) := by
    obtain ⟨hk, e⟩ := List.getElem?_eq_some_iff.1 hc
    rw [List.drop_eq_getElem_cons hk, e]
  have h2 : ws.drop k = v :: ws.drop (k + 1) := by
    obtain ⟨hk, e⟩ := List.getElem?_eq_some_iff.1 hv
    rw [List.drop_eq_getElem_cons hk, e]
  rw [h1, h2, fgo]
  all_goals (cases put1 x c v <;> rfl)
theorem get_lit (ls : List UInt8) (k : Nat) (h : k < (ByteArray.mk ls.toArray).size) (c : UInt8) (hc : ls[k]? = some c) : (ByteArray.mk ls.toArray)[k]'h = c := by
  obtain ⟨hk, e⟩ := List.getElem?_eq_some_iff.1 hc
  show ls.toArray[k]'_ = c
  simpa using e
set_option maxHeartbeats 4000000 in
theorem dfill (o : Od) (ws : List (List UInt8)) (n : Nat) (hn : n = ws.length) (hl : o.letters.length = n) (hn3 : n ≤ 100) (a : Option Addr) (cap : Nat) (w : World) (hg : Gnd w) (hw : Wrd w a ws) (hws : ∀ v ∈ ws, v.length ≤ 10000) :
    Calls Tryz.prog 52 #[.agg (odv o).toArray, .slice a n cap] w fun e w' => FlEnd (fil o ws) w e w' := by
  obtain ⟨nm, ls, kd, md⟩ := o
  dsimp only at hl
  have hsz : (ByteArray.mk ls.toArray).size = n := by rw [size8]; exact hl
  have HZ0 := hide (zoo_box3 (zoo_nil (Kp.refl [] w)) #[.string ⟨nm.toArray⟩, .string ⟨ls.toArray⟩, .int .i64 kd, .int .i64 md] #[.int .i64 0, .int .i64 0, .int .i64 0, .int .i64 0, .int .i64 0, .int .i64 0, .int .i64 0, .string ⟨#[]⟩] #[.int .i64 kd, .int .i64 0, .int .i64 md, .int .i64 0, .int .i64 0, .int .i64 0, .int .i64 0, .string ⟨#[]⟩] 120 79 79)
  have HG := hide hg
  have HW := hide hw
  have HN := hide hn
  have HL := hide hl
  have HS := hide hws
  clear hg hw hn hl hws
  show Calls Tryz.prog 52 #[.agg #[.string ⟨nm.toArray⟩, .string ⟨ls.toArray⟩, .int .i64 kd, .int .i64 md], .slice a n cap] w fun e w' => FlEnd (fil ⟨nm, ls, kd, md⟩ ws) w e w'
  go_enter Tryz.func52, Tryz.ntmps52
  go_wp2_with fail
  generalize ((w.alloc (.cells #[.string ⟨nm.toArray⟩, .string ⟨ls.toArray⟩, .int .i64 kd, .int .i64 md] 120)).alloc (.cells #[.int .i64 0, .int .i64 0, .int .i64 0, .int .i64 0, .int .i64 0, .int .i64 0, .int .i64 0, .string ⟨#[]⟩] 79)).alloc (.cells #[.int .i64 kd, .int .i64 0, .int .i64 md, .int .i64 0, .int .i64 0, .int .i64 0, .int .i64 0, .string ⟨#[]⟩] 79) = W at *
  generalize w.heap.size + 1 + 1 = pX at *
  generalize w.heap.size + 1 = pR at *
  generalize w.heap.size = pO at *
  go_loopw [17] (fun t wr => ∃ (k : Nat) (x : HStep), k ≤ n ∧ t = .int .i64 k ∧ Hid (fil ⟨nm, ls, kd, md⟩ ws = fgo x (ls.drop k) (ws.drop k)) ∧ Hid (Zoo w wr [BoxT pX (xcs x) 79, BoxT pR #[.int .i64 0, .int .i64 0, .int .i64 0, .int .i64 0, .int .i64 0, .int .i64 0, .int .i64 0, .string ⟨#[]⟩] 79, BoxT pO #[.string ⟨nm.toArray⟩, .string ⟨ls.toArray⟩, .int .i64 kd, .int .i64 md] 120])) (fun t _ => n - (intOf t).toNat)
  case atStart => exact ⟨0, ⟨kd, 0, md, 0, 0, 0, 0, ⟨#[]⟩⟩, Nat.zero_le _, rfl, rfl, HZ0⟩
  case round =>
    obtain ⟨k, x, hk, rfl, HI, HZ⟩ := hrel
    have hO := zoo_varm (unhide HZ) (List.Mem.tail _ (List.Mem.tail _ (List.Mem.head _)))
    have hR := zoo_varm (unhide HZ) (List.Mem.tail _ (List.Mem.head _))
    have hX := zoo_varm (unhide HZ) (List.Mem.head _)
    by_cases hlt : k < n
    · have i0 : (0 : Int) ≤ (k : Int) := by omega
      have i1 : (k : Int) < (n : Int) := by omega
      have hkl : k < ls.length := by rw [unhide HL]; exact hlt
      have hkw : k < ws.length := by rw [← unhide HN]; exact hlt
      obtain ⟨c, hc⟩ : ∃ c, ls[k]? = some c := ⟨_, List.getElem?_eq_getElem hkl⟩
      obtain ⟨v, hv⟩ : ∃ v, ws[k]? = some v := ⟨_, List.getElem?_eq_getElem hkw⟩
      obtain ⟨g, ao, rfl, hwd⟩ := ((unhide HW).kp0 (unhide HZ).kp) (by omega)
      have z1 := hwd k v hv
      have c1 : wr.cell? ⟨pO, 1, none⟩ = some (.string ⟨ls.toArray⟩) := cell_of_block hO rfl
      have hvl := unhide HS v (List.mem_of_getElem? hv)
      have hgn := gnd_kp (unhide HG) (unhide HZ).kp
      have HNU := hide (dnum v wr hgn hvl)
      have HMT := hide (dmeant v wr hvl)
      have hget := get_lit ls k (by rw [size8]; exact hkl) c hc
      have j1 : (k : Int) < ((ByteArray.mk ls.toArray).size : Int) := by rw [hsz]; exact i1
      have HST := hide (fgo_step (x := x) hc hv)
      clear hwd hgn hc hv hvl hO hR hX hkw
      by_cases h83 : c = 83
      · subst h83
        go_wp2_with (first | (go_at_call 85; refine (unhide HNU).mono ?_; rintro e w1 ⟨z, b, rfl, hz, hk1⟩; have HZ1 := hide ((unhide HZ).kp0 hk1); have HB := hide hz; have f1 : w1.frozen? ⟨pX, 1, none⟩ = false := frozen_of_block _ (zoo_varm (unhide HZ1) (List.Mem.head _)); have d1 : ∃ y, w1.cell? ⟨pX, 1, none⟩ = some y := ⟨_, cell_of_block (zoo_varm (unhide HZ1) (List.Mem.head _)) rfl⟩; obtain ⟨y, d1⟩ := d1; have HZ2 := hide (zoo_setc (l1 := []) (i := 1) (v := .int .i64 z) (unhide HZ1)); clear hz hk1 ; cases b) | (refine wpList_store_row rfl 79 _ _ rfl pR #[.int .i64 0, .int .i64 0, .int .i64 0, .int .i64 0, .int .i64 0, .int .i64 0, .int .i64 0, .string ⟨#[]⟩] rfl rfl 79 _ (zoo_varm (unhide HZ2) (List.Mem.tail _ (List.Mem.head _))) Tryz.sizeSt rfl (by simp [Value.oneCell']) ?_))
        · have fin : fil ⟨nm, ls, kd, md⟩ ws = none := by
            rw [unhide HI, unhide HST]
            simp [put1, show num v = none from by simpa using unhide HB]
          have hz3 := zoo_setrow (c' := xcs ⟨0, 0, 0, 0, 0, 0, 0, ⟨#[]⟩⟩) (l1 := [_]) (unhide HZ2)
          have hld := stload rfl (zoo_varm hz3 (List.Mem.tail _ (List.Mem.head _)))
          refine bodyPost_ret (v := .tuple #[.agg (xcs ⟨0, 0, 0, 0, 0, 0, 0, ⟨#[]⟩⟩), .bool false]) ?_ rfl ?_
          · rw [results_cell_tmp Tryz.results52]; simp [asAddr, Result.andThen]; erw [hld]; rfl
          · exact flEnd_mk _ false fin hz3.kp
        · refine ⟨⟨k + 1, { x with s := z }, by omega, by go_num, ?_, ?_⟩, by simp [intOf]; omega⟩
          · rw [unhide HI, unhide HST]
            simp [put1, show num v = some z from by simpa using unhide HB, hide]
          · exact HZ2
      by_cases h65 : c = 65
      · subst h65
        go_wp2_with (first | (go_at_call 85; refine (unhide HNU).mono ?_; rintro e w1 ⟨z, b, rfl, hz, hk1⟩; have HZ1 := hide ((unhide HZ).kp0 hk1); have HB := hide hz; have f1 : w1.frozen? ⟨pX, 3, none⟩ = false := frozen_of_block _ (zoo_varm (unhide HZ1) (List.Mem.head _)); have d1 : ∃ y, w1.cell? ⟨pX, 3, none⟩ = some y := ⟨_, cell_of_block (zoo_varm (unhide HZ1) (List.Mem.head _)) rfl⟩; obtain ⟨y, d1⟩ := d1; have HZ2 := hide (zoo_setc (l1 := []) (i := 3) (v := .int .i64 z) (unhide HZ1)); clear hz hk1 ; cases b) | (refine wpList_store_row rfl 79 _ _ rfl pR #[.int .i64 0, .int .i64 0, .int .i64 0, .int .i64 0, .int .i64 0, .int .i64 0, .int .i64 0, .string ⟨#[]⟩] rfl rfl 79 _ (zoo_varm (unhide HZ2) (List.Mem.tail _ (List.Mem.head _))) Tryz.sizeSt rfl (by simp [Value.oneCell']) ?_))
        · have fin : fil ⟨nm, ls, kd, md⟩ ws = none := by
            rw [unhide HI, unhide HST]
            simp [put1, show num v = none from by simpa using unhide HB]
          have hz3 := zoo_setrow (c' := xcs ⟨0, 0, 0, 0, 0, 0, 0, ⟨#[]⟩⟩) (l1 := [_]) (unhide HZ2)
          have hld := stload rfl (zoo_varm hz3 (List.Mem.tail _ (List.Mem.head _)))
          refine bodyPost_ret (v := .tuple #[.agg (xcs ⟨0, 0, 0, 0, 0, 0, 0, ⟨#[]⟩⟩), .bool false]) ?_ rfl ?_
          · rw [results_cell_tmp Tryz.results52]; simp [asAddr, Result.andThen]; erw [hld]; rfl
          · exact flEnd_mk _ false fin hz3.kp
        · refine ⟨⟨k + 1, { x with at_ := z }, by omega, by go_num, ?_, ?_⟩, by simp [intOf]; omega⟩
          · rw [unhide HI, unhide HST]
            simp [put1, show num v = some z from by simpa using unhide HB, hide]
          · exact HZ2
      by_cases h75 : c = 75
      · subst h75
        go_wp2_with (first | (go_at_call 85; refine (unhide HNU).mono ?_; rintro e w1 ⟨z, b, rfl, hz, hk1⟩; have HZ1 := hide ((unhide HZ).kp0 hk1); have HB := hide hz; have f1 : w1.frozen? ⟨pX, 4, none⟩ = false := frozen_of_block _ (zoo_varm (unhide HZ1) (List.Mem.head _)); have d1 : ∃ y, w1.cell? ⟨pX, 4, none⟩ = some y := ⟨_, cell_of_block (zoo_varm (unhide HZ1) (List.Mem.head _)) rfl⟩; obtain ⟨y, d1⟩ := d1; have HZ2 := hide (zoo_setc (l1 := []) (i := 4) (v := .int .i64 z) (unhide HZ1)); clear hz hk1 ; cases b) | (refine wpList_store_row rfl 79 _ _ rfl pR #[.int .i64 0, .int .i64 0, .int .i64 0, .int .i64 0, .int .i64 0, .int .i64 0, .int .i64 0, .string ⟨#[]⟩] rfl rfl 79 _ (zoo_varm (unhide HZ2) (List.Mem.tail _ (List.Mem.head _))) Tryz.sizeSt rfl (by simp [Value.oneCell']) ?_))
        · have fin : fil ⟨nm, ls, kd, md⟩ ws = none := by
            rw [unhide HI, unhide HST]
            simp [put1, show num v = none from by simpa using unhide HB]
          have hz3 := zoo_setrow (c' := xcs ⟨0, 0, 0, 0, 0, 0, 0, ⟨#[]⟩⟩) (l1 := [_]) (unhide HZ2)
          have hld := stload rfl (zoo_varm hz3 (List.Mem.tail _ (List.Mem.head _)))
          refine bodyPost_ret (v := .tuple #[.agg (xcs ⟨0, 0, 0, 0, 0, 0, 0, ⟨#[]⟩⟩), .bool false]) ?_ rfl ?_
          · rw [results_cell_tmp Tryz.results52]; simp [asAddr, Result.andThen]; erw [hld]; rfl
          · exact flEnd_mk _ false fin hz3.kp
        · refine ⟨⟨k + 1, { x with key := z }, by omega, by go_num, ?_, ?_⟩, by simp [intOf]; omega⟩
          · rw [unhide HI, unhide HST]
            simp [put1, show num v = some z from by simpa using unhide HB, hide]
          · exact HZ2
      by_cases h84 : c = 84
      · subst h84
        go_wp2_with (first | (go_at_call 85; refine (unhide HNU).mono ?_; rintro e w1 ⟨z, b, rfl, hz, hk1⟩; have HZ1 := hide ((unhide HZ).kp0 hk1); have HB := hide hz; have f1 : w1.frozen? ⟨pX, 5, none⟩ = false := frozen_of_block _ (zoo_varm (unhide HZ1) (List.Mem.head _)); have d1 : ∃ y, w1.cell? ⟨pX, 5, none⟩ = some y := ⟨_, cell_of_block (zoo_varm (unhide HZ1) (List.Mem.head _)) rfl⟩; obtain ⟨y, d1⟩ := d1; have HZ2 := hide (zoo_setc (l1 := []) (i := 5) (v := .int .i64 z) (unhide HZ1)); clear hz hk1 ; cases b) | (refine wpList_store_row rfl 79 _ _ rfl pR #[.int .i64 0, .int .i64 0, .int .i64 0, .int .i64 0, .int .i64 0, .int .i64 0, .int .i64 0, .string ⟨#[]⟩] rfl rfl 79 _ (zoo_varm (unhide HZ2) (List.Mem.tail _ (List.Mem.head _))) Tryz.sizeSt rfl (by simp [Value.oneCell']) ?_))
        · have fin : fil ⟨nm, ls, kd, md⟩ ws = none := by
            rw [unhide HI, unhide HST]
            simp [put1, show num v = none from by simpa using unhide HB]
          have hz3 := zoo_setrow (c' := xcs ⟨0, 0, 0, 0, 0, 0, 0, ⟨#[]⟩⟩) (l1 := [_]) (unhide HZ2)
          have hld := stload rfl (zoo_varm hz3 (List.Mem.tail _ (List.Mem.head _)))
          refine bodyPost_ret (v := .tuple #[.agg (xcs ⟨0, 0, 0, 0, 0, 0, 0, ⟨#[]⟩⟩), .bool false]) ?_ rfl ?_
          · rw [results_cell_tmp Tryz.results52]; simp [asAddr, Result.andThen]; erw [hld]; rfl
          · exact flEnd_mk _ false fin hz3.kp
        · refine ⟨⟨k + 1, { x with to_ := z }, by omega, by go_num, ?_, ?_⟩, by simp [intOf]; omega⟩
          · rw [unhide HI, unhide HST]
            simp [put1, show num v = some z from by simpa using unhide HB, hide]
          · exact HZ2
      by_cases h78 : c = 78
      · subst h78
        go_wp2_with (first | (go_at_call 85; refine (unhide HNU).mono ?_; rintro e w1 ⟨z, b, rfl, hz, hk1⟩; have HZ1 := hide ((unhide HZ).kp0 hk1); have HB := hide hz; have f1 : w1.frozen? ⟨pX, 6, none⟩ = false := frozen_of_block _ (zoo_varm (unhide HZ1) (List.Mem.head _)); have d1 : ∃ y, w1.cell? ⟨pX, 6, none⟩ = some y := ⟨_, cell_of_block (zoo_varm (unhide HZ1) (List.Mem.head _)) rfl⟩; obtain ⟨y, d1⟩ := d1; have HZ2 := hide (zoo_setc (l1 := []) (i := 6) (v := .int .i64 z) (unhide HZ1)); clear hz hk1 ; cases b) | (refine wpList_store_row rfl 79 _ _ rfl pR #[.int .i64 0, .int .i64 0, .int .i64 0, .int .i64 0, .int .i64 0, .int .i64 0, .int .i64 0, .string ⟨#[]⟩] rfl rfl 79 _ (zoo_varm (unhide HZ2) (List.Mem.tail _ (List.Mem.head _))) Tryz.sizeSt rfl (by simp [Value.oneCell']) ?_))
        · have fin : fil ⟨nm, ls, kd, md⟩ ws = none := by
            rw [unhide HI, unhide HST]
            simp [put1, show num v = none from by simpa using unhide HB]
          have hz3 := zoo_setrow (c' := xcs ⟨0, 0, 0, 0, 0, 0, 0, ⟨#[]⟩⟩) (l1 := [_]) (unhide HZ2)
          have hld := stload rfl (zoo_varm hz3 (List.Mem.tail _ (List.Mem.head _)))
          refine bodyPost_ret (v := .tuple #[.agg (xcs ⟨0, 0, 0, 0, 0, 0, 0, ⟨#[]⟩⟩), .bool false]) ?_ rfl ?_
          · rw [results_cell_tmp Tryz.results52]; simp [asAddr, Result.andThen]; erw [hld]; rfl
          · exact flEnd_mk _ false fin hz3.kp
        · refine ⟨⟨k + 1, { x with keep := z }, by omega, by go_num, ?_, ?_⟩, by simp [intOf]; omega⟩
          · rw [unhide HI, unhide HST]
            simp [put1, show num v = some z from by simpa using unhide HB, hide]
          · exact HZ2
      by_cases h66 : c = 66
      · subst h66
        go_wp2_with (first | (go_at_call 86; refine (unhide HMT).mono ?_; rintro e w1 ⟨z, b, rfl, hz, hzl, hk1⟩; have HZ1 := hide ((unhide HZ).kp0 hk1); have HB := hide hz; have f1 : w1.frozen? ⟨pX, 7, none⟩ = false := frozen_of_block _ (zoo_varm (unhide HZ1) (List.Mem.head _)); have d1 : ∃ y, w1.cell? ⟨pX, 7, none⟩ = some y := ⟨_, cell_of_block (zoo_varm (unhide HZ1) (List.Mem.head _)) rfl⟩; obtain ⟨y, d1⟩ := d1; have HZ2 := hide (zoo_setc (l1 := []) (i := 7) (v := .string ⟨z.toArray⟩) (unhide HZ1)); clear hz hk1 hzl; cases b) | (refine wpList_store_row rfl 79 _ _ rfl pR #[.int .i64 0, .int .i64 0, .int .i64 0, .int .i64 0, .int .i64 0, .int .i64 0, .int .i64 0, .string ⟨#[]⟩] rfl rfl 79 _ (zoo_varm (unhide HZ2) (List.Mem.tail _ (List.Mem.head _))) Tryz.sizeSt rfl (by simp [Value.oneCell']) ?_))
        · have fin : fil ⟨nm, ls, kd, md⟩ ws = none := by
            rw [unhide HI, unhide HST]
            simp [put1, show bts v = none from by simpa using unhide HB]
          have hz3 := zoo_setrow (c' := xcs ⟨0, 0, 0, 0, 0, 0, 0, ⟨#[]⟩⟩) (l1 := [_]) (unhide HZ2)
          have hld := stload rfl (zoo_varm hz3 (List.Mem.tail _ (List.Mem.head _)))
          refine bodyPost_ret (v := .tuple #[.agg (xcs ⟨0, 0, 0, 0, 0, 0, 0, ⟨#[]⟩⟩), .bool false]) ?_ rfl ?_
          · rw [results_cell_tmp Tryz.results52]; simp [asAddr, Result.andThen]; erw [hld]; rfl
          · exact flEnd_mk _ false fin hz3.kp
        · refine ⟨⟨k + 1, { x with b := ⟨z.toArray⟩ }, by omega, by go_num, ?_, ?_⟩, by simp [intOf]; omega⟩
          · rw [unhide HI, unhide HST]
            simp [put1, show bts v = some z from by simpa using unhide HB, hide]
          · exact HZ2
      have q83 : ¬ ((c.toNat : Int) = 83) := u8_ne h83 rfl
      have q65 : ¬ ((c.toNat : Int) = 65) := u8_ne h65 rfl
      have q75 : ¬ ((c.toNat : Int) = 75) := u8_ne h75 rfl
      have q84 : ¬ ((c.toNat : Int) = 84) := u8_ne h84 rfl
      have q78 : ¬ ((c.toNat : Int) = 78) := u8_ne h78 rfl
      have q66 : ¬ ((c.toNat : Int) = 66) := u8_ne h66 rfl
      have fin : fil ⟨nm, ls, kd, md⟩ ws = none := by
        rw [unhide HI, unhide HST]
        simp [put1, h83, h65, h75, h84, h78, h66]
      have HF := hide fin
      have hz3 := zoo_setrow (c' := xcs ⟨0, 0, 0, 0, 0, 0, 0, ⟨#[]⟩⟩) (l1 := [_]) (unhide HZ)
      have hld := stload rfl (zoo_varm hz3 (List.Mem.tail _ (List.Mem.head _)))
      have HLD := hide hld
      have HZ3 := hide hz3
      clear fin hld hz3 h83 h65 h75 h84 h78 h66
      go_wp2_with (refine wpList_store_row rfl 79 _ _ rfl pR #[.int .i64 0, .int .i64 0, .int .i64 0, .int .i64 0, .int .i64 0, .int .i64 0, .int .i64 0, .string ⟨#[]⟩] rfl rfl 79 _ (zoo_varm (unhide HZ) (List.Mem.tail _ (List.Mem.head _))) Tryz.sizeSt rfl (by simp [Value.oneCell']) ?_)
      refine bodyPost_ret (v := .tuple #[.agg (xcs ⟨0, 0, 0, 0, 0, 0, 0, ⟨#[]⟩⟩), .bool false]) ?_ rfl ?_
      · rw [results_cell_tmp Tryz.results52]; simp [asAddr, Result.andThen]; erw [unhide HLD]; rfl
      · exact flEnd_mk _ false (unhide HF) (unhide HZ3).kp
    · have i1 : ¬ (k : Int) < (n : Int) := by omega
      have e : k = n := by omega
      have fin : fil ⟨nm, ls, kd, md⟩ ws = some x := by
        rw [unhide HI, e, List.drop_of_length_le (by rw [unhide HL]; omega), fgo_nil]
      have HF := hide fin
      clear fin
      go_wp2_with (first | (refine wpList_load_row rfl 79 _ rfl pX rfl 79 _ (0, 0) _ hX Tryz.underlying79 rfl Tryz.sizeSt ?_) | (refine wpList_store_row rfl 79 _ _ rfl pR (xcs x) rfl rfl 79 _ hR Tryz.sizeSt rfl (xcs_one _) ?_))
      have hz2 := zoo_setrow (c' := xcs x) (l1 := [BoxT pX (xcs x) 79]) (unhide HZ)
      have hld := stload rfl (zoo_varm hz2 (List.Mem.tail _ (List.Mem.head _)))
      refine bodyPost_ret (v := .tuple #[.agg (xcs x), .bool true]) ?_ rfl ?_
      · rw [results_cell_tmp Tryz.results52]; simp [asAddr, Result.andThen, hld]
      · exact flEnd_mk x true (unhide HF) hz2.kp
end
/- The desk's read: the step that a line is, by its contract. -/
section
open Go.RowKit
attribute [local go_sem ↓] Go.wp_at_zero Go.wp_at_succ

theorem Tryz.infoOd : (Tryz.prog.info? 120).map (fun i => (i.zero, i.size, i.bytes)) = some (some (.agg #[.string ByteArray.empty, .string ByteArray.empty, .int .i64 0, .int .i64 0]), 4, 48) := by kernel_rfl
theorem Tryz.sizeOds : (Tryz.prog.info? 121).map (·.size) = some odc.size := by kernel_rfl
theorem odc_part {k : Nat} {o : Od} (h : ods[k]? = some o) : k < 12 ∧ odc.extract (k * 4) (k * 4 + 4) = (odv o).toArray := by
  rcases k with _ | _ | _ | _ | _ | _ | _ | _ | _ | _ | _ | _ | k
  all_goals first | (have e := (Option.some.inj h).symm; subst e; exact ⟨by omega, rfl⟩) | (exact absurd h (by simp [ods]))
theorem run_index_od (w : World) {k : Nat} {o : Od} (h : ods[k]? = some o) :
    (Instr.index 121 (.agg odc) (.int .i64 (k : Int))).run Tryz.prog w = .ok (.agg (odv o).toArray) w := by
  obtain ⟨hk, hp0⟩ := odc_part h
  have hn : (k : Int) < 12 := by omega
  obtain ⟨i0, hi0, hz0, hz1, hz2⟩ := info_parts Tryz.infoOd
  have h1 : (isAgg 120).run Tryz.prog w = .ok true w := by
    unfold isAgg
    rw [Sem.run_bind, run_underlying Tryz.underlying120 w]
    rfl
  have hp : (part 120 odc (k * 4)).run Tryz.prog w = .ok (.agg (odv o).toArray) w := by
    unfold part
    simp [Sem.run_bind, h1, sizeOf, typeInfo, hi0, hz1, hp0]
  simp [Instr.index, run_underlying Tryz.underlying121, asIntOf, hk, sizeOf, typeInfo, hi0, hz1, hp]
theorem ods_ex : ∃ A : Array Value, odc = A ∧ ∀ (k : Nat) (o : Od), ods[k]? = some o → ∀ w, (Instr.index 121 (.agg A) (.int .i64 (k : Int))).run Tryz.prog w = .ok (.agg #[.string ⟨o.name.toArray⟩, .string ⟨o.letters.toArray⟩, .int .i64 o.kind, .int .i64 o.mode]) w :=
  ⟨_, rfl, fun _ _ h w => run_index_od w h⟩
set_option maxHeartbeats 4000000 in
theorem dread (nm : List UInt8) (ws : List (List UInt8)) (n : Nat) (hn : n = ws.length) (hn3 : n ≤ 100) (a : Option Addr) (cap : Nat) (w : World) (hg : Gnd w) (hw : Wrd w a ws) (hws : ∀ v ∈ ws, v.length ≤ 10000) :
    Calls Tryz.prog 29 #[.string ⟨nm.toArray⟩, .slice a n cap] w fun e w' => FlEnd (rdl nm ws) w e w' := by
  have HZ0 := hide ((zoo_nil (Kp.refl [] w)).box #[.int .i64 0, .int .i64 0, .int .i64 0, .int .i64 0, .int .i64 0, .int .i64 0, .int .i64 0, .string ⟨#[]⟩] 79)
  obtain ⟨T, fr, h0⟩ := (gnd_kp hg (unhide HZ0).kp).ord
  have hsz12 := Tryz.sizeOds
  obtain ⟨A, hA, hAk⟩ := ods_ex
  rw [hA] at h0 hsz12
  clear hA
  have HG := hide hg
  have HW := hide hw
  have HN := hide hn
  have HS := hide hws
  have H0 := hide h0
  clear hg hw hn hws h0
  go_enter Tryz.func29, Tryz.ntmps29
  go_wp2_with (refine wpList_load_row rfl 121 _ rfl 0 rfl T A fr _ (unhide H0) Tryz.underlying121 rfl hsz12 ?_)
  generalize (w.alloc (.cells #[.int .i64 0, .int .i64 0, .int .i64 0, .int .i64 0, .int .i64 0, .int .i64 0, .int .i64 0, .string ⟨#[]⟩] 79)) = W at *
  generalize w.heap.size = pR at *
  go_loopw [9] (fun t wr => ∃ k : Nat, k ≤ 12 ∧ t = .int .i64 k ∧ Hid (rdl nm ws = rdg nm ws (ods.drop k)) ∧ Hid (Zoo w wr [BoxT pR #[.int .i64 0, .int .i64 0, .int .i64 0, .int .i64 0, .int .i64 0, .int .i64 0, .int .i64 0, .string ⟨#[]⟩] 79])) (fun t _ => 12 - (intOf t).toNat)
  case atStart => exact ⟨0, by omega, rfl, rfl, HZ0⟩
  case round =>
    obtain ⟨k, hk, rfl, HI, HZ⟩ := hrel
    have hR := zoo_varm (unhide HZ) (List.Mem.head _)
    have hzs := (unhide HZ).kp.size
    by_cases hlt : k < 12
    · have i0 : (0 : Int) ≤ (k : Int) := by omega
      have i1 : (k : Int) < 12 := by omega
      obtain ⟨o, ho⟩ : ∃ o, ods[k]? = some o := ⟨_, List.getElem?_eq_getElem (show k < ods.length from hlt)⟩
      have hix := hAk k o ho
      have hstep : rdl nm ws = if o.name = nm ∧ o.letters.length = ws.length then fil o ws else rdg nm ws (ods.drop (k + 1)) := by
        obtain ⟨hk', e⟩ := List.getElem?_eq_some_iff.1 ho
        rw [unhide HI, List.drop_eq_getElem_cons hk', e, rdg]
      have HST := hide hstep
      clear hstep ho hAk
      obtain ⟨on, ol, ok, om⟩ := o
      dsimp only at hix HST
      have HZ1 := hide (zoo_swap ((unhide HZ).box #[.string ⟨on.toArray⟩, .string ⟨ol.toArray⟩, .int .i64 ok, .int .i64 om] 120))
      by_cases hname : on = nm
      · by_cases hlen : ol.length = n
        · have hsz : (ByteArray.mk ol.toArray).size = n := by rw [size8]; exact hlen
          have hfil : rdl nm ws = fil ⟨on, ol, ok, om⟩ ws := by rw [unhide HST, if_pos ⟨hname, by rw [hlen]; exact unhide HN⟩]
          have HF := hide hfil
          have HFL := hide (dfill ⟨on, ol, ok, om⟩ ws n (unhide HN) hlen hn3 a cap (wr.alloc (.cells #[.string ⟨on.toArray⟩, .string ⟨ol.toArray⟩, .int .i64 ok, .int .i64 om] 120)) (gnd_kp (unhide HG) (unhide HZ1).kp) ((unhide HW).kp0 (unhide HZ1).kp) (unhide HS))
          clear hfil
          subst hname
          go_wp2_with (first | (go_at_call 52; refine (unhide HFL).mono ?_; rintro e w2 ⟨x, b, rfl, hx, hk2⟩; have HZ2 := hide ((unhide HZ1).kp0 hk2); have HX := hide hx; clear hx hk2) | (refine wpList_store_row rfl 79 _ _ rfl pR (xcs x) rfl rfl 79 _ (zoo_varm (unhide HZ2) (List.Mem.head _)) Tryz.sizeSt rfl (xcs_one _) ?_))
          have hz3 := zoo_setrow (c' := xcs x) (l1 := []) (unhide HZ2)
          have hld := stload rfl (zoo_varm hz3 (List.Mem.head _))
          refine bodyPost_ret (v := .tuple #[.agg (xcs x), .bool b]) ?_ rfl ?_
          · rw [results_cell_tmp Tryz.results29]; simp [asAddr, Result.andThen, hld]
          · exact flEnd_mk x b ((unhide HF).trans (unhide HX)) hz3.kp
        · have hsz : ¬ ((ByteArray.mk ol.toArray).size : Int) = (n : Int) := by rw [size8]; omega
          subst hname
          go_wp2_with fail
          refine ⟨⟨k + 1, by omega, by go_num, ?_, (unhide HZ).kp0 ((Kp.refl [] wr).alloc _)⟩, by simp [intOf]; omega⟩
          exact (unhide HST).trans (if_neg (fun h => hlen (by rw [h.2]; exact (unhide HN).symm)))
      · have hne : ¬ (ByteArray.mk on.toArray) = ⟨nm.toArray⟩ := fun e => hname (by simpa using e)
        go_wp2_with fail
        refine ⟨⟨k + 1, by omega, by go_num, ?_, (unhide HZ).kp0 ((Kp.refl [] wr).alloc _)⟩, by simp [intOf]; omega⟩
        exact (unhide HST).trans (if_neg (fun h => hname h.1))
    · have i1 : ¬ (k : Int) < 12 := by omega
      have e : k = 12 := by omega
      have fin : rdl nm ws = none := by rw [unhide HI, e]; rfl
      have HF := hide fin
      have hz3 := zoo_setrow (c' := xcs ⟨0, 0, 0, 0, 0, 0, 0, ⟨#[]⟩⟩) (l1 := []) (unhide HZ)
      have HLD := hide (stload rfl (zoo_varm hz3 (List.Mem.head _)))
      have HZ3 := hide hz3
      clear fin hz3
      go_wp2_with (refine wpList_store_row rfl 79 _ _ rfl pR #[.int .i64 0, .int .i64 0, .int .i64 0, .int .i64 0, .int .i64 0, .int .i64 0, .int .i64 0, .string ⟨#[]⟩] rfl rfl 79 _ hR Tryz.sizeSt rfl (by simp [Value.oneCell']) ?_)
      refine bodyPost_ret (v := .tuple #[.agg (xcs ⟨0, 0, 0, 0, 0, 0, 0, ⟨#[]⟩⟩), .bool false]) ?_ rfl ?_
      · rw [results_cell_tmp Tryz.results29]; simp [asAddr, Result.andThen]; erw [unhide HLD]; rfl
      · exact flEnd_mk _ false (unhide HF) (unhide HZ3).kp
end
/- The desk's say, by its contract. -/
section
open Go.RowKit
attribute [local go_sem ↓] Go.wp_at_zero Go.wp_at_succ

theorem join_pos {x : List UInt8} {r : List (List UInt8)} (h : x ≠ []) : 0 < (Lib.join (x :: r) [32]).length := by
  cases r with
  | nil => rw [Lib.join_one]; exact List.length_pos_iff.2 h
  | cons y r =>
    have : Lib.join (x :: y :: r) [32] = x ++ ([32] ++ Lib.join (y :: r) [32]) := by simp [Lib.join, List.intercalate]
    rw [this, List.length_append]
    have := List.length_pos_iff.2 h
    omega
theorem sjoin (ws : List (List UInt8)) (g o c : Nat) (w : World) (hw : ∀ k l, ws[k]? = some l → w.cell? ⟨g, o + k, none⟩ = some (.string ⟨l.toArray⟩)) (h0 : 0 < ws.length) (hc : ws.length ≤ c) (hm : ws.length ≤ 1000) (hlen : (Lib.join ws [32]).length ≤ 100000) :
    Calls Tryz.prog 48 #[.slice (some ⟨g, o, none⟩) ws.length c, .string ⟨#[32]⟩] w fun e w' => e = .returned (.string ⟨(Lib.join ws [32]).toArray⟩) ∧ Kp [] w w' := by
  have e1 : (ws.map fun l => ByteArray.mk l.toArray).map (·.data.toList) = ws := by simp [Function.comp_def]
  have hlt : g < w.heap.size := by
    obtain ⟨l, hl⟩ : ∃ l, ws[0]? = some l := ⟨_, List.getElem?_eq_getElem h0⟩
    exact lt_of_cell (hw 0 l hl)
  have h := Tryz.strings_Join g o c (ws.map fun l => ByteArray.mk l.toArray) ⟨#[32]⟩ w (by
    intro j x hx
    rw [List.getElem?_map] at hx
    obtain ⟨l, hl, rfl⟩ := Option.map_eq_some_iff.1 hx
    exact hw j l hl) hlt (by simp; omega) (by simpa using hc) (by rw [e1]; exact Nat.le_trans hlen (by omega))
  rw [e1, List.length_map] at h
  refine h.mono ?_
  rintro e w' ⟨rfl, hb⟩
  exact ⟨rfl, kp_of_below hb⟩
section
variable {w0 w : World} {l1 r : List Thing} {d hb : Nat} {bs : List UInt8}
theorem dsk_cell (hz : Zoo w0 w (l1 ++ DskT d hb bs :: r)) : w.cell? ⟨d, 2, none⟩ = some (.pointer (some ⟨hb, 0, none⟩)) := by
  obtain ⟨F, ⟨p, a, cap, h1, h2, _⟩, _⟩ := hz.at_
  exact cell_of_block h2 rfl
/-- More is told: over a list of things. -/
theorem z_write (hz : Zoo w0 w (l1 ++ DskT d hb bs :: r)) (l : List UInt8) (hl0 : 0 < l.length) (hm : bs.length + l.length ≤ 100000) :
    Calls Tryz.prog 47 #[.pointer (some ⟨d, 0, none⟩), .string ⟨l.toArray⟩] w fun e w' => (∃ v, e = .returned v) ∧ Hid (Zoo w0 w' (l1 ++ DskT d hb (bs ++ l) :: r)) := by
  obtain ⟨F, h1, k⟩ := hz.at_
  refine (dwrite h1 hz.base ⟨l.toArray⟩ (by rw [mk8]; exact hl0) (by rw [mk8]; exact hm)).mono ?_
  rintro e w' ⟨hv, hch⟩
  rw [mk8] at hch
  exact ⟨hv, k _ _ (unhide hch)⟩
set_option maxHeartbeats 2000000 in
theorem dsay (ws : List (List UInt8)) (n : Nat) (hn : n = ws.length) (g o c : Nat) (hz : Zoo w0 w (l1 ++ DskT d hb bs :: r)) (hw : ∀ k l, ws[k]? = some l → w.cell? ⟨g, o + k, none⟩ = some (.string ⟨l.toArray⟩)) (hj0 : 0 < (Lib.join ws [32]).length) (hc : ws.length ≤ c) (hm : ws.length ≤ 1000) (hlen : bs.length + (say ws).length ≤ 100000) :
    Calls Tryz.prog 24 #[.pointer (some ⟨d, 0, none⟩), .slice (some ⟨g, o, none⟩) n c] w fun e w' => e = .returned (.tuple #[]) ∧ Hid (Zoo w0 w' (l1 ++ DskT d hb (bs ++ say ws) :: r)) := by
  subst hn
  have h0 : 0 < ws.length := by
    cases ws with
    | nil => simp [Lib.join, List.intercalate] at hj0
    | cons x y => simp
  unfold say at *
  rw [List.length_append] at hlen
  have hl1 : ([10] : List UInt8).length = 1 := rfl
  rw [hl1] at hlen
  have hj : ∀ W, Kp [] w W → Calls Tryz.prog 48 #[.slice (some ⟨g, o, none⟩) ws.length c, .string ⟨#[32]⟩] W fun e w' => e = .returned (.string ⟨(Lib.join ws [32]).toArray⟩) ∧ Kp [] W w' := fun W hk => sjoin ws g o c W (fun k l hl => hk.cell (by simp) (hw k l hl)) h0 hc hm (by omega)
  have HJ := hide hj
  clear hj
  have HZ := hide hz
  clear hw hz
  generalize Lib.join ws [32] = js at *
  generalize ws.length = m at *
  go_enter Tryz.func24, Tryz.ntmps24
  go_wp2_with fail
  go_region_with (first | (go_at_call 48; refine (unhide HJ _ (Kp.refl [] w).drew).mono ?_; rintro e w1 ⟨rfl, hk1⟩; have HZ1 := hide ((unhide HZ).kp0 ((Kp.refl [] w).drew.trans0 hk1)); clear hk1) | (go_at_call 47; refine (z_write (unhide HZ1) js hj0 (by omega)).mono ?_; rintro e w2 ⟨⟨v, rfl⟩, HZ2⟩))
  have HW2 := hide (z_write (unhide HZ2) [10] (by simp) (by rw [List.length_append]; exact hlen))
  go_wp2_with (go_at_call 47; refine (unhide HW2).mono ?_; rintro e w3 ⟨⟨v3, rfl⟩, HZ3⟩)
  go_end0
  refine ⟨rfl, ?_⟩
  rw [← List.append_assoc]
  exact HZ3
end
end
/- The desk's pairs: what a list tells, word by word, by its contract. -/
section
open Go.RowKit
attribute [local go_sem ↓] Go.wp_at_zero Go.wp_at_succ

theorem step_krowS {ops : Array Oper} {o : Oper} {ac : Act} {w : World} {K : Act → World → Prop} {Q : Exit → Act → World → Prop} {E : Prop} (hw : Region.wanted o (yielded ops ac.tmps) = true) (s x : Operand) (t : TypeId)
    (ho : o.op = .call { callee := .builtin .append, args := #[s, x], argTypes := #[t, t] }) {e : TypeId} {k by_ : Nat} {z : Value} (hu : Tryz.prog.underlying t = some (.slice e)) (hi : (Tryz.prog.info? e).map (fun i => (i.zero, i.size, i.bytes)) = some (some z, k, by_)) (hz : z.cells.size = k) (hby : by_ ≤ 1000)
    {B : Nat} {a : Option Addr} {n cap : Nat} {xs : List Value} (h : KRow e k B w a n cap xs) (hB : B ≤ w.heap.size) (xv : Value) (news : List Value) (m : Nat)
    (hs : ac.eval s = .slice a n cap) (hx : ac.eval x = xv) (hsrc : Src Tryz.prog k t xv m news w) (hm : n + m ≤ 100000) (N : Nat) (hN : n + m = N)
    (kk : ∀ a' cap' w', Hid (KRow e k B w' a' N cap' (xs ++ news)) → Hid (Kp (ob a) w w') → Hid (∀ x ∈ ob a', x ∈ ob a ∨ w.heap.size ≤ x) → K (ac.put o.dst (.slice a' N cap')) w') :
    if Region.wanted o (yielded ops ac.tmps) = true then Oper.wp Tryz.prog o ac w K Q else E := by
  subst hN
  obtain ⟨a', cap', w', hr, h1, h2, h3⟩ := krow_app hu hi hz hby h hB o.type xv news m hsrc hm
  rw [if_pos hw]
  unfold Oper.wp execOp
  simp only [ho, resolve, invoke, builtin, Sem.run_bind, Sem.run_pure, Result.andThen_ok, List.map_toArray, List.map_cons, List.map_nil, hs, hx, hr]
  exact kk a' cap' w' h1 h2 h3
theorem c3_of {w : World} {p : Nat} {x y z : Value} {T : TypeId} (h : w.heap[p]? = some (.cells #[x, y, z] T (0, 0))) : w.cell? ⟨p, 0, none⟩ = some x ∧ w.cell? ⟨p, 1, none⟩ = some y ∧ w.cell? ⟨p, 1 + 1, none⟩ = some z := ⟨cell_of_block h rfl, cell_of_block h rfl, cell_of_block h rfl⟩
theorem vtx_len (t : Bool) (s : ByteArray) (_hs : s.size ≤ 30000) : (vtx t s).length ≤ 1 + 3 * s.size := by
  unfold vtx
  split
  · have := (sh_len s.data.toList).2
    rw [len8] at this
    simp; omega
  · simp
def PvOk (l : List Ver) : Prop := ∀ p ∈ l, p.s.size ≤ 30000 ∧ -9223372036854775808 ≤ p.a ∧ p.a ≤ 9223372036854775807
def PvEnd (l : List Ver) (w : World) (e : Ending) (w' : World) : Prop := ∃ a cap, e = .returned (.slice a l.length cap) ∧ KRow 9 1 w.heap.size w' a l.length cap (strs (l.map pvx)) ∧ Kp [] w w'
theorem kw_k {w0 w : World} {e : TypeId} {k : Nat} {a : Option Addr} {n cap : Nat} {xs : List Value} {r : List Thing} (hz : Zoo w0 w (KwT e k a n cap xs :: r)) : KRow e k w0.heap.size w a n cap xs := kw_row (l1 := []) hz
set_option maxHeartbeats 4000000 in
theorem dpairs (l : List Ver) (n : Nat) (hn : n = l.length) (hn8 : n ≤ 1000) (a : Option Addr) (cap : Nat) (w : World) (hg : Gnd w) (hs : SlO w a l) (hb : PvOk l) :
    Calls Tryz.prog 57 #[.slice a n cap] w fun e w' => PvEnd l w e w' := by
  have hu : Tryz.prog.underlying 22 = some (.slice 9) := Tryz.underlying22
  have HG := hide hg
  have HS := hide hs
  have HB := hide hb
  have HN := hide hn
  clear hg hs hb hn
  go_enter Tryz.func57, Tryz.ntmps57
  go_wp2_with fail
  go_loopw [3, 8] (fun x y wr => ∃ (i : Nat) (aO : Option Addr) (cO : Nat), i ≤ n ∧ x = .slice aO i cO ∧ y = .int .i64 i ∧ Hid (Zoo w wr [KwT 9 1 aO i cO (strs ((l.take i).map pvx))])) (fun _ y _ => n - (intOf y).toNat)
  case atStart => exact ⟨0, none, 0, Nat.zero_le _, rfl, rfl, kw_nil 9 1 (zoo_nil (Kp.refl [] w))⟩
  case round =>
    obtain ⟨i, aO, cO, hi, rfl, rfl, HZ⟩ := hrel
    by_cases hlt : i < n
    · have i1 : (i : Int) < (n : Int) := by omega
      have i0 : (0 : Int) ≤ (i : Int) := by omega
      have hln : i < l.length := by rw [← unhide HN]; exact hlt
      obtain ⟨g, o, rfl, hsl⟩ := ((unhide HS).kp0 (unhide HZ).kp) (by omega)
      have q0 := hsl.at0 i hln
      have q1 := hsl.at1 i hln
      have q2 : wr.cell? ⟨g, o + i * 3 + 1 + 1, none⟩ = _ := hsl.at2 i hln
      obtain ⟨p, hp⟩ : ∃ p, l[i]? = some p := ⟨_, List.getElem?_eq_getElem hln⟩
      have e0 : va l i = p.a := by unfold va; rw [List.getD_eq_getElem?_getD, hp]; rfl
      have e1 : vt l i = p.t := by unfold vt; rw [List.getD_eq_getElem?_getD, hp]; rfl
      have e2 : vb l i = p.s := by unfold vb; rw [List.getD_eq_getElem?_getD, hp]; rfl
      rw [e0] at q0
      rw [e1] at q1
      rw [e2] at q2
      have htk : l.take (i + 1) = l.take i ++ [p] := by rw [List.take_add_one, hp]; rfl
      have HT := hide htk
      obtain ⟨b1, b2, b3⟩ := unhide HB p (List.mem_of_getElem? hp)
      clear hsl hp e0 e1 e2 htk
      obtain ⟨ka, kt, ks⟩ := p
      dsimp only at q0 q1 q2 b1 b2 b3
      have hcat : ¬ 9223372036854775807 < (Lib.itoa ka).length + (vtx kt ks).length := by
        have h1 := Lib.itoa_length_le ka b2 b3
        have h2 := vtx_len kt ks b1
        omega
      have HX := hide ((unhide HZ).box #[.int .i64 ka, .bool kt, .string ks] 106)
      go_wp2_with fail
      generalize wr.alloc (.cells #[.int .i64 ka, .bool kt, .string ks] 106) = W5 at *
      generalize wr.heap.size = p5 at *
      clear q0 q1 q2
      refine wp_region_held_drew (S := fun w' => w'.cell? ⟨p5, 0, none⟩ = some (.int .i64 ka) ∧ w'.cell? ⟨p5, 1, none⟩ = some (.bool kt) ∧ w'.cell? ⟨p5, 1 + 1, none⟩ = some (.string ks)) (by kernel_rfl) (c3_of (zoo_varm ((unhide HX).kp0 (Kp.refl [] W5).drew) (List.Mem.head _))) (fun hHeld => ?_)
      have HA0 := hide ((unhide HX).kp0 (Kp.refl [] W5).drew)
      generalize World.drew _ = WD at HA0 hHeld ⊢
      refine wpAnyH_tk (i := 0) (v := ?_) rfl (by kernel_rfl) (by kernel_rfl) (by kernel_rfl) (fun _ _ _ h => h) (Or.inl ⟨by rfl, ?_⟩) hHeld ?_
      rotate_left
      · intro w hSw
        try dsimp only at hSw
        go_simp
        try with_reducible rfl
      try simp only [Act.put, List.setIfInBounds_toArray, List.set_cons_zero, List.set_cons_succ]
      refine wpAnyH_tk (i := 1) (v := ?_) rfl (by kernel_rfl) (by kernel_rfl) (by kernel_rfl) (fun _ _ _ h => h) (Or.inl ⟨by rfl, ?_⟩) hHeld ?_
      rotate_left
      · intro w hSw
        try dsimp only at hSw
        go_simp
        try with_reducible rfl
      try simp only [Act.put, List.setIfInBounds_toArray, List.set_cons_zero, List.set_cons_succ]
      refine wpAnyH_tk (i := 2) (v := ?_) rfl (by kernel_rfl) (by kernel_rfl) (by kernel_rfl) (fun _ _ _ h => h) (Or.inl ⟨by rfl, ?_⟩) hHeld ?_
      rotate_left
      · intro w hSw
        try dsimp only at hSw
        go_simp
        try with_reducible rfl
      try simp only [Act.put, List.setIfInBounds_toArray, List.set_cons_zero, List.set_cons_succ]
      refine wpAnyH_tk (i := 4) (v := ?_) rfl (by kernel_rfl) (by kernel_rfl) (by kernel_rfl) (fun _ _ _ h => h) (Or.inl ⟨by rfl, ?_⟩) hHeld ?_
      rotate_left
      · intro w hSw
        try dsimp only at hSw
        go_simp
        try with_reducible rfl
      try simp only [Act.put, List.setIfInBounds_toArray, List.set_cons_zero, List.set_cons_succ]
      refine wpAnyH_tk (i := 5) (v := ?_) rfl (by kernel_rfl) (by kernel_rfl) (by kernel_rfl) (fun _ _ _ h => h) (Or.inl ⟨by rfl, ?_⟩) hHeld ?_
      rotate_left
      · intro w hSw
        try dsimp only at hSw
        go_simp
        try with_reducible rfl
      try simp only [Act.put, List.setIfInBounds_toArray, List.set_cons_zero, List.set_cons_succ]
      refine wpAnyH_only (i := 3) rfl (by kernel_rfl) (fun K hK => ?_)
      go_simp
      refine (sitoa ka WD (gnd_kp (unhide HG) (unhide HA0).kp) b2 b3).mono ?_
      rintro e w3 ⟨rfl, hk3⟩
      have HA1 := hide ((unhide HA0).kp0 hk3)
      clear hk3
      go_wp2_with fail
      refine hK.out _ _ (c3_of (zoo_varm (unhide HA1) (List.Mem.head _))) (fun hHeld2 => ?_)
      clear hK K hHeld
      have hHeld := hHeld2
      clear hHeld2
      try simp only [Act.put, List.setIfInBounds_toArray, List.set_cons_zero, List.set_cons_succ]
      refine wpAnyH_only (i := 6) rfl (by kernel_rfl) (fun K hK => ?_)
      go_simp
      refine (tvalue kt ks w3 b1).mono ?_
      rintro e w4 ⟨rfl, hk4⟩
      have HA2 := hide ((unhide HA1).kp0 (kp_of_below hk4))
      clear hk4
      go_wp2_with fail
      refine hK.out _ _ (c3_of (zoo_varm (unhide HA2) (List.Mem.head _))) (fun hHeld2 => ?_)
      clear hK K hHeld
      have hHeld := hHeld2
      clear hHeld2
      try simp only [Act.put, List.setIfInBounds_toArray, List.set_cons_zero, List.set_cons_succ]
      refine wpAnyH_tk (i := 7) (v := ?_) rfl (by kernel_rfl) (by kernel_rfl) (by kernel_rfl) (fun _ _ _ h => h) (Or.inl ⟨by rfl, ?_⟩) hHeld ?_
      rotate_left
      · intro w hSw
        try dsimp only at hSw
        go_simp
        try with_reducible rfl
      try simp only [Act.put, List.setIfInBounds_toArray, List.set_cons_zero, List.set_cons_succ]
      refine wpAnyH_only (i := 8) rfl (by kernel_rfl) (fun K hK => ?_)
      go_simp
      have HA3 := hide ((unhide HA2).box #[.string (ByteArray.mk (Lib.itoa ka).toArray ++ ByteArray.mk (vtx kt ks).toArray)] 9)
      refine hK.out _ _ (c3_of (zoo_varm (unhide HA3) (List.Mem.tail _ (List.Mem.head _)))) (fun hHeld2 => ?_)
      clear hK K hHeld
      have hHeld := hHeld2
      clear hHeld2
      try simp only [Act.put, List.setIfInBounds_toArray, List.set_cons_zero, List.set_cons_succ]
      have HBX := hide (Zoo.var (unhide HA3))
      have hBw := Zoo.base (unhide HA3)
      generalize w4.alloc (.cells #[.string (ByteArray.mk (Lib.itoa ka).toArray ++ ByteArray.mk (vtx kt ks).toArray)] 9) = W6 at *
      generalize w4.heap.size = p6 at *
      refine wpAnyH_only (i := 9) rfl (by kernel_rfl) (fun K hK => ?_)
      refine step_krowS (by rfl) (.tmp 12) (.tmp 20) 22 (by rfl) hu Tryz.infoS rfl (by omega) (kw_row (l1 := [BoxT p6 #[.string (ByteArray.mk (Lib.itoa ka).toArray ++ ByteArray.mk (vtx kt ks).toArray)] 9, BoxT p5 #[.int .i64 ka, .bool kt, .string ks] 106]) (unhide HA3)) hBw (.slice (some ⟨p6, 0, none⟩) 1 1) [.string (ByteArray.mk (Lib.itoa ka).toArray ++ ByteArray.mk (vtx kt ks).toArray)] 1 (by rfl) (by rfl) (src_built (cs := #[.string (ByteArray.mk (Lib.itoa ka).toArray ++ ByteArray.mk (vtx kt ks).toArray)]) hu (unhide HBX) rfl (by simp [Value.oneCell'])) (by omega) (i + 1) rfl ?_
      intro a2 c2 w9 g1 g2 g3
      have HA4 := hide (kw_app (l1 := [BoxT p6 #[.string (ByteArray.mk (Lib.itoa ka).toArray ++ ByteArray.mk (vtx kt ks).toArray)] 9, BoxT p5 #[.int .i64 ka, .bool kt, .string ks] 106]) (unhide HA3) (unhide g1) (unhide g2) (unhide g3))
      refine hK.out _ _ (c3_of (zoo_varm (unhide HA4) (List.Mem.tail _ (List.Mem.head _)))) (fun hHeld2 => ?_)
      clear hK K hHeld
      have hHeld := hHeld2
      clear hHeld2
      try simp only [Act.put, List.setIfInBounds_toArray, List.set_cons_zero, List.set_cons_succ]
      refine wpAnyH_tk (i := 10) (v := ?_) rfl (by kernel_rfl) (by kernel_rfl) (by kernel_rfl) (fun _ _ _ h => h) (Or.inl ⟨by rfl, ?_⟩) hHeld ?_
      rotate_left
      · intro w hSw
        try dsimp only at hSw
        go_simp
        try with_reducible rfl
      try simp only [Act.put, List.setIfInBounds_toArray, List.set_cons_zero, List.set_cons_succ]
      refine wpAnyH_done (by kernel_rfl) ?_ _
      clear hHeld g1 g2 g3
      go_wp2_with fail
      refine ⟨⟨i + 1, a2, c2, by omega, rfl, by go_num, ?_⟩, by simp [intOf]; omega⟩
      rw [unhide HT, List.map_append, strs_app]
      have e9 : strs ([(⟨ka, kt, ks⟩ : Ver)].map pvx) = [.string (ByteArray.mk (Lib.itoa ka).toArray ++ ByteArray.mk (vtx kt ks).toArray)] := by simp [strs, pvx, mk_app]
      rw [e9]
      exact Zoo.tail (Zoo.tail (unhide HA4))
    · have i1 : ¬ (i : Int) < (n : Int) := by omega
      have e : i = n := by omega
      have fin : PvEnd l w (.returned (.slice aO n cO)) wr := by
        have hk := kw_k (unhide HZ)
        rw [List.take_of_length_le (by rw [← unhide HN]; omega), e] at hk
        refine ⟨aO, cO, by rw [← unhide HN], by rw [← unhide HN]; exact hk, (unhide HZ).kp⟩
      have HF := hide fin
      clear fin
      subst e
      go_wp2_with fail
      go_ret
      exact unhide HF
end
/- The desk's tellers: what is told of an event, by their contracts. -/
section
open Go.RowKit
attribute [local go_sem ↓] Go.wp_at_zero Go.wp_at_succ

theorem cells_strs {w : World} {g : Nat} {cs : Array Value} {T : TypeId} (ws : List (List UInt8)) (hb : w.heap[g]? = some (.cells cs T (0, 0))) (hc : cs.toList = strs ws) : ∀ k l, ws[k]? = some l → w.cell? ⟨g, 0 + k, none⟩ = some (.string ⟨l.toArray⟩) := by
  intro k l hl
  rw [Nat.zero_add]
  refine cell_of_block hb ?_
  have h2 : cs.toList[k]? = some (.string ⟨l.toArray⟩) := by rw [hc]; exact strs_at hl
  simpa using h2
theorem krow_src {B : Nat} {w : World} {a : Option Addr} {n cap : Nat} {ws : List (List UInt8)} (h : KRow 9 1 B w a n cap (strs ws)) : Src Tryz.prog 1 22 (.slice a n cap) n (strs ws) w := by
  have hw := krow_wrd h
  have hl := h.1
  rw [strs_len, Nat.mul_one] at hl
  subst hl
  cases ws with
  | nil =>
    cases a with
    | none => exact Src.ofNil w Tryz.underlying22 cap
    | some a => exact Src.ofSlice w Tryz.underlying22 a 0 cap [] (by simp) (by simp) (by simp)
  | cons x y =>
    obtain ⟨g, o, rfl, hc⟩ := hw (by simp)
    refine Src.ofSlice w Tryz.underlying22 ⟨g, o, none⟩ _ cap _ (by rw [strs_len]; omega) ?_ (strs_one _)
    intro j u hj
    rw [addr_add]
    unfold strs at hj
    rw [List.getElem?_map] at hj
    obtain ⟨l, hl, rfl⟩ := Option.map_eq_some_iff.1 hj
    exact hc j l hl
theorem kw_lit {w0 w : World} {r : List Thing} (hz : Zoo w0 w r) (ws : List (List UInt8)) (n : Nat) (hn : n = ws.length) (cs : Array Value) (hc : cs.toList = strs ws) (hm : n ≤ 1000) : Zoo w0 (w.alloc (.cells cs 9)) (KwT 9 1 (some ⟨w.heap.size, 0, none⟩) n n (strs ws) :: r) := by
  have hs : cs.size = n := by rw [← Array.length_toList, hc, strs_len, hn]
  refine hz.cons (F := [w.heap.size]) ⟨⟨by rw [strs_len]; omega, .inr ⟨w.heap.size, cs, rfl, Nat.le_refl _, heap_alloc_new w _, Nat.le_refl _, by unfold maxLen; omega, by omega, ?_⟩⟩, rfl⟩ ((Kp.refl [] w).alloc _)
  rw [hc, List.take_of_length_le (by rw [strs_len]; omega)]
structure EvOk (v : Ev) : Prop where
  s : v.s.size ≤ 30000
  l : PvOk v.l
  len : v.l.length ≤ 8
  n0 : -9223372036854775808 ≤ v.n
  n1 : v.n ≤ 9223372036854775807
  c0 : -9223372036854775808 ≤ v.c
  c1 : v.c ≤ 9223372036854775807
section
variable {w0 w : World} {r : List Thing} {d hb q : Nat} {bs : List UInt8}
set_option maxHeartbeats 2000000 in
theorem tel4 (v : Ev) (a : Option Addr) (cap : Nat) (hv : EvOk v) (_hg : Gnd w0) (hz : Zoo w0 w (BoxT q #[.pointer (some ⟨d, 0, none⟩)] 25 :: DskT d hb bs :: r)) (hlen : bs.length + (say ([[111, 107]])).length ≤ 100000) :
    Calls Tryz.prog 59 #[.agg #[.int .i64 v.c, .int .i64 v.n, .bool v.t, .string v.s, .slice a v.l.length cap], .pointer (some ⟨q, 0, none⟩)] w fun e w' => e = .returned (.tuple #[]) ∧ Hid (Zoo w0 w' (BoxT q #[.pointer (some ⟨d, 0, none⟩)] 25 :: DskT d hb (bs ++ say ([[111, 107]])) :: r)) := by
  obtain ⟨v1, v2, v3, v4, v5, v6, v7⟩ := hv
  obtain ⟨vc, vn, vt, vs, vl⟩ := v
  dsimp only at *
  have HX := hide (zoo_box2 hz #[.int .i64 vc, .int .i64 vn, .bool vt, .string vs, .slice a vl.length cap] #[.string ⟨#[111, 107]⟩] 102 9)
  have c0 := fun o => cell_of_block (i := 0) (zoo_varm (hz.kp0 ((Kp.refl [] w).alloc o)) (List.Mem.head _)) rfl
  clear hz
  go_enter Tryz.func59, Tryz.ntmps59
  go_wp2_with (go_at_call 24; refine (dsay (l1 := [_, _, _]) [[111, 107]] 1 rfl _ 0 1 (unhide HX) (cells_strs [[111, 107]] (zoo_varm (unhide HX) (List.Mem.head _)) rfl) (join_pos (by decide)) (by decide) (by decide) hlen).mono ?_; rintro e w3 ⟨rfl, HZ3⟩)
  go_end0
  exact ⟨rfl, Zoo.tail (Zoo.tail (unhide HZ3))⟩
set_option maxHeartbeats 2000000 in
theorem tel1 (v : Ev) (a : Option Addr) (cap : Nat) (hv : EvOk v) (hg : Gnd w0) (hz : Zoo w0 w (BoxT q #[.pointer (some ⟨d, 0, none⟩)] 25 :: DskT d hb bs :: r)) (hlen : bs.length + (say ([[104, 97, 115], vtx v.t v.s])).length ≤ 100000) :
    Calls Tryz.prog 54 #[.agg #[.int .i64 v.c, .int .i64 v.n, .bool v.t, .string v.s, .slice a v.l.length cap], .pointer (some ⟨q, 0, none⟩)] w fun e w' => e = .returned (.tuple #[]) ∧ Hid (Zoo w0 w' (BoxT q #[.pointer (some ⟨d, 0, none⟩)] 25 :: DskT d hb (bs ++ say ([[104, 97, 115], vtx v.t v.s])) :: r)) := by
  obtain ⟨v1, v2, v3, v4, v5, v6, v7⟩ := hv
  obtain ⟨vc, vn, vt, vs, vl⟩ := v
  dsimp only at *
  have HG := hide hg
  have HX := hide (hz.box #[.int .i64 vc, .int .i64 vn, .bool vt, .string vs, .slice a vl.length cap] 102)
  clear hz hg
  go_enter Tryz.func54, Tryz.ntmps54
  go_wp2_with fail
  generalize w.alloc (.cells #[.int .i64 vc, .int .i64 vn, .bool vt, .string vs, .slice a vl.length cap] 102) = W5 at *
  generalize w.heap.size = p5 at *
  refine wp_region_held_drew (S := fun w' => w'.cell? ⟨q, 0, none⟩ = some (.pointer (some ⟨d, 0, none⟩)) ∧ w'.cell? ⟨p5, 2, none⟩ = some (.bool vt) ∧ w'.cell? ⟨p5, 2 + 1, none⟩ = some (.string vs)) (by kernel_rfl) ⟨cell_of_block (zoo_varm ((unhide HX).kp0 (Kp.refl [] W5).drew) (List.Mem.tail _ (List.Mem.head _))) rfl, cell_of_block (zoo_varm ((unhide HX).kp0 (Kp.refl [] W5).drew) (List.Mem.head _)) rfl, cell_of_block (zoo_varm ((unhide HX).kp0 (Kp.refl [] W5).drew) (List.Mem.head _)) rfl⟩ (fun hHeld => ?_)
  have HA0 := hide ((unhide HX).kp0 (Kp.refl [] W5).drew)
  generalize World.drew _ = WD at HA0 hHeld ⊢
  refine wpAnyH_tk (i := 0) (v := ?_) rfl (by kernel_rfl) (by kernel_rfl) (by kernel_rfl) (fun _ _ _ h => h) (Or.inl ⟨by rfl, ?_⟩) hHeld ?_
  rotate_left
  · intro w hSw
    try dsimp only at hSw
    go_simp
    try with_reducible rfl
  try simp only [Act.put, List.setIfInBounds_toArray, List.set_cons_zero, List.set_cons_succ]
  refine wpAnyH_tk (i := 1) (v := ?_) rfl (by kernel_rfl) (by kernel_rfl) (by kernel_rfl) (fun _ _ _ h => h) (Or.inl ⟨by rfl, ?_⟩) hHeld ?_
  rotate_left
  · intro w hSw
    try dsimp only at hSw
    go_simp
    try with_reducible rfl
  try simp only [Act.put, List.setIfInBounds_toArray, List.set_cons_zero, List.set_cons_succ]
  refine wpAnyH_tk (i := 2) (v := ?_) rfl (by kernel_rfl) (by kernel_rfl) (by kernel_rfl) (fun _ _ _ h => h) (Or.inl ⟨by rfl, ?_⟩) hHeld ?_
  rotate_left
  · intro w hSw
    try dsimp only at hSw
    go_simp
    try with_reducible rfl
  try simp only [Act.put, List.setIfInBounds_toArray, List.set_cons_zero, List.set_cons_succ]
  refine wpAnyH_only (i := 3) rfl (by kernel_rfl) (fun K hK => ?_)
  go_simp
  refine (tvalue vt vs WD v1).mono ?_
  rintro e w3 ⟨rfl, hk3⟩
  have HA1 := hide ((unhide HA0).kp0 (kp_of_below hk3))
  clear hk3
  go_wp2_with fail
  refine hK.out _ _ (⟨cell_of_block (zoo_varm (unhide HA1) (List.Mem.tail _ (List.Mem.head _))) rfl, cell_of_block (zoo_varm (unhide HA1) (List.Mem.head _)) rfl, cell_of_block (zoo_varm (unhide HA1) (List.Mem.head _)) rfl⟩) (fun hHeld2 => ?_)
  clear hK K hHeld
  have hHeld := hHeld2
  clear hHeld2
  try simp only [Act.put, List.setIfInBounds_toArray, List.set_cons_zero, List.set_cons_succ]
  refine wpAnyH_only (i := 4) rfl (by kernel_rfl) (fun K hK => ?_)
  go_simp
  have HA2 := hide ((unhide HA1).box #[.string ⟨#[104, 97, 115]⟩, .string ⟨(vtx vt vs).toArray⟩] 9)
  refine hK.out _ _ (⟨cell_of_block (zoo_varm (unhide HA2) (List.Mem.tail _ (List.Mem.tail _ (List.Mem.head _)))) rfl, cell_of_block (zoo_varm (unhide HA2) (List.Mem.tail _ (List.Mem.head _))) rfl, cell_of_block (zoo_varm (unhide HA2) (List.Mem.tail _ (List.Mem.head _))) rfl⟩) (fun hHeld2 => ?_)
  clear hK K hHeld
  have hHeld := hHeld2
  clear hHeld2
  try simp only [Act.put, List.setIfInBounds_toArray, List.set_cons_zero, List.set_cons_succ]
  generalize w3.alloc (.cells #[.string ⟨#[104, 97, 115]⟩, .string ⟨(vtx vt vs).toArray⟩] 9) = W6 at *
  generalize w3.heap.size = p6 at *
  refine wpAnyH_only (i := 5) rfl (by kernel_rfl) (fun K hK => ?_)
  go_simp
  refine (dsay (l1 := [_, _, _]) [[104, 97, 115], vtx vt vs] 2 rfl _ 0 2 (unhide HA2) (cells_strs [[104, 97, 115], vtx vt vs] (zoo_varm (unhide HA2) (List.Mem.head _)) rfl) (join_pos (by simp)) (by simp) (by simp) hlen).mono ?_
  rintro e w7 ⟨rfl, HZ7⟩
  go_wp2_with fail
  refine hK.out _ _ (⟨cell_of_block (zoo_varm (unhide HZ7) (List.Mem.tail _ (List.Mem.tail _ (List.Mem.head _)))) rfl, cell_of_block (zoo_varm (unhide HZ7) (List.Mem.tail _ (List.Mem.head _))) rfl, cell_of_block (zoo_varm (unhide HZ7) (List.Mem.tail _ (List.Mem.head _))) rfl⟩) (fun hHeld2 => ?_)
  clear hK K hHeld
  have hHeld := hHeld2
  clear hHeld2
  try simp only [Act.put, List.setIfInBounds_toArray, List.set_cons_zero, List.set_cons_succ]
  refine wpAnyH_done (by kernel_rfl) ?_ _
  clear hHeld
  go_wp2_with fail
  go_end0
  exact ⟨rfl, Zoo.tail (Zoo.tail (unhide HZ7))⟩
set_option maxHeartbeats 2000000 in
theorem tel3 (v : Ev) (a : Option Addr) (cap : Nat) (hv : EvOk v) (hg : Gnd w0) (hz : Zoo w0 w (BoxT q #[.pointer (some ⟨d, 0, none⟩)] 25 :: DskT d hb bs :: r)) (hlen : bs.length + (say ([[111, 107], Lib.itoa v.n])).length ≤ 100000) :
    Calls Tryz.prog 58 #[.agg #[.int .i64 v.c, .int .i64 v.n, .bool v.t, .string v.s, .slice a v.l.length cap], .pointer (some ⟨q, 0, none⟩)] w fun e w' => e = .returned (.tuple #[]) ∧ Hid (Zoo w0 w' (BoxT q #[.pointer (some ⟨d, 0, none⟩)] 25 :: DskT d hb (bs ++ say ([[111, 107], Lib.itoa v.n])) :: r)) := by
  obtain ⟨v1, v2, v3, v4, v5, v6, v7⟩ := hv
  obtain ⟨vc, vn, vt, vs, vl⟩ := v
  dsimp only at *
  have HG := hide hg
  have HX := hide (hz.box #[.int .i64 vc, .int .i64 vn, .bool vt, .string vs, .slice a vl.length cap] 102)
  clear hz hg
  go_enter Tryz.func58, Tryz.ntmps58
  go_wp2_with fail
  generalize w.alloc (.cells #[.int .i64 vc, .int .i64 vn, .bool vt, .string vs, .slice a vl.length cap] 102) = W5 at *
  generalize w.heap.size = p5 at *
  refine wp_region_held_drew (S := fun w' => w'.cell? ⟨q, 0, none⟩ = some (.pointer (some ⟨d, 0, none⟩)) ∧ w'.cell? ⟨p5, 1, none⟩ = some (.int .i64 vn)) (by kernel_rfl) ⟨cell_of_block (zoo_varm ((unhide HX).kp0 (Kp.refl [] W5).drew) (List.Mem.tail _ (List.Mem.head _))) rfl, cell_of_block (zoo_varm ((unhide HX).kp0 (Kp.refl [] W5).drew) (List.Mem.head _)) rfl⟩ (fun hHeld => ?_)
  have HA0 := hide ((unhide HX).kp0 (Kp.refl [] W5).drew)
  generalize World.drew _ = WD at HA0 hHeld ⊢
  refine wpAnyH_tk (i := 0) (v := ?_) rfl (by kernel_rfl) (by kernel_rfl) (by kernel_rfl) (fun _ _ _ h => h) (Or.inl ⟨by rfl, ?_⟩) hHeld ?_
  rotate_left
  · intro w hSw
    try dsimp only at hSw
    go_simp
    try with_reducible rfl
  try simp only [Act.put, List.setIfInBounds_toArray, List.set_cons_zero, List.set_cons_succ]
  refine wpAnyH_tk (i := 1) (v := ?_) rfl (by kernel_rfl) (by kernel_rfl) (by kernel_rfl) (fun _ _ _ h => h) (Or.inl ⟨by rfl, ?_⟩) hHeld ?_
  rotate_left
  · intro w hSw
    try dsimp only at hSw
    go_simp
    try with_reducible rfl
  try simp only [Act.put, List.setIfInBounds_toArray, List.set_cons_zero, List.set_cons_succ]
  refine wpAnyH_tk (i := 2) (v := ?_) rfl (by kernel_rfl) (by kernel_rfl) (by kernel_rfl) (fun _ _ _ h => h) (Or.inl ⟨by rfl, ?_⟩) hHeld ?_
  rotate_left
  · intro w hSw
    try dsimp only at hSw
    go_simp
    try with_reducible rfl
  try simp only [Act.put, List.setIfInBounds_toArray, List.set_cons_zero, List.set_cons_succ]
  refine wpAnyH_only (i := 3) rfl (by kernel_rfl) (fun K hK => ?_)
  go_simp
  refine (sitoa vn WD (gnd_kp (unhide HG) (unhide HA0).kp) v4 v5).mono ?_
  rintro e w3 ⟨rfl, hk3⟩
  have HA1 := hide ((unhide HA0).kp0 hk3)
  clear hk3
  go_wp2_with fail
  refine hK.out _ _ (⟨cell_of_block (zoo_varm (unhide HA1) (List.Mem.tail _ (List.Mem.head _))) rfl, cell_of_block (zoo_varm (unhide HA1) (List.Mem.head _)) rfl⟩) (fun hHeld2 => ?_)
  clear hK K hHeld
  have hHeld := hHeld2
  clear hHeld2
  try simp only [Act.put, List.setIfInBounds_toArray, List.set_cons_zero, List.set_cons_succ]
  refine wpAnyH_only (i := 4) rfl (by kernel_rfl) (fun K hK => ?_)
  go_simp
  have HA2 := hide ((unhide HA1).box #[.string ⟨#[111, 107]⟩, .string ⟨(Lib.itoa vn).toArray⟩] 9)
  refine hK.out _ _ (⟨cell_of_block (zoo_varm (unhide HA2) (List.Mem.tail _ (List.Mem.tail _ (List.Mem.head _)))) rfl, cell_of_block (zoo_varm (unhide HA2) (List.Mem.tail _ (List.Mem.head _))) rfl⟩) (fun hHeld2 => ?_)
  clear hK K hHeld
  have hHeld := hHeld2
  clear hHeld2
  try simp only [Act.put, List.setIfInBounds_toArray, List.set_cons_zero, List.set_cons_succ]
  generalize w3.alloc (.cells #[.string ⟨#[111, 107]⟩, .string ⟨(Lib.itoa vn).toArray⟩] 9) = W6 at *
  generalize w3.heap.size = p6 at *
  refine wpAnyH_only (i := 5) rfl (by kernel_rfl) (fun K hK => ?_)
  go_simp
  refine (dsay (l1 := [_, _, _]) [[111, 107], Lib.itoa vn] 2 rfl _ 0 2 (unhide HA2) (cells_strs [[111, 107], Lib.itoa vn] (zoo_varm (unhide HA2) (List.Mem.head _)) rfl) (join_pos (by simp)) (by simp) (by simp) hlen).mono ?_
  rintro e w7 ⟨rfl, HZ7⟩
  go_wp2_with fail
  refine hK.out _ _ (⟨cell_of_block (zoo_varm (unhide HZ7) (List.Mem.tail _ (List.Mem.tail _ (List.Mem.head _)))) rfl, cell_of_block (zoo_varm (unhide HZ7) (List.Mem.tail _ (List.Mem.head _))) rfl⟩) (fun hHeld2 => ?_)
  clear hK K hHeld
  have hHeld := hHeld2
  clear hHeld2
  try simp only [Act.put, List.setIfInBounds_toArray, List.set_cons_zero, List.set_cons_succ]
  refine wpAnyH_done (by kernel_rfl) ?_ _
  clear hHeld
  go_wp2_with fail
  go_end0
  exact ⟨rfl, Zoo.tail (Zoo.tail (unhide HZ7))⟩
set_option maxHeartbeats 2000000 in
theorem tel2 (v : Ev) (a : Option Addr) (cap : Nat) (hv : EvOk v) (hg : Gnd w0) (hz : Zoo w0 w (BoxT q #[.pointer (some ⟨d, 0, none⟩)] 25 :: DskT d hb bs :: r)) (hp : PsT a cap v.l ∈ r) (hlen : bs.length + (say ([97, 108, 108] :: v.l.map pvx)).length ≤ 100000) :
    Calls Tryz.prog 56 #[.agg #[.int .i64 v.c, .int .i64 v.n, .bool v.t, .string v.s, .slice a v.l.length cap], .pointer (some ⟨q, 0, none⟩)] w fun e w' => e = .returned (.tuple #[]) ∧ Hid (Zoo w0 w' (BoxT q #[.pointer (some ⟨d, 0, none⟩)] 25 :: DskT d hb (bs ++ say ([97, 108, 108] :: v.l.map pvx)) :: r)) := by
  obtain ⟨v1, v2, v3, v4, v5, v6, v7⟩ := hv
  obtain ⟨vc, vn, vt, vs, vl⟩ := v
  dsimp only at *
  have HG := hide hg
  have HP := hide hp
  have HLN := hide hlen
  have HX := hide (hz.box #[.int .i64 vc, .int .i64 vn, .bool vt, .string vs, .slice a vl.length cap] 102)
  have hu : Tryz.prog.underlying 22 = some (.slice 9) := Tryz.underlying22
  obtain ⟨m, hm⟩ : ∃ m, m = vl.length := ⟨_, rfl⟩
  have HM := hide hm
  rw [← hm] at HX v3 ⊢
  have HV := hide v2
  clear hz hg hp hm hlen v2
  go_enter Tryz.func56, Tryz.ntmps56
  go_wp2_with fail
  generalize w.alloc (.cells #[.int .i64 vc, .int .i64 vn, .bool vt, .string vs, .slice a m cap] 102) = W5 at *
  generalize w.heap.size = p5 at *
  refine wp_region_held_drew (S := fun w' => w'.cell? ⟨q, 0, none⟩ = some (.pointer (some ⟨d, 0, none⟩)) ∧ w'.cell? ⟨p5, 4, none⟩ = some (.slice a m cap)) (by kernel_rfl) ⟨cell_of_block (zoo_varm ((unhide HX).kp0 (Kp.refl [] W5).drew) (List.Mem.tail _ (List.Mem.head _))) rfl, cell_of_block (zoo_varm ((unhide HX).kp0 (Kp.refl [] W5).drew) (List.Mem.head _)) rfl⟩ (fun hHeld => ?_)
  have HA0 := hide ((unhide HX).kp0 (Kp.refl [] W5).drew)
  generalize World.drew _ = WD at HA0 hHeld ⊢
  refine wpAnyH_tk (i := 0) (v := ?_) rfl (by kernel_rfl) (by kernel_rfl) (by kernel_rfl) (fun _ _ _ h => h) (Or.inl ⟨by rfl, ?_⟩) hHeld ?_
  rotate_left
  · intro w hSw
    try dsimp only at hSw
    go_simp
    try with_reducible rfl
  try simp only [Act.put, List.setIfInBounds_toArray, List.set_cons_zero, List.set_cons_succ]
  refine wpAnyH_tk (i := 2) (v := ?_) rfl (by kernel_rfl) (by kernel_rfl) (by kernel_rfl) (fun _ _ _ h => h) (Or.inl ⟨by rfl, ?_⟩) hHeld ?_
  rotate_left
  · intro w hSw
    try dsimp only at hSw
    go_simp
    try with_reducible rfl
  try simp only [Act.put, List.setIfInBounds_toArray, List.set_cons_zero, List.set_cons_succ]
  refine wpAnyH_tk (i := 3) (v := ?_) rfl (by kernel_rfl) (by kernel_rfl) (by kernel_rfl) (fun _ _ _ h => h) (Or.inl ⟨by rfl, ?_⟩) hHeld ?_
  rotate_left
  · intro w hSw
    try dsimp only at hSw
    go_simp
    try with_reducible rfl
  try simp only [Act.put, List.setIfInBounds_toArray, List.set_cons_zero, List.set_cons_succ]
  refine wpAnyH_two (i := 1) (j := 4) rfl rfl (by kernel_rfl) (fun K hK => ?_) (fun K hK => ?_)
  · go_simp
    have HA1 := hide (kw_lit (unhide HA0) [[97, 108, 108]] 1 rfl #[.string ⟨#[97, 108, 108]⟩] rfl (by omega))
    refine hK.out _ _ (⟨cell_of_block (zoo_varm (unhide HA1) (List.Mem.tail _ (List.Mem.tail _ (List.Mem.head _)))) rfl, cell_of_block (zoo_varm (unhide HA1) (List.Mem.tail _ (List.Mem.head _))) rfl⟩) (fun hHeld2 => ?_)
    clear hK K hHeld
    have hHeld := hHeld2
    clear hHeld2
    try simp only [Act.put, List.setIfInBounds_toArray, List.set_cons_zero, List.set_cons_succ]
    generalize WD.alloc (.cells #[.string ⟨#[97, 108, 108]⟩] 9) = W6 at *
    generalize WD.heap.size = p6 at *
    refine wpAnyH_only (i := 4) rfl (by kernel_rfl) (fun K hK => ?_)
    go_simp
    refine (dpairs vl m (unhide HM) (by omega) a cap W6 (gnd_kp (unhide HG) (unhide HA1).kp) (ps_slo (unhide HA1) (List.Mem.tail _ (List.Mem.tail _ (List.Mem.tail _ (List.Mem.tail _ (unhide HP)))))) (unhide HV)).mono ?_
    rintro e w3 ⟨a3, c3, rfl, hr3, hk3⟩
    rw [← unhide HM] at hr3 ⊢
    have HR := hide hr3
    have HA2 := hide ((unhide HA1).kp0 hk3)
    clear hr3 hk3
    go_wp2_with fail
    refine hK.out _ _ (⟨cell_of_block (zoo_varm (unhide HA2) (List.Mem.tail _ (List.Mem.tail _ (List.Mem.head _)))) rfl, cell_of_block (zoo_varm (unhide HA2) (List.Mem.tail _ (List.Mem.head _))) rfl⟩) (fun hHeld2 => ?_)
    clear hK K hHeld
    have hHeld := hHeld2
    clear hHeld2
    try simp only [Act.put, List.setIfInBounds_toArray, List.set_cons_zero, List.set_cons_succ]
    have hBw := Zoo.base (unhide HA2)
    refine wpAnyH_only (i := 5) rfl (by kernel_rfl) (fun K hK => ?_)
    refine step_krowS (by rfl) (.tmp 4) (.tmp 7) 22 (by rfl) hu Tryz.infoS rfl (by omega) (kw_row (l1 := []) (unhide HA2)) hBw (.slice a3 m c3) (strs (vl.map pvx)) m (by rfl) (by rfl) (krow_src (unhide HR)) (by omega) (1 + m) rfl ?_
    intro a9 c9 w9 g1 g2 g3
    have HA9 := hide (kw_app (l1 := []) (unhide HA2) (unhide g1) (unhide g2) (unhide g3))
    have hr9 : KRow 9 1 w0.heap.size w9 a9 (1 + m) c9 (strs ([97, 108, 108] :: vl.map pvx)) := unhide g1
    obtain ⟨g9, o9, rfl, hc9⟩ := krow_wrd hr9 (by simp)
    have hle9 := hr9.le
    have HC9 := hide hc9
    clear hc9 hr9 g1 g2 g3
    refine hK.out _ _ (⟨cell_of_block (zoo_varm (unhide HA9) (List.Mem.tail _ (List.Mem.tail _ (List.Mem.head _)))) rfl, cell_of_block (zoo_varm (unhide HA9) (List.Mem.tail _ (List.Mem.head _))) rfl⟩) (fun hHeld2 => ?_)
    clear hK K hHeld
    have hHeld := hHeld2
    clear hHeld2
    try simp only [Act.put, List.setIfInBounds_toArray, List.set_cons_zero, List.set_cons_succ]
    refine wpAnyH_only (i := 6) rfl (by kernel_rfl) (fun K hK => ?_)
    go_simp
    refine (dsay (l1 := [_, _, _]) ([97, 108, 108] :: vl.map pvx) (1 + m) (by have := unhide HM; simp; omega) g9 o9 c9 (unhide HA9) (unhide HC9) (join_pos (by simp)) (by have := unhide HM; simp; omega) (by have := unhide HM; simp; omega) (unhide HLN)).mono ?_
    rintro e w7 ⟨rfl, HZ7⟩
    go_wp2_with fail
    refine hK.out _ _ (⟨cell_of_block (zoo_varm (unhide HZ7) (List.Mem.tail _ (List.Mem.tail _ (List.Mem.head _)))) rfl, cell_of_block (zoo_varm (unhide HZ7) (List.Mem.tail _ (List.Mem.head _))) rfl⟩) (fun hHeld2 => ?_)
    clear hK K hHeld
    have hHeld := hHeld2
    clear hHeld2
    try simp only [Act.put, List.setIfInBounds_toArray, List.set_cons_zero, List.set_cons_succ]
    refine wpAnyH_done (by kernel_rfl) ?_ _
    clear hHeld
    go_wp2_with fail
    go_end0
    exact ⟨rfl, Zoo.tail (Zoo.tail (unhide HZ7))⟩
  · go_simp
    refine (dpairs vl m (unhide HM) (by omega) a cap WD (gnd_kp (unhide HG) (unhide HA0).kp) (ps_slo (unhide HA0) (List.Mem.tail _ (List.Mem.tail _ (List.Mem.tail _ (unhide HP))))) (unhide HV)).mono ?_
    rintro e w3 ⟨a3, c3, rfl, hr3, hk3⟩
    rw [← unhide HM] at hr3 ⊢
    have HR := hide hr3
    have HA1 := hide ((unhide HA0).kp0 hk3)
    clear hr3 hk3
    go_wp2_with fail
    refine hK.out _ _ (⟨cell_of_block (zoo_varm (unhide HA1) (List.Mem.tail _ (List.Mem.head _))) rfl, cell_of_block (zoo_varm (unhide HA1) (List.Mem.head _)) rfl⟩) (fun hHeld2 => ?_)
    clear hK K hHeld
    have hHeld := hHeld2
    clear hHeld2
    try simp only [Act.put, List.setIfInBounds_toArray, List.set_cons_zero, List.set_cons_succ]
    refine wpAnyH_only (i := 1) rfl (by kernel_rfl) (fun K hK => ?_)
    go_simp
    have HA2 := hide (kw_lit (unhide HA1) [[97, 108, 108]] 1 rfl #[.string ⟨#[97, 108, 108]⟩] rfl (by omega))
    have HR2 := hide ((unhide HR).kp0 ((Kp.refl [] w3).alloc (.cells #[.string ⟨#[97, 108, 108]⟩] 9)))
    refine hK.out _ _ (⟨cell_of_block (zoo_varm (unhide HA2) (List.Mem.tail _ (List.Mem.tail _ (List.Mem.head _)))) rfl, cell_of_block (zoo_varm (unhide HA2) (List.Mem.tail _ (List.Mem.head _))) rfl⟩) (fun hHeld2 => ?_)
    clear hK K hHeld
    have hHeld := hHeld2
    clear hHeld2
    try simp only [Act.put, List.setIfInBounds_toArray, List.set_cons_zero, List.set_cons_succ]
    generalize w3.alloc (.cells #[.string ⟨#[97, 108, 108]⟩] 9) = W6 at *
    generalize w3.heap.size = p6 at *
    have hBw := Zoo.base (unhide HA2)
    refine wpAnyH_only (i := 5) rfl (by kernel_rfl) (fun K hK => ?_)
    refine step_krowS (by rfl) (.tmp 4) (.tmp 7) 22 (by rfl) hu Tryz.infoS rfl (by omega) (kw_row (l1 := []) (unhide HA2)) hBw (.slice a3 m c3) (strs (vl.map pvx)) m (by rfl) (by rfl) (krow_src (unhide HR2)) (by omega) (1 + m) rfl ?_
    intro a9 c9 w9 g1 g2 g3
    have HA9 := hide (kw_app (l1 := []) (unhide HA2) (unhide g1) (unhide g2) (unhide g3))
    have hr9 : KRow 9 1 w0.heap.size w9 a9 (1 + m) c9 (strs ([97, 108, 108] :: vl.map pvx)) := unhide g1
    obtain ⟨g9, o9, rfl, hc9⟩ := krow_wrd hr9 (by simp)
    have hle9 := hr9.le
    have HC9 := hide hc9
    clear hc9 hr9 g1 g2 g3
    refine hK.out _ _ (⟨cell_of_block (zoo_varm (unhide HA9) (List.Mem.tail _ (List.Mem.tail _ (List.Mem.head _)))) rfl, cell_of_block (zoo_varm (unhide HA9) (List.Mem.tail _ (List.Mem.head _))) rfl⟩) (fun hHeld2 => ?_)
    clear hK K hHeld
    have hHeld := hHeld2
    clear hHeld2
    try simp only [Act.put, List.setIfInBounds_toArray, List.set_cons_zero, List.set_cons_succ]
    refine wpAnyH_only (i := 6) rfl (by kernel_rfl) (fun K hK => ?_)
    go_simp
    refine (dsay (l1 := [_, _, _]) ([97, 108, 108] :: vl.map pvx) (1 + m) (by have := unhide HM; simp; omega) g9 o9 c9 (unhide HA9) (unhide HC9) (join_pos (by simp)) (by have := unhide HM; simp; omega) (by have := unhide HM; simp; omega) (unhide HLN)).mono ?_
    rintro e w7 ⟨rfl, HZ7⟩
    go_wp2_with fail
    refine hK.out _ _ (⟨cell_of_block (zoo_varm (unhide HZ7) (List.Mem.tail _ (List.Mem.tail _ (List.Mem.head _)))) rfl, cell_of_block (zoo_varm (unhide HZ7) (List.Mem.tail _ (List.Mem.head _))) rfl⟩) (fun hHeld2 => ?_)
    clear hK K hHeld
    have hHeld := hHeld2
    clear hHeld2
    try simp only [Act.put, List.setIfInBounds_toArray, List.set_cons_zero, List.set_cons_succ]
    refine wpAnyH_done (by kernel_rfl) ?_ _
    clear hHeld
    go_wp2_with fail
    go_end0
    exact ⟨rfl, Zoo.tail (Zoo.tail (unhide HZ7))⟩
end
end
end Go.Proofs.YtldkeaeohceckadGreatDoor
