/- Put, Reads and Writes of a deed, by their contracts. -/
import Derived.Test.YtainekjcdmabbaaD1
import Derived.Deep.MidRow
namespace Go.Proofs.Ytainekjcdmabbaa
open Go.RowKit
set_option maxRecDepth 20000
attribute [local go_sem ↓] Go.wp_at_zero Go.wp_at_succ

theorem Ded.range {w : World} {db : Nat} {md y : Int} {rs : List Int} {ws : List Ver} (h : Ded w db md y rs ws) : w.rangeAt db 2 (nlist (ncell rs ws)) := fun j v hv => cell_of_block h (by rw [dcells_note]; exact hv)
theorem Try.size116 : (Try.prog.info? 116).map (·.size) = some 32 := by kernel_rfl
theorem Try.info115 : (Try.prog.info? 115).map (fun i => (i.zero, i.size, i.bytes)) = some (some (.agg #[.bool false, .bool false, .bool false, .string ByteArray.empty]), 4, 32) := by kernel_rfl
theorem Try.info3 : (Try.prog.info? 3).map (fun i => (i.zero, i.size, i.bytes)) = some (some (.int .i64 0), 1, 8) := by kernel_rfl

theorem run_index_note (w : World) (c : Nat → Nat → Value) {k : Nat} (hk : k < 8) :
    (Instr.index 116 (.agg (nlist c).toArray) (.int .i64 (k : Int))).run Try.prog w = .ok (.agg #[c k 0, c k 1, c k 2, c k 3]) w := by
  have hn : (k : Int) < 8 := by omega
  obtain ⟨i0, hi0, hz0, hz1, hz2⟩ := info_parts Try.info115
  have h1 : (isAgg 115).run Try.prog w = .ok true w := by
    unfold isAgg
    rw [Sem.run_bind, run_underlying Try.underlying115 w]
    rfl
  have hp : (part 115 (nlist c).toArray (k * 4)).run Try.prog w = .ok (.agg #[c k 0, c k 1, c k 2, c k 3]) w := by
    unfold part
    have hp := nlist_take c hk
    simp [Sem.run_bind, h1, sizeOf, typeInfo, hi0, hz1, hp]
  simp [Instr.index, run_underlying Try.underlying116, asIntOf, hk, sizeOf, typeInfo, hi0, hz1, hp]

/-- The notes as a value: what is found at a key. -/
theorem notes_ex (rs : List Int) (ws : List Ver) : ∃ A : Array Value, (nlist (ncell rs ws)).toArray = A ∧ ∀ k : Nat, k < 8 → ∀ w, (Instr.index 116 (.agg A) (.int .i64 (k : Int))).run Try.prog w =
    .ok (.agg #[.bool (decide ((k : Int) ∈ rs)), .bool (lwr ws k).isSome, .bool ((lwr ws k).getD dv).t, .string ((lwr ws k).getD dv).s]) w :=
  ⟨_, rfl, fun _ hk w => run_index_note w (ncell rs ws) hk⟩

def icells (l : List Int) : List Value := l.map (.int .i64)
theorem icells_length (l : List Int) : (icells l).length = l.length := by simp [icells]
theorem icells_append (l m : List Int) : icells (l ++ m) = icells l ++ icells m := by simp [icells]

/-- A list of numbers that a call made: it lies in memory of its own. -/
def IntsEnd (L : List Int) (w : World) (e : Ending) (w' : World) : Prop :=
  ∃ a cap, e = .returned (.slice a L.length cap) ∧ w'.ownsRow w.heap.size 3 1 (.slice a L.length cap) L.length (icells L) ∧ Kp [] w w'
def PrsEnd (L : List Ver) (w : World) (e : Ending) (w' : World) : Prop :=
  ∃ a cap, e = .returned (.slice a L.length cap) ∧ w'.ownsRow w.heap.size 72 3 (.slice a L.length cap) L.length (vcells L) ∧ Kp [] w w'

/-- What stands at the head of a round that gathers. -/
structure RdI (w : World) (L : List Int) (a : Option Addr) (cap : Nat) (wr : World) : Prop where
  own : wr.ownsRow w.heap.size 3 1 (.slice a L.length cap) L.length (icells L)
  kp : Kp [] w wr
structure WrtI (w : World) (L : List Ver) (a : Option Addr) (cap : Nat) (wr : World) : Prop where
  own : wr.ownsRow w.heap.size 72 3 (.slice a L.length cap) L.length (vcells L)
  kp : Kp [] w wr
theorem RdI.skip {w wr w1 : World} {L : List Int} {a : Option Addr} {cap : Nat} (h : RdI w L a cap wr) (hk : Kp [] wr w1) : RdI w L a cap w1 := ⟨own_kp0 h.own hk, h.kp.trans0 hk⟩
theorem WrtI.skip {w wr w1 : World} {L : List Ver} {a : Option Addr} {cap : Nat} (h : WrtI w L a cap wr) (hk : Kp [] wr w1) : WrtI w L a cap w1 := ⟨own_kp0 h.own hk, h.kp.trans0 hk⟩
theorem RdI.more {w wr W w2 : World} {L : List Int} {a : Option Addr} {cap g2 cap2 : Nat} {k : Int} (h : RdI w L a cap wr) (hw : Kp [] wr W) (hown : w2.ownsRow w.heap.size 3 1 (.slice (some ⟨g2, 0, none⟩) (L.length + 1) cap2) (L.length + 1) (icells L ++ [.int .i64 k]))
    (hgrow : W.grownBy w2 (Value.slice a L.length cap).ownBlock) : RdI w (L ++ [k]) (some ⟨g2, 0, none⟩) cap2 w2 := by
  refine ⟨?_, (h.kp.trans0 hw).grown hgrow (fun g hg => .inr (own_ge h.own hg))⟩
  have hv : icells L ++ [.int .i64 k] = icells (L ++ [k]) := by rw [icells_append]; rfl
  rw [hv] at hown
  simpa using hown
theorem WrtI.more {w wr W w2 : World} {L : List Ver} {a : Option Addr} {cap g2 cap2 : Nat} {k : Int} {t : Bool} {s : ByteArray} (h : WrtI w L a cap wr) (hw : Kp [] wr W) (hown : w2.ownsRow w.heap.size 72 3 (.slice (some ⟨g2, 0, none⟩) (L.length + 1) cap2) (L.length + 1) (vcells L ++ [.int .i64 k, .bool t, .string s]))
    (hgrow : W.grownBy w2 (Value.slice a L.length cap).ownBlock) : WrtI w (L ++ [⟨k, t, s⟩]) (some ⟨g2, 0, none⟩) cap2 w2 := by
  refine ⟨?_, (h.kp.trans0 hw).grown hgrow (fun g hg => .inr (own_ge h.own hg))⟩
  have hv : vcells L ++ [.int .i64 k, .bool t, .string s] = vcells (L ++ [⟨k, t, s⟩]) := by rw [vcells_append]; rfl
  rw [hv] at hown
  simpa using hown

theorem rk_yes {rs : List Int} {k : Nat} (h : (k : Int) ∈ rs) : rk rs (k + 1) = rk rs k ++ [(k : Int)] := by simp only [rk]; rw [if_pos h]
theorem rk_no {rs : List Int} {k : Nat} (h : ¬ (k : Int) ∈ rs) : rk rs (k + 1) = rk rs k := by simp only [rk]; rw [if_neg h]
theorem wk_yes {ws : List Ver} {k : Nat} {v : Ver} (h : lwr ws k = some v) : wk ws (k + 1) = wk ws k ++ [⟨(k : Int), v.t, v.s⟩] := by simp only [wk, h]
theorem wk_no {ws : List Ver} {k : Nat} (h : lwr ws k = none) : wk ws (k + 1) = wk ws k := by simp only [wk, h]

set_option maxHeartbeats 1000000 in
theorem dreads64 {db : Nat} {md y : Int} {rs : List Int} {ws : List Ver} (w : World) (h : Ded w db md y rs ws) : Calls Try.prog 64 #[.pointer (some ⟨db, 0, none⟩)] w fun e w' => IntsEnd (rk rs 8) w e w' := by
  obtain ⟨in0, hi0, hz0, hz1, hz2⟩ := info_parts Try.info3
  have HR := hide h.range
  have H0 : Hid (RdI w (rk rs 0) none 0 w) := ⟨World.ownsRow_nil _ _ _ _, Kp.refl _ _⟩
  have hlt := h.lt
  clear h
  go_enter Try.func64, Try.ntmps64
  go_wp2_with (refine wpList_load_mid rfl 116 _ rfl db 2 rfl _ _ (unhide HR) Try.underlying116 rfl Try.size116 ?_)
  obtain ⟨A, hA, hAk⟩ := notes_ex rs ws
  rw [hA]
  have HA := hide hAk
  clear hA hAk HR
  go_loopw [3, 10] (fun s i wr => ∃ (k : Nat) (a : Option Addr) (cap : Nat), k ≤ 8 ∧ s = .slice a (rk rs k).length cap ∧ i = .int .i64 k ∧ Hid (RdI w (rk rs k) a cap wr)) (fun _ i _ => 8 - (intOf i).toNat)
  case atStart => exact ⟨0, none, 0, by omega, rfl, rfl, H0⟩
  case round =>
    obtain ⟨k, a, cap, hk, rfl, rfl, HL⟩ := hrel
    by_cases hlt8 : k < 8
    · have i0 : (0 : Int) ≤ (k : Int) := by omega
      have i1 : (k : Int) < 8 := by omega
      have hx := (unhide HA) k hlt8
      generalize (lwr ws k).isSome = b1 at *
      generalize ((lwr ws k).getD dv).t = b2 at *
      generalize ((lwr ws k).getD dv).s = b3 at *
      have hal := rk_len rs k
      by_cases hr : (k : Int) ∈ rs
      · have HN := hide (rk_yes hr)
        have hd : decide ((k : Int) ∈ rs) = true := by simp [hr]
        rw [hd] at hx
        clear hd hr
        generalize rk rs k = L at *
        have hOW := hide (own_kp0 (unhide HL).own (((Kp.refl [] wr).alloc (.cells #[.bool true, .bool b1, .bool b2, .string b3] 115)).alloc (.cells #[.int .i64 k] 3)))
        have hwl := (unhide HL).kp.size
        go_wp2_with (at_builtin; refine wpList_append_lies _ rfl _ _ 85 rfl w.heap.size 3 in0 _ 1 8 Try.underlying85 hi0 hz0 hz1 hz2 rfl (by omega) (.slice a L.length cap) L.length (icells L) rfl (unhide hOW) ⟨wr.heap.size + 1, 0, none⟩ 1 1 [.int .i64 k] (by rfl) (by rfl) (World.news_of_block (cs := #[.int .i64 k]) (t := 3) (fr := (0, 0)) (by have := heap_alloc_new (wr.alloc (.cells #[.bool true, .bool b1, .bool b2, .string b3] 115)) (.cells #[.int .i64 k] 3); simpa using this)) (by simp [Value.oneCell']) (by omega) (by unfold maxLen; omega) (by omega) (by simp; omega) _ rfl ?_; intro g2 cap2 w2 hown hgrow hat hlt2)
        have HL2 := hide ((unhide HL).more (((Kp.refl [] wr).alloc _).alloc _) hown hgrow)
        clear hown hgrow hat
        go_wp2_with fail
        exact ⟨⟨k + 1, some ⟨g2, 0, none⟩, cap2, by omega, by rw [unhide HN]; simp, by go_num, by rw [unhide HN]; exact HL2⟩, by simp [intOf]; omega⟩
      · have HN := hide (rk_no hr)
        have hd : decide ((k : Int) ∈ rs) = false := by simp [hr]
        rw [hd] at hx
        clear hd hr
        have HL2 := hide ((unhide HL).skip ((Kp.refl [] wr).alloc (.cells #[.bool false, .bool b1, .bool b2, .string b3] 115)))
        go_wp2_with fail
        exact ⟨⟨k + 1, a, cap, by omega, by rw [unhide HN], by go_num, by rw [unhide HN]; exact HL2⟩, by simp [intOf]; omega⟩
    · have e : k = 8 := by omega
      subst e
      go_wp2_with fail
      go_ret
      exact ⟨a, cap, rfl, (unhide HL).own, (unhide HL).kp⟩

set_option maxHeartbeats 1000000 in
theorem dwrites66 {db : Nat} {md y : Int} {rs : List Int} {ws : List Ver} (w : World) (h : Ded w db md y rs ws) : Calls Try.prog 66 #[.pointer (some ⟨db, 0, none⟩)] w fun e w' => PrsEnd (wk ws 8) w e w' := by
  obtain ⟨in0, hi0, hz0, hz1, hz2⟩ := info_parts Try.info72
  have HR := hide h.range
  have H0 : Hid (WrtI w (wk ws 0) none 0 w) := ⟨World.ownsRow_nil _ _ _ _, Kp.refl _ _⟩
  have hlt := h.lt
  clear h
  go_enter Try.func66, Try.ntmps66
  go_wp2_with (refine wpList_load_mid rfl 116 _ rfl db 2 rfl _ _ (unhide HR) Try.underlying116 rfl Try.size116 ?_)
  obtain ⟨A, hA, hAk⟩ := notes_ex rs ws
  rw [hA]
  have HA := hide hAk
  clear hA hAk HR
  go_loopw [3, 10] (fun s i wr => ∃ (k : Nat) (a : Option Addr) (cap : Nat), k ≤ 8 ∧ s = .slice a (wk ws k).length cap ∧ i = .int .i64 k ∧ Hid (WrtI w (wk ws k) a cap wr)) (fun _ i _ => 8 - (intOf i).toNat)
  case atStart => exact ⟨0, none, 0, by omega, rfl, rfl, H0⟩
  case round =>
    obtain ⟨k, a, cap, hk, rfl, rfl, HL⟩ := hrel
    by_cases hlt8 : k < 8
    · have i0 : (0 : Int) ≤ (k : Int) := by omega
      have i1 : (k : Int) < 8 := by omega
      have hx := (unhide HA) k hlt8
      generalize decide ((k : Int) ∈ rs) = b0 at *
      have hal := wk_len ws k
      cases hv : lwr ws k with
      | some v =>
        have HN := hide (wk_yes hv)
        rw [hv] at hx
        simp only [Option.isSome_some, Option.getD_some] at hx
        clear hv
        generalize wk ws k = L at *
        have hOW := hide (own_kp0 (unhide HL).own (((Kp.refl [] wr).alloc (.cells #[.bool b0, .bool true, .bool v.t, .string v.s] 115)).alloc (.cells #[.int .i64 k, .bool v.t, .string v.s] 72)))
        have hwl := (unhide HL).kp.size
        go_wp2_with (at_builtin; refine wpList_append_lies _ rfl _ _ 49 rfl w.heap.size 72 in0 _ 3 32 Try.underlying49 hi0 hz0 hz1 hz2 rfl (by omega) (.slice a L.length cap) L.length (vcells L) rfl (unhide hOW) ⟨wr.heap.size + 1, 0, none⟩ 1 1 [.int .i64 k, .bool v.t, .string v.s] (by rfl) (by rfl) (World.news_of_block (cs := #[.int .i64 k, .bool v.t, .string v.s]) (t := 72) (fr := (0, 0)) (by have := heap_alloc_new (wr.alloc (.cells #[.bool b0, .bool true, .bool v.t, .string v.s] 115)) (.cells #[.int .i64 k, .bool v.t, .string v.s] 72); simpa using this)) (by simp [Value.oneCell']) (by omega) (by unfold maxLen; omega) (by omega) (by simp; omega) _ rfl ?_; intro g2 cap2 w2 hown hgrow hat hlt2)
        have HL2 := hide ((unhide HL).more (((Kp.refl [] wr).alloc _).alloc _) hown hgrow)
        clear hown hgrow hat
        go_wp2_with fail
        exact ⟨⟨k + 1, some ⟨g2, 0, none⟩, cap2, by omega, by rw [unhide HN]; simp, by go_num, by rw [unhide HN]; exact HL2⟩, by simp [intOf]; omega⟩
      | none =>
        have HN := hide (wk_no hv)
        rw [hv] at hx
        simp only [Option.isSome_none, Option.getD_none] at hx
        clear hv
        have HL2 := hide ((unhide HL).skip ((Kp.refl [] wr).alloc (.cells #[.bool b0, .bool false, .bool dv.t, .string dv.s] 115)))
        go_wp2_with fail
        exact ⟨⟨k + 1, a, cap, by omega, by rw [unhide HN], by go_num, by rw [unhide HN]; exact HL2⟩, by simp [intOf]; omega⟩
    · have e : k = 8 := by omega
      subst e
      go_wp2_with fail
      go_ret
      exact ⟨a, cap, rfl, (unhide HL).own, (unhide HL).kp⟩
end Go.Proofs.Ytainekjcdmabbaa
