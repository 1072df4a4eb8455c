/- Rt, Rs, Wh5, Ww, Wu, Ga, OpenA, Wj: bound together for a claim. -/
import Derived.Test.YtliopckocegknacM4
import Derived.BigQuiet
import Derived.OpenShut
/- Acts as the document has them, by their contract. -/
namespace Go.Proofs.Ytliopckocegknac
open Go.RowKit
set_option maxRecDepth 20000
attribute [local go_sem ↓] Go.wp_at_zero Go.wp_at_succ

theorem Try.info139 : (Try.prog.info? 139).map (fun i => (i.zero, i.size, i.bytes)) = some (some (.agg #[.int .i64 0, .int .i64 0, .int .i64 0, .bool false, .string ByteArray.empty, .slice none 0 0]), 6, 72) := by kernel_rfl
theorem krow_acts {T : TypeId} {B : Nat} {w : World} {ac : Option Addr} {cc n : Nat} {zs : List Ax} (hrow : KRow T 6 B w ac n cc (axcs zs)) (h : ∀ y, y ∈ zs → SlO w y.a y.x.l) : ActsIn w ac (zs.map Ax.x) := by
  intro hp
  rw [List.length_map] at hp
  obtain ⟨y0, hy0⟩ : ∃ y, zs[0]? = some y := ⟨_, List.getElem?_eq_getElem hp⟩
  obtain ⟨g, e, _⟩ := hrow.cell (axcs_at (j := 0) hy0 (by omega) rfl)
  refine ⟨g, 0, e, fun i x hx => ?_⟩
  rw [List.getElem?_map] at hx
  cases hz2 : zs[i]? with
  | none => rw [hz2] at hx; cases hx
  | some y =>
    rw [hz2] at hx
    simp only [Option.map_some, Option.some.injEq] at hx
    subst hx
    have key : ∀ {j : Nat} {v : Value}, j < 6 → (axc y)[j]? = some v → w.cell? ⟨g, 0 + i * 6 + j, none⟩ = some v := fun {j v} hj hv => by
      obtain ⟨g', e', hc⟩ := hrow.cell (axcs_at hz2 hj hv)
      rw [e] at e'
      simp only [Option.some.injEq, Addr.mk.injEq, and_true] at e'
      rw [Nat.zero_add, e']
      exact hc
    exact ⟨key (j := 0) (by omega) rfl, key (j := 1) (by omega) rfl, key (j := 2) (by omega) rfl, key (j := 3) (by omega) rfl, key (j := 4) (by omega) rfl, y.a, y.c, key (j := 5) (by omega) rfl, h y (List.mem_of_getElem? hz2)⟩
theorem c6_kp {w w' : World} {p0 p1 p2 p3 p4 p5 : Addr} {x0 x1 x2 x3 x4 x5 : Value} (h : w.cell? p0 = some x0 ∧ w.cell? p1 = some x1 ∧ w.cell? p2 = some x2 ∧ w.cell? p3 = some x3 ∧ w.cell? p4 = some x4 ∧ w.cell? p5 = some x5) (hk : Kp [] w w') : w'.cell? p0 = some x0 ∧ w'.cell? p1 = some x1 ∧ w'.cell? p2 = some x2 ∧ w'.cell? p3 = some x3 ∧ w'.cell? p4 = some x4 ∧ w'.cell? p5 = some x5 :=
  ⟨hk.cell (by simp) h.1, hk.cell (by simp) h.2.1, hk.cell (by simp) h.2.2.1, hk.cell (by simp) h.2.2.2.1, hk.cell (by simp) h.2.2.2.2.1, hk.cell (by simp) h.2.2.2.2.2⟩
def ActsEnd (l : List Ac) (w0 w : World) (e : Ending) (w' : World) : Prop := ∃ a c zs, e = .returned (.slice a l.length c) ∧ KRow 139 6 w.heap.size w' a l.length c (axcs zs) ∧ Kp [] w w' ∧ zs.map Ax.x = l ∧ ∀ y, y ∈ zs → SlO w0 y.a y.x.l
structure AcI (l : List Ac) (w0 w wr : World) (aO : Option Addr) (cO n i : Nat) (zs : List Ax) : Prop where
  zoo : Zoo w wr [KwT 139 6 aO n cO (axcs zs)]
  nl : n = zs.length
  map : zs.map Ax.x = l.take i
  sl : ∀ y, y ∈ zs → SlO w0 y.a y.x.l
set_option maxHeartbeats 4000000 in
theorem racts (a : Option Addr) (c : Nat) (l : List Ac) (w0 w : World) (hk0 : Kp [] w0 w) (h : ActsIn w0 a l) (hok : ActsOk l) :
    Calls Try.prog 46 #[.slice a l.length c] w (ActsEnd l w0 w) := by
  have hu := Try.underlying91
  have HA := hide h
  have HK0 := hide hk0
  have hm := hok.1
  clear h hok hk0
  obtain ⟨m, hmm⟩ : ∃ m, l.length = m := ⟨_, rfl⟩
  have HM := hide hmm
  rw [hmm] at hm ⊢
  clear hmm
  go_enter Try.func46, Try.ntmps46
  go_wp2_with fail
  go_loopw [3, 4] (fun x y wr => ∃ (i : Nat) (aO : Option Addr) (cO n : Nat), i ≤ m ∧ n ≤ i ∧ x = .slice aO n cO ∧ y = .int .i64 i ∧ Hid (∃ zs, AcI l w0 w wr aO cO n i zs)) (fun _ y _ => m - (intOf y).toNat)
  case atStart => exact ⟨0, none, 0, 0, Nat.zero_le _, Nat.le_refl _, rfl, rfl, [], kw_nil 139 6 (zoo_nil (Kp.refl [] w)), rfl, rfl, fun y hy => by simp at hy⟩
  case round =>
    obtain ⟨i, aO, cO, n, hi, hni, rfl, rfl, HI⟩ := hrel
    obtain ⟨zs, hz⟩ := unhide HI
    have HZ := hide hz
    clear hz HI
    by_cases hlt : i < m
    · have i1 : (i : Int) < (m : Int) := by omega
      have i0 : (0 : Int) ≤ (i : Int) := by omega
      have hln : i < l.length := by have := unhide HM; omega
      obtain ⟨g, o, rfl, hb⟩ := (unhide HA) (by omega)
      obtain ⟨x, hx⟩ : ∃ x, l[i]? = some x := ⟨_, List.getElem?_eq_getElem hln⟩
      have htk : l.take (i + 1) = l.take i ++ [x] := by rw [List.take_add_one, hx]; rfl
      have hat := hb i x hx
      obtain ⟨la, lc, z5, hls⟩ := hat.ls
      have q0 := (unhide HK0).cell (by simp) hat.c0
      have q1 := (unhide HK0).cell (by simp) hat.c1
      have q2 : w.cell? ⟨g, o + i * 6 + 1 + 1, none⟩ = _ := (unhide HK0).cell (by simp) hat.c2
      have q3 : w.cell? ⟨g, o + i * 6 + 1 + 1 + 1, none⟩ = _ := (unhide HK0).cell (by simp) hat.c3
      have q4 : w.cell? ⟨g, o + i * 6 + 1 + 1 + 1 + 1, none⟩ = _ := (unhide HK0).cell (by simp) hat.c4
      have q5 : w.cell? ⟨g, o + i * 6 + 1 + 1 + 1 + 1 + 1, none⟩ = _ := (unhide HK0).cell (by simp) z5
      have HLS := hide hls
      have HT := hide htk
      clear hat hb hx hls z5 htk
      obtain ⟨kd, key, to_, xt, xs, xl⟩ := x
      dsimp only at q0 q1 q2 q3 q4 q5 HLS
      obtain ⟨ln, hlen⟩ : ∃ ln, xl.length = ln := ⟨_, rfl⟩
      rw [hlen] at q5
      have HLX := hide hlen
      clear hlen
      have HG := hide (And.intro q0 (And.intro q1 (And.intro q2 (And.intro q3 (And.intro q4 q5)))))
      clear q0 q1 q2 q3 q4 q5
      go_wp2_with fail
      refine wp_region_held_drew (S := fun w' => w'.cell? ⟨g, o + i * 6, none⟩ = some (.int .i64 kd) ∧ w'.cell? ⟨g, o + i * 6 + 1, none⟩ = some (.int .i64 key) ∧ w'.cell? ⟨g, o + i * 6 + 1 + 1, none⟩ = some (.int .i64 to_) ∧ w'.cell? ⟨g, o + i * 6 + 1 + 1 + 1, none⟩ = some (.bool xt) ∧ w'.cell? ⟨g, o + i * 6 + 1 + 1 + 1 + 1, none⟩ = some (.string xs) ∧ w'.cell? ⟨g, o + i * 6 + 1 + 1 + 1 + 1 + 1, none⟩ = some (.slice la ln lc)) (by kernel_rfl) (c6_kp (unhide HG) ((unhide HZ).zoo.kp.drew)) (fun hHeld => ?_)
      have HA0 := hide ((unhide HZ).zoo.kp0 ((Kp.refl [] wr).drew))
      generalize World.drew _ = WD at HA0 hHeld ⊢
      refine wpAnyH_tk (i := 0) (v := ?_) rfl (by kernel_rfl) (by kernel_rfl) (by kernel_rfl) (fun _ _ _ h => h) (Or.inl ⟨by rfl, ?_⟩) hHeld ?_
      rotate_left
      · intro w hSw
        try dsimp only at hSw
        go_simp
        try with_reducible rfl
      try simp only [Act.put, List.setIfInBounds_toArray, List.set_cons_zero, List.set_cons_succ]
      refine wpAnyH_tk (i := 1) (v := ?_) rfl (by kernel_rfl) (by kernel_rfl) (by kernel_rfl) (fun _ _ _ h => h) (Or.inl ⟨by rfl, ?_⟩) hHeld ?_
      rotate_left
      · intro w hSw
        try dsimp only at hSw
        go_simp
        try with_reducible rfl
      try simp only [Act.put, List.setIfInBounds_toArray, List.set_cons_zero, List.set_cons_succ]
      refine wpAnyH_tk (i := 2) (v := ?_) rfl (by kernel_rfl) (by kernel_rfl) (by kernel_rfl) (fun _ _ _ h => h) (Or.inl ⟨by rfl, ?_⟩) hHeld ?_
      rotate_left
      · intro w hSw
        try dsimp only at hSw
        go_simp
        try with_reducible rfl
      try simp only [Act.put, List.setIfInBounds_toArray, List.set_cons_zero, List.set_cons_succ]
      refine wpAnyH_tk (i := 3) (v := ?_) rfl (by kernel_rfl) (by kernel_rfl) (by kernel_rfl) (fun _ _ _ h => h) (Or.inl ⟨by rfl, ?_⟩) hHeld ?_
      rotate_left
      · intro w hSw
        try dsimp only at hSw
        go_simp
        try with_reducible rfl
      try simp only [Act.put, List.setIfInBounds_toArray, List.set_cons_zero, List.set_cons_succ]
      refine wpAnyH_tk (i := 4) (v := ?_) rfl (by kernel_rfl) (by kernel_rfl) (by kernel_rfl) (fun _ _ _ h => h) (Or.inl ⟨by rfl, ?_⟩) hHeld ?_
      rotate_left
      · intro w hSw
        try dsimp only at hSw
        go_simp
        try with_reducible rfl
      try simp only [Act.put, List.setIfInBounds_toArray, List.set_cons_zero, List.set_cons_succ]
      refine wpAnyH_tk (i := 5) (v := ?_) rfl (by kernel_rfl) (by kernel_rfl) (by kernel_rfl) (fun _ _ _ h => h) (Or.inl ⟨by rfl, ?_⟩) hHeld ?_
      rotate_left
      · intro w hSw
        try dsimp only at hSw
        go_simp
        try with_reducible rfl
      try simp only [Act.put, List.setIfInBounds_toArray, List.set_cons_zero, List.set_cons_succ]
      refine wpAnyH_tk (i := 6) (v := ?_) rfl (by kernel_rfl) (by kernel_rfl) (by kernel_rfl) (fun _ _ _ h => h) (Or.inl ⟨by rfl, ?_⟩) hHeld ?_
      rotate_left
      · intro w hSw
        try dsimp only at hSw
        go_simp
        try with_reducible rfl
      try simp only [Act.put, List.setIfInBounds_toArray, List.set_cons_zero, List.set_cons_succ]
      refine wpAnyH_tk (i := 7) (v := ?_) rfl (by kernel_rfl) (by kernel_rfl) (by kernel_rfl) (fun _ _ _ h => h) (Or.inl ⟨by rfl, ?_⟩) hHeld ?_
      rotate_left
      · intro w hSw
        try dsimp only at hSw
        go_simp
        try with_reducible rfl
      try simp only [Act.put, List.setIfInBounds_toArray, List.set_cons_zero, List.set_cons_succ]
      refine wpAnyH_tk (i := 8) (v := ?_) rfl (by kernel_rfl) (by kernel_rfl) (by kernel_rfl) (fun _ _ _ h => h) (Or.inl ⟨by rfl, ?_⟩) hHeld ?_
      rotate_left
      · intro w hSw
        try dsimp only at hSw
        go_simp
        try with_reducible rfl
      try simp only [Act.put, List.setIfInBounds_toArray, List.set_cons_zero, List.set_cons_succ]
      refine wpAnyH_tk (i := 9) (v := ?_) rfl (by kernel_rfl) (by kernel_rfl) (by kernel_rfl) (fun _ _ _ h => h) (Or.inl ⟨by rfl, ?_⟩) hHeld ?_
      rotate_left
      · intro w hSw
        try dsimp only at hSw
        go_simp
        try with_reducible rfl
      try simp only [Act.put, List.setIfInBounds_toArray, List.set_cons_zero, List.set_cons_succ]
      refine wpAnyH_tk (i := 10) (v := ?_) rfl (by kernel_rfl) (by kernel_rfl) (by kernel_rfl) (fun _ _ _ h => h) (Or.inl ⟨by rfl, ?_⟩) hHeld ?_
      rotate_left
      · intro w hSw
        try dsimp only at hSw
        go_simp
        try with_reducible rfl
      try simp only [Act.put, List.setIfInBounds_toArray, List.set_cons_zero, List.set_cons_succ]
      refine wpAnyH_tk (i := 11) (v := ?_) rfl (by kernel_rfl) (by kernel_rfl) (by kernel_rfl) (fun _ _ _ h => h) (Or.inl ⟨by rfl, ?_⟩) hHeld ?_
      rotate_left
      · intro w hSw
        try dsimp only at hSw
        go_simp
        try with_reducible rfl
      try simp only [Act.put, List.setIfInBounds_toArray, List.set_cons_zero, List.set_cons_succ]
      refine wpAnyH_tk (i := 12) (v := ?_) rfl (by kernel_rfl) (by kernel_rfl) (by kernel_rfl) (fun _ _ _ h => h) (Or.inl ⟨by rfl, ?_⟩) hHeld ?_
      rotate_left
      · intro w hSw
        try dsimp only at hSw
        go_simp
        try with_reducible rfl
      try simp only [Act.put, List.setIfInBounds_toArray, List.set_cons_zero, List.set_cons_succ]
      refine wpAnyH_tk (i := 13) (v := ?_) rfl (by kernel_rfl) (by kernel_rfl) (by kernel_rfl) (fun _ _ _ h => h) (Or.inl ⟨by rfl, ?_⟩) hHeld ?_
      rotate_left
      · intro w hSw
        try dsimp only at hSw
        go_simp
        try with_reducible rfl
      try simp only [Act.put, List.setIfInBounds_toArray, List.set_cons_zero, List.set_cons_succ]
      refine wpAnyH_tk (i := 14) (v := ?_) rfl (by kernel_rfl) (by kernel_rfl) (by kernel_rfl) (fun _ _ _ h => h) (Or.inl ⟨by rfl, ?_⟩) hHeld ?_
      rotate_left
      · intro w hSw
        try dsimp only at hSw
        go_simp
        try with_reducible rfl
      try simp only [Act.put, List.setIfInBounds_toArray, List.set_cons_zero, List.set_cons_succ]
      refine wpAnyH_tk (i := 15) (v := ?_) rfl (by kernel_rfl) (by kernel_rfl) (by kernel_rfl) (fun _ _ _ h => h) (Or.inl ⟨by rfl, ?_⟩) hHeld ?_
      rotate_left
      · intro w hSw
        try dsimp only at hSw
        go_simp
        try with_reducible rfl
      try simp only [Act.put, List.setIfInBounds_toArray, List.set_cons_zero, List.set_cons_succ]
      refine wpAnyH_tk (i := 16) (v := ?_) rfl (by kernel_rfl) (by kernel_rfl) (by kernel_rfl) (fun _ _ _ h => h) (Or.inl ⟨by rfl, ?_⟩) hHeld ?_
      rotate_left
      · intro w hSw
        try dsimp only at hSw
        go_simp
        try with_reducible rfl
      try simp only [Act.put, List.setIfInBounds_toArray, List.set_cons_zero, List.set_cons_succ]
      refine wpAnyH_tk (i := 17) (v := ?_) rfl (by kernel_rfl) (by kernel_rfl) (by kernel_rfl) (fun _ _ _ h => h) (Or.inl ⟨by rfl, ?_⟩) hHeld ?_
      rotate_left
      · intro w hSw
        try dsimp only at hSw
        go_simp
        try with_reducible rfl
      try simp only [Act.put, List.setIfInBounds_toArray, List.set_cons_zero, List.set_cons_succ]
      refine wpAnyH_tk (i := 18) (v := ?_) rfl (by kernel_rfl) (by kernel_rfl) (by kernel_rfl) (fun _ _ _ h => h) (Or.inl ⟨by rfl, ?_⟩) hHeld ?_
      rotate_left
      · intro w hSw
        try dsimp only at hSw
        go_simp
        try with_reducible rfl
      try simp only [Act.put, List.setIfInBounds_toArray, List.set_cons_zero, List.set_cons_succ]
      refine wpAnyH_tk (i := 19) (v := ?_) rfl (by kernel_rfl) (by kernel_rfl) (by kernel_rfl) (fun _ _ _ h => h) (Or.inl ⟨by rfl, ?_⟩) hHeld ?_
      rotate_left
      · intro w hSw
        try dsimp only at hSw
        go_simp
        try with_reducible rfl
      try simp only [Act.put, List.setIfInBounds_toArray, List.set_cons_zero, List.set_cons_succ]
      refine wpAnyH_tk (i := 20) (v := ?_) rfl (by kernel_rfl) (by kernel_rfl) (by kernel_rfl) (fun _ _ _ h => h) (Or.inl ⟨by rfl, ?_⟩) hHeld ?_
      rotate_left
      · intro w hSw
        try dsimp only at hSw
        go_simp
        try with_reducible rfl
      try simp only [Act.put, List.setIfInBounds_toArray, List.set_cons_zero, List.set_cons_succ]
      refine wpAnyH_tk (i := 21) (v := ?_) rfl (by kernel_rfl) (by kernel_rfl) (by kernel_rfl) (fun _ _ _ h => h) (Or.inl ⟨by rfl, ?_⟩) hHeld ?_
      rotate_left
      · intro w hSw
        try dsimp only at hSw
        go_simp
        try with_reducible rfl
      try simp only [Act.put, List.setIfInBounds_toArray, List.set_cons_zero, List.set_cons_succ]
      refine wpAnyH_tk (i := 22) (v := ?_) rfl (by kernel_rfl) (by kernel_rfl) (by kernel_rfl) (fun _ _ _ h => h) (Or.inl ⟨by rfl, ?_⟩) hHeld ?_
      rotate_left
      · intro w hSw
        try dsimp only at hSw
        go_simp
        try with_reducible rfl
      try simp only [Act.put, List.setIfInBounds_toArray, List.set_cons_zero, List.set_cons_succ]
      refine wpAnyH_tk (i := 23) (v := ?_) rfl (by kernel_rfl) (by kernel_rfl) (by kernel_rfl) (fun _ _ _ h => h) (Or.inl ⟨by rfl, ?_⟩) hHeld ?_
      rotate_left
      · intro w hSw
        try dsimp only at hSw
        go_simp
        try with_reducible rfl
      try simp only [Act.put, List.setIfInBounds_toArray, List.set_cons_zero, List.set_cons_succ]
      refine wpAnyH_tk (i := 24) (v := ?_) rfl (by kernel_rfl) (by kernel_rfl) (by kernel_rfl) (fun _ _ _ h => h) (Or.inl ⟨by rfl, ?_⟩) hHeld ?_
      rotate_left
      · intro w hSw
        try dsimp only at hSw
        go_simp
        try with_reducible rfl
      try simp only [Act.put, List.setIfInBounds_toArray, List.set_cons_zero, List.set_cons_succ]
      refine wpAnyH_tk (i := 25) (v := ?_) rfl (by kernel_rfl) (by kernel_rfl) (by kernel_rfl) (fun _ _ _ h => h) (Or.inl ⟨by rfl, ?_⟩) hHeld ?_
      rotate_left
      · intro w hSw
        try dsimp only at hSw
        go_simp
        try with_reducible rfl
      try simp only [Act.put, List.setIfInBounds_toArray, List.set_cons_zero, List.set_cons_succ]
      refine wpAnyH_tk (i := 26) (v := ?_) rfl (by kernel_rfl) (by kernel_rfl) (by kernel_rfl) (fun _ _ _ h => h) (Or.inl ⟨by rfl, ?_⟩) hHeld ?_
      rotate_left
      · intro w hSw
        try dsimp only at hSw
        go_simp
        try with_reducible rfl
      try simp only [Act.put, List.setIfInBounds_toArray, List.set_cons_zero, List.set_cons_succ]
      refine wpAnyH_only (i := 27) rfl (by kernel_rfl) (fun K hK => ?_)
      go_simp
      have HA1 := hide ((unhide HA0).box #[.int .i64 kd, .int .i64 key, .int .i64 to_, .bool xt, .string xs, .slice la ln lc] 139)
      refine hK.out _ _ (c6_kp (unhide HG) (unhide HA1).kp) (fun hHeld2 => ?_)
      clear hK K hHeld
      have hHeld := hHeld2
      clear hHeld2
      try simp only [Act.put, List.setIfInBounds_toArray, List.set_cons_zero, List.set_cons_succ]
      have HBX := hide (Zoo.var (unhide HA1))
      have hBw := Zoo.base (unhide HA1)
      generalize WD.alloc (.cells #[.int .i64 kd, .int .i64 key, .int .i64 to_, .bool xt, .string xs, .slice la ln lc] 139) = W1 at *
      generalize WD.heap.size = p3 at *
      refine wpAnyH_only (i := 28) rfl (by kernel_rfl) (fun K hK => ?_)
      refine step_krow (by rfl) (.tmp 11) (.tmp 38) 91 (by rfl) hu Try.info139 rfl (by omega) (kw_row (l1 := [BoxT p3 #[.int .i64 kd, .int .i64 key, .int .i64 to_, .bool xt, .string xs, .slice la ln lc] 139]) (unhide HA1)) hBw (.slice (some ⟨p3, 0, none⟩) 1 1) [.int .i64 kd, .int .i64 key, .int .i64 to_, .bool xt, .string xs, .slice la ln lc] 1 (by rfl) (by rfl) (src_built (cs := #[.int .i64 kd, .int .i64 key, .int .i64 to_, .bool xt, .string xs, .slice la ln lc]) hu (unhide HBX) rfl (by simp [Value.oneCell'])) (by omega) (n + 1) rfl ?_
      intro a2 c2 w9 g1 g2 g3
      have HA2 := hide (Zoo.tail (kw_app (l1 := [BoxT p3 #[.int .i64 kd, .int .i64 key, .int .i64 to_, .bool xt, .string xs, .slice la ln lc] 139]) (unhide HA1) (unhide g1) (unhide g2) (unhide g3)))
      refine hK.out _ _ (c6_kp (unhide HG) (unhide HA2).kp) (fun hHeld2 => ?_)
      clear hK K hHeld
      have hHeld := hHeld2
      clear hHeld2
      try simp only [Act.put, List.setIfInBounds_toArray, List.set_cons_zero, List.set_cons_succ]
      refine wpAnyH_tk (i := 29) (v := ?_) rfl (by kernel_rfl) (by kernel_rfl) (by kernel_rfl) (fun _ _ _ h => h) (Or.inl ⟨by rfl, ?_⟩) hHeld ?_
      rotate_left
      · intro w hSw
        try dsimp only at hSw
        go_simp
        try with_reducible rfl
      try simp only [Act.put, List.setIfInBounds_toArray, List.set_cons_zero, List.set_cons_succ]
      refine wpAnyH_done (by kernel_rfl) ?_ _
      clear hHeld g1 g2 g3
      go_wp2_with fail
      refine ⟨⟨i + 1, a2, c2, n + 1, by omega, by omega, rfl, by go_num, zs ++ [⟨⟨kd, key, to_, xt, xs, xl⟩, la, lc⟩], ?_, ?_, ?_, fun y hy => ?_⟩, by simp [intOf]; omega⟩
      · have e1 : axcs (zs ++ [(⟨⟨kd, key, to_, xt, xs, xl⟩, la, lc⟩ : Ax)]) = axcs zs ++ [.int .i64 kd, .int .i64 key, .int .i64 to_, .bool xt, .string xs, .slice la ln lc] := by
          rw [axcs_app]
          simp [axcs, axc, unhide HLX]
        rw [e1]
        exact unhide HA2
      · rw [List.length_append, (unhide HZ).nl]; rfl
      · rw [List.map_append, (unhide HZ).map, unhide HT]; rfl
      · rcases List.mem_append.1 hy with e | e
        · exact (unhide HZ).sl y e
        · rw [List.mem_singleton.1 e]; exact unhide HLS
    · have i1 : ¬ (i : Int) < (m : Int) := by omega
      have hmp := (unhide HZ).map
      rw [List.take_of_length_le (by have := unhide HM; omega)] at hmp
      have hl : n = l.length := by rw [(unhide HZ).nl, ← hmp, List.length_map]
      have HE : Hid (ActsEnd l w0 w (.returned (.slice aO n cO)) wr) := by
        unfold ActsEnd
        rw [← hl]
        exact ⟨aO, cO, zs, rfl, kw_row (l1 := []) (unhide HZ).zoo, (unhide HZ).zoo.kp, hmp, (unhide HZ).sl⟩
      clear hmp hl
      go_wp2_with fail
      go_ret
      exact unhide HE
end Go.Proofs.Ytliopckocegknac

/- The document's Serial of deeds, by its contract. -/
namespace Go.Proofs.Ytliopckocegknac
open Go.RowKit Srt
set_option maxRecDepth 20000
attribute [local go_sem ↓] Go.wp_at_zero Go.wp_at_succ

def sN (k : Nat) (v : Nat → Ver) (ok : Bool) (l : List Dn) : (Nat → Ver) × Bool := if 0 < k then srN k v ok l else (v, ok)
theorem srs_step {ds : List Dn} {M k : Nat} (hk : k ≤ M) (v : Nat → Ver) (ok : Bool) : srs ds (M + 1 - k) k v ok = srs ds (M + 1 - (k + 1)) (k + 1) (sN k v ok ds).1 (srL k (sN k v ok ds).1 (sN k v ok ds).2 ds) := by
  rw [show M + 1 - k = (M + 1 - (k + 1)) + 1 by omega]
  rfl
set_option maxHeartbeats 8000000 in
theorem rserial (a : Option Addr) (c : Nat) (ds : List Dn) (w : World) (h : DnsIn w a ds) (hok : DnsOk ds) (hn : ∀ d, d ∈ ds → d.n ≤ 1000) :
    Calls Try.prog 48 #[.slice a ds.length c] w fun e w' => e = .returned (.bool (ser ds)) ∧ Kp [] w w' := by
  have HD := hide h
  have HO := hide hok
  have HNN := hide hn
  have hm := hok.1
  clear h hok hn
  obtain ⟨m, hmm⟩ : ∃ m, ds.length = m := ⟨_, rfl⟩
  have HM := hide hmm
  rw [hmm] at hm ⊢
  clear hmm
  obtain ⟨R, hR⟩ : ∃ R, ser ds = R := ⟨_, rfl⟩
  rw [hR]
  have HR := hide hR
  clear hR
  go_enter Try.func48, Try.ntmps48
  go_wp2_with fail
  go_loop [3, 4] (fun x y => ∃ (i : Nat) (gr : Int), i ≤ m ∧ x = .int .i64 gr ∧ y = .int .i64 i ∧ 0 ≤ gr ∧ Hid (mxn gr (ds.drop i) = mxn 0 ds)) (fun _ y => m - (intOf y).toNat)
  case atStart => exact ⟨0, 0, Nat.zero_le _, rfl, rfl, Int.le_refl _, rfl⟩
  case round =>
    obtain ⟨i, gr, hi, rfl, rfl, hg0, HX⟩ := hrel
    by_cases hlt : i < m
    · have j1 : (i : Int) < (m : Int) := by omega
      have j0 : (0 : Int) ≤ (i : Int) := by omega
      have hln : i < ds.length := by have := unhide HM; omega
      obtain ⟨g, o, rfl, hbd⟩ := (unhide HD) (by omega)
      obtain ⟨x, hx⟩ : ∃ x, ds[i]? = some x := ⟨_, List.getElem?_eq_getElem hln⟩
      have hdr : ds.drop i = x :: ds.drop (i + 1) := by
        rw [List.drop_eq_getElem_cons hln]
        rw [List.getElem?_eq_getElem hln] at hx
        rw [Option.some.inj hx]
      have HDR := hide hdr
      have q0 := (hbd i x hx).c0
      clear hbd hx hdr
      obtain ⟨xn, xa, xm, xacts⟩ := x
      dsimp only at q0
      by_cases hgt : gr < xn
      · go_wp2_with fail
        refine ⟨⟨i + 1, xn, by omega, rfl, by go_num, by omega, ?_⟩, by simp [intOf]; omega⟩
        have z := unhide HX
        rw [unhide HDR] at z
        simp only [mxn] at z
        rw [if_pos hgt] at z
        exact z
      · go_wp2_with fail
        refine ⟨⟨i + 1, gr, by omega, rfl, by go_num, hg0, ?_⟩, by simp [intOf]; omega⟩
        have z := unhide HX
        rw [unhide HDR] at z
        simp only [mxn] at z
        rw [if_neg hgt] at z
        exact z
    · have j1 : ¬ (i : Int) < (m : Int) := by omega
      have hgr : gr = mxn 0 ds := by
        have z := unhide HX
        rw [List.drop_eq_nil_of_le (by have := unhide HM; omega)] at z
        exact z
      obtain ⟨M, rfl⟩ : ∃ M : Nat, gr = (M : Int) := ⟨gr.toNat, by omega⟩
      have hM : M ≤ 1000 := by
        rcases mxn_is ds 0 with e | ⟨d, h1, h2⟩
        · omega
        · have := unhide HNN d h1; omega
      have HR2 : Hid (srs ds (M + 1 - 0) 0 (fun _ => dv) true = R) := by
        have z := unhide HR
        unfold ser at z
        rw [← hgr] at z
        exact z
      clear hgr HX HR
      have HZ0 := hide ((zoo_nil (Kp.refl [] w)).box (wagg (fun _ => dv)) 72)
      rw [zeros_eq] at HZ0
      go_wp2_with fail
      generalize w.heap.size = p5 at *
      go_loopw [6, 7, 8, 9, 10, 11, 12, 13] (fun x y _ _ _ _ _ _ wr => ∃ (k : Nat) (ok : Bool), k ≤ M + 1 ∧ x = .bool ok ∧ y = .int .i64 k ∧ Hid (∃ v, Zoo w wr [BoxT p5 (wagg v) 72] ∧ srs ds (M + 1 - k) k v ok = R)) (fun _ y _ _ _ _ _ _ _ => M + 1 - (intOf y).toNat)
      case atStart => exact ⟨0, true, Nat.zero_le _, rfl, rfl, fun _ => dv, unhide HZ0, unhide HR2⟩
      case round =>
        obtain ⟨k, ok, hk, rfl, rfl, HI⟩ := hrel
        obtain ⟨v, hz, hr⟩ := unhide HI
        have HZ := hide hz
        have HRR := hide hr
        clear hz hr HI HZ0 HR2
        by_cases hle : k ≤ M
        · have k1 : (k : Int) ≤ (M : Int) := by omega
          have HST := hide ((srs_step hle v ok).symm.trans (unhide HRR))
          clear HRR
          obtain ⟨P, hP⟩ : ∃ P, sN k v ok ds = P := ⟨_, rfl⟩
          rw [hP] at HST
          have HP := hide hP
          clear hP
          go_wp2_with fail
          go_loopw [6, 8, 9, 10] (fun x y _ _ wr => ∃ (i : Nat) (ok2 : Bool), i ≤ m ∧ x = .bool ok2 ∧ y = .int .i64 i ∧ Hid (∃ u, Zoo w wr [BoxT p5 (wagg u) 72] ∧ sN k u ok2 (ds.drop i) = P)) (fun _ y _ _ _ => m - (intOf y).toNat)
          case atStart => exact ⟨0, ok, Nat.zero_le _, rfl, rfl, v, unhide HZ, unhide HP⟩
          case round =>
            obtain ⟨i, ok2, hi2, rfl, rfl, HI⟩ := hrel
            obtain ⟨u, hz, hr⟩ := unhide HI
            have HZ2 := hide hz
            have HSN := hide hr
            clear hz hr HI HZ
            by_cases hin : i < m ∧ 0 < k
            · obtain ⟨hlt2, hk0⟩ := hin
              have k0 : (0 : Int) < (k : Int) := by omega
              have j1 : (i : Int) < (m : Int) := by omega
              have j0 : (0 : Int) ≤ (i : Int) := by omega
              have hln : i < ds.length := by have := unhide HM; omega
              obtain ⟨g, o, rfl, hbd⟩ := (unhide HD) (by omega)
              obtain ⟨x, hx⟩ : ∃ x, ds[i]? = some x := ⟨_, List.getElem?_eq_getElem hln⟩
              have hdr : ds.drop i = x :: ds.drop (i + 1) := by
                rw [List.drop_eq_getElem_cons hln]
                rw [List.getElem?_eq_getElem hln] at hx
                rw [Option.some.inj hx]
              have HDR := hide hdr
              have hok := (unhide HO).2 x (List.mem_of_getElem? hx)
              have hat := hbd i x hx
              obtain ⟨la, lc, z3, hls⟩ := hat.ls
              have q0 := (unhide HZ2).kp.cell (by simp) hat.c0
              have q1 := (unhide HZ2).kp.cell (by simp) hat.c1
              have q2 := hat.c2
              have HLS := hide hls
              clear hbd hx hls hat hdr
              obtain ⟨xn, xa, xm, xacts⟩ := x
              dsimp only at q0 q1 q2 z3 HLS hok
              have HOK := hide hok
              clear hok
              obtain ⟨ln, hlen⟩ : ∃ ln, xacts.length = ln := ⟨_, rfl⟩
              rw [hlen] at z3
              have HLX := hide hlen
              have HZ3 : Hid (w.cell? ⟨g, o + i * 4 + 3, none⟩ = some (.slice la ln lc)) := z3
              have HQ2 := hide q2
              clear hlen z3 q2
              by_cases he : xn = (k : Int)
              · go_wp2_with fail
                refine wp_region_held_drew (S := fun w' => w'.cell? ⟨g, o + i * 4 + 3, none⟩ = some (.slice la ln lc) ∧ w'.rangeAt p5 0 (wagg u).toList) (by kernel_rfl) (And.intro ((unhide HZ2).kp.drew.cell (by simp) (unhide HZ3)) (rangeAt_var (zoo_varm ((unhide HZ2).kp0 ((Kp.refl [] wr).drew)) (List.Mem.head _)))) (fun hHeld => ?_)
                have HA0 := hide ((unhide HZ2).kp0 ((Kp.refl [] wr).drew))
                generalize World.drew _ = WD at HA0 hHeld ⊢
                refine wpAnyH_tk (i := 0) rfl (by kernel_rfl) (by kernel_rfl) (by kernel_rfl) (fun _ _ _ h => h) (yields_mid (by rfl) _ rfl p5 0 rfl u (fun _ h => h.2)) hHeld ?_
                try simp only [Act.put, List.setIfInBounds_toArray, List.set_cons_zero, List.set_cons_succ]
                refine wpAnyH_tk (i := 1) (v := ?_) rfl (by kernel_rfl) (by kernel_rfl) (by kernel_rfl) (fun _ _ _ h => h) (Or.inl ⟨by rfl, ?_⟩) hHeld ?_
                rotate_left
                · intro w hSw
                  try dsimp only at hSw
                  go_simp
                  try with_reducible rfl
                try simp only [Act.put, List.setIfInBounds_toArray, List.set_cons_zero, List.set_cons_succ]
                refine wpAnyH_tk (i := 2) (v := ?_) rfl (by kernel_rfl) (by kernel_rfl) (by kernel_rfl) (fun _ _ _ h => h) (Or.inl ⟨by rfl, ?_⟩) hHeld ?_
                rotate_left
                · intro w hSw
                  try dsimp only at hSw
                  go_simp
                  try with_reducible rfl
                try simp only [Act.put, List.setIfInBounds_toArray, List.set_cons_zero, List.set_cons_succ]
                refine wpAnyH_tk (i := 3) (v := ?_) rfl (by kernel_rfl) (by kernel_rfl) (by kernel_rfl) (fun _ _ _ h => h) (Or.inl ⟨by rfl, ?_⟩) hHeld ?_
                rotate_left
                · intro w hSw
                  try dsimp only at hSw
                  go_simp
                  try with_reducible rfl
                try simp only [Act.put, List.setIfInBounds_toArray, List.set_cons_zero, List.set_cons_succ]
                refine wpAnyH_tk (i := 4) (v := ?_) rfl (by kernel_rfl) (by kernel_rfl) (by kernel_rfl) (fun _ _ _ h => h) (Or.inl ⟨by rfl, ?_⟩) hHeld ?_
                rotate_left
                · intro w hSw
                  try dsimp only at hSw
                  go_simp
                  try with_reducible rfl
                try simp only [Act.put, List.setIfInBounds_toArray, List.set_cons_zero, List.set_cons_succ]
                refine wpAnyH_tk (i := 5) (v := ?_) rfl (by kernel_rfl) (by kernel_rfl) (by kernel_rfl) (fun _ _ _ h => h) (Or.inl ⟨by rfl, ?_⟩) hHeld ?_
                rotate_left
                · intro w hSw
                  try dsimp only at hSw
                  go_simp
                  try with_reducible rfl
                try simp only [Act.put, List.setIfInBounds_toArray, List.set_cons_zero, List.set_cons_succ]
                refine wpAnyH_two (i := 6) (j := 10) rfl rfl (by kernel_rfl) (fun K hK => ?_) (fun K hK => ?_)
                · go_simp
                  rw [← unhide HLX]
                  refine (rreplay u la lc xacts _ ((unhide HLS).kp0 (unhide HA0).kp) (unhide HOK)).mono ?_
                  rintro e w6 ⟨rfl, hk6⟩
                  rw [unhide HLX]
                  have HA1 := hide ((unhide HA0).kp0 hk6)
                  clear hk6
                  go_wp2_with fail
                  refine hK.out _ _ (And.intro ((unhide HA1).kp.cell (by simp) (unhide HZ3)) (rangeAt_var (zoo_varm (unhide HA1) (List.Mem.head _)))) (fun hHeld2 => ?_)
                  clear hK K hHeld
                  have hHeld := hHeld2
                  clear hHeld2
                  try simp only [Act.put, List.setIfInBounds_toArray, List.set_cons_zero, List.set_cons_succ]
                  refine wpAnyH_tk (i := 7) (v := ?_) rfl (by kernel_rfl) (by kernel_rfl) (by kernel_rfl) (fun _ _ _ h => h) (Or.inl ⟨by rfl, ?_⟩) hHeld ?_
                  rotate_left
                  · intro w hSw
                    try dsimp only at hSw
                    go_simp
                    try with_reducible rfl
                  try simp only [Act.put, List.setIfInBounds_toArray, List.set_cons_zero, List.set_cons_succ]
                  refine wpAnyH_tk (i := 8) (v := ?_) rfl (by kernel_rfl) (by kernel_rfl) (by kernel_rfl) (fun _ _ _ h => h) (Or.inl ⟨by rfl, ?_⟩) hHeld ?_
                  rotate_left
                  · intro w hSw
                    try dsimp only at hSw
                    go_simp
                    try with_reducible rfl
                  try simp only [Act.put, List.setIfInBounds_toArray, List.set_cons_zero, List.set_cons_succ]
                  refine wpAnyH_tk (i := 9) (v := ?_) rfl (by kernel_rfl) (by kernel_rfl) (by kernel_rfl) (fun _ _ _ h => h) (Or.inl ⟨by rfl, ?_⟩) hHeld ?_
                  rotate_left
                  · intro w hSw
                    try dsimp only at hSw
                    go_simp
                    try with_reducible rfl
                  try simp only [Act.put, List.setIfInBounds_toArray, List.set_cons_zero, List.set_cons_succ]
                  refine wpAnyH_only (i := 10) rfl (by kernel_rfl) (fun K hK => ?_)
                  go_simp
                  have HA2 := hide ((unhide HA1).box (wagg (fun _ => dv)) 72)
                  rw [zeros_eq] at HA2
                  refine hK.out _ _ (And.intro ((unhide HA2).kp.cell (by simp) (unhide HZ3)) (rangeAt_var (zoo_varm (unhide HA2) (List.Mem.tail _ (List.Mem.head _))))) (fun hHeld2 => ?_)
                  clear hK K hHeld
                  have hHeld := hHeld2
                  clear hHeld2
                  try simp only [Act.put, List.setIfInBounds_toArray, List.set_cons_zero, List.set_cons_succ]
                  generalize w6.heap.size = p9 at *
                  refine wpAnyH_only (i := 11) rfl (by kernel_rfl) (fun K hK => ?_)
                  rw [if_pos (by rfl)]
                  refine wp_store_row 72 _ _ rfl p9 (wagg (rpw u xacts)) rfl rfl 72 _ (zoo_varm (unhide HA2) (List.Mem.head _)) Try.size72 rfl (wagg_one _) ?_
                  have HZF := hide (zoo_setrL (l1 := []) (c' := wagg (rpw u xacts)) (unhide HA2))
                  refine hK.out _ _ (And.intro ((unhide HZF).kp.cell (by simp) (unhide HZ3)) (rangeAt_var (zoo_varm (unhide HZF) (List.Mem.tail _ (List.Mem.head _))))) (fun hHeld2 => ?_)
                  clear hK K hHeld
                  have hHeld := hHeld2
                  clear hHeld2
                  simp only [Act.put]
                  refine wpAnyH_tk (i := 12) (v := ?_) rfl (by kernel_rfl) (by kernel_rfl) (by kernel_rfl) (fun _ _ _ h => h) (Or.inl ⟨by rfl, ?_⟩) hHeld ?_
                  rotate_left
                  · intro w hSw
                    try dsimp only at hSw
                    go_simp
                    try with_reducible rfl
                  try simp only [Act.put, List.setIfInBounds_toArray, List.set_cons_zero, List.set_cons_succ]
                  refine wpAnyH_done (by kernel_rfl) ?_ _
                  generalize World.setRow _ _ _ = W9 at HZF ⊢
                  clear hHeld
                  have HZG := hide (zoo_setrL (l1 := [BoxT p9 (wagg (rpw u xacts)) 72]) (c' := wagg (rpw u xacts)) (unhide HZF))
                  have q2 : (W9.setRow p5 (wagg (rpw u xacts))).cell? ⟨g, o + i * 4 + 2, none⟩ = some (.int .i64 xm) := (unhide HZG).kp.cell (by simp) (unhide HQ2)
                  clear q0 q1
                  cases ok2 with
                  | false =>
                    cases hro : rpo u xacts with
                    | true =>
                      have HRO := hide hro
                      clear hro
                      go_wp2_with (first | (refine wpList_load_row rfl 72 _ rfl p9 rfl 72 _ (0, 0) _ (zoo_varm (unhide HZF) (List.Mem.head _)) Try.underlying72 rfl Try.size72 ?_) | (refine wpList_store_row rfl 72 _ _ rfl p5 (wagg (rpw u xacts)) rfl rfl 72 _ (zoo_varm (unhide HZF) (List.Mem.tail _ (List.Mem.head _))) Try.size72 rfl (wagg_one _) ?_))
                      refine ⟨⟨i + 1, false, by omega, rfl, by go_num, rpw u xacts, (unhide HZG).tail, ?_⟩, by simp [intOf]; omega⟩
                      have z := unhide HSN
                      rw [unhide HDR] at z
                      unfold sN at z ⊢
                      rw [if_pos hk0] at z ⊢
                      simp only [srN] at z
                      rw [if_pos he] at z
                      rw [← z]
                      simp [unhide HRO]
                    | false =>
                      have HRO := hide hro
                      clear hro
                      go_wp2_with (first | (refine wpList_load_row rfl 72 _ rfl p9 rfl 72 _ (0, 0) _ (zoo_varm (unhide HZF) (List.Mem.head _)) Try.underlying72 rfl Try.size72 ?_) | (refine wpList_store_row rfl 72 _ _ rfl p5 (wagg (rpw u xacts)) rfl rfl 72 _ (zoo_varm (unhide HZF) (List.Mem.tail _ (List.Mem.head _))) Try.size72 rfl (wagg_one _) ?_))
                      refine ⟨⟨i + 1, false, by omega, rfl, by go_num, rpw u xacts, (unhide HZG).tail, ?_⟩, by simp [intOf]; omega⟩
                      have z := unhide HSN
                      rw [unhide HDR] at z
                      unfold sN at z ⊢
                      rw [if_pos hk0] at z ⊢
                      simp only [srN] at z
                      rw [if_pos he] at z
                      rw [← z]
                      simp [unhide HRO]
                  | true =>
                    cases hro : rpo u xacts with
                    | true =>
                      have HRO := hide hro
                      clear hro
                      go_wp2_with (first | (refine wpList_load_row rfl 72 _ rfl p9 rfl 72 _ (0, 0) _ (zoo_varm (unhide HZF) (List.Mem.head _)) Try.underlying72 rfl Try.size72 ?_) | (refine wpList_store_row rfl 72 _ _ rfl p5 (wagg (rpw u xacts)) rfl rfl 72 _ (zoo_varm (unhide HZF) (List.Mem.tail _ (List.Mem.head _))) Try.size72 rfl (wagg_one _) ?_))
                      refine ⟨⟨i + 1, true, by omega, rfl, by go_num, rpw u xacts, (unhide HZG).tail, ?_⟩, by simp [intOf]; omega⟩
                      have z := unhide HSN
                      rw [unhide HDR] at z
                      unfold sN at z ⊢
                      rw [if_pos hk0] at z ⊢
                      simp only [srN] at z
                      rw [if_pos he] at z
                      rw [← z]
                      simp [unhide HRO]
                    | false =>
                      have HRO := hide hro
                      clear hro
                      by_cases hmd : xm = 2
                      · subst hmd
                        go_wp2_with (first | (refine wpList_load_row rfl 72 _ rfl p9 rfl 72 _ (0, 0) _ (zoo_varm (unhide HZF) (List.Mem.head _)) Try.underlying72 rfl Try.size72 ?_) | (refine wpList_store_row rfl 72 _ _ rfl p5 (wagg (rpw u xacts)) rfl rfl 72 _ (zoo_varm (unhide HZF) (List.Mem.tail _ (List.Mem.head _))) Try.size72 rfl (wagg_one _) ?_))
                        refine ⟨⟨i + 1, false, by omega, rfl, by go_num, rpw u xacts, (unhide HZG).tail, ?_⟩, by simp [intOf]; omega⟩
                        have z := unhide HSN
                        rw [unhide HDR] at z
                        unfold sN at z ⊢
                        rw [if_pos hk0] at z ⊢
                        simp only [srN] at z
                        rw [if_pos he] at z
                        rw [← z]
                        simp [unhide HRO]
                      · have hmd2 : (xm != 2) = true := by simpa using hmd
                        go_wp2_with (first | (refine wpList_load_row rfl 72 _ rfl p9 rfl 72 _ (0, 0) _ (zoo_varm (unhide HZF) (List.Mem.head _)) Try.underlying72 rfl Try.size72 ?_) | (refine wpList_store_row rfl 72 _ _ rfl p5 (wagg (rpw u xacts)) rfl rfl 72 _ (zoo_varm (unhide HZF) (List.Mem.tail _ (List.Mem.head _))) Try.size72 rfl (wagg_one _) ?_))
                        refine ⟨⟨i + 1, true, by omega, rfl, by go_num, rpw u xacts, (unhide HZG).tail, ?_⟩, by simp [intOf]; omega⟩
                        have z := unhide HSN
                        rw [unhide HDR] at z
                        unfold sN at z ⊢
                        rw [if_pos hk0] at z ⊢
                        simp only [srN] at z
                        rw [if_pos he] at z
                        rw [← z]
                        simp [unhide HRO, hmd]
                · go_simp
                  have HA1 := hide ((unhide HA0).box (wagg (fun _ => dv)) 72)
                  rw [zeros_eq] at HA1
                  refine hK.out _ _ (And.intro ((unhide HA1).kp.cell (by simp) (unhide HZ3)) (rangeAt_var (zoo_varm (unhide HA1) (List.Mem.tail _ (List.Mem.head _))))) (fun hHeld2 => ?_)
                  clear hK K hHeld
                  have hHeld := hHeld2
                  clear hHeld2
                  try simp only [Act.put, List.setIfInBounds_toArray, List.set_cons_zero, List.set_cons_succ]
                  generalize WD.heap.size = p9 at *
                  refine wpAnyH_only (i := 6) rfl (by kernel_rfl) (fun K hK => ?_)
                  go_simp
                  rw [← unhide HLX]
                  refine (rreplay u la lc xacts _ ((unhide HLS).kp0 (unhide HA1).kp) (unhide HOK)).mono ?_
                  rintro e w6 ⟨rfl, hk6⟩
                  rw [unhide HLX]
                  have HA2 := hide ((unhide HA1).kp0 hk6)
                  clear hk6
                  go_wp2_with fail
                  refine hK.out _ _ (And.intro ((unhide HA2).kp.cell (by simp) (unhide HZ3)) (rangeAt_var (zoo_varm (unhide HA2) (List.Mem.tail _ (List.Mem.head _))))) (fun hHeld2 => ?_)
                  clear hK K hHeld
                  have hHeld := hHeld2
                  clear hHeld2
                  try simp only [Act.put, List.setIfInBounds_toArray, List.set_cons_zero, List.set_cons_succ]
                  refine wpAnyH_tk (i := 7) (v := ?_) rfl (by kernel_rfl) (by kernel_rfl) (by kernel_rfl) (fun _ _ _ h => h) (Or.inl ⟨by rfl, ?_⟩) hHeld ?_
                  rotate_left
                  · intro w hSw
                    try dsimp only at hSw
                    go_simp
                    try with_reducible rfl
                  try simp only [Act.put, List.setIfInBounds_toArray, List.set_cons_zero, List.set_cons_succ]
                  refine wpAnyH_tk (i := 8) (v := ?_) rfl (by kernel_rfl) (by kernel_rfl) (by kernel_rfl) (fun _ _ _ h => h) (Or.inl ⟨by rfl, ?_⟩) hHeld ?_
                  rotate_left
                  · intro w hSw
                    try dsimp only at hSw
                    go_simp
                    try with_reducible rfl
                  try simp only [Act.put, List.setIfInBounds_toArray, List.set_cons_zero, List.set_cons_succ]
                  refine wpAnyH_tk (i := 9) (v := ?_) rfl (by kernel_rfl) (by kernel_rfl) (by kernel_rfl) (fun _ _ _ h => h) (Or.inl ⟨by rfl, ?_⟩) hHeld ?_
                  rotate_left
                  · intro w hSw
                    try dsimp only at hSw
                    go_simp
                    try with_reducible rfl
                  try simp only [Act.put, List.setIfInBounds_toArray, List.set_cons_zero, List.set_cons_succ]
                  refine wpAnyH_only (i := 11) rfl (by kernel_rfl) (fun K hK => ?_)
                  rw [if_pos (by rfl)]
                  refine wp_store_row 72 _ _ rfl p9 (wagg (rpw u xacts)) rfl rfl 72 _ (zoo_varm (unhide HA2) (List.Mem.head _)) Try.size72 rfl (wagg_one _) ?_
                  have HZF := hide (zoo_setrL (l1 := []) (c' := wagg (rpw u xacts)) (unhide HA2))
                  refine hK.out _ _ (And.intro ((unhide HZF).kp.cell (by simp) (unhide HZ3)) (rangeAt_var (zoo_varm (unhide HZF) (List.Mem.tail _ (List.Mem.head _))))) (fun hHeld2 => ?_)
                  clear hK K hHeld
                  have hHeld := hHeld2
                  clear hHeld2
                  simp only [Act.put]
                  refine wpAnyH_tk (i := 12) (v := ?_) rfl (by kernel_rfl) (by kernel_rfl) (by kernel_rfl) (fun _ _ _ h => h) (Or.inl ⟨by rfl, ?_⟩) hHeld ?_
                  rotate_left
                  · intro w hSw
                    try dsimp only at hSw
                    go_simp
                    try with_reducible rfl
                  try simp only [Act.put, List.setIfInBounds_toArray, List.set_cons_zero, List.set_cons_succ]
                  refine wpAnyH_done (by kernel_rfl) ?_ _
                  generalize World.setRow _ _ _ = W9 at HZF ⊢
                  clear hHeld
                  have HZG := hide (zoo_setrL (l1 := [BoxT p9 (wagg (rpw u xacts)) 72]) (c' := wagg (rpw u xacts)) (unhide HZF))
                  have q2 : (W9.setRow p5 (wagg (rpw u xacts))).cell? ⟨g, o + i * 4 + 2, none⟩ = some (.int .i64 xm) := (unhide HZG).kp.cell (by simp) (unhide HQ2)
                  clear q0 q1
                  cases ok2 with
                  | false =>
                    cases hro : rpo u xacts with
                    | true =>
                      have HRO := hide hro
                      clear hro
                      go_wp2_with (first | (refine wpList_load_row rfl 72 _ rfl p9 rfl 72 _ (0, 0) _ (zoo_varm (unhide HZF) (List.Mem.head _)) Try.underlying72 rfl Try.size72 ?_) | (refine wpList_store_row rfl 72 _ _ rfl p5 (wagg (rpw u xacts)) rfl rfl 72 _ (zoo_varm (unhide HZF) (List.Mem.tail _ (List.Mem.head _))) Try.size72 rfl (wagg_one _) ?_))
                      refine ⟨⟨i + 1, false, by omega, rfl, by go_num, rpw u xacts, (unhide HZG).tail, ?_⟩, by simp [intOf]; omega⟩
                      have z := unhide HSN
                      rw [unhide HDR] at z
                      unfold sN at z ⊢
                      rw [if_pos hk0] at z ⊢
                      simp only [srN] at z
                      rw [if_pos he] at z
                      rw [← z]
                      simp [unhide HRO]
                    | false =>
                      have HRO := hide hro
                      clear hro
                      go_wp2_with (first | (refine wpList_load_row rfl 72 _ rfl p9 rfl 72 _ (0, 0) _ (zoo_varm (unhide HZF) (List.Mem.head _)) Try.underlying72 rfl Try.size72 ?_) | (refine wpList_store_row rfl 72 _ _ rfl p5 (wagg (rpw u xacts)) rfl rfl 72 _ (zoo_varm (unhide HZF) (List.Mem.tail _ (List.Mem.head _))) Try.size72 rfl (wagg_one _) ?_))
                      refine ⟨⟨i + 1, false, by omega, rfl, by go_num, rpw u xacts, (unhide HZG).tail, ?_⟩, by simp [intOf]; omega⟩
                      have z := unhide HSN
                      rw [unhide HDR] at z
                      unfold sN at z ⊢
                      rw [if_pos hk0] at z ⊢
                      simp only [srN] at z
                      rw [if_pos he] at z
                      rw [← z]
                      simp [unhide HRO]
                  | true =>
                    cases hro : rpo u xacts with
                    | true =>
                      have HRO := hide hro
                      clear hro
                      go_wp2_with (first | (refine wpList_load_row rfl 72 _ rfl p9 rfl 72 _ (0, 0) _ (zoo_varm (unhide HZF) (List.Mem.head _)) Try.underlying72 rfl Try.size72 ?_) | (refine wpList_store_row rfl 72 _ _ rfl p5 (wagg (rpw u xacts)) rfl rfl 72 _ (zoo_varm (unhide HZF) (List.Mem.tail _ (List.Mem.head _))) Try.size72 rfl (wagg_one _) ?_))
                      refine ⟨⟨i + 1, true, by omega, rfl, by go_num, rpw u xacts, (unhide HZG).tail, ?_⟩, by simp [intOf]; omega⟩
                      have z := unhide HSN
                      rw [unhide HDR] at z
                      unfold sN at z ⊢
                      rw [if_pos hk0] at z ⊢
                      simp only [srN] at z
                      rw [if_pos he] at z
                      rw [← z]
                      simp [unhide HRO]
                    | false =>
                      have HRO := hide hro
                      clear hro
                      by_cases hmd : xm = 2
                      · subst hmd
                        go_wp2_with (first | (refine wpList_load_row rfl 72 _ rfl p9 rfl 72 _ (0, 0) _ (zoo_varm (unhide HZF) (List.Mem.head _)) Try.underlying72 rfl Try.size72 ?_) | (refine wpList_store_row rfl 72 _ _ rfl p5 (wagg (rpw u xacts)) rfl rfl 72 _ (zoo_varm (unhide HZF) (List.Mem.tail _ (List.Mem.head _))) Try.size72 rfl (wagg_one _) ?_))
                        refine ⟨⟨i + 1, false, by omega, rfl, by go_num, rpw u xacts, (unhide HZG).tail, ?_⟩, by simp [intOf]; omega⟩
                        have z := unhide HSN
                        rw [unhide HDR] at z
                        unfold sN at z ⊢
                        rw [if_pos hk0] at z ⊢
                        simp only [srN] at z
                        rw [if_pos he] at z
                        rw [← z]
                        simp [unhide HRO]
                      · have hmd2 : (xm != 2) = true := by simpa using hmd
                        go_wp2_with (first | (refine wpList_load_row rfl 72 _ rfl p9 rfl 72 _ (0, 0) _ (zoo_varm (unhide HZF) (List.Mem.head _)) Try.underlying72 rfl Try.size72 ?_) | (refine wpList_store_row rfl 72 _ _ rfl p5 (wagg (rpw u xacts)) rfl rfl 72 _ (zoo_varm (unhide HZF) (List.Mem.tail _ (List.Mem.head _))) Try.size72 rfl (wagg_one _) ?_))
                        refine ⟨⟨i + 1, true, by omega, rfl, by go_num, rpw u xacts, (unhide HZG).tail, ?_⟩, by simp [intOf]; omega⟩
                        have z := unhide HSN
                        rw [unhide HDR] at z
                        unfold sN at z ⊢
                        rw [if_pos hk0] at z ⊢
                        simp only [srN] at z
                        rw [if_pos he] at z
                        rw [← z]
                        simp [unhide HRO, hmd]
              · have he2 : (xn == (k : Int)) = false := by simpa using he
                go_wp2_with fail
                refine ⟨⟨i + 1, ok2, by omega, rfl, by go_num, u, unhide HZ2, ?_⟩, by simp [intOf]; omega⟩
                have z := unhide HSN
                rw [unhide HDR] at z
                unfold sN at z ⊢
                rw [if_pos hk0] at z ⊢
                simp only [srN] at z
                rw [if_neg he] at z
                exact z
            · have HPU : Hid ((u, ok2) = P) := by
                have z := unhide HSN
                unfold sN at z
                by_cases hk0 : 0 < k
                · rw [if_pos hk0, List.drop_eq_nil_of_le (by have := unhide HM; omega)] at z
                  exact z
                · rw [if_neg hk0] at z
                  exact z
              have HST2 : Hid (srs ds (M + 1 - (k + 1)) (k + 1) u (srL k u ok2 ds) = R) := by
                have z := unhide HST
                rw [← unhide HPU] at z
                exact z
              clear HST HP HPU HSN
              obtain ⟨Tt, hT⟩ : ∃ Tt, srL k u ok2 ds = Tt := ⟨_, rfl⟩
              rw [hT] at HST2
              have HT := hide hT
              clear hT
              by_cases hq : i < m
              · have hk0 : k = 0 := by omega
                have k0 : ¬ (0 : Int) < (k : Int) := by omega
                have j1 : (i : Int) < (m : Int) := by omega
                clear hin
                go_wp2_with fail
                go_loopw [6, 11, 12, 13] (fun x y _ _ wr => ∃ (i : Nat) (ok2 : Bool), i ≤ m ∧ x = .bool ok2 ∧ y = .int .i64 i ∧ Hid (Zoo w wr [BoxT p5 (wagg u) 72]) ∧ Hid (srL k u ok2 (ds.drop i) = Tt)) (fun _ y _ _ _ => m - (intOf y).toNat)
                case atStart => exact ⟨0, ok2, Nat.zero_le _, rfl, rfl, unhide HZ2, unhide HT⟩
                case round =>
                  clear HZ2 HT
                  obtain ⟨i, ok2, hi2, rfl, rfl, HZ2, HSL⟩ := hrel
                  by_cases hlt2 : i < m
                  · skip
                    have j1 : (i : Int) < (m : Int) := by omega
                    have j0 : (0 : Int) ≤ (i : Int) := by omega
                    have hln : i < ds.length := by have := unhide HM; omega
                    obtain ⟨g, o, rfl, hbd⟩ := (unhide HD) (by omega)
                    obtain ⟨x, hx⟩ : ∃ x, ds[i]? = some x := ⟨_, List.getElem?_eq_getElem hln⟩
                    have hdr : ds.drop i = x :: ds.drop (i + 1) := by
                      rw [List.drop_eq_getElem_cons hln]
                      rw [List.getElem?_eq_getElem hln] at hx
                      rw [Option.some.inj hx]
                    have HDR := hide hdr
                    have hok := (unhide HO).2 x (List.mem_of_getElem? hx)
                    have hat := hbd i x hx
                    obtain ⟨la, lc, z3, hls⟩ := hat.ls
                    have q0 := (unhide HZ2).kp.cell (by simp) hat.c0
                    have q1 := (unhide HZ2).kp.cell (by simp) hat.c1
                    have q2 := hat.c2
                    have HLS := hide hls
                    clear hbd hx hls hat hdr
                    obtain ⟨xn, xa, xm, xacts⟩ := x
                    dsimp only at q0 q1 q2 z3 HLS hok
                    have HOK := hide hok
                    clear hok
                    obtain ⟨ln, hlen⟩ : ∃ ln, xacts.length = ln := ⟨_, rfl⟩
                    rw [hlen] at z3
                    have HLX := hide hlen
                    have HZ3 : Hid (w.cell? ⟨g, o + i * 4 + 3, none⟩ = some (.slice la ln lc)) := z3
                    have HQ2 := hide q2
                    clear hlen z3 q2
                    by_cases he : xn = 0
                    · by_cases ha : xa = (k : Int)
                      · go_wp2_with fail
                        refine wp_region_held_drew (S := fun w' => w'.cell? ⟨g, o + i * 4 + 3, none⟩ = some (.slice la ln lc) ∧ w'.rangeAt p5 0 (wagg u).toList) (by kernel_rfl) (And.intro ((unhide HZ2).kp.drew.cell (by simp) (unhide HZ3)) (rangeAt_var (zoo_varm ((unhide HZ2).kp0 ((Kp.refl [] wr).drew)) (List.Mem.head _)))) (fun hHeld => ?_)
                        have HA0 := hide ((unhide HZ2).kp0 ((Kp.refl [] wr).drew))
                        generalize World.drew _ = WD at HA0 hHeld ⊢
                        refine wpAnyH_tk (i := 0) rfl (by kernel_rfl) (by kernel_rfl) (by kernel_rfl) (fun _ _ _ h => h) (yields_mid (by rfl) _ rfl p5 0 rfl u (fun _ h => h.2)) hHeld ?_
                        try simp only [Act.put, List.setIfInBounds_toArray, List.set_cons_zero, List.set_cons_succ]
                        refine wpAnyH_tk (i := 1) (v := ?_) rfl (by kernel_rfl) (by kernel_rfl) (by kernel_rfl) (fun _ _ _ h => h) (Or.inl ⟨by rfl, ?_⟩) hHeld ?_
                        rotate_left
                        · intro w hSw
                          try dsimp only at hSw
                          go_simp
                          try with_reducible rfl
                        try simp only [Act.put, List.setIfInBounds_toArray, List.set_cons_zero, List.set_cons_succ]
                        refine wpAnyH_tk (i := 2) (v := ?_) rfl (by kernel_rfl) (by kernel_rfl) (by kernel_rfl) (fun _ _ _ h => h) (Or.inl ⟨by rfl, ?_⟩) hHeld ?_
                        rotate_left
                        · intro w hSw
                          try dsimp only at hSw
                          go_simp
                          try with_reducible rfl
                        try simp only [Act.put, List.setIfInBounds_toArray, List.set_cons_zero, List.set_cons_succ]
                        refine wpAnyH_tk (i := 3) (v := ?_) rfl (by kernel_rfl) (by kernel_rfl) (by kernel_rfl) (fun _ _ _ h => h) (Or.inl ⟨by rfl, ?_⟩) hHeld ?_
                        rotate_left
                        · intro w hSw
                          try dsimp only at hSw
                          go_simp
                          try with_reducible rfl
                        try simp only [Act.put, List.setIfInBounds_toArray, List.set_cons_zero, List.set_cons_succ]
                        refine wpAnyH_tk (i := 4) (v := ?_) rfl (by kernel_rfl) (by kernel_rfl) (by kernel_rfl) (fun _ _ _ h => h) (Or.inl ⟨by rfl, ?_⟩) hHeld ?_
                        rotate_left
                        · intro w hSw
                          try dsimp only at hSw
                          go_simp
                          try with_reducible rfl
                        try simp only [Act.put, List.setIfInBounds_toArray, List.set_cons_zero, List.set_cons_succ]
                        refine wpAnyH_tk (i := 5) (v := ?_) rfl (by kernel_rfl) (by kernel_rfl) (by kernel_rfl) (fun _ _ _ h => h) (Or.inl ⟨by rfl, ?_⟩) hHeld ?_
                        rotate_left
                        · intro w hSw
                          try dsimp only at hSw
                          go_simp
                          try with_reducible rfl
                        try simp only [Act.put, List.setIfInBounds_toArray, List.set_cons_zero, List.set_cons_succ]
                        refine wpAnyH_two (i := 6) (j := 10) rfl rfl (by kernel_rfl) (fun K hK => ?_) (fun K hK => ?_)
                        · go_simp
                          rw [← unhide HLX]
                          refine (rreplay u la lc xacts _ ((unhide HLS).kp0 (unhide HA0).kp) (unhide HOK)).mono ?_
                          rintro e w6 ⟨rfl, hk6⟩
                          rw [unhide HLX]
                          have HA1 := hide ((unhide HA0).kp0 hk6)
                          clear hk6
                          go_wp2_with fail
                          refine hK.out _ _ (And.intro ((unhide HA1).kp.cell (by simp) (unhide HZ3)) (rangeAt_var (zoo_varm (unhide HA1) (List.Mem.head _)))) (fun hHeld2 => ?_)
                          clear hK K hHeld
                          have hHeld := hHeld2
                          clear hHeld2
                          try simp only [Act.put, List.setIfInBounds_toArray, List.set_cons_zero, List.set_cons_succ]
                          refine wpAnyH_tk (i := 7) (v := ?_) rfl (by kernel_rfl) (by kernel_rfl) (by kernel_rfl) (fun _ _ _ h => h) (Or.inl ⟨by rfl, ?_⟩) hHeld ?_
                          rotate_left
                          · intro w hSw
                            try dsimp only at hSw
                            go_simp
                            try with_reducible rfl
                          try simp only [Act.put, List.setIfInBounds_toArray, List.set_cons_zero, List.set_cons_succ]
                          refine wpAnyH_tk (i := 8) (v := ?_) rfl (by kernel_rfl) (by kernel_rfl) (by kernel_rfl) (fun _ _ _ h => h) (Or.inl ⟨by rfl, ?_⟩) hHeld ?_
                          rotate_left
                          · intro w hSw
                            try dsimp only at hSw
                            go_simp
                            try with_reducible rfl
                          try simp only [Act.put, List.setIfInBounds_toArray, List.set_cons_zero, List.set_cons_succ]
                          refine wpAnyH_tk (i := 9) (v := ?_) rfl (by kernel_rfl) (by kernel_rfl) (by kernel_rfl) (fun _ _ _ h => h) (Or.inl ⟨by rfl, ?_⟩) hHeld ?_
                          rotate_left
                          · intro w hSw
                            try dsimp only at hSw
                            go_simp
                            try with_reducible rfl
                          try simp only [Act.put, List.setIfInBounds_toArray, List.set_cons_zero, List.set_cons_succ]
                          refine wpAnyH_only (i := 10) rfl (by kernel_rfl) (fun K hK => ?_)
                          go_simp
                          have HA2 := hide ((unhide HA1).box (wagg (fun _ => dv)) 72)
                          rw [zeros_eq] at HA2
                          refine hK.out _ _ (And.intro ((unhide HA2).kp.cell (by simp) (unhide HZ3)) (rangeAt_var (zoo_varm (unhide HA2) (List.Mem.tail _ (List.Mem.head _))))) (fun hHeld2 => ?_)
                          clear hK K hHeld
                          have hHeld := hHeld2
                          clear hHeld2
                          try simp only [Act.put, List.setIfInBounds_toArray, List.set_cons_zero, List.set_cons_succ]
                          generalize w6.heap.size = p9 at *
                          refine wpAnyH_only (i := 11) rfl (by kernel_rfl) (fun K hK => ?_)
                          rw [if_pos (by rfl)]
                          refine wp_store_row 72 _ _ rfl p9 (wagg (rpw u xacts)) rfl rfl 72 _ (zoo_varm (unhide HA2) (List.Mem.head _)) Try.size72 rfl (wagg_one _) ?_
                          have HZF := hide (zoo_setrL (l1 := []) (c' := wagg (rpw u xacts)) (unhide HA2))
                          refine hK.out _ _ (And.intro ((unhide HZF).kp.cell (by simp) (unhide HZ3)) (rangeAt_var (zoo_varm (unhide HZF) (List.Mem.tail _ (List.Mem.head _))))) (fun hHeld2 => ?_)
                          clear hK K hHeld
                          have hHeld := hHeld2
                          clear hHeld2
                          simp only [Act.put]
                          refine wpAnyH_tk (i := 12) (v := ?_) rfl (by kernel_rfl) (by kernel_rfl) (by kernel_rfl) (fun _ _ _ h => h) (Or.inl ⟨by rfl, ?_⟩) hHeld ?_
                          rotate_left
                          · intro w hSw
                            try dsimp only at hSw
                            go_simp
                            try with_reducible rfl
                          try simp only [Act.put, List.setIfInBounds_toArray, List.set_cons_zero, List.set_cons_succ]
                          refine wpAnyH_done (by kernel_rfl) ?_ _
                          generalize World.setRow _ _ _ = W9 at HZF ⊢
                          clear hHeld
                          clear q0 q1
                          cases ok2 with
                          | false =>
                            cases hro : rpo u xacts with
                            | true =>
                              have HRO := hide hro
                              clear hro
                              go_wp2_with fail
                              refine ⟨⟨i + 1, false, by omega, rfl, by go_num, (unhide HZF).tail, ?_⟩, by simp [intOf]; omega⟩
                              show srL k u false (ds.drop (i + 1)) = Tt
                              have z := unhide HSL
                              rw [unhide HDR] at z
                              simp only [srL] at z
                              rw [if_pos ⟨he, ha⟩] at z
                              rw [← z]
                              simp [unhide HRO]
                            | false =>
                              have HRO := hide hro
                              clear hro
                              go_wp2_with fail
                              refine ⟨⟨i + 1, false, by omega, rfl, by go_num, (unhide HZF).tail, ?_⟩, by simp [intOf]; omega⟩
                              show srL k u false (ds.drop (i + 1)) = Tt
                              have z := unhide HSL
                              rw [unhide HDR] at z
                              simp only [srL] at z
                              rw [if_pos ⟨he, ha⟩] at z
                              rw [← z]
                              simp [unhide HRO]
                          | true =>
                            cases hro : rpo u xacts with
                            | true =>
                              have HRO := hide hro
                              clear hro
                              go_wp2_with fail
                              refine ⟨⟨i + 1, true, by omega, rfl, by go_num, (unhide HZF).tail, ?_⟩, by simp [intOf]; omega⟩
                              show srL k u true (ds.drop (i + 1)) = Tt
                              have z := unhide HSL
                              rw [unhide HDR] at z
                              simp only [srL] at z
                              rw [if_pos ⟨he, ha⟩] at z
                              rw [← z]
                              simp [unhide HRO]
                            | false =>
                              have HRO := hide hro
                              clear hro
                              go_wp2_with fail
                              refine ⟨⟨i + 1, false, by omega, rfl, by go_num, (unhide HZF).tail, ?_⟩, by simp [intOf]; omega⟩
                              show srL k u false (ds.drop (i + 1)) = Tt
                              have z := unhide HSL
                              rw [unhide HDR] at z
                              simp only [srL] at z
                              rw [if_pos ⟨he, ha⟩] at z
                              rw [← z]
                              simp [unhide HRO]
                        · go_simp
                          have HA1 := hide ((unhide HA0).box (wagg (fun _ => dv)) 72)
                          rw [zeros_eq] at HA1
                          refine hK.out _ _ (And.intro ((unhide HA1).kp.cell (by simp) (unhide HZ3)) (rangeAt_var (zoo_varm (unhide HA1) (List.Mem.tail _ (List.Mem.head _))))) (fun hHeld2 => ?_)
                          clear hK K hHeld
                          have hHeld := hHeld2
                          clear hHeld2
                          try simp only [Act.put, List.setIfInBounds_toArray, List.set_cons_zero, List.set_cons_succ]
                          generalize WD.heap.size = p9 at *
                          refine wpAnyH_only (i := 6) rfl (by kernel_rfl) (fun K hK => ?_)
                          go_simp
                          rw [← unhide HLX]
                          refine (rreplay u la lc xacts _ ((unhide HLS).kp0 (unhide HA1).kp) (unhide HOK)).mono ?_
                          rintro e w6 ⟨rfl, hk6⟩
                          rw [unhide HLX]
                          have HA2 := hide ((unhide HA1).kp0 hk6)
                          clear hk6
                          go_wp2_with fail
                          refine hK.out _ _ (And.intro ((unhide HA2).kp.cell (by simp) (unhide HZ3)) (rangeAt_var (zoo_varm (unhide HA2) (List.Mem.tail _ (List.Mem.head _))))) (fun hHeld2 => ?_)
                          clear hK K hHeld
                          have hHeld := hHeld2
                          clear hHeld2
                          try simp only [Act.put, List.setIfInBounds_toArray, List.set_cons_zero, List.set_cons_succ]
                          refine wpAnyH_tk (i := 7) (v := ?_) rfl (by kernel_rfl) (by kernel_rfl) (by kernel_rfl) (fun _ _ _ h => h) (Or.inl ⟨by rfl, ?_⟩) hHeld ?_
                          rotate_left
                          · intro w hSw
                            try dsimp only at hSw
                            go_simp
                            try with_reducible rfl
                          try simp only [Act.put, List.setIfInBounds_toArray, List.set_cons_zero, List.set_cons_succ]
                          refine wpAnyH_tk (i := 8) (v := ?_) rfl (by kernel_rfl) (by kernel_rfl) (by kernel_rfl) (fun _ _ _ h => h) (Or.inl ⟨by rfl, ?_⟩) hHeld ?_
                          rotate_left
                          · intro w hSw
                            try dsimp only at hSw
                            go_simp
                            try with_reducible rfl
                          try simp only [Act.put, List.setIfInBounds_toArray, List.set_cons_zero, List.set_cons_succ]
                          refine wpAnyH_tk (i := 9) (v := ?_) rfl (by kernel_rfl) (by kernel_rfl) (by kernel_rfl) (fun _ _ _ h => h) (Or.inl ⟨by rfl, ?_⟩) hHeld ?_
                          rotate_left
                          · intro w hSw
                            try dsimp only at hSw
                            go_simp
                            try with_reducible rfl
                          try simp only [Act.put, List.setIfInBounds_toArray, List.set_cons_zero, List.set_cons_succ]
                          refine wpAnyH_only (i := 11) rfl (by kernel_rfl) (fun K hK => ?_)
                          rw [if_pos (by rfl)]
                          refine wp_store_row 72 _ _ rfl p9 (wagg (rpw u xacts)) rfl rfl 72 _ (zoo_varm (unhide HA2) (List.Mem.head _)) Try.size72 rfl (wagg_one _) ?_
                          have HZF := hide (zoo_setrL (l1 := []) (c' := wagg (rpw u xacts)) (unhide HA2))
                          refine hK.out _ _ (And.intro ((unhide HZF).kp.cell (by simp) (unhide HZ3)) (rangeAt_var (zoo_varm (unhide HZF) (List.Mem.tail _ (List.Mem.head _))))) (fun hHeld2 => ?_)
                          clear hK K hHeld
                          have hHeld := hHeld2
                          clear hHeld2
                          simp only [Act.put]
                          refine wpAnyH_tk (i := 12) (v := ?_) rfl (by kernel_rfl) (by kernel_rfl) (by kernel_rfl) (fun _ _ _ h => h) (Or.inl ⟨by rfl, ?_⟩) hHeld ?_
                          rotate_left
                          · intro w hSw
                            try dsimp only at hSw
                            go_simp
                            try with_reducible rfl
                          try simp only [Act.put, List.setIfInBounds_toArray, List.set_cons_zero, List.set_cons_succ]
                          refine wpAnyH_done (by kernel_rfl) ?_ _
                          generalize World.setRow _ _ _ = W9 at HZF ⊢
                          clear hHeld
                          clear q0 q1
                          cases ok2 with
                          | false =>
                            cases hro : rpo u xacts with
                            | true =>
                              have HRO := hide hro
                              clear hro
                              go_wp2_with fail
                              refine ⟨⟨i + 1, false, by omega, rfl, by go_num, (unhide HZF).tail, ?_⟩, by simp [intOf]; omega⟩
                              show srL k u false (ds.drop (i + 1)) = Tt
                              have z := unhide HSL
                              rw [unhide HDR] at z
                              simp only [srL] at z
                              rw [if_pos ⟨he, ha⟩] at z
                              rw [← z]
                              simp [unhide HRO]
                            | false =>
                              have HRO := hide hro
                              clear hro
                              go_wp2_with fail
                              refine ⟨⟨i + 1, false, by omega, rfl, by go_num, (unhide HZF).tail, ?_⟩, by simp [intOf]; omega⟩
                              show srL k u false (ds.drop (i + 1)) = Tt
                              have z := unhide HSL
                              rw [unhide HDR] at z
                              simp only [srL] at z
                              rw [if_pos ⟨he, ha⟩] at z
                              rw [← z]
                              simp [unhide HRO]
                          | true =>
                            cases hro : rpo u xacts with
                            | true =>
                              have HRO := hide hro
                              clear hro
                              go_wp2_with fail
                              refine ⟨⟨i + 1, true, by omega, rfl, by go_num, (unhide HZF).tail, ?_⟩, by simp [intOf]; omega⟩
                              show srL k u true (ds.drop (i + 1)) = Tt
                              have z := unhide HSL
                              rw [unhide HDR] at z
                              simp only [srL] at z
                              rw [if_pos ⟨he, ha⟩] at z
                              rw [← z]
                              simp [unhide HRO]
                            | false =>
                              have HRO := hide hro
                              clear hro
                              go_wp2_with fail
                              refine ⟨⟨i + 1, false, by omega, rfl, by go_num, (unhide HZF).tail, ?_⟩, by simp [intOf]; omega⟩
                              show srL k u false (ds.drop (i + 1)) = Tt
                              have z := unhide HSL
                              rw [unhide HDR] at z
                              simp only [srL] at z
                              rw [if_pos ⟨he, ha⟩] at z
                              rw [← z]
                              simp [unhide HRO]
                      · skip
                        have ha2 : (xa == (k : Int)) = false := by simpa using ha
                        go_wp2_with fail
                        refine ⟨⟨i + 1, ok2, by omega, rfl, by go_num, unhide HZ2, ?_⟩, by simp [intOf]; omega⟩
                        have z := unhide HSL
                        rw [unhide HDR] at z
                        simp only [srL] at z
                        rw [if_neg (fun q => ha q.2)] at z
                        exact z
                    · skip
                      have he2 : (xn == 0) = false := by simpa using he
                      go_wp2_with fail
                      refine ⟨⟨i + 1, ok2, by omega, rfl, by go_num, unhide HZ2, ?_⟩, by simp [intOf]; omega⟩
                      have z := unhide HSL
                      rw [unhide HDR] at z
                      simp only [srL] at z
                      rw [if_neg (fun q => he q.1)] at z
                      exact z
                  · have j1 : ¬ (i : Int) < (m : Int) := by omega
                    have HTO : Hid (ok2 = Tt) := by
                      have z := unhide HSL
                      rw [List.drop_eq_nil_of_le (by have := unhide HM; omega)] at z
                      exact z
                    rw [← unhide HTO] at HST2
                    go_wp2_with fail
                    exact ⟨⟨k + 1, ok2, by omega, rfl, by go_num, u, unhide HZ2, unhide HST2⟩, by simp [intOf]; omega⟩
              · have j1 : ¬ (i : Int) < (m : Int) := by omega
                clear hin
                go_wp2_with fail
                go_loopw [6, 11, 12, 13] (fun x y _ _ wr => ∃ (i : Nat) (ok2 : Bool), i ≤ m ∧ x = .bool ok2 ∧ y = .int .i64 i ∧ Hid (Zoo w wr [BoxT p5 (wagg u) 72]) ∧ Hid (srL k u ok2 (ds.drop i) = Tt)) (fun _ y _ _ _ => m - (intOf y).toNat)
                case atStart => exact ⟨0, ok2, Nat.zero_le _, rfl, rfl, unhide HZ2, unhide HT⟩
                case round =>
                  clear HZ2 HT
                  obtain ⟨i, ok2, hi2, rfl, rfl, HZ2, HSL⟩ := hrel
                  by_cases hlt2 : i < m
                  · skip
                    have j1 : (i : Int) < (m : Int) := by omega
                    have j0 : (0 : Int) ≤ (i : Int) := by omega
                    have hln : i < ds.length := by have := unhide HM; omega
                    obtain ⟨g, o, rfl, hbd⟩ := (unhide HD) (by omega)
                    obtain ⟨x, hx⟩ : ∃ x, ds[i]? = some x := ⟨_, List.getElem?_eq_getElem hln⟩
                    have hdr : ds.drop i = x :: ds.drop (i + 1) := by
                      rw [List.drop_eq_getElem_cons hln]
                      rw [List.getElem?_eq_getElem hln] at hx
                      rw [Option.some.inj hx]
                    have HDR := hide hdr
                    have hok := (unhide HO).2 x (List.mem_of_getElem? hx)
                    have hat := hbd i x hx
                    obtain ⟨la, lc, z3, hls⟩ := hat.ls
                    have q0 := (unhide HZ2).kp.cell (by simp) hat.c0
                    have q1 := (unhide HZ2).kp.cell (by simp) hat.c1
                    have q2 := hat.c2
                    have HLS := hide hls
                    clear hbd hx hls hat hdr
                    obtain ⟨xn, xa, xm, xacts⟩ := x
                    dsimp only at q0 q1 q2 z3 HLS hok
                    have HOK := hide hok
                    clear hok
                    obtain ⟨ln, hlen⟩ : ∃ ln, xacts.length = ln := ⟨_, rfl⟩
                    rw [hlen] at z3
                    have HLX := hide hlen
                    have HZ3 : Hid (w.cell? ⟨g, o + i * 4 + 3, none⟩ = some (.slice la ln lc)) := z3
                    have HQ2 := hide q2
                    clear hlen z3 q2
                    by_cases he : xn = 0
                    · by_cases ha : xa = (k : Int)
                      · go_wp2_with fail
                        refine wp_region_held_drew (S := fun w' => w'.cell? ⟨g, o + i * 4 + 3, none⟩ = some (.slice la ln lc) ∧ w'.rangeAt p5 0 (wagg u).toList) (by kernel_rfl) (And.intro ((unhide HZ2).kp.drew.cell (by simp) (unhide HZ3)) (rangeAt_var (zoo_varm ((unhide HZ2).kp0 ((Kp.refl [] wr).drew)) (List.Mem.head _)))) (fun hHeld => ?_)
                        have HA0 := hide ((unhide HZ2).kp0 ((Kp.refl [] wr).drew))
                        generalize World.drew _ = WD at HA0 hHeld ⊢
                        refine wpAnyH_tk (i := 0) rfl (by kernel_rfl) (by kernel_rfl) (by kernel_rfl) (fun _ _ _ h => h) (yields_mid (by rfl) _ rfl p5 0 rfl u (fun _ h => h.2)) hHeld ?_
                        try simp only [Act.put, List.setIfInBounds_toArray, List.set_cons_zero, List.set_cons_succ]
                        refine wpAnyH_tk (i := 1) (v := ?_) rfl (by kernel_rfl) (by kernel_rfl) (by kernel_rfl) (fun _ _ _ h => h) (Or.inl ⟨by rfl, ?_⟩) hHeld ?_
                        rotate_left
                        · intro w hSw
                          try dsimp only at hSw
                          go_simp
                          try with_reducible rfl
                        try simp only [Act.put, List.setIfInBounds_toArray, List.set_cons_zero, List.set_cons_succ]
                        refine wpAnyH_tk (i := 2) (v := ?_) rfl (by kernel_rfl) (by kernel_rfl) (by kernel_rfl) (fun _ _ _ h => h) (Or.inl ⟨by rfl, ?_⟩) hHeld ?_
                        rotate_left
                        · intro w hSw
                          try dsimp only at hSw
                          go_simp
                          try with_reducible rfl
                        try simp only [Act.put, List.setIfInBounds_toArray, List.set_cons_zero, List.set_cons_succ]
                        refine wpAnyH_tk (i := 3) (v := ?_) rfl (by kernel_rfl) (by kernel_rfl) (by kernel_rfl) (fun _ _ _ h => h) (Or.inl ⟨by rfl, ?_⟩) hHeld ?_
                        rotate_left
                        · intro w hSw
                          try dsimp only at hSw
                          go_simp
                          try with_reducible rfl
                        try simp only [Act.put, List.setIfInBounds_toArray, List.set_cons_zero, List.set_cons_succ]
                        refine wpAnyH_tk (i := 4) (v := ?_) rfl (by kernel_rfl) (by kernel_rfl) (by kernel_rfl) (fun _ _ _ h => h) (Or.inl ⟨by rfl, ?_⟩) hHeld ?_
                        rotate_left
                        · intro w hSw
                          try dsimp only at hSw
                          go_simp
                          try with_reducible rfl
                        try simp only [Act.put, List.setIfInBounds_toArray, List.set_cons_zero, List.set_cons_succ]
                        refine wpAnyH_tk (i := 5) (v := ?_) rfl (by kernel_rfl) (by kernel_rfl) (by kernel_rfl) (fun _ _ _ h => h) (Or.inl ⟨by rfl, ?_⟩) hHeld ?_
                        rotate_left
                        · intro w hSw
                          try dsimp only at hSw
                          go_simp
                          try with_reducible rfl
                        try simp only [Act.put, List.setIfInBounds_toArray, List.set_cons_zero, List.set_cons_succ]
                        refine wpAnyH_two (i := 6) (j := 10) rfl rfl (by kernel_rfl) (fun K hK => ?_) (fun K hK => ?_)
                        · go_simp
                          rw [← unhide HLX]
                          refine (rreplay u la lc xacts _ ((unhide HLS).kp0 (unhide HA0).kp) (unhide HOK)).mono ?_
                          rintro e w6 ⟨rfl, hk6⟩
                          rw [unhide HLX]
                          have HA1 := hide ((unhide HA0).kp0 hk6)
                          clear hk6
                          go_wp2_with fail
                          refine hK.out _ _ (And.intro ((unhide HA1).kp.cell (by simp) (unhide HZ3)) (rangeAt_var (zoo_varm (unhide HA1) (List.Mem.head _)))) (fun hHeld2 => ?_)
                          clear hK K hHeld
                          have hHeld := hHeld2
                          clear hHeld2
                          try simp only [Act.put, List.setIfInBounds_toArray, List.set_cons_zero, List.set_cons_succ]
                          refine wpAnyH_tk (i := 7) (v := ?_) rfl (by kernel_rfl) (by kernel_rfl) (by kernel_rfl) (fun _ _ _ h => h) (Or.inl ⟨by rfl, ?_⟩) hHeld ?_
                          rotate_left
                          · intro w hSw
                            try dsimp only at hSw
                            go_simp
                            try with_reducible rfl
                          try simp only [Act.put, List.setIfInBounds_toArray, List.set_cons_zero, List.set_cons_succ]
                          refine wpAnyH_tk (i := 8) (v := ?_) rfl (by kernel_rfl) (by kernel_rfl) (by kernel_rfl) (fun _ _ _ h => h) (Or.inl ⟨by rfl, ?_⟩) hHeld ?_
                          rotate_left
                          · intro w hSw
                            try dsimp only at hSw
                            go_simp
                            try with_reducible rfl
                          try simp only [Act.put, List.setIfInBounds_toArray, List.set_cons_zero, List.set_cons_succ]
                          refine wpAnyH_tk (i := 9) (v := ?_) rfl (by kernel_rfl) (by kernel_rfl) (by kernel_rfl) (fun _ _ _ h => h) (Or.inl ⟨by rfl, ?_⟩) hHeld ?_
                          rotate_left
                          · intro w hSw
                            try dsimp only at hSw
                            go_simp
                            try with_reducible rfl
                          try simp only [Act.put, List.setIfInBounds_toArray, List.set_cons_zero, List.set_cons_succ]
                          refine wpAnyH_only (i := 10) rfl (by kernel_rfl) (fun K hK => ?_)
                          go_simp
                          have HA2 := hide ((unhide HA1).box (wagg (fun _ => dv)) 72)
                          rw [zeros_eq] at HA2
                          refine hK.out _ _ (And.intro ((unhide HA2).kp.cell (by simp) (unhide HZ3)) (rangeAt_var (zoo_varm (unhide HA2) (List.Mem.tail _ (List.Mem.head _))))) (fun hHeld2 => ?_)
                          clear hK K hHeld
                          have hHeld := hHeld2
                          clear hHeld2
                          try simp only [Act.put, List.setIfInBounds_toArray, List.set_cons_zero, List.set_cons_succ]
                          generalize w6.heap.size = p9 at *
                          refine wpAnyH_only (i := 11) rfl (by kernel_rfl) (fun K hK => ?_)
                          rw [if_pos (by rfl)]
                          refine wp_store_row 72 _ _ rfl p9 (wagg (rpw u xacts)) rfl rfl 72 _ (zoo_varm (unhide HA2) (List.Mem.head _)) Try.size72 rfl (wagg_one _) ?_
                          have HZF := hide (zoo_setrL (l1 := []) (c' := wagg (rpw u xacts)) (unhide HA2))
                          refine hK.out _ _ (And.intro ((unhide HZF).kp.cell (by simp) (unhide HZ3)) (rangeAt_var (zoo_varm (unhide HZF) (List.Mem.tail _ (List.Mem.head _))))) (fun hHeld2 => ?_)
                          clear hK K hHeld
                          have hHeld := hHeld2
                          clear hHeld2
                          simp only [Act.put]
                          refine wpAnyH_tk (i := 12) (v := ?_) rfl (by kernel_rfl) (by kernel_rfl) (by kernel_rfl) (fun _ _ _ h => h) (Or.inl ⟨by rfl, ?_⟩) hHeld ?_
                          rotate_left
                          · intro w hSw
                            try dsimp only at hSw
                            go_simp
                            try with_reducible rfl
                          try simp only [Act.put, List.setIfInBounds_toArray, List.set_cons_zero, List.set_cons_succ]
                          refine wpAnyH_done (by kernel_rfl) ?_ _
                          generalize World.setRow _ _ _ = W9 at HZF ⊢
                          clear hHeld
                          clear q0 q1
                          cases ok2 with
                          | false =>
                            cases hro : rpo u xacts with
                            | true =>
                              have HRO := hide hro
                              clear hro
                              go_wp2_with fail
                              refine ⟨⟨i + 1, false, by omega, rfl, by go_num, (unhide HZF).tail, ?_⟩, by simp [intOf]; omega⟩
                              show srL k u false (ds.drop (i + 1)) = Tt
                              have z := unhide HSL
                              rw [unhide HDR] at z
                              simp only [srL] at z
                              rw [if_pos ⟨he, ha⟩] at z
                              rw [← z]
                              simp [unhide HRO]
                            | false =>
                              have HRO := hide hro
                              clear hro
                              go_wp2_with fail
                              refine ⟨⟨i + 1, false, by omega, rfl, by go_num, (unhide HZF).tail, ?_⟩, by simp [intOf]; omega⟩
                              show srL k u false (ds.drop (i + 1)) = Tt
                              have z := unhide HSL
                              rw [unhide HDR] at z
                              simp only [srL] at z
                              rw [if_pos ⟨he, ha⟩] at z
                              rw [← z]
                              simp [unhide HRO]
                          | true =>
                            cases hro : rpo u xacts with
                            | true =>
                              have HRO := hide hro
                              clear hro
                              go_wp2_with fail
                              refine ⟨⟨i + 1, true, by omega, rfl, by go_num, (unhide HZF).tail, ?_⟩, by simp [intOf]; omega⟩
                              show srL k u true (ds.drop (i + 1)) = Tt
                              have z := unhide HSL
                              rw [unhide HDR] at z
                              simp only [srL] at z
                              rw [if_pos ⟨he, ha⟩] at z
                              rw [← z]
                              simp [unhide HRO]
                            | false =>
                              have HRO := hide hro
                              clear hro
                              go_wp2_with fail
                              refine ⟨⟨i + 1, false, by omega, rfl, by go_num, (unhide HZF).tail, ?_⟩, by simp [intOf]; omega⟩
                              show srL k u false (ds.drop (i + 1)) = Tt
                              have z := unhide HSL
                              rw [unhide HDR] at z
                              simp only [srL] at z
                              rw [if_pos ⟨he, ha⟩] at z
                              rw [← z]
                              simp [unhide HRO]
                        · go_simp
                          have HA1 := hide ((unhide HA0).box (wagg (fun _ => dv)) 72)
                          rw [zeros_eq] at HA1
                          refine hK.out _ _ (And.intro ((unhide HA1).kp.cell (by simp) (unhide HZ3)) (rangeAt_var (zoo_varm (unhide HA1) (List.Mem.tail _ (List.Mem.head _))))) (fun hHeld2 => ?_)
                          clear hK K hHeld
                          have hHeld := hHeld2
                          clear hHeld2
                          try simp only [Act.put, List.setIfInBounds_toArray, List.set_cons_zero, List.set_cons_succ]
                          generalize WD.heap.size = p9 at *
                          refine wpAnyH_only (i := 6) rfl (by kernel_rfl) (fun K hK => ?_)
                          go_simp
                          rw [← unhide HLX]
                          refine (rreplay u la lc xacts _ ((unhide HLS).kp0 (unhide HA1).kp) (unhide HOK)).mono ?_
                          rintro e w6 ⟨rfl, hk6⟩
                          rw [unhide HLX]
                          have HA2 := hide ((unhide HA1).kp0 hk6)
                          clear hk6
                          go_wp2_with fail
                          refine hK.out _ _ (And.intro ((unhide HA2).kp.cell (by simp) (unhide HZ3)) (rangeAt_var (zoo_varm (unhide HA2) (List.Mem.tail _ (List.Mem.head _))))) (fun hHeld2 => ?_)
                          clear hK K hHeld
                          have hHeld := hHeld2
                          clear hHeld2
                          try simp only [Act.put, List.setIfInBounds_toArray, List.set_cons_zero, List.set_cons_succ]
                          refine wpAnyH_tk (i := 7) (v := ?_) rfl (by kernel_rfl) (by kernel_rfl) (by kernel_rfl) (fun _ _ _ h => h) (Or.inl ⟨by rfl, ?_⟩) hHeld ?_
                          rotate_left
                          · intro w hSw
                            try dsimp only at hSw
                            go_simp
                            try with_reducible rfl
                          try simp only [Act.put, List.setIfInBounds_toArray, List.set_cons_zero, List.set_cons_succ]
                          refine wpAnyH_tk (i := 8) (v := ?_) rfl (by kernel_rfl) (by kernel_rfl) (by kernel_rfl) (fun _ _ _ h => h) (Or.inl ⟨by rfl, ?_⟩) hHeld ?_
                          rotate_left
                          · intro w hSw
                            try dsimp only at hSw
                            go_simp
                            try with_reducible rfl
                          try simp only [Act.put, List.setIfInBounds_toArray, List.set_cons_zero, List.set_cons_succ]
                          refine wpAnyH_tk (i := 9) (v := ?_) rfl (by kernel_rfl) (by kernel_rfl) (by kernel_rfl) (fun _ _ _ h => h) (Or.inl ⟨by rfl, ?_⟩) hHeld ?_
                          rotate_left
                          · intro w hSw
                            try dsimp only at hSw
                            go_simp
                            try with_reducible rfl
                          try simp only [Act.put, List.setIfInBounds_toArray, List.set_cons_zero, List.set_cons_succ]
                          refine wpAnyH_only (i := 11) rfl (by kernel_rfl) (fun K hK => ?_)
                          rw [if_pos (by rfl)]
                          refine wp_store_row 72 _ _ rfl p9 (wagg (rpw u xacts)) rfl rfl 72 _ (zoo_varm (unhide HA2) (List.Mem.head _)) Try.size72 rfl (wagg_one _) ?_
                          have HZF := hide (zoo_setrL (l1 := []) (c' := wagg (rpw u xacts)) (unhide HA2))
                          refine hK.out _ _ (And.intro ((unhide HZF).kp.cell (by simp) (unhide HZ3)) (rangeAt_var (zoo_varm (unhide HZF) (List.Mem.tail _ (List.Mem.head _))))) (fun hHeld2 => ?_)
                          clear hK K hHeld
                          have hHeld := hHeld2
                          clear hHeld2
                          simp only [Act.put]
                          refine wpAnyH_tk (i := 12) (v := ?_) rfl (by kernel_rfl) (by kernel_rfl) (by kernel_rfl) (fun _ _ _ h => h) (Or.inl ⟨by rfl, ?_⟩) hHeld ?_
                          rotate_left
                          · intro w hSw
                            try dsimp only at hSw
                            go_simp
                            try with_reducible rfl
                          try simp only [Act.put, List.setIfInBounds_toArray, List.set_cons_zero, List.set_cons_succ]
                          refine wpAnyH_done (by kernel_rfl) ?_ _
                          generalize World.setRow _ _ _ = W9 at HZF ⊢
                          clear hHeld
                          clear q0 q1
                          cases ok2 with
                          | false =>
                            cases hro : rpo u xacts with
                            | true =>
                              have HRO := hide hro
                              clear hro
                              go_wp2_with fail
                              refine ⟨⟨i + 1, false, by omega, rfl, by go_num, (unhide HZF).tail, ?_⟩, by simp [intOf]; omega⟩
                              show srL k u false (ds.drop (i + 1)) = Tt
                              have z := unhide HSL
                              rw [unhide HDR] at z
                              simp only [srL] at z
                              rw [if_pos ⟨he, ha⟩] at z
                              rw [← z]
                              simp [unhide HRO]
                            | false =>
                              have HRO := hide hro
                              clear hro
                              go_wp2_with fail
                              refine ⟨⟨i + 1, false, by omega, rfl, by go_num, (unhide HZF).tail, ?_⟩, by simp [intOf]; omega⟩
                              show srL k u false (ds.drop (i + 1)) = Tt
                              have z := unhide HSL
                              rw [unhide HDR] at z
                              simp only [srL] at z
                              rw [if_pos ⟨he, ha⟩] at z
                              rw [← z]
                              simp [unhide HRO]
                          | true =>
                            cases hro : rpo u xacts with
                            | true =>
                              have HRO := hide hro
                              clear hro
                              go_wp2_with fail
                              refine ⟨⟨i + 1, true, by omega, rfl, by go_num, (unhide HZF).tail, ?_⟩, by simp [intOf]; omega⟩
                              show srL k u true (ds.drop (i + 1)) = Tt
                              have z := unhide HSL
                              rw [unhide HDR] at z
                              simp only [srL] at z
                              rw [if_pos ⟨he, ha⟩] at z
                              rw [← z]
                              simp [unhide HRO]
                            | false =>
                              have HRO := hide hro
                              clear hro
                              go_wp2_with fail
                              refine ⟨⟨i + 1, false, by omega, rfl, by go_num, (unhide HZF).tail, ?_⟩, by simp [intOf]; omega⟩
                              show srL k u false (ds.drop (i + 1)) = Tt
                              have z := unhide HSL
                              rw [unhide HDR] at z
                              simp only [srL] at z
                              rw [if_pos ⟨he, ha⟩] at z
                              rw [← z]
                              simp [unhide HRO]
                      · skip
                        have ha2 : (xa == (k : Int)) = false := by simpa using ha
                        go_wp2_with fail
                        refine ⟨⟨i + 1, ok2, by omega, rfl, by go_num, unhide HZ2, ?_⟩, by simp [intOf]; omega⟩
                        have z := unhide HSL
                        rw [unhide HDR] at z
                        simp only [srL] at z
                        rw [if_neg (fun q => ha q.2)] at z
                        exact z
                    · skip
                      have he2 : (xn == 0) = false := by simpa using he
                      go_wp2_with fail
                      refine ⟨⟨i + 1, ok2, by omega, rfl, by go_num, unhide HZ2, ?_⟩, by simp [intOf]; omega⟩
                      have z := unhide HSL
                      rw [unhide HDR] at z
                      simp only [srL] at z
                      rw [if_neg (fun q => he q.1)] at z
                      exact z
                  · have j1 : ¬ (i : Int) < (m : Int) := by omega
                    have HTO : Hid (ok2 = Tt) := by
                      have z := unhide HSL
                      rw [List.drop_eq_nil_of_le (by have := unhide HM; omega)] at z
                      exact z
                    rw [← unhide HTO] at HST2
                    go_wp2_with fail
                    exact ⟨⟨k + 1, ok2, by omega, rfl, by go_num, u, unhide HZ2, unhide HST2⟩, by simp [intOf]; omega⟩
        · have k1 : ¬ (k : Int) ≤ (M : Int) := by omega
          have e1 : k = M + 1 := by omega
          have HOK2 : Hid (ok = R) := by
            have z := unhide HRR
            rw [e1, Nat.sub_self] at z
            exact z
          go_wp2_with fail
          go_ret
          exact ⟨congrArg (fun z => Ending.returned (Value.bool z)) (unhide HOK2), (unhide HZ).kp⟩
end Go.Proofs.Ytliopckocegknac

/- HallCrash, walked. -/
namespace Go.Proofs.Ytliopckocegknac
open Go.RowKit
set_option maxRecDepth 20000
attribute [local go_sem ↓] Go.wp_at_zero Go.wp_at_succ

end Go.Proofs.Ytliopckocegknac

/- SerialWorld, walked. -/
namespace Go.Proofs.Ytliopckocegknac
open Go.RowKit Srt
set_option maxRecDepth 20000
attribute [local go_sem ↓] Go.wp_at_zero Go.wp_at_succ

theorem DI.len {cs : List (List Ver)} {ds : List Dn} (h : DI cs ds) : cs.length ≤ ds.length := by
  have h1 := congrArg List.length h.num
  simp only [List.length_map, List.length_range'] at h1
  rw [← h1]
  exact List.length_filter_le _ _
theorem nrun_bkb : ∀ (l : List HStep) (h : HSt) (b : Bk) (i : Nat), BkB i b → BkB (i + l.length) (nrun h b l).2 := by
  intro l
  induction l with
  | nil => intro h b i hb; exact hb
  | cons x l ih =>
    intro h b i hb
    have := ih (hdo h x) (bnote b x (hev h x) h.n) (i + 1) (hb.step x (hev h x) h.n (hev_len h x))
    rw [List.length_cons, show i + (l.length + 1) = i + 1 + l.length by omega]
    exact this
theorem ntd_ok (l : List HStep) (hl : l.length ≤ 1000) : DnsOk (ntd l) := (nrun_bkb l hst0 bk0 0 bkb_new).ok (by omega)
theorem hstl_len (st : Nat → HStep) (n : Nat) : (hstl st n).length = n := by simp [hstl]
theorem wpList_load97 {ops : Array Oper} {rest : List Oper} {o : Oper} {a : Act} {w : World} {Q : Exit → Act → World → Prop} (hw : Region.wanted o (yielded ops a.tmps) = true) (x : Operand) (ho : o.op = .load 97 x)
    (g : Nat) (hx : a.eval x = .pointer (some ⟨g, 0, none⟩)) (v : Nat → Ver) (hg : w.heap[g]? = some (.cells (wagg v) 97 (0, 0))) (h : wpList Try.prog ops Q rest (a.put o.dst (.agg (wagg v))) w) : wpList Try.prog ops Q (o :: rest) a w :=
  wpList_step fun K hK => by
    rw [if_pos hw]
    exact wp_load_row 97 x ho g hx 97 (wagg v) (0, 0) _ hg Try.underlying97 rfl Try.size97 (hK _ _ h)
end Go.Proofs.Ytliopckocegknac

/- SerialSure, walked. -/
namespace Go.Proofs.Ytliopckocegknac
open Go.RowKit Srt
set_option maxRecDepth 20000
attribute [local go_sem ↓] Go.wp_at_zero Go.wp_at_succ

theorem Try.info94 : (Try.prog.info? 94).map (fun i => (i.zero, i.size, i.bytes)) = some (some (.agg #[.int .i64 0, .int .i64 0, .int .i64 0, .slice none 0 0]), 4, 48) := by kernel_rfl
/-- A deed's acts, as the document has them: a row of one's own. -/
def raT (y : Dy) : Thing := KwT 139 6 y.x.a y.ys.length y.x.c (axcs y.ys)
structure RuI (ds : List Dn) (w wr : World) (aU : Option Addr) (cU n i : Nat) (ys : List Dy) : Prop where
  zoo : Zoo w wr (KwT 94 4 aU n cU (dxcs (ys.map Dy.x)) :: ys.map raT)
  nl : n = ys.length
  map : ys.map (fun y => y.x.d) = ds.take i
  acts : ∀ y, y ∈ ys → y.x.d.acts = y.ys.map Ax.x
  sl : ∀ y, y ∈ ys → ∀ z, z ∈ y.ys → SlO w z.a z.x.l
theorem RuI.dns {ds : List Dn} {w wr : World} {aU : Option Addr} {cU n i : Nat} {ys : List Dy} (h : RuI ds w wr aU cU n i ys) : DnsIn wr aU (ys.map (fun y => y.x.d)) := by
  have hrow := kw_row (l1 := []) h.zoo
  intro hp
  rw [List.length_map] at hp
  have hat : ∀ {i : Nat} {y : Dy}, ys[i]? = some y → (ys.map Dy.x)[i]? = some y.x := fun {i y} h => by rw [List.getElem?_map, h]; rfl
  obtain ⟨g, e, _⟩ := hrow.cell (dxcs_at (hat (List.getElem?_eq_getElem hp))).1
  refine ⟨g, 0, e, fun i d hd => ?_⟩
  rw [List.getElem?_map] at hd
  cases hy : ys[i]? with
  | none => rw [hy] at hd; cases hd
  | some y =>
    rw [hy] at hd
    simp only [Option.map_some, Option.some.injEq] at hd
    subst hd
    obtain ⟨c0, c1, c2, c3⟩ := dxcs_at (hat hy)
    have key : ∀ {j : Nat} {v : Value}, (dxcs (ys.map Dy.x))[j]? = some v → wr.cell? ⟨g, j, none⟩ = some v := fun {j v} hv => by
      obtain ⟨g', e', hc⟩ := hrow.cell hv
      rw [e] at e'
      simp only [Option.some.injEq, Addr.mk.injEq, and_true] at e'
      rw [e']
      exact hc
    have hm := List.mem_of_getElem? hy
    rw [Nat.zero_add]
    have hm2 : raT y ∈ KwT 94 4 aU n cU (dxcs (ys.map Dy.x)) :: ys.map raT := List.mem_cons_of_mem _ (List.mem_map_of_mem hm)
    obtain ⟨l1, l2, el⟩ := List.append_of_mem hm2
    have hr2 := kw_row (l1 := l1) (r := l2) (show Zoo w wr (l1 ++ KwT 139 6 y.x.a y.ys.length y.x.c (axcs y.ys) :: l2) by have z := h.zoo; rw [el] at z; exact z)
    refine ⟨key c0, key c1, key c2, ⟨y.x.a, y.x.c, key c3, ?_⟩, y.x.a, y.x.c, key c3, ?_⟩
    · rw [h.acts y hm, List.length_map]
      exact krow_cap hr2
    · rw [h.acts y hm]
      exact krow_acts hr2 (fun z hz => (h.sl y hm z hz).kp0 h.zoo.kp)
set_option maxHeartbeats 8000000 in
theorem ssure10 (a : Option Addr) (n1 c : Nat) (st : Nat → HStep) (w : World) (h : HSts w a n1 st) :
    Calls Try.prog 10 #[.slice a n1 c] w fun e w' => e = .returned (.bool true) ∧ Below w.heap.size w w' := by
  have hu := Try.underlying87
  have HS := hide h
  clear h
  go_enter Try.func10, Try.ntmps10
  go_wp2_with fail
  refine (sbegun w).mono ?_
  rintro e w1 ⟨rfl, hk1⟩
  have HK1 := hide hk1
  clear hk1
  go_wp2_with fail
  refine (gsteps a n1 c st w1 ((unhide HS).kp0 (unhide HK1))).mono ?_
  rintro e w' ⟨q, rfl, hq, hw'⟩
  subst w'
  cases q with
  | true =>
    clear hq
    go_wp2_with fail
    go_ret
    exact ⟨rfl, (unhide HK1).below (Nat.le_refl _) (by simp)⟩
  | false =>
  have h200 := hq rfl
  clear hq
  have HNT := hide (fun cc => noted a n1 cc st w1 ((unhide HS).kp0 (unhide HK1)) (by omega))
  have HO : Hid (DnsOk (ntd (hstl st n1)) ∧ (∀ d, d ∈ ntd (hstl st n1) → d.n ≤ 1000) ∧ ser (ntd (hstl st n1)) = true) := by
    have h1 := ntd_ok (hstl st n1) (by rw [hstl_len]; omega)
    refine ⟨h1, fun d hd => ?_, ntd_ser _⟩
    have h2 := ntd_di (hstl st n1)
    have h3 := (h2.ok d hd).hi
    have h4 := h2.len
    have h5 := h1.1
    omega
  obtain ⟨ds, hds⟩ : ∃ ds, ntd (hstl st n1) = ds := ⟨_, rfl⟩
  rw [hds] at HO HNT
  clear hds
  go_wp2_with fail
  refine (unhide HNT _).mono ?_
  rintro e w2 ⟨aD, cD, rfl, hd, hk2⟩
  have HD := hide hd
  have HK2 := hide ((unhide HK1).trans0 hk2)
  clear hd hk2 HNT
  obtain ⟨m, hm⟩ : ∃ m, ds.length = m := ⟨_, rfl⟩
  rw [hm]
  have HM := hide hm
  have hm1 : m ≤ 1000 := by rw [← hm]; exact (unhide HO).1.1
  clear hm
  go_wp2_with fail
  go_loopw [4, 5] (fun x y wr => ∃ (i : Nat) (aU : Option Addr) (cU n : Nat), i ≤ m ∧ n ≤ i ∧ x = .slice aU n cU ∧ y = .int .i64 i ∧ Hid (∃ ys, RuI ds w2 wr aU cU n i ys)) (fun _ y _ => m - (intOf y).toNat)
  case atStart => exact ⟨0, none, 0, 0, Nat.zero_le _, Nat.le_refl _, rfl, rfl, [], kw_nil 94 4 (zoo_nil (Kp.refl [] w2)), rfl, rfl, fun y hy => by simp at hy, fun y hy => by simp at hy⟩
  case round =>
    obtain ⟨i, aU, cU, n, hi, hni, rfl, rfl, HI⟩ := hrel
    obtain ⟨ys, hz⟩ := unhide HI
    have HZ := hide hz
    clear hz HI
    by_cases hlt : i < m
    · have i1 : (i : Int) < (m : Int) := by omega
      have i0 : (0 : Int) ≤ (i : Int) := by omega
      have hln : i < ds.length := by have := unhide HM; omega
      obtain ⟨g, o, rfl, hb⟩ := (unhide HD) (by omega)
      obtain ⟨x, hx⟩ : ∃ x, ds[i]? = some x := ⟨_, List.getElem?_eq_getElem hln⟩
      have htk : ds.take (i + 1) = ds.take i ++ [x] := by rw [List.take_add_one, hx]; rfl
      have hok := (unhide HO).1.2 x (List.mem_of_getElem? hx)
      have hat := hb i x hx
      obtain ⟨la, lc, z3, hls⟩ := hat.ls
      have HT := hide htk
      have HLS := hide hls
      have HG := hide (And.intro hat.c0 (And.intro hat.c1 (And.intro hat.c2 z3)))
      clear hat hb hx hls z3 htk
      obtain ⟨xn, xa, xm, xacts⟩ := x
      dsimp only at HG HLS hok
      have HOK := hide hok
      clear hok
      obtain ⟨ln, hlen⟩ : ∃ ln, xacts.length = ln := ⟨_, rfl⟩
      rw [hlen] at HG
      have HLX := hide hlen
      clear hlen
      go_wp2_with fail
      refine wp_region_held_drew (S := fun w' => w'.cell? ⟨g, o + i * 4, none⟩ = some (.int .i64 xn) ∧ w'.cell? ⟨g, o + i * 4 + 1, none⟩ = some (.int .i64 xa) ∧ w'.cell? ⟨g, o + i * 4 + 2, none⟩ = some (.int .i64 xm) ∧ w'.cell? ⟨g, o + i * 4 + 3, none⟩ = some (.slice la ln lc)) (by kernel_rfl) (c4_kp (unhide HG) ((unhide HZ).zoo.kp.drew)) (fun hHeld => ?_)
      have HA0 := hide ((unhide HZ).zoo.kp0 ((Kp.refl [] wr).drew))
      generalize World.drew _ = WD at HA0 hHeld ⊢
      refine wpAnyH_tk (i := 0) (v := ?_) rfl (by kernel_rfl) (by kernel_rfl) (by kernel_rfl) (fun _ _ _ h => h) (Or.inl ⟨by rfl, ?_⟩) hHeld ?_
      rotate_left
      · intro w hSw
        try dsimp only at hSw
        go_simp
        try with_reducible rfl
      try simp only [Act.put, List.setIfInBounds_toArray, List.set_cons_zero, List.set_cons_succ]
      refine wpAnyH_tk (i := 1) (v := ?_) rfl (by kernel_rfl) (by kernel_rfl) (by kernel_rfl) (fun _ _ _ h => h) (Or.inl ⟨by rfl, ?_⟩) hHeld ?_
      rotate_left
      · intro w hSw
        try dsimp only at hSw
        go_simp
        try with_reducible rfl
      try simp only [Act.put, List.setIfInBounds_toArray, List.set_cons_zero, List.set_cons_succ]
      refine wpAnyH_tk (i := 2) (v := ?_) rfl (by kernel_rfl) (by kernel_rfl) (by kernel_rfl) (fun _ _ _ h => h) (Or.inl ⟨by rfl, ?_⟩) hHeld ?_
      rotate_left
      · intro w hSw
        try dsimp only at hSw
        go_simp
        try with_reducible rfl
      try simp only [Act.put, List.setIfInBounds_toArray, List.set_cons_zero, List.set_cons_succ]
      refine wpAnyH_tk (i := 3) (v := ?_) rfl (by kernel_rfl) (by kernel_rfl) (by kernel_rfl) (fun _ _ _ h => h) (Or.inl ⟨by rfl, ?_⟩) hHeld ?_
      rotate_left
      · intro w hSw
        try dsimp only at hSw
        go_simp
        try with_reducible rfl
      try simp only [Act.put, List.setIfInBounds_toArray, List.set_cons_zero, List.set_cons_succ]
      refine wpAnyH_tk (i := 4) (v := ?_) rfl (by kernel_rfl) (by kernel_rfl) (by kernel_rfl) (fun _ _ _ h => h) (Or.inl ⟨by rfl, ?_⟩) hHeld ?_
      rotate_left
      · intro w hSw
        try dsimp only at hSw
        go_simp
        try with_reducible rfl
      try simp only [Act.put, List.setIfInBounds_toArray, List.set_cons_zero, List.set_cons_succ]
      refine wpAnyH_tk (i := 5) (v := ?_) rfl (by kernel_rfl) (by kernel_rfl) (by kernel_rfl) (fun _ _ _ h => h) (Or.inl ⟨by rfl, ?_⟩) hHeld ?_
      rotate_left
      · intro w hSw
        try dsimp only at hSw
        go_simp
        try with_reducible rfl
      try simp only [Act.put, List.setIfInBounds_toArray, List.set_cons_zero, List.set_cons_succ]
      refine wpAnyH_tk (i := 6) (v := ?_) rfl (by kernel_rfl) (by kernel_rfl) (by kernel_rfl) (fun _ _ _ h => h) (Or.inl ⟨by rfl, ?_⟩) hHeld ?_
      rotate_left
      · intro w hSw
        try dsimp only at hSw
        go_simp
        try with_reducible rfl
      try simp only [Act.put, List.setIfInBounds_toArray, List.set_cons_zero, List.set_cons_succ]
      refine wpAnyH_tk (i := 7) (v := ?_) rfl (by kernel_rfl) (by kernel_rfl) (by kernel_rfl) (fun _ _ _ h => h) (Or.inl ⟨by rfl, ?_⟩) hHeld ?_
      rotate_left
      · intro w hSw
        try dsimp only at hSw
        go_simp
        try with_reducible rfl
      try simp only [Act.put, List.setIfInBounds_toArray, List.set_cons_zero, List.set_cons_succ]
      refine wpAnyH_tk (i := 8) (v := ?_) rfl (by kernel_rfl) (by kernel_rfl) (by kernel_rfl) (fun _ _ _ h => h) (Or.inl ⟨by rfl, ?_⟩) hHeld ?_
      rotate_left
      · intro w hSw
        try dsimp only at hSw
        go_simp
        try with_reducible rfl
      try simp only [Act.put, List.setIfInBounds_toArray, List.set_cons_zero, List.set_cons_succ]
      refine wpAnyH_tk (i := 9) (v := ?_) rfl (by kernel_rfl) (by kernel_rfl) (by kernel_rfl) (fun _ _ _ h => h) (Or.inl ⟨by rfl, ?_⟩) hHeld ?_
      rotate_left
      · intro w hSw
        try dsimp only at hSw
        go_simp
        try with_reducible rfl
      try simp only [Act.put, List.setIfInBounds_toArray, List.set_cons_zero, List.set_cons_succ]
      refine wpAnyH_tk (i := 10) (v := ?_) rfl (by kernel_rfl) (by kernel_rfl) (by kernel_rfl) (fun _ _ _ h => h) (Or.inl ⟨by rfl, ?_⟩) hHeld ?_
      rotate_left
      · intro w hSw
        try dsimp only at hSw
        go_simp
        try with_reducible rfl
      try simp only [Act.put, List.setIfInBounds_toArray, List.set_cons_zero, List.set_cons_succ]
      refine wpAnyH_tk (i := 11) (v := ?_) rfl (by kernel_rfl) (by kernel_rfl) (by kernel_rfl) (fun _ _ _ h => h) (Or.inl ⟨by rfl, ?_⟩) hHeld ?_
      rotate_left
      · intro w hSw
        try dsimp only at hSw
        go_simp
        try with_reducible rfl
      try simp only [Act.put, List.setIfInBounds_toArray, List.set_cons_zero, List.set_cons_succ]
      refine wpAnyH_tk (i := 12) (v := ?_) rfl (by kernel_rfl) (by kernel_rfl) (by kernel_rfl) (fun _ _ _ h => h) (Or.inl ⟨by rfl, ?_⟩) hHeld ?_
      rotate_left
      · intro w hSw
        try dsimp only at hSw
        go_simp
        try with_reducible rfl
      try simp only [Act.put, List.setIfInBounds_toArray, List.set_cons_zero, List.set_cons_succ]
      refine wpAnyH_tk (i := 13) (v := ?_) rfl (by kernel_rfl) (by kernel_rfl) (by kernel_rfl) (fun _ _ _ h => h) (Or.inl ⟨by rfl, ?_⟩) hHeld ?_
      rotate_left
      · intro w hSw
        try dsimp only at hSw
        go_simp
        try with_reducible rfl
      try simp only [Act.put, List.setIfInBounds_toArray, List.set_cons_zero, List.set_cons_succ]
      refine wpAnyH_tk (i := 14) (v := ?_) rfl (by kernel_rfl) (by kernel_rfl) (by kernel_rfl) (fun _ _ _ h => h) (Or.inl ⟨by rfl, ?_⟩) hHeld ?_
      rotate_left
      · intro w hSw
        try dsimp only at hSw
        go_simp
        try with_reducible rfl
      try simp only [Act.put, List.setIfInBounds_toArray, List.set_cons_zero, List.set_cons_succ]
      refine wpAnyH_tk (i := 15) (v := ?_) rfl (by kernel_rfl) (by kernel_rfl) (by kernel_rfl) (fun _ _ _ h => h) (Or.inl ⟨by rfl, ?_⟩) hHeld ?_
      rotate_left
      · intro w hSw
        try dsimp only at hSw
        go_simp
        try with_reducible rfl
      try simp only [Act.put, List.setIfInBounds_toArray, List.set_cons_zero, List.set_cons_succ]
      refine wpAnyH_tk (i := 16) (v := ?_) rfl (by kernel_rfl) (by kernel_rfl) (by kernel_rfl) (fun _ _ _ h => h) (Or.inl ⟨by rfl, ?_⟩) hHeld ?_
      rotate_left
      · intro w hSw
        try dsimp only at hSw
        go_simp
        try with_reducible rfl
      try simp only [Act.put, List.setIfInBounds_toArray, List.set_cons_zero, List.set_cons_succ]
      refine wpAnyH_tk (i := 17) (v := ?_) rfl (by kernel_rfl) (by kernel_rfl) (by kernel_rfl) (fun _ _ _ h => h) (Or.inl ⟨by rfl, ?_⟩) hHeld ?_
      rotate_left
      · intro w hSw
        try dsimp only at hSw
        go_simp
        try with_reducible rfl
      try simp only [Act.put, List.setIfInBounds_toArray, List.set_cons_zero, List.set_cons_succ]
      refine wpAnyH_tk (i := 18) (v := ?_) rfl (by kernel_rfl) (by kernel_rfl) (by kernel_rfl) (fun _ _ _ h => h) (Or.inl ⟨by rfl, ?_⟩) hHeld ?_
      rotate_left
      · intro w hSw
        try dsimp only at hSw
        go_simp
        try with_reducible rfl
      try simp only [Act.put, List.setIfInBounds_toArray, List.set_cons_zero, List.set_cons_succ]
      refine wpAnyH_tk (i := 19) (v := ?_) rfl (by kernel_rfl) (by kernel_rfl) (by kernel_rfl) (fun _ _ _ h => h) (Or.inl ⟨by rfl, ?_⟩) hHeld ?_
      rotate_left
      · intro w hSw
        try dsimp only at hSw
        go_simp
        try with_reducible rfl
      try simp only [Act.put, List.setIfInBounds_toArray, List.set_cons_zero, List.set_cons_succ]
      refine wpAnyH_tk (i := 20) (v := ?_) rfl (by kernel_rfl) (by kernel_rfl) (by kernel_rfl) (fun _ _ _ h => h) (Or.inl ⟨by rfl, ?_⟩) hHeld ?_
      rotate_left
      · intro w hSw
        try dsimp only at hSw
        go_simp
        try with_reducible rfl
      try simp only [Act.put, List.setIfInBounds_toArray, List.set_cons_zero, List.set_cons_succ]
      refine wpAnyH_only (i := 21) rfl (by kernel_rfl) (fun K hK => ?_)
      go_simp
      rw [← unhide HLX]
      refine (racts la lc xacts w2 WD (unhide HA0).kp (unhide HLS) (unhide HOK)).mono ?_
      rintro e w5 ⟨a5, c5, zs, rfl, hr5, hk5, hm5, hs5⟩
      have hzl : zs.length = xacts.length := by rw [← hm5, List.length_map]
      rw [← hzl] at hr5
      have HA1 := hide ((unhide HA0).cons (o := raT ⟨⟨⟨xn, xa, xm, xacts⟩, a5, c5⟩, zs⟩) (F := ob a5) ⟨hr5, rfl⟩ hk5)
      have HM5 := hide hm5
      have HS5 : Hid (∀ z, z ∈ zs → SlO w2 z.a z.x.l) := hs5
      rw [unhide HLX]
      clear hr5 hk5 hm5 hs5 hzl
      go_wp2_with fail
      refine hK.out _ _ (c4_kp (unhide HG) (unhide HA1).kp) (fun hHeld2 => ?_)
      clear hK K hHeld
      have hHeld := hHeld2
      clear hHeld2
      try simp only [Act.put, List.setIfInBounds_toArray, List.set_cons_zero, List.set_cons_succ]
      refine wpAnyH_tk (i := 22) (v := ?_) rfl (by kernel_rfl) (by kernel_rfl) (by kernel_rfl) (fun _ _ _ h => h) (Or.inl ⟨by rfl, ?_⟩) hHeld ?_
      rotate_left
      · intro w hSw
        try dsimp only at hSw
        go_simp
        try with_reducible rfl
      try simp only [Act.put, List.setIfInBounds_toArray, List.set_cons_zero, List.set_cons_succ]
      refine wpAnyH_only (i := 23) rfl (by kernel_rfl) (fun K hK => ?_)
      go_simp
      have HA2 := hide ((unhide HA1).box #[.int .i64 xn, .int .i64 xa, .int .i64 xm, .slice a5 ln c5] 94)
      refine hK.out _ _ (c4_kp (unhide HG) (unhide HA2).kp) (fun hHeld2 => ?_)
      clear hK K hHeld
      have hHeld := hHeld2
      clear hHeld2
      try simp only [Act.put, List.setIfInBounds_toArray, List.set_cons_zero, List.set_cons_succ]
      have HBX := hide (Zoo.var (unhide HA2))
      have hBw := Zoo.base (unhide HA2)
      generalize w5.alloc (.cells #[.int .i64 xn, .int .i64 xa, .int .i64 xm, .slice a5 ln c5] 94) = W1 at *
      generalize w5.heap.size = p3 at *
      refine wpAnyH_only (i := 24) rfl (by kernel_rfl) (fun K hK => ?_)
      refine step_krow (by rfl) (.tmp 18) (.tmp 41) 87 (by rfl) hu Try.info94 rfl (by omega) (kw_row (l1 := [BoxT p3 #[.int .i64 xn, .int .i64 xa, .int .i64 xm, .slice a5 ln c5] 94, raT ⟨⟨⟨xn, xa, xm, xacts⟩, a5, c5⟩, zs⟩]) (unhide HA2)) hBw (.slice (some ⟨p3, 0, none⟩) 1 1) [.int .i64 xn, .int .i64 xa, .int .i64 xm, .slice a5 ln c5] 1 (by rfl) (by rfl) (src_built (cs := #[.int .i64 xn, .int .i64 xa, .int .i64 xm, .slice a5 ln c5]) hu (unhide HBX) rfl (by simp [Value.oneCell'])) (by omega) (n + 1) rfl ?_
      intro a2 c2 w9 g1 g2 g3
      have HA3 := hide (Zoo.tail (kw_app (l1 := [BoxT p3 #[.int .i64 xn, .int .i64 xa, .int .i64 xm, .slice a5 ln c5] 94, raT ⟨⟨⟨xn, xa, xm, xacts⟩, a5, c5⟩, zs⟩]) (unhide HA2) (unhide g1) (unhide g2) (unhide g3)))
      refine hK.out _ _ (c4_kp (unhide HG) (unhide HA3).kp) (fun hHeld2 => ?_)
      clear hK K hHeld
      have hHeld := hHeld2
      clear hHeld2
      try simp only [Act.put, List.setIfInBounds_toArray, List.set_cons_zero, List.set_cons_succ]
      refine wpAnyH_tk (i := 25) (v := ?_) rfl (by kernel_rfl) (by kernel_rfl) (by kernel_rfl) (fun _ _ _ h => h) (Or.inl ⟨by rfl, ?_⟩) hHeld ?_
      rotate_left
      · intro w hSw
        try dsimp only at hSw
        go_simp
        try with_reducible rfl
      try simp only [Act.put, List.setIfInBounds_toArray, List.set_cons_zero, List.set_cons_succ]
      refine wpAnyH_done (by kernel_rfl) ?_ _
      clear hHeld g1 g2 g3
      go_wp2_with fail
      refine ⟨⟨i + 1, a2, c2, n + 1, by omega, by omega, rfl, by go_num, ys ++ [⟨⟨⟨xn, xa, xm, xacts⟩, a5, c5⟩, zs⟩], ?_, ?_, ?_, fun y hy => ?_, fun y hy => ?_⟩, by simp [intOf]; omega⟩
      · have e1 : dxcs ((ys ++ [(⟨⟨⟨xn, xa, xm, xacts⟩, a5, c5⟩, zs⟩ : Dy)]).map Dy.x) = dxcs (ys.map Dy.x) ++ [.int .i64 xn, .int .i64 xa, .int .i64 xm, .slice a5 ln c5] := by
          rw [List.map_append, dxcs_app]
          simp [dxcs, dxc, unhide HLX]
        rw [e1, List.map_append]
        refine (unhide HA3).perm ?_
        have p1 : (raT ⟨⟨⟨xn, xa, xm, xacts⟩, a5, c5⟩, zs⟩ :: KwT 94 4 a2 (n + 1) c2 (dxcs (ys.map Dy.x) ++ [.int .i64 xn, .int .i64 xa, .int .i64 xm, .slice a5 ln c5]) :: ys.map raT).Perm (KwT 94 4 a2 (n + 1) c2 (dxcs (ys.map Dy.x) ++ [.int .i64 xn, .int .i64 xa, .int .i64 xm, .slice a5 ln c5]) :: (raT ⟨⟨⟨xn, xa, xm, xacts⟩, a5, c5⟩, zs⟩ :: ys.map raT)) := List.Perm.swap _ _ _
        refine p1.trans (List.Perm.cons _ ?_)
        exact (List.perm_append_comm (l₁ := ys.map raT) (l₂ := [raT ⟨⟨⟨xn, xa, xm, xacts⟩, a5, c5⟩, zs⟩])).symm
      · rw [List.length_append, (unhide HZ).nl]; rfl
      · rw [List.map_append, (unhide HZ).map, unhide HT]; rfl
      · rcases List.mem_append.1 hy with e | e
        · exact (unhide HZ).acts y e
        · rw [List.mem_singleton.1 e]; exact (unhide HM5).symm
      · rcases List.mem_append.1 hy with e | e
        · exact (unhide HZ).sl y e
        · rw [List.mem_singleton.1 e]; exact unhide HS5
    · have i1 : ¬ (i : Int) < (m : Int) := by omega
      have hmp := (unhide HZ).map
      rw [List.take_of_length_le (by have := unhide HM; omega)] at hmp
      have hl : n = m := by rw [(unhide HZ).nl, ← unhide HM, ← hmp, List.length_map]
      have hdn := (unhide HZ).dns
      rw [hmp] at hdn
      have HDU := hide hdn
      clear hmp hdn
      have HC1 := hide (serial46 aD cD ds wr ((unhide HD).kp0 (unhide HZ).zoo.kp) (unhide HO).1 (unhide HO).2.1)
      have HC2 := hide (fun W (hk : Kp [] wr W) => rserial aU cU ds W ((unhide HDU).kp0 hk) (unhide HO).1 (unhide HO).2.1)
      rw [unhide HM, (unhide HO).2.2] at HC1 HC2
      rw [← hl] at HC2
      clear hl
      go_wp2_with fail
      refine (unhide HC1).mono ?_
      rintro e w6 ⟨rfl, hk6⟩
      have HK6 := hide hk6
      clear hk6
      go_wp2_with fail
      refine (unhide HC2 w6 (unhide HK6)).mono ?_
      rintro e w7 ⟨rfl, hk7⟩
      have HK7 := hide ((unhide HK2).trans0 ((unhide HZ).zoo.kp.trans0 ((unhide HK6).trans0 hk7)))
      clear hk7
      go_wp2_with fail
      go_ret
      exact ⟨rfl, (unhide HK7).below (Nat.le_refl _) (by simp)⟩
end Go.Proofs.Ytliopckocegknac

/- Acts that are handed in; greatActs, by its contract. -/
namespace Go.Proofs.Ytliopckocegknac
open Go.RowKit
set_option maxRecDepth 20000
attribute [local go_sem ↓] Go.wp_at_zero Go.wp_at_succ

/-- An act that was handed in: where its parts lie. -/
structure AcH (w : World) (b o : Nat) (x : Ac) : Prop where
  c0 : w.cell? ⟨b, o, none⟩ = some (.int .i64 x.kd)
  c1 : w.cell? ⟨b, o + 1, none⟩ = some (.int .i64 x.key)
  c2 : w.cell? ⟨b, o + 2, none⟩ = some (.int .i64 x.to_)
  c3 : w.cell? ⟨b, o + 3, none⟩ = some (.bool x.t)
  c4 : w.cell? ⟨b, o + 4, none⟩ = some (.string x.s)
  str : x.s.size ≤ maxLen
  ls : ∃ la lc, w.cell? ⟨b, o + 5, none⟩ = some (.slice la x.l.length lc) ∧ Prs w la x.l
def AcsH (w : World) (a : Option Addr) (l : List Ac) : Prop := l.length ≤ maxLen ∧ (0 < l.length → ∃ b o, a = some ⟨b, o, none⟩ ∧ ∀ i x, l[i]? = some x → AcH w b (o + i * 6) x)
theorem prs_kp0 {w w' : World} {a : Option Addr} {ps : List Ver} (h : Prs w a ps) (hk : Kp [] w w') : Prs w' a ps := h.kp hk (fun _ _ _ => by simp)
theorem AcH.kp0 {w w' : World} {b o : Nat} {x : Ac} (h : AcH w b o x) (hk : Kp [] w w') : AcH w' b o x := by
  obtain ⟨la, lc, h1, h2⟩ := h.ls
  exact ⟨hk.cell (by simp) h.c0, hk.cell (by simp) h.c1, hk.cell (by simp) h.c2, hk.cell (by simp) h.c3, hk.cell (by simp) h.c4, h.str, la, lc, hk.cell (by simp) h1, prs_kp0 h2 hk⟩
theorem AcsH.kp0 {w w' : World} {a : Option Addr} {l : List Ac} (h : AcsH w a l) (hk : Kp [] w w') : AcsH w' a l := ⟨h.1, fun hp => by
  obtain ⟨b, o, e, h1⟩ := h.2 hp
  exact ⟨b, o, e, fun i x hx => (h1 i x hx).kp0 hk⟩⟩
theorem AcsH.ins {w : World} {a : Option Addr} {l : List Ac} (h : AcsH w a l) : ActsIn w a l := fun hp => by
  obtain ⟨b, o, e, h1⟩ := h.2 hp
  refine ⟨b, o, e, fun i x hx => ?_⟩
  have h2 := h1 i x hx
  obtain ⟨la, lc, h3, h4⟩ := h2.ls
  exact ⟨h2.c0, h2.c1, h2.c2, h2.c3, h2.c4, la, lc, h3, h4.mem⟩
def GaEnd (l : List Ac) (w : World) (e : Ending) (w' : World) : Prop := ∃ q : Bool, e = .returned (.bool q) ∧ (q = false → ActsOk l) ∧ w' = w
theorem gaEnd_mk {l : List Ac} {w : World} (q : Bool) (h : q = false → ActsOk l) : GaEnd l w (.returned (.bool q)) w := ⟨q, rfl, h, rfl⟩
set_option maxHeartbeats 1000000 in
theorem gacts (a : Option Addr) (c : Nat) (l : List Ac) (w : World) (h : AcsH w a l) :
    Calls Try.prog 50 #[.slice a l.length c] w fun e w' => GaEnd l w e w' := by
  have hm := h.1
  unfold maxLen at hm
  have HP := hide h
  clear h
  obtain ⟨n, hn⟩ : ∃ n, l.length = n := ⟨_, rfl⟩
  have HN := hide hn
  rw [hn] at hm ⊢
  clear hn
  go_enter Try.func50, Try.ntmps50
  go_wp2_with fail
  go_loop [3] (fun i => ∃ k : Nat, k ≤ n ∧ k ≤ 200 ∧ i = .int .i64 k ∧ Hid (∀ j x, j < k → l[j]? = some x → x.l.length ≤ 50)) (fun i => n - (intOf i).toNat)
  case atStart => exact ⟨0, Nat.zero_le _, by omega, rfl, fun j x hj => by omega⟩
  case round =>
    obtain ⟨k, hk, hk2, rfl, HL⟩ := hrel
    have fin : (k = n ∨ k = 200) → ∀ q : Bool, q = decide ((150 : Int) < (n : Int)) → GaEnd l w (.returned (.bool q)) w := fun hc q hq => by
      refine gaEnd_mk q (fun hf => ?_)
      rw [hf] at hq
      have h1 := of_decide_eq_false hq.symm
      have hnn := unhide HN
      refine ⟨by omega, fun x hx => ?_⟩
      obtain ⟨j, hj, e⟩ := List.getElem_of_mem hx
      have := unhide HL j x (by omega) (by rw [List.getElem?_eq_getElem hj, e])
      omega
    have HF := hide fin
    clear fin
    by_cases hlt : k < n
    · have i1 : (k : Int) < (n : Int) := by omega
      have i0 : (0 : Int) ≤ (k : Int) := by omega
      by_cases hlt2 : k < 200
      · have i2 : (k : Int) < 200 := by omega
        have hln : k < l.length := by have := unhide HN; omega
        obtain ⟨b, o, rfl, hb⟩ := (unhide HP).2 (by omega)
        obtain ⟨x, hx⟩ : ∃ x, l[k]? = some x := ⟨_, List.getElem?_eq_getElem hln⟩
        have hat := hb k x hx
        obtain ⟨la, lc, z5, hls⟩ := hat.ls
        have q4 : w.cell? ⟨b, o + k * 6 + 3 + 1, none⟩ = _ := hat.c4
        have q5 : w.cell? ⟨b, o + k * 6 + 5, none⟩ = _ := z5
        have hsz := hat.str
        unfold maxLen at hsz
        have HX := hide hx
        have HGP := hide (gpairs30 la lc x.l w hls)
        clear hb hat hx z5 hls
        obtain ⟨kd, key, to_, xt, xs, xl⟩ := x
        dsimp only at q4 q5 hsz HGP
        by_cases hs : 100 < xs.size
        · have hs2 : (100 : Int) < (xs.size : Int) := by omega
          go_wp2_with fail
          go_ret
          exact gaEnd_mk _ (fun h => by simp at h)
        · have hs2 : ¬ (100 : Int) < (xs.size : Int) := by omega
          go_wp2_with fail
          refine (unhide HGP).mono ?_
          rintro e w' ⟨q, rfl, hq, hw'⟩
          subst w'
          cases q with
          | true =>
            go_wp2_with fail
            go_ret
            exact gaEnd_mk _ (fun h => by simp at h)
          | false =>
            have hl5 := hq rfl
            clear hq
            go_wp2_with fail
            refine ⟨⟨k + 1, by omega, by omega, by go_num, fun j y hj hy => ?_⟩, by simp [intOf]; omega⟩
            rcases Nat.lt_or_ge j k with e | e
            · exact unhide HL j y e hy
            · have : j = k := by omega
              subst this
              rw [unhide HX] at hy
              cases hy
              exact hl5
      · have i2 : ¬ (k : Int) < 200 := by omega
        go_wp2_with fail
        go_ret
        exact unhide HF (.inr (by omega)) _ (by simp)
    · have i1 : ¬ (k : Int) < (n : Int) := by omega
      go_wp2_with fail
      go_ret
      exact unhide HF (.inl (by omega)) _ (by simp)
end Go.Proofs.Ytliopckocegknac

/- Acts that came in, opened: what the walks are told of them; an array of values. -/
namespace Go.Proofs.Ytliopckocegknac
open Go.ChangeShapes Go.WideShapes Go.ChangeAt Go.RowKit
set_option maxRecDepth 20000

theorem Try.cells101 : Try.prog.cellsOf 101 = 6 := by kernel_rfl
theorem trod_struct5 {H : Type} {enc : TypeId × Value → H} {W : World} {t : TypeId} {f0 f1 f2 f3 f4 : Field} {fuel : Nat} {cs : List Value} {x : DataW H × List MemPlace} (ht : Try.prog.underlying t = some (.struct #[f0, f1, f2, f3, f4])) (h : DataW.trod enc Try.prog W 0 (fun _ => true) true fuel t cs = some x) :
    ∃ y0 y1 y2 y3 y4 n, cs.length = Try.prog.cellsOf t ∧ DataW.trod enc Try.prog W 0 (fun _ => true) true n f0.type ((cs.drop f0.offset).take (Try.prog.cellsOf f0.type)) = some y0 ∧ DataW.trod enc Try.prog W 0 (fun _ => true) true n f1.type ((cs.drop f1.offset).take (Try.prog.cellsOf f1.type)) = some y1 ∧ DataW.trod enc Try.prog W 0 (fun _ => true) true n f2.type ((cs.drop f2.offset).take (Try.prog.cellsOf f2.type)) = some y2 ∧ DataW.trod enc Try.prog W 0 (fun _ => true) true n f3.type ((cs.drop f3.offset).take (Try.prog.cellsOf f3.type)) = some y3 ∧ DataW.trod enc Try.prog W 0 (fun _ => true) true n f4.type ((cs.drop f4.offset).take (Try.prog.cellsOf f4.type)) = some y4 := by
  obtain ⟨xs, n, _, rfl, hl, hlen, hf⟩ := DataW.trod_struct ht h
  match xs, hlen with
  | [y0, y1, y2, y3, y4], _ => exact ⟨y0, y1, y2, y3, y4, n, hl, by simpa using hf 0 f0 rfl, by simpa using hf 1 f1 rfl, by simpa using hf 2 f2 rfl, by simpa using hf 3 f3 rfl, by simpa using hf 4 f4 rfl⟩
theorem act_of {H : Type} {enc : TypeId × Value → H} {W : World} {m : Nat} {cs : List Value} {x : DataW H × List MemPlace}
    (h : DataW.trod enc Try.prog W 0 (fun _ => true) true m 101 cs = some x) : ∃ (st : Ac) (la : Option Addr) (lc : Nat), cs = [.int .i64 st.kd, .int .i64 st.key, .int .i64 st.to_, .bool st.t, .string st.s, .slice la st.l.length lc] ∧ st.s.size ≤ maxLen ∧ Prs W la st.l := by
  obtain ⟨y0, y1, y2, y3, y4, n, hl, h0, h1, h2, h3, h4⟩ := trod_struct5 Try.underlying101 h
  rw [Try.cells101] at hl
  match cs, hl with
  | [c0, c1, c2, c3, c4, c5], _ =>
    simp only [Try.cells3, Try.cells31, Try.cells32] at h0 h1 h2 h3 h4
    obtain ⟨d, e0, _⟩ := DataW.trod_int Try.underlying3 h0
    obtain ⟨k, e1, _⟩ := DataW.trod_int Try.underlying3 h1
    obtain ⟨to_, e2, _⟩ := DataW.trod_int Try.underlying3 h2
    obtain ⟨t, sv, e3, hs⟩ := value_of h3
    have h4' : DataW.trod enc Try.prog W 0 (fun _ => true) true n 32 [c5] = some y4 := by simpa using h4
    obtain ⟨a, c, ps, e4, hp⟩ := prs_of h4'
    simp at e0 e1 e2 e3
    exact ⟨⟨d, k, to_, t, sv, ps⟩, a, c, by rw [e0, e1, e2, e3.1, e3.2, e4], hs, hp⟩
theorem acs_of {H : Type} {enc : TypeId × Value → H} {W : World} {a : Option Addr} {n c : Nat} {d : DataW H} {p : List MemPlace}
    (h : DataW.Trod enc Try.prog W 0 (fun _ => true) true 88 (.slice a n c) d p) : ∃ l : List Ac, n = l.length ∧ AcsH W a l ∧ n ≤ c ∧ c ≤ maxLen ∧ (a = none → c = 0) := by
  obtain ⟨fuel, hf⟩ := h
  rcases Deep.open_slice Try.underlying88 hf with ⟨hcs, _⟩ | ⟨ad, len, cap, m, k, D, Pl, hcs, _, hl, hm, hmm, _, hx⟩
  · simp [Value.cells] at hcs
    obtain ⟨rfl, rfl, rfl⟩ := hcs
    exact ⟨[], rfl, ⟨by simp [maxLen], fun h => by simp at h⟩, Nat.le_refl _, Nat.zero_le _, fun _ => rfl⟩
  · simp [Value.cells] at hcs
    obtain ⟨rfl, rfl, rfl⟩ := hcs
    simp only [if_true] at hmm
    subst hmm
    rw [Try.cells101] at hx
    have key : ∀ i, i < n → ∃ st : Ac, W.cell? (ad.add (i * 6)) = some (.int .i64 st.kd) ∧ W.cell? (ad.add (i * 6 + 1)) = some (.int .i64 st.key) ∧ W.cell? (ad.add (i * 6 + 2)) = some (.int .i64 st.to_) ∧ W.cell? (ad.add (i * 6 + 3)) = some (.bool st.t) ∧ W.cell? (ad.add (i * 6 + 4)) = some (.string st.s) ∧ st.s.size ≤ maxLen ∧ ∃ la lc, W.cell? (ad.add (i * 6 + 5)) = some (.slice la st.l.length lc) ∧ Prs W la st.l := by
      intro i hi
      obtain ⟨cs, h1, h2⟩ := hx i (by omega)
      obtain ⟨st, la, lc, rfl, hs, hp⟩ := act_of h2
      obtain ⟨_, _, hc⟩ := World.cells?_some h1
      have q0 := hc 0 (by omega)
      have q1 := hc 1 (by omega)
      have q2 := hc 2 (by omega)
      have q3 := hc 3 (by omega)
      have q4 := hc 4 (by omega)
      have q5 := hc 5 (by omega)
      rw [Deep.add_add] at q0 q1 q2 q3 q4 q5
      exact ⟨st, by simpa using q0, by simpa using q1, by simpa using q2, by simpa using q3, by simpa using q4, hs, la, lc, by simpa using q5, hp⟩
    obtain ⟨st, hst⟩ := @Deep.choose_lt Ac ⟨⟨0, 0, 0, false, ByteArray.empty, []⟩⟩ n _ key
    refine ⟨(List.range n).map st, by simp, ⟨by simp; omega, fun h0 => ?_⟩, by omega, by omega, fun h => by cases h⟩
    simp only [List.length_map, List.length_range] at h0
    obtain ⟨b, o, sp⟩ := ad
    have hsp : sp = none := by
      have := (hst 0 h0).1
      simpa [Addr.add] using World.cell?_spot this
    subst hsp
    refine ⟨b, o, rfl, fun i x hx2 => ?_⟩
    have hi : i < n := by have := (List.getElem?_eq_some_iff.1 hx2).1; simpa using this
    rw [List.getElem?_map, List.getElem?_range hi] at hx2
    simp only [Option.map_some, Option.some.injEq] at hx2
    subst hx2
    obtain ⟨q0, q1, q2, q3, q4, hs, la, lc, q5, hp⟩ := hst i hi
    rw [addr_add] at q0 q1 q2 q3 q4 q5
    exact ⟨q0, q1, q2, q3, q4, hs, la, lc, q5, hp⟩
theorem Try.cells71 : Try.prog.cellsOf 71 = 16 := by kernel_rfl
theorem world_of {H : Type} {enc : TypeId × Value → H} {W : World} {cs : Array Value} {d : DataW H} {p : List MemPlace}
    (h : DataW.Trod enc Try.prog W 0 (fun _ => true) true 71 (.agg cs) d p) : ∃ v : Nat → Ver, cs = wagg v := by
  obtain ⟨fuel, hf⟩ := h
  obtain ⟨xs, m, _, _, hl, hlen, hel⟩ := DataW.trod_array Try.underlying71 hf
  rw [Try.cells71] at hl
  rw [Try.cells31] at hel
  have hcs : (Value.agg cs).cells.toList = cs.toList := by simp [Value.cells]
  rw [hcs] at hl hel
  have key : ∀ i, i < 8 → ∃ u : Ver, (cs.toList.drop (i * 2)).take 2 = [.bool u.t, .string u.s] := fun i hi => by
    have h1 := hel i hi
    obtain ⟨y, hy⟩ : ∃ y, xs[i]? = some y := ⟨_, List.getElem?_eq_getElem (by omega)⟩
    rw [hy] at h1
    obtain ⟨t, sv, e, _⟩ := value_of h1
    exact ⟨⟨0, t, sv⟩, e⟩
  obtain ⟨v, hv⟩ := @Deep.choose_lt Ver ⟨dv⟩ 8 _ key
  refine ⟨v, ?_⟩
  apply Array.ext'
  generalize cs.toList = L at *
  match L, hl with
  | [a0, b0, a1, b1, a2, b2, a3, b3, a4, b4, a5, b5, a6, b6, a7, b7], _ =>
    have e0 := hv 0 (by omega)
    have e1 := hv 1 (by omega)
    have e2 := hv 2 (by omega)
    have e3 := hv 3 (by omega)
    have e4 := hv 4 (by omega)
    have e5 := hv 5 (by omega)
    have e6 := hv 6 (by omega)
    have e7 := hv 7 (by omega)
    simp at e0 e1 e2 e3 e4 e5 e6 e7
    simp [wagg, e0, e1, e2, e3, e4, e5, e6, e7]
end Go.Proofs.Ytliopckocegknac

/- SerialJoins, walked. -/
namespace Go.Proofs.Ytliopckocegknac
open Go.RowKit Srt
set_option maxRecDepth 20000
attribute [local go_sem ↓] Go.wp_at_zero Go.wp_at_succ

theorem eq97 (v : Nat → Ver) (w : World) : (Op.equalIn 10000 97 (.agg (wagg v)) (.agg (wagg v))).run Try.prog w = .ok true w := by
  obtain ⟨i0, hi0, hz0, hz1, hz2⟩ := info_parts Try.info31
  have h := run_equalIn_array (P := Try.prog) w 9999 (wagg v) (wagg v) Try.underlying97 hi0
  rw [Try.cel31] at h
  rw [show (10000 : Nat) = 9999 + 1 from rfl, h]
  exact items24 9997 v (List.range 8) w (fun i hi => List.mem_range.1 hi)
theorem yields_av {ops : Array Oper} {S : World → Prop} {op : Oper} {a : Act} (hw : Region.wanted op (yielded ops a.tmps) = true) (x : Operand) (ho : op.op = .load 71 x) (b o : Nat) (hx : a.eval x = .pointer (some ⟨b, o, none⟩)) (u : Nat → Ver) (hS : ∀ w, S w → w.rangeAt b o (wagg u).toList) : YieldsIf Try.prog ops S op (.agg (wagg u)) a := by
  have h := yieldsIf_load_mid (P := Try.prog) hw 71 x ho b o hx (wagg u).toList _ hS Try.underlying71 rfl (by kernel_rfl)
  rw [Array.toArray_toList] at h
  exact h
theorem acts_take {w : World} {a : Option Addr} {l : List Ac} (h : ActsIn w a l) (k : Nat) : ActsIn w a (l.take k) := fun hp => by
  rw [List.length_take] at hp
  obtain ⟨b, o, e, h1⟩ := h (by omega)
  refine ⟨b, o, e, fun i x hx => h1 i x ?_⟩
  rw [List.getElem?_take] at hx
  split at hx
  · exact hx
  · cases hx
set_option maxHeartbeats 8000000 in
theorem sjoins12 (v : Nat → Ver) (a : Option Addr) (c : Nat) (l : List Ac) (ct : Int) (w : World) (h : AcsH w a l) (hc : l.length ≤ c) (hcm : c ≤ maxLen) (hn0 : a = none → c = 0) :
    Calls Try.prog 12 #[.agg (wagg v), .slice a l.length c, .int .i64 ct] w fun e w' => e = .returned (.bool true) ∧ Below w.heap.size w w' := by
  have HZ0 := hide ((zoo_nil (Kp.refl [] w)).box (wagg v) 71)
  have HA := hide h
  have HN0 := hide hn0
  clear h hn0
  unfold maxLen at hcm
  obtain ⟨n, hn⟩ : ∃ n, l.length = n := ⟨_, rfl⟩
  have HN := hide hn
  rw [hn] at hc ⊢
  clear hn
  go_enter Try.func12, Try.ntmps12
  go_wp2_with fail
  generalize w.alloc (.cells (wagg v) 71) = W0 at HZ0 ⊢
  generalize w.heap.size = p3 at HZ0 ⊢
  refine (sbegun W0).mono ?_
  rintro e w1 ⟨rfl, hk1⟩
  have HZ1 := hide ((unhide HZ0).kp0 hk1)
  clear hk1 HZ0
  go_wp2_with fail
  have HGA := hide (gacts a c l w1 ((unhide HA).kp0 (unhide HZ1).kp))
  rw [unhide HN] at HGA
  refine (unhide HGA).mono ?_
  rintro e w' ⟨q, rfl, hq, hw'⟩
  subst w'
  clear HGA
  cases q with
  | true =>
    clear hq
    go_wp2_with fail
    go_ret
    exact ⟨rfl, (unhide HZ1).kp.below (Nat.le_refl _) (by simp)⟩
  | false =>
  have HOK := hide (hq rfl)
  have hn1 : n ≤ 1000 := by have := (hq rfl).1; have := unhide HN; omega
  clear hq
  go_wp2_with fail
  go_loop [7] (fun i => ∃ k : Nat, k ≤ n ∧ i = .int .i64 k ∧ Hid (∀ j x, j < k → l[j]? = some x → keyB x.key = true)) (fun i => n - (intOf i).toNat)
  case atStart => exact ⟨0, Nat.zero_le _, rfl, fun j x hj => by omega⟩
  case round =>
    obtain ⟨k, hk, rfl, HKY⟩ := hrel
    by_cases hlt : k < n
    · have i1 : (k : Int) < (n : Int) := by omega
      have i0 : (0 : Int) ≤ (k : Int) := by omega
      have hln : k < l.length := by have := unhide HN; omega
      obtain ⟨b, o, rfl, hb⟩ := ((unhide HA).kp0 (unhide HZ1).kp).2 (by omega)
      obtain ⟨x, hx⟩ : ∃ x, l[k]? = some x := ⟨_, List.getElem?_eq_getElem hln⟩
      have q1 := (hb k x hx).c1
      have HX := hide hx
      clear hb hx
      obtain ⟨kd, key, to_, xt, xs, xl⟩ := x
      dsimp only at q1
      go_wp2_with fail
      refine (key12 key w1).mono ?_
      rintro e w' ⟨rfl, hw'⟩
      subst w'
      cases hkb : keyB key with
      | false =>
        clear hkb
        go_wp2_with fail
        go_ret
        exact ⟨rfl, (unhide HZ1).kp.below (Nat.le_refl _) (by simp)⟩
      | true =>
        have HKB := hide hkb
        clear hkb
        go_wp2_with fail
        refine ⟨⟨k + 1, by omega, by go_num, fun j y hj hy => ?_⟩, by simp [intOf]; omega⟩
        rcases Nat.lt_or_ge j k with e | e
        · exact unhide HKY j y e hy
        · have : j = k := by omega
          subst this
          rw [unhide HX] at hy
          cases hy
          exact unhide HKB
    · have i1 : ¬ (k : Int) < (n : Int) := by omega
      have HKA : Hid (∀ x, x ∈ l → keyB x.key = true) := fun x hx => by
        obtain ⟨j, hj, e⟩ := List.getElem_of_mem hx
        exact unhide HKY j x (by have := unhide HN; omega) (by rw [List.getElem?_eq_getElem hj, e])
      obtain ⟨d, hcut, hdn⟩ := cut_of ct (n := n) (by omega)
      have d0 : (0 : Int) ≤ (d : Int) := by omega
      have d1 : (d : Int) ≤ (c : Int) := by omega
      have d2 : (d : Int) ≤ (n : Int) := by omega
      have HJ : Hid (rpw v l = rpw (rpw v (l.take d)) (l.drop d) ∧ rpo v l = (rpo v (l.take d) && rpo (rpw v (l.take d)) (l.drop d))) := by
        have q := rpl_join (l.take d) (l.drop d) v (fun x hx => unhide HKA x (List.mem_of_mem_take hx))
        rw [List.take_append_drop] at q
        exact ⟨by show (rpl v true l).1 = _; rw [q], by show (rpl v true l).2 = _; rw [q]⟩
      clear HKY HKA
      have HR0 := hide (fun cc => replay v a cc l w1 ((unhide HA).ins.kp0 (unhide HZ1).kp) (unhide HOK))
      rw [unhide HN] at HR0
      have hb3 := zoo_varm (unhide HZ1) (List.Mem.head _)
      have HB3 := hide hb3
      clear hb3
      go_wp2_with (refine wpList_load_row rfl 71 _ rfl p3 rfl 71 _ (0, 0) _ (unhide HB3) Try.underlying71 rfl (by kernel_rfl) ?_)
      refine (unhide HR0 _).mono ?_
      rintro e w2 ⟨rfl, hk2⟩
      have HZ2 := hide ((unhide HZ1).kp0 hk2)
      clear hk2 HR0 HB3
      obtain ⟨X, hX⟩ : ∃ X, rpw v l = X := ⟨_, rfl⟩
      obtain ⟨bX, hbX⟩ : ∃ b, rpo v l = b := ⟨_, rfl⟩
      rw [hX, hbX] at HJ ⊢
      clear hX hbX
      have HZ3 := hide ((unhide HZ2).box (wagg X) 97)
      have HR1 := hide (fun aa cc W (hk : Kp [] w W) (hin : ActsIn w aa (l.take d)) => replay v aa cc (l.take d) W (hin.kp0 hk) ⟨by rw [List.length_take]; have := (unhide HOK).1; omega, fun x hx => (unhide HOK).2 x (List.mem_of_mem_take hx)⟩)
      have HR2 := hide (fun u aa cc W (hk : Kp [] w W) (hin : ActsIn w aa (l.drop d)) => replay u aa cc (l.drop d) W (hin.kp0 hk) ⟨by rw [List.length_drop]; have := (unhide HOK).1; omega, fun x hx => (unhide HOK).2 x (List.mem_of_mem_drop hx)⟩)
      have hlt1 : (l.take d).length = d := by rw [List.length_take]; have := unhide HN; omega
      have hlt2 : (l.drop d).length = n - d := by rw [List.length_drop]; have := unhide HN; omega
      rw [hlt1] at HR1
      rw [hlt2] at HR2
      obtain ⟨Y, hY⟩ : ∃ Y, rpw v (l.take d) = Y := ⟨_, rfl⟩
      obtain ⟨bY, hbY⟩ : ∃ b, rpo v (l.take d) = b := ⟨_, rfl⟩
      rw [hY, hbY] at HJ
      have HYY := hide (And.intro hY hbY)
      clear hY hbY hlt1 hlt2
      go_wp2_with (refine wpList_store_row rfl 97 _ _ rfl w2.heap.size (wagg X) rfl rfl 97 _ (heap_alloc_new w2 _) Try.size97 rfl (wagg_one _) ?_; rw [World.setRow_alloc_new])
      generalize w2.alloc (.cells (wagg X) 97) = W3 at HZ3 ⊢
      generalize w2.heap.size = p9 at HZ3 ⊢
      clear HZ2 HZ1
      obtain ⟨bZ, hbZ⟩ : ∃ b, rpo Y (l.drop d) = b := ⟨_, rfl⟩
      rw [hbZ] at HJ
      have HBZ := hide hbZ
      clear hbZ
      cases a with
      | none =>
        have hc0 := unhide HN0 rfl
        subst hc0
        obtain rfl : n = 0 := by omega
        obtain rfl : d = 0 := by omega
        refine wp_region_held_drew (S := fun w' => w'.rangeAt p3 0 (wagg v).toList) (by kernel_rfl) (rangeAt_var (zoo_varm ((unhide HZ3).kp0 ((Kp.refl [] W3).drew)) (List.Mem.tail _ (List.Mem.head _)))) (fun hHeld => ?_)
        have HA0 := hide ((unhide HZ3).kp0 ((Kp.refl [] W3).drew))
        generalize World.drew _ = WD at HA0 hHeld ⊢
        refine wpAnyH_tk (i := 0) rfl (by kernel_rfl) (by kernel_rfl) (by kernel_rfl) (fun _ _ _ h => h) (yields_av (by rfl) _ rfl p3 0 rfl v (fun _ h => h)) hHeld ?_
        try simp only [Act.put, List.setIfInBounds_toArray, List.set_cons_zero, List.set_cons_succ]
        refine wpAnyH_tk (i := 1) (v := ?_) rfl (by kernel_rfl) (by kernel_rfl) (by kernel_rfl) (fun _ _ _ h => h) (Or.inl ⟨by rfl, ?_⟩) hHeld ?_
        rotate_left
        · intro w hSw
          try dsimp only at hSw
          go_simp
          try with_reducible rfl
        try simp only [Act.put, List.setIfInBounds_toArray, List.set_cons_zero, List.set_cons_succ]
        refine wpAnyH_tk (i := 2) (v := ?_) rfl (by kernel_rfl) (by kernel_rfl) (by kernel_rfl) (fun _ _ _ h => h) (Or.inl ⟨by rfl, ?_⟩) hHeld ?_
        rotate_left
        · intro w hSw
          try dsimp only at hSw
          go_simp
          try with_reducible rfl
        try simp only [Act.put, List.setIfInBounds_toArray, List.set_cons_zero, List.set_cons_succ]
        refine wpAnyH_tk (i := 3) (v := ?_) rfl (by kernel_rfl) (by kernel_rfl) (by kernel_rfl) (fun _ _ _ h => h) (Or.inl ⟨by rfl, ?_⟩) hHeld ?_
        rotate_left
        · intro w hSw
          try dsimp only at hSw
          go_simp
          try with_reducible rfl
        try simp only [Act.put, List.setIfInBounds_toArray, List.set_cons_zero, List.set_cons_succ]
        refine wpAnyH_two (i := 4) (j := 8) rfl rfl (by kernel_rfl) (fun K hK => ?_) (fun K hK => ?_)
        · go_simp
          refine (unhide HR1 (none) _ _ (unhide HA0).kp (acts_take (unhide HA).ins _)).mono ?_
          rintro e w6 ⟨rfl, hk6⟩
          rw [(unhide HYY).1, (unhide HYY).2]
          have HA1 := hide ((unhide HA0).kp0 hk6)
          clear hk6
          go_wp2_with fail
          refine hK.out _ _ (rangeAt_var (zoo_varm (unhide HA1) (List.Mem.tail _ (List.Mem.head _)))) (fun hHeld2 => ?_)
          clear hK K hHeld
          have hHeld := hHeld2
          clear hHeld2
          try simp only [Act.put, List.setIfInBounds_toArray, List.set_cons_zero, List.set_cons_succ]
          refine wpAnyH_tk (i := 5) (v := ?_) rfl (by kernel_rfl) (by kernel_rfl) (by kernel_rfl) (fun _ _ _ h => h) (Or.inl ⟨by rfl, ?_⟩) hHeld ?_
          rotate_left
          · intro w hSw
            try dsimp only at hSw
            go_simp
            try with_reducible rfl
          try simp only [Act.put, List.setIfInBounds_toArray, List.set_cons_zero, List.set_cons_succ]
          refine wpAnyH_tk (i := 6) (v := ?_) rfl (by kernel_rfl) (by kernel_rfl) (by kernel_rfl) (fun _ _ _ h => h) (Or.inl ⟨by rfl, ?_⟩) hHeld ?_
          rotate_left
          · intro w hSw
            try dsimp only at hSw
            go_simp
            try with_reducible rfl
          try simp only [Act.put, List.setIfInBounds_toArray, List.set_cons_zero, List.set_cons_succ]
          refine wpAnyH_tk (i := 7) (v := ?_) rfl (by kernel_rfl) (by kernel_rfl) (by kernel_rfl) (fun _ _ _ h => h) (Or.inl ⟨by rfl, ?_⟩) hHeld ?_
          rotate_left
          · intro w hSw
            try dsimp only at hSw
            go_simp
            try with_reducible rfl
          try simp only [Act.put, List.setIfInBounds_toArray, List.set_cons_zero, List.set_cons_succ]
          refine wpAnyH_only (i := 8) rfl (by kernel_rfl) (fun K hK => ?_)
          go_simp
          have HA2 := hide ((unhide HA1).box (wagg (fun _ => dv)) 97)
          rw [zeros_eq] at HA2
          refine hK.out _ _ (rangeAt_var (zoo_varm (unhide HA2) (List.Mem.tail _ (List.Mem.tail _ (List.Mem.head _))))) (fun hHeld2 => ?_)
          clear hK K hHeld
          have hHeld := hHeld2
          clear hHeld2
          try simp only [Act.put, List.setIfInBounds_toArray, List.set_cons_zero, List.set_cons_succ]
          generalize w6.heap.size = p11 at *
          refine wpAnyH_only (i := 9) rfl (by kernel_rfl) (fun K hK => ?_)
          rw [if_pos (by rfl)]
          refine wp_store_row 97 _ _ rfl p11 (wagg Y) rfl rfl 97 _ (zoo_varm (unhide HA2) (List.Mem.head _)) Try.size97 rfl (wagg_one _) ?_
          have HZF := hide (zoo_setrL (l1 := []) (c' := wagg Y) (unhide HA2))
          refine hK.out _ _ (rangeAt_var (zoo_varm (unhide HZF) (List.Mem.tail _ (List.Mem.tail _ (List.Mem.head _))))) (fun hHeld2 => ?_)
          clear hK K hHeld
          have hHeld := hHeld2
          clear hHeld2
          simp only [Act.put]
          refine wpAnyH_tk (i := 10) (v := ?_) rfl (by kernel_rfl) (by kernel_rfl) (by kernel_rfl) (fun _ _ _ h => h) (Or.inl ⟨by rfl, ?_⟩) hHeld ?_
          rotate_left
          · intro w hSw
            try dsimp only at hSw
            go_simp
            try with_reducible rfl
          try simp only [Act.put, List.setIfInBounds_toArray, List.set_cons_zero, List.set_cons_succ]
          refine wpAnyH_done (by kernel_rfl) ?_ _
          generalize World.setRow _ _ _ = W9p11 at HZF ⊢
          clear hHeld
          go_wp2_with fail
          refine wp_region_held_drew (S := fun w' => w'.rangeAt p11 0 (wagg Y).toList) (by kernel_rfl) (rangeAt_var (zoo_varm ((unhide HZF).kp0 ((Kp.refl [] W9p11).drew)) (List.Mem.head _))) (fun hHeld => ?_)
          have HB0 := hide ((unhide HZF).kp0 ((Kp.refl [] W9p11).drew))
          generalize World.drew _ = WE at HB0 hHeld ⊢
          refine wpAnyH_tk (i := 0) rfl (by kernel_rfl) (by kernel_rfl) (by kernel_rfl) (fun _ _ _ h => h) (yields_s (by rfl) _ rfl p11 0 rfl Y (fun _ h => h)) hHeld ?_
          try simp only [Act.put, List.setIfInBounds_toArray, List.set_cons_zero, List.set_cons_succ]
          refine wpAnyH_tk (i := 1) (v := ?_) rfl (by kernel_rfl) (by kernel_rfl) (by kernel_rfl) (fun _ _ _ h => h) (Or.inl ⟨by rfl, ?_⟩) hHeld ?_
          rotate_left
          · intro w hSw
            try dsimp only at hSw
            go_simp
            try with_reducible rfl
          try simp only [Act.put, List.setIfInBounds_toArray, List.set_cons_zero, List.set_cons_succ]
          refine wpAnyH_tk (i := 2) (v := ?_) rfl (by kernel_rfl) (by kernel_rfl) (by kernel_rfl) (fun _ _ _ h => h) (Or.inl ⟨by rfl, ?_⟩) hHeld ?_
          rotate_left
          · intro w hSw
            try dsimp only at hSw
            go_simp
            try with_reducible rfl
          try simp only [Act.put, List.setIfInBounds_toArray, List.set_cons_zero, List.set_cons_succ]
          refine wpAnyH_tk (i := 3) (v := ?_) rfl (by kernel_rfl) (by kernel_rfl) (by kernel_rfl) (fun _ _ _ h => h) (Or.inl ⟨by rfl, ?_⟩) hHeld ?_
          rotate_left
          · intro w hSw
            try dsimp only at hSw
            go_simp
            try with_reducible rfl
          try simp only [Act.put, List.setIfInBounds_toArray, List.set_cons_zero, List.set_cons_succ]
          refine wpAnyH_two (i := 4) (j := 8) rfl rfl (by kernel_rfl) (fun K hK => ?_) (fun K hK => ?_)
          · go_simp
            refine (unhide HR2 Y _ _ _ (unhide HB0).kp (fun hp => absurd hp (by rw [List.length_drop]; have := unhide HN; omega))).mono ?_
            rintro e w6 ⟨rfl, hk6⟩
            rw [← (unhide HJ).1, unhide HBZ]
            have HB1 := hide ((unhide HB0).kp0 hk6)
            clear hk6
            go_wp2_with fail
            refine hK.out _ _ (rangeAt_var (zoo_varm (unhide HB1) (List.Mem.head _))) (fun hHeld2 => ?_)
            clear hK K hHeld
            have hHeld := hHeld2
            clear hHeld2
            try simp only [Act.put, List.setIfInBounds_toArray, List.set_cons_zero, List.set_cons_succ]
            refine wpAnyH_tk (i := 5) (v := ?_) rfl (by kernel_rfl) (by kernel_rfl) (by kernel_rfl) (fun _ _ _ h => h) (Or.inl ⟨by rfl, ?_⟩) hHeld ?_
            rotate_left
            · intro w hSw
              try dsimp only at hSw
              go_simp
              try with_reducible rfl
            try simp only [Act.put, List.setIfInBounds_toArray, List.set_cons_zero, List.set_cons_succ]
            refine wpAnyH_tk (i := 6) (v := ?_) rfl (by kernel_rfl) (by kernel_rfl) (by kernel_rfl) (fun _ _ _ h => h) (Or.inl ⟨by rfl, ?_⟩) hHeld ?_
            rotate_left
            · intro w hSw
              try dsimp only at hSw
              go_simp
              try with_reducible rfl
            try simp only [Act.put, List.setIfInBounds_toArray, List.set_cons_zero, List.set_cons_succ]
            refine wpAnyH_tk (i := 7) (v := ?_) rfl (by kernel_rfl) (by kernel_rfl) (by kernel_rfl) (fun _ _ _ h => h) (Or.inl ⟨by rfl, ?_⟩) hHeld ?_
            rotate_left
            · intro w hSw
              try dsimp only at hSw
              go_simp
              try with_reducible rfl
            try simp only [Act.put, List.setIfInBounds_toArray, List.set_cons_zero, List.set_cons_succ]
            refine wpAnyH_only (i := 8) rfl (by kernel_rfl) (fun K hK => ?_)
            go_simp
            have HB2 := hide ((unhide HB1).box (wagg (fun _ => dv)) 97)
            rw [zeros_eq] at HB2
            refine hK.out _ _ (rangeAt_var (zoo_varm (unhide HB2) (List.Mem.tail _ (List.Mem.head _)))) (fun hHeld2 => ?_)
            clear hK K hHeld
            have hHeld := hHeld2
            clear hHeld2
            try simp only [Act.put, List.setIfInBounds_toArray, List.set_cons_zero, List.set_cons_succ]
            generalize w6.heap.size = p13 at *
            refine wpAnyH_only (i := 9) rfl (by kernel_rfl) (fun K hK => ?_)
            rw [if_pos (by rfl)]
            refine wp_store_row 97 _ _ rfl p13 (wagg X) rfl rfl 97 _ (zoo_varm (unhide HB2) (List.Mem.head _)) Try.size97 rfl (wagg_one _) ?_
            have HZG := hide (zoo_setrL (l1 := []) (c' := wagg X) (unhide HB2))
            refine hK.out _ _ (rangeAt_var (zoo_varm (unhide HZG) (List.Mem.tail _ (List.Mem.head _)))) (fun hHeld2 => ?_)
            clear hK K hHeld
            have hHeld := hHeld2
            clear hHeld2
            simp only [Act.put]
            refine wpAnyH_tk (i := 10) (v := ?_) rfl (by kernel_rfl) (by kernel_rfl) (by kernel_rfl) (fun _ _ _ h => h) (Or.inl ⟨by rfl, ?_⟩) hHeld ?_
            rotate_left
            · intro w hSw
              try dsimp only at hSw
              go_simp
              try with_reducible rfl
            try simp only [Act.put, List.setIfInBounds_toArray, List.set_cons_zero, List.set_cons_succ]
            refine wpAnyH_done (by kernel_rfl) ?_ _
            generalize World.setRow _ _ _ = W9p13 at HZG ⊢
            clear hHeld
            have A9 := hide (zoo_varm (unhide HZG) (List.Mem.tail _ (List.Mem.tail _ (List.Mem.head _))))
            have A13 := hide (zoo_varm (unhide HZG) (List.Mem.head _))
            have hbj := (unhide HJ).2
            subst hbj
            have heq := eq97 X
            cases bY <;> cases bZ
            all_goals
              go_wp2_with (first | (refine wpList_load97 (by rfl) _ rfl p9 rfl X (unhide A9) ?_) | (refine wpList_load97 (by rfl) _ rfl p13 rfl X (unhide A13) ?_))
              go_ret
              exact ⟨by trivial, (unhide HZG).kp.below (Nat.le_refl _) (by simp)⟩
          · go_simp
            have HB1 := hide ((unhide HB0).box (wagg (fun _ => dv)) 97)
            rw [zeros_eq] at HB1
            refine hK.out _ _ (rangeAt_var (zoo_varm (unhide HB1) (List.Mem.tail _ (List.Mem.head _)))) (fun hHeld2 => ?_)
            clear hK K hHeld
            have hHeld := hHeld2
            clear hHeld2
            try simp only [Act.put, List.setIfInBounds_toArray, List.set_cons_zero, List.set_cons_succ]
            generalize WE.heap.size = p13 at *
            refine wpAnyH_only (i := 4) rfl (by kernel_rfl) (fun K hK => ?_)
            go_simp
            refine (unhide HR2 Y _ _ _ (unhide HB1).kp (fun hp => absurd hp (by rw [List.length_drop]; have := unhide HN; omega))).mono ?_
            rintro e w6 ⟨rfl, hk6⟩
            rw [← (unhide HJ).1, unhide HBZ]
            have HB2 := hide ((unhide HB1).kp0 hk6)
            clear hk6
            go_wp2_with fail
            refine hK.out _ _ (rangeAt_var (zoo_varm (unhide HB2) (List.Mem.tail _ (List.Mem.head _)))) (fun hHeld2 => ?_)
            clear hK K hHeld
            have hHeld := hHeld2
            clear hHeld2
            try simp only [Act.put, List.setIfInBounds_toArray, List.set_cons_zero, List.set_cons_succ]
            refine wpAnyH_tk (i := 5) (v := ?_) rfl (by kernel_rfl) (by kernel_rfl) (by kernel_rfl) (fun _ _ _ h => h) (Or.inl ⟨by rfl, ?_⟩) hHeld ?_
            rotate_left
            · intro w hSw
              try dsimp only at hSw
              go_simp
              try with_reducible rfl
            try simp only [Act.put, List.setIfInBounds_toArray, List.set_cons_zero, List.set_cons_succ]
            refine wpAnyH_tk (i := 6) (v := ?_) rfl (by kernel_rfl) (by kernel_rfl) (by kernel_rfl) (fun _ _ _ h => h) (Or.inl ⟨by rfl, ?_⟩) hHeld ?_
            rotate_left
            · intro w hSw
              try dsimp only at hSw
              go_simp
              try with_reducible rfl
            try simp only [Act.put, List.setIfInBounds_toArray, List.set_cons_zero, List.set_cons_succ]
            refine wpAnyH_tk (i := 7) (v := ?_) rfl (by kernel_rfl) (by kernel_rfl) (by kernel_rfl) (fun _ _ _ h => h) (Or.inl ⟨by rfl, ?_⟩) hHeld ?_
            rotate_left
            · intro w hSw
              try dsimp only at hSw
              go_simp
              try with_reducible rfl
            try simp only [Act.put, List.setIfInBounds_toArray, List.set_cons_zero, List.set_cons_succ]
            refine wpAnyH_only (i := 9) rfl (by kernel_rfl) (fun K hK => ?_)
            rw [if_pos (by rfl)]
            refine wp_store_row 97 _ _ rfl p13 (wagg X) rfl rfl 97 _ (zoo_varm (unhide HB2) (List.Mem.head _)) Try.size97 rfl (wagg_one _) ?_
            have HZG := hide (zoo_setrL (l1 := []) (c' := wagg X) (unhide HB2))
            refine hK.out _ _ (rangeAt_var (zoo_varm (unhide HZG) (List.Mem.tail _ (List.Mem.head _)))) (fun hHeld2 => ?_)
            clear hK K hHeld
            have hHeld := hHeld2
            clear hHeld2
            simp only [Act.put]
            refine wpAnyH_tk (i := 10) (v := ?_) rfl (by kernel_rfl) (by kernel_rfl) (by kernel_rfl) (fun _ _ _ h => h) (Or.inl ⟨by rfl, ?_⟩) hHeld ?_
            rotate_left
            · intro w hSw
              try dsimp only at hSw
              go_simp
              try with_reducible rfl
            try simp only [Act.put, List.setIfInBounds_toArray, List.set_cons_zero, List.set_cons_succ]
            refine wpAnyH_done (by kernel_rfl) ?_ _
            generalize World.setRow _ _ _ = W9p13 at HZG ⊢
            clear hHeld
            have A9 := hide (zoo_varm (unhide HZG) (List.Mem.tail _ (List.Mem.tail _ (List.Mem.head _))))
            have A13 := hide (zoo_varm (unhide HZG) (List.Mem.head _))
            have hbj := (unhide HJ).2
            subst hbj
            have heq := eq97 X
            cases bY <;> cases bZ
            all_goals
              go_wp2_with (first | (refine wpList_load97 (by rfl) _ rfl p9 rfl X (unhide A9) ?_) | (refine wpList_load97 (by rfl) _ rfl p13 rfl X (unhide A13) ?_))
              go_ret
              exact ⟨by trivial, (unhide HZG).kp.below (Nat.le_refl _) (by simp)⟩
        · go_simp
          have HA1 := hide ((unhide HA0).box (wagg (fun _ => dv)) 97)
          rw [zeros_eq] at HA1
          refine hK.out _ _ (rangeAt_var (zoo_varm (unhide HA1) (List.Mem.tail _ (List.Mem.tail _ (List.Mem.head _))))) (fun hHeld2 => ?_)
          clear hK K hHeld
          have hHeld := hHeld2
          clear hHeld2
          try simp only [Act.put, List.setIfInBounds_toArray, List.set_cons_zero, List.set_cons_succ]
          generalize WD.heap.size = p11 at *
          refine wpAnyH_only (i := 4) rfl (by kernel_rfl) (fun K hK => ?_)
          go_simp
          refine (unhide HR1 (none) _ _ (unhide HA1).kp (acts_take (unhide HA).ins _)).mono ?_
          rintro e w6 ⟨rfl, hk6⟩
          rw [(unhide HYY).1, (unhide HYY).2]
          have HA2 := hide ((unhide HA1).kp0 hk6)
          clear hk6
          go_wp2_with fail
          refine hK.out _ _ (rangeAt_var (zoo_varm (unhide HA2) (List.Mem.tail _ (List.Mem.tail _ (List.Mem.head _))))) (fun hHeld2 => ?_)
          clear hK K hHeld
          have hHeld := hHeld2
          clear hHeld2
          try simp only [Act.put, List.setIfInBounds_toArray, List.set_cons_zero, List.set_cons_succ]
          refine wpAnyH_tk (i := 5) (v := ?_) rfl (by kernel_rfl) (by kernel_rfl) (by kernel_rfl) (fun _ _ _ h => h) (Or.inl ⟨by rfl, ?_⟩) hHeld ?_
          rotate_left
          · intro w hSw
            try dsimp only at hSw
            go_simp
            try with_reducible rfl
          try simp only [Act.put, List.setIfInBounds_toArray, List.set_cons_zero, List.set_cons_succ]
          refine wpAnyH_tk (i := 6) (v := ?_) rfl (by kernel_rfl) (by kernel_rfl) (by kernel_rfl) (fun _ _ _ h => h) (Or.inl ⟨by rfl, ?_⟩) hHeld ?_
          rotate_left
          · intro w hSw
            try dsimp only at hSw
            go_simp
            try with_reducible rfl
          try simp only [Act.put, List.setIfInBounds_toArray, List.set_cons_zero, List.set_cons_succ]
          refine wpAnyH_tk (i := 7) (v := ?_) rfl (by kernel_rfl) (by kernel_rfl) (by kernel_rfl) (fun _ _ _ h => h) (Or.inl ⟨by rfl, ?_⟩) hHeld ?_
          rotate_left
          · intro w hSw
            try dsimp only at hSw
            go_simp
            try with_reducible rfl
          try simp only [Act.put, List.setIfInBounds_toArray, List.set_cons_zero, List.set_cons_succ]
          refine wpAnyH_only (i := 9) rfl (by kernel_rfl) (fun K hK => ?_)
          rw [if_pos (by rfl)]
          refine wp_store_row 97 _ _ rfl p11 (wagg Y) rfl rfl 97 _ (zoo_varm (unhide HA2) (List.Mem.head _)) Try.size97 rfl (wagg_one _) ?_
          have HZF := hide (zoo_setrL (l1 := []) (c' := wagg Y) (unhide HA2))
          refine hK.out _ _ (rangeAt_var (zoo_varm (unhide HZF) (List.Mem.tail _ (List.Mem.tail _ (List.Mem.head _))))) (fun hHeld2 => ?_)
          clear hK K hHeld
          have hHeld := hHeld2
          clear hHeld2
          simp only [Act.put]
          refine wpAnyH_tk (i := 10) (v := ?_) rfl (by kernel_rfl) (by kernel_rfl) (by kernel_rfl) (fun _ _ _ h => h) (Or.inl ⟨by rfl, ?_⟩) hHeld ?_
          rotate_left
          · intro w hSw
            try dsimp only at hSw
            go_simp
            try with_reducible rfl
          try simp only [Act.put, List.setIfInBounds_toArray, List.set_cons_zero, List.set_cons_succ]
          refine wpAnyH_done (by kernel_rfl) ?_ _
          generalize World.setRow _ _ _ = W9p11 at HZF ⊢
          clear hHeld
          go_wp2_with fail
          refine wp_region_held_drew (S := fun w' => w'.rangeAt p11 0 (wagg Y).toList) (by kernel_rfl) (rangeAt_var (zoo_varm ((unhide HZF).kp0 ((Kp.refl [] W9p11).drew)) (List.Mem.head _))) (fun hHeld => ?_)
          have HB0 := hide ((unhide HZF).kp0 ((Kp.refl [] W9p11).drew))
          generalize World.drew _ = WE at HB0 hHeld ⊢
          refine wpAnyH_tk (i := 0) rfl (by kernel_rfl) (by kernel_rfl) (by kernel_rfl) (fun _ _ _ h => h) (yields_s (by rfl) _ rfl p11 0 rfl Y (fun _ h => h)) hHeld ?_
          try simp only [Act.put, List.setIfInBounds_toArray, List.set_cons_zero, List.set_cons_succ]
          refine wpAnyH_tk (i := 1) (v := ?_) rfl (by kernel_rfl) (by kernel_rfl) (by kernel_rfl) (fun _ _ _ h => h) (Or.inl ⟨by rfl, ?_⟩) hHeld ?_
          rotate_left
          · intro w hSw
            try dsimp only at hSw
            go_simp
            try with_reducible rfl
          try simp only [Act.put, List.setIfInBounds_toArray, List.set_cons_zero, List.set_cons_succ]
          refine wpAnyH_tk (i := 2) (v := ?_) rfl (by kernel_rfl) (by kernel_rfl) (by kernel_rfl) (fun _ _ _ h => h) (Or.inl ⟨by rfl, ?_⟩) hHeld ?_
          rotate_left
          · intro w hSw
            try dsimp only at hSw
            go_simp
            try with_reducible rfl
          try simp only [Act.put, List.setIfInBounds_toArray, List.set_cons_zero, List.set_cons_succ]
          refine wpAnyH_tk (i := 3) (v := ?_) rfl (by kernel_rfl) (by kernel_rfl) (by kernel_rfl) (fun _ _ _ h => h) (Or.inl ⟨by rfl, ?_⟩) hHeld ?_
          rotate_left
          · intro w hSw
            try dsimp only at hSw
            go_simp
            try with_reducible rfl
          try simp only [Act.put, List.setIfInBounds_toArray, List.set_cons_zero, List.set_cons_succ]
          refine wpAnyH_two (i := 4) (j := 8) rfl rfl (by kernel_rfl) (fun K hK => ?_) (fun K hK => ?_)
          · go_simp
            refine (unhide HR2 Y _ _ _ (unhide HB0).kp (fun hp => absurd hp (by rw [List.length_drop]; have := unhide HN; omega))).mono ?_
            rintro e w6 ⟨rfl, hk6⟩
            rw [← (unhide HJ).1, unhide HBZ]
            have HB1 := hide ((unhide HB0).kp0 hk6)
            clear hk6
            go_wp2_with fail
            refine hK.out _ _ (rangeAt_var (zoo_varm (unhide HB1) (List.Mem.head _))) (fun hHeld2 => ?_)
            clear hK K hHeld
            have hHeld := hHeld2
            clear hHeld2
            try simp only [Act.put, List.setIfInBounds_toArray, List.set_cons_zero, List.set_cons_succ]
            refine wpAnyH_tk (i := 5) (v := ?_) rfl (by kernel_rfl) (by kernel_rfl) (by kernel_rfl) (fun _ _ _ h => h) (Or.inl ⟨by rfl, ?_⟩) hHeld ?_
            rotate_left
            · intro w hSw
              try dsimp only at hSw
              go_simp
              try with_reducible rfl
            try simp only [Act.put, List.setIfInBounds_toArray, List.set_cons_zero, List.set_cons_succ]
            refine wpAnyH_tk (i := 6) (v := ?_) rfl (by kernel_rfl) (by kernel_rfl) (by kernel_rfl) (fun _ _ _ h => h) (Or.inl ⟨by rfl, ?_⟩) hHeld ?_
            rotate_left
            · intro w hSw
              try dsimp only at hSw
              go_simp
              try with_reducible rfl
            try simp only [Act.put, List.setIfInBounds_toArray, List.set_cons_zero, List.set_cons_succ]
            refine wpAnyH_tk (i := 7) (v := ?_) rfl (by kernel_rfl) (by kernel_rfl) (by kernel_rfl) (fun _ _ _ h => h) (Or.inl ⟨by rfl, ?_⟩) hHeld ?_
            rotate_left
            · intro w hSw
              try dsimp only at hSw
              go_simp
              try with_reducible rfl
            try simp only [Act.put, List.setIfInBounds_toArray, List.set_cons_zero, List.set_cons_succ]
            refine wpAnyH_only (i := 8) rfl (by kernel_rfl) (fun K hK => ?_)
            go_simp
            have HB2 := hide ((unhide HB1).box (wagg (fun _ => dv)) 97)
            rw [zeros_eq] at HB2
            refine hK.out _ _ (rangeAt_var (zoo_varm (unhide HB2) (List.Mem.tail _ (List.Mem.head _)))) (fun hHeld2 => ?_)
            clear hK K hHeld
            have hHeld := hHeld2
            clear hHeld2
            try simp only [Act.put, List.setIfInBounds_toArray, List.set_cons_zero, List.set_cons_succ]
            generalize w6.heap.size = p13 at *
            refine wpAnyH_only (i := 9) rfl (by kernel_rfl) (fun K hK => ?_)
            rw [if_pos (by rfl)]
            refine wp_store_row 97 _ _ rfl p13 (wagg X) rfl rfl 97 _ (zoo_varm (unhide HB2) (List.Mem.head _)) Try.size97 rfl (wagg_one _) ?_
            have HZG := hide (zoo_setrL (l1 := []) (c' := wagg X) (unhide HB2))
            refine hK.out _ _ (rangeAt_var (zoo_varm (unhide HZG) (List.Mem.tail _ (List.Mem.head _)))) (fun hHeld2 => ?_)
            clear hK K hHeld
            have hHeld := hHeld2
            clear hHeld2
            simp only [Act.put]
            refine wpAnyH_tk (i := 10) (v := ?_) rfl (by kernel_rfl) (by kernel_rfl) (by kernel_rfl) (fun _ _ _ h => h) (Or.inl ⟨by rfl, ?_⟩) hHeld ?_
            rotate_left
            · intro w hSw
              try dsimp only at hSw
              go_simp
              try with_reducible rfl
            try simp only [Act.put, List.setIfInBounds_toArray, List.set_cons_zero, List.set_cons_succ]
            refine wpAnyH_done (by kernel_rfl) ?_ _
            generalize World.setRow _ _ _ = W9p13 at HZG ⊢
            clear hHeld
            have A9 := hide (zoo_varm (unhide HZG) (List.Mem.tail _ (List.Mem.tail _ (List.Mem.head _))))
            have A13 := hide (zoo_varm (unhide HZG) (List.Mem.head _))
            have hbj := (unhide HJ).2
            subst hbj
            have heq := eq97 X
            cases bY <;> cases bZ
            all_goals
              go_wp2_with (first | (refine wpList_load97 (by rfl) _ rfl p9 rfl X (unhide A9) ?_) | (refine wpList_load97 (by rfl) _ rfl p13 rfl X (unhide A13) ?_))
              go_ret
              exact ⟨by trivial, (unhide HZG).kp.below (Nat.le_refl _) (by simp)⟩
          · go_simp
            have HB1 := hide ((unhide HB0).box (wagg (fun _ => dv)) 97)
            rw [zeros_eq] at HB1
            refine hK.out _ _ (rangeAt_var (zoo_varm (unhide HB1) (List.Mem.tail _ (List.Mem.head _)))) (fun hHeld2 => ?_)
            clear hK K hHeld
            have hHeld := hHeld2
            clear hHeld2
            try simp only [Act.put, List.setIfInBounds_toArray, List.set_cons_zero, List.set_cons_succ]
            generalize WE.heap.size = p13 at *
            refine wpAnyH_only (i := 4) rfl (by kernel_rfl) (fun K hK => ?_)
            go_simp
            refine (unhide HR2 Y _ _ _ (unhide HB1).kp (fun hp => absurd hp (by rw [List.length_drop]; have := unhide HN; omega))).mono ?_
            rintro e w6 ⟨rfl, hk6⟩
            rw [← (unhide HJ).1, unhide HBZ]
            have HB2 := hide ((unhide HB1).kp0 hk6)
            clear hk6
            go_wp2_with fail
            refine hK.out _ _ (rangeAt_var (zoo_varm (unhide HB2) (List.Mem.tail _ (List.Mem.head _)))) (fun hHeld2 => ?_)
            clear hK K hHeld
            have hHeld := hHeld2
            clear hHeld2
            try simp only [Act.put, List.setIfInBounds_toArray, List.set_cons_zero, List.set_cons_succ]
            refine wpAnyH_tk (i := 5) (v := ?_) rfl (by kernel_rfl) (by kernel_rfl) (by kernel_rfl) (fun _ _ _ h => h) (Or.inl ⟨by rfl, ?_⟩) hHeld ?_
            rotate_left
            · intro w hSw
              try dsimp only at hSw
              go_simp
              try with_reducible rfl
            try simp only [Act.put, List.setIfInBounds_toArray, List.set_cons_zero, List.set_cons_succ]
            refine wpAnyH_tk (i := 6) (v := ?_) rfl (by kernel_rfl) (by kernel_rfl) (by kernel_rfl) (fun _ _ _ h => h) (Or.inl ⟨by rfl, ?_⟩) hHeld ?_
            rotate_left
            · intro w hSw
              try dsimp only at hSw
              go_simp
              try with_reducible rfl
            try simp only [Act.put, List.setIfInBounds_toArray, List.set_cons_zero, List.set_cons_succ]
            refine wpAnyH_tk (i := 7) (v := ?_) rfl (by kernel_rfl) (by kernel_rfl) (by kernel_rfl) (fun _ _ _ h => h) (Or.inl ⟨by rfl, ?_⟩) hHeld ?_
            rotate_left
            · intro w hSw
              try dsimp only at hSw
              go_simp
              try with_reducible rfl
            try simp only [Act.put, List.setIfInBounds_toArray, List.set_cons_zero, List.set_cons_succ]
            refine wpAnyH_only (i := 9) rfl (by kernel_rfl) (fun K hK => ?_)
            rw [if_pos (by rfl)]
            refine wp_store_row 97 _ _ rfl p13 (wagg X) rfl rfl 97 _ (zoo_varm (unhide HB2) (List.Mem.head _)) Try.size97 rfl (wagg_one _) ?_
            have HZG := hide (zoo_setrL (l1 := []) (c' := wagg X) (unhide HB2))
            refine hK.out _ _ (rangeAt_var (zoo_varm (unhide HZG) (List.Mem.tail _ (List.Mem.head _)))) (fun hHeld2 => ?_)
            clear hK K hHeld
            have hHeld := hHeld2
            clear hHeld2
            simp only [Act.put]
            refine wpAnyH_tk (i := 10) (v := ?_) rfl (by kernel_rfl) (by kernel_rfl) (by kernel_rfl) (fun _ _ _ h => h) (Or.inl ⟨by rfl, ?_⟩) hHeld ?_
            rotate_left
            · intro w hSw
              try dsimp only at hSw
              go_simp
              try with_reducible rfl
            try simp only [Act.put, List.setIfInBounds_toArray, List.set_cons_zero, List.set_cons_succ]
            refine wpAnyH_done (by kernel_rfl) ?_ _
            generalize World.setRow _ _ _ = W9p13 at HZG ⊢
            clear hHeld
            have A9 := hide (zoo_varm (unhide HZG) (List.Mem.tail _ (List.Mem.tail _ (List.Mem.head _))))
            have A13 := hide (zoo_varm (unhide HZG) (List.Mem.head _))
            have hbj := (unhide HJ).2
            subst hbj
            have heq := eq97 X
            cases bY <;> cases bZ
            all_goals
              go_wp2_with (first | (refine wpList_load97 (by rfl) _ rfl p9 rfl X (unhide A9) ?_) | (refine wpList_load97 (by rfl) _ rfl p13 rfl X (unhide A13) ?_))
              go_ret
              exact ⟨by trivial, (unhide HZG).kp.below (Nat.le_refl _) (by simp)⟩
      | some ad =>
        by_cases hcd : c = d
        · have hcd2 : c - d = 0 := by omega
          refine wp_region_held_drew (S := fun w' => w'.rangeAt p3 0 (wagg v).toList) (by kernel_rfl) (rangeAt_var (zoo_varm ((unhide HZ3).kp0 ((Kp.refl [] W3).drew)) (List.Mem.tail _ (List.Mem.head _)))) (fun hHeld => ?_)
          have HA0 := hide ((unhide HZ3).kp0 ((Kp.refl [] W3).drew))
          generalize World.drew _ = WD at HA0 hHeld ⊢
          refine wpAnyH_tk (i := 0) rfl (by kernel_rfl) (by kernel_rfl) (by kernel_rfl) (fun _ _ _ h => h) (yields_av (by rfl) _ rfl p3 0 rfl v (fun _ h => h)) hHeld ?_
          try simp only [Act.put, List.setIfInBounds_toArray, List.set_cons_zero, List.set_cons_succ]
          refine wpAnyH_tk (i := 1) (v := ?_) rfl (by kernel_rfl) (by kernel_rfl) (by kernel_rfl) (fun _ _ _ h => h) (Or.inl ⟨by rfl, ?_⟩) hHeld ?_
          rotate_left
          · intro w hSw
            try dsimp only at hSw
            go_simp
            try with_reducible rfl
          try simp only [Act.put, List.setIfInBounds_toArray, List.set_cons_zero, List.set_cons_succ]
          refine wpAnyH_tk (i := 2) (v := ?_) rfl (by kernel_rfl) (by kernel_rfl) (by kernel_rfl) (fun _ _ _ h => h) (Or.inl ⟨by rfl, ?_⟩) hHeld ?_
          rotate_left
          · intro w hSw
            try dsimp only at hSw
            go_simp
            try with_reducible rfl
          try simp only [Act.put, List.setIfInBounds_toArray, List.set_cons_zero, List.set_cons_succ]
          refine wpAnyH_tk (i := 3) (v := ?_) rfl (by kernel_rfl) (by kernel_rfl) (by kernel_rfl) (fun _ _ _ h => h) (Or.inl ⟨by rfl, ?_⟩) hHeld ?_
          rotate_left
          · intro w hSw
            try dsimp only at hSw
            go_simp
            try with_reducible rfl
          try simp only [Act.put, List.setIfInBounds_toArray, List.set_cons_zero, List.set_cons_succ]
          refine wpAnyH_two (i := 4) (j := 8) rfl rfl (by kernel_rfl) (fun K hK => ?_) (fun K hK => ?_)
          · go_simp
            refine (unhide HR1 (some ad) _ _ (unhide HA0).kp (acts_take (unhide HA).ins _)).mono ?_
            rintro e w6 ⟨rfl, hk6⟩
            rw [(unhide HYY).1, (unhide HYY).2]
            have HA1 := hide ((unhide HA0).kp0 hk6)
            clear hk6
            go_wp2_with fail
            refine hK.out _ _ (rangeAt_var (zoo_varm (unhide HA1) (List.Mem.tail _ (List.Mem.head _)))) (fun hHeld2 => ?_)
            clear hK K hHeld
            have hHeld := hHeld2
            clear hHeld2
            try simp only [Act.put, List.setIfInBounds_toArray, List.set_cons_zero, List.set_cons_succ]
            refine wpAnyH_tk (i := 5) (v := ?_) rfl (by kernel_rfl) (by kernel_rfl) (by kernel_rfl) (fun _ _ _ h => h) (Or.inl ⟨by rfl, ?_⟩) hHeld ?_
            rotate_left
            · intro w hSw
              try dsimp only at hSw
              go_simp
              try with_reducible rfl
            try simp only [Act.put, List.setIfInBounds_toArray, List.set_cons_zero, List.set_cons_succ]
            refine wpAnyH_tk (i := 6) (v := ?_) rfl (by kernel_rfl) (by kernel_rfl) (by kernel_rfl) (fun _ _ _ h => h) (Or.inl ⟨by rfl, ?_⟩) hHeld ?_
            rotate_left
            · intro w hSw
              try dsimp only at hSw
              go_simp
              try with_reducible rfl
            try simp only [Act.put, List.setIfInBounds_toArray, List.set_cons_zero, List.set_cons_succ]
            refine wpAnyH_tk (i := 7) (v := ?_) rfl (by kernel_rfl) (by kernel_rfl) (by kernel_rfl) (fun _ _ _ h => h) (Or.inl ⟨by rfl, ?_⟩) hHeld ?_
            rotate_left
            · intro w hSw
              try dsimp only at hSw
              go_simp
              try with_reducible rfl
            try simp only [Act.put, List.setIfInBounds_toArray, List.set_cons_zero, List.set_cons_succ]
            refine wpAnyH_only (i := 8) rfl (by kernel_rfl) (fun K hK => ?_)
            go_simp
            have HA2 := hide ((unhide HA1).box (wagg (fun _ => dv)) 97)
            rw [zeros_eq] at HA2
            refine hK.out _ _ (rangeAt_var (zoo_varm (unhide HA2) (List.Mem.tail _ (List.Mem.tail _ (List.Mem.head _))))) (fun hHeld2 => ?_)
            clear hK K hHeld
            have hHeld := hHeld2
            clear hHeld2
            try simp only [Act.put, List.setIfInBounds_toArray, List.set_cons_zero, List.set_cons_succ]
            generalize w6.heap.size = p11 at *
            refine wpAnyH_only (i := 9) rfl (by kernel_rfl) (fun K hK => ?_)
            rw [if_pos (by rfl)]
            refine wp_store_row 97 _ _ rfl p11 (wagg Y) rfl rfl 97 _ (zoo_varm (unhide HA2) (List.Mem.head _)) Try.size97 rfl (wagg_one _) ?_
            have HZF := hide (zoo_setrL (l1 := []) (c' := wagg Y) (unhide HA2))
            refine hK.out _ _ (rangeAt_var (zoo_varm (unhide HZF) (List.Mem.tail _ (List.Mem.tail _ (List.Mem.head _))))) (fun hHeld2 => ?_)
            clear hK K hHeld
            have hHeld := hHeld2
            clear hHeld2
            simp only [Act.put]
            refine wpAnyH_tk (i := 10) (v := ?_) rfl (by kernel_rfl) (by kernel_rfl) (by kernel_rfl) (fun _ _ _ h => h) (Or.inl ⟨by rfl, ?_⟩) hHeld ?_
            rotate_left
            · intro w hSw
              try dsimp only at hSw
              go_simp
              try with_reducible rfl
            try simp only [Act.put, List.setIfInBounds_toArray, List.set_cons_zero, List.set_cons_succ]
            refine wpAnyH_done (by kernel_rfl) ?_ _
            generalize World.setRow _ _ _ = W9p11 at HZF ⊢
            clear hHeld
            go_wp2_with fail
            refine wp_region_held_drew (S := fun w' => w'.rangeAt p11 0 (wagg Y).toList) (by kernel_rfl) (rangeAt_var (zoo_varm ((unhide HZF).kp0 ((Kp.refl [] W9p11).drew)) (List.Mem.head _))) (fun hHeld => ?_)
            have HB0 := hide ((unhide HZF).kp0 ((Kp.refl [] W9p11).drew))
            generalize World.drew _ = WE at HB0 hHeld ⊢
            refine wpAnyH_tk (i := 0) rfl (by kernel_rfl) (by kernel_rfl) (by kernel_rfl) (fun _ _ _ h => h) (yields_s (by rfl) _ rfl p11 0 rfl Y (fun _ h => h)) hHeld ?_
            try simp only [Act.put, List.setIfInBounds_toArray, List.set_cons_zero, List.set_cons_succ]
            refine wpAnyH_tk (i := 1) (v := ?_) rfl (by kernel_rfl) (by kernel_rfl) (by kernel_rfl) (fun _ _ _ h => h) (Or.inl ⟨by rfl, ?_⟩) hHeld ?_
            rotate_left
            · intro w hSw
              try dsimp only at hSw
              go_simp
              try with_reducible rfl
            try simp only [Act.put, List.setIfInBounds_toArray, List.set_cons_zero, List.set_cons_succ]
            refine wpAnyH_tk (i := 2) (v := ?_) rfl (by kernel_rfl) (by kernel_rfl) (by kernel_rfl) (fun _ _ _ h => h) (Or.inl ⟨by rfl, ?_⟩) hHeld ?_
            rotate_left
            · intro w hSw
              try dsimp only at hSw
              go_simp
              try with_reducible rfl
            try simp only [Act.put, List.setIfInBounds_toArray, List.set_cons_zero, List.set_cons_succ]
            refine wpAnyH_tk (i := 3) (v := ?_) rfl (by kernel_rfl) (by kernel_rfl) (by kernel_rfl) (fun _ _ _ h => h) (Or.inl ⟨by rfl, ?_⟩) hHeld ?_
            rotate_left
            · intro w hSw
              try dsimp only at hSw
              go_simp
              try with_reducible rfl
            try simp only [Act.put, List.setIfInBounds_toArray, List.set_cons_zero, List.set_cons_succ]
            refine wpAnyH_two (i := 4) (j := 8) rfl rfl (by kernel_rfl) (fun K hK => ?_) (fun K hK => ?_)
            · go_simp
              refine (unhide HR2 Y _ _ _ (unhide HB0).kp (fun hp => absurd hp (by rw [List.length_drop]; have := unhide HN; omega))).mono ?_
              rintro e w6 ⟨rfl, hk6⟩
              rw [← (unhide HJ).1, unhide HBZ]
              have HB1 := hide ((unhide HB0).kp0 hk6)
              clear hk6
              go_wp2_with fail
              refine hK.out _ _ (rangeAt_var (zoo_varm (unhide HB1) (List.Mem.head _))) (fun hHeld2 => ?_)
              clear hK K hHeld
              have hHeld := hHeld2
              clear hHeld2
              try simp only [Act.put, List.setIfInBounds_toArray, List.set_cons_zero, List.set_cons_succ]
              refine wpAnyH_tk (i := 5) (v := ?_) rfl (by kernel_rfl) (by kernel_rfl) (by kernel_rfl) (fun _ _ _ h => h) (Or.inl ⟨by rfl, ?_⟩) hHeld ?_
              rotate_left
              · intro w hSw
                try dsimp only at hSw
                go_simp
                try with_reducible rfl
              try simp only [Act.put, List.setIfInBounds_toArray, List.set_cons_zero, List.set_cons_succ]
              refine wpAnyH_tk (i := 6) (v := ?_) rfl (by kernel_rfl) (by kernel_rfl) (by kernel_rfl) (fun _ _ _ h => h) (Or.inl ⟨by rfl, ?_⟩) hHeld ?_
              rotate_left
              · intro w hSw
                try dsimp only at hSw
                go_simp
                try with_reducible rfl
              try simp only [Act.put, List.setIfInBounds_toArray, List.set_cons_zero, List.set_cons_succ]
              refine wpAnyH_tk (i := 7) (v := ?_) rfl (by kernel_rfl) (by kernel_rfl) (by kernel_rfl) (fun _ _ _ h => h) (Or.inl ⟨by rfl, ?_⟩) hHeld ?_
              rotate_left
              · intro w hSw
                try dsimp only at hSw
                go_simp
                try with_reducible rfl
              try simp only [Act.put, List.setIfInBounds_toArray, List.set_cons_zero, List.set_cons_succ]
              refine wpAnyH_only (i := 8) rfl (by kernel_rfl) (fun K hK => ?_)
              go_simp
              have HB2 := hide ((unhide HB1).box (wagg (fun _ => dv)) 97)
              rw [zeros_eq] at HB2
              refine hK.out _ _ (rangeAt_var (zoo_varm (unhide HB2) (List.Mem.tail _ (List.Mem.head _)))) (fun hHeld2 => ?_)
              clear hK K hHeld
              have hHeld := hHeld2
              clear hHeld2
              try simp only [Act.put, List.setIfInBounds_toArray, List.set_cons_zero, List.set_cons_succ]
              generalize w6.heap.size = p13 at *
              refine wpAnyH_only (i := 9) rfl (by kernel_rfl) (fun K hK => ?_)
              rw [if_pos (by rfl)]
              refine wp_store_row 97 _ _ rfl p13 (wagg X) rfl rfl 97 _ (zoo_varm (unhide HB2) (List.Mem.head _)) Try.size97 rfl (wagg_one _) ?_
              have HZG := hide (zoo_setrL (l1 := []) (c' := wagg X) (unhide HB2))
              refine hK.out _ _ (rangeAt_var (zoo_varm (unhide HZG) (List.Mem.tail _ (List.Mem.head _)))) (fun hHeld2 => ?_)
              clear hK K hHeld
              have hHeld := hHeld2
              clear hHeld2
              simp only [Act.put]
              refine wpAnyH_tk (i := 10) (v := ?_) rfl (by kernel_rfl) (by kernel_rfl) (by kernel_rfl) (fun _ _ _ h => h) (Or.inl ⟨by rfl, ?_⟩) hHeld ?_
              rotate_left
              · intro w hSw
                try dsimp only at hSw
                go_simp
                try with_reducible rfl
              try simp only [Act.put, List.setIfInBounds_toArray, List.set_cons_zero, List.set_cons_succ]
              refine wpAnyH_done (by kernel_rfl) ?_ _
              generalize World.setRow _ _ _ = W9p13 at HZG ⊢
              clear hHeld
              have A9 := hide (zoo_varm (unhide HZG) (List.Mem.tail _ (List.Mem.tail _ (List.Mem.head _))))
              have A13 := hide (zoo_varm (unhide HZG) (List.Mem.head _))
              have hbj := (unhide HJ).2
              subst hbj
              have heq := eq97 X
              cases bY <;> cases bZ
              all_goals
                go_wp2_with (first | (refine wpList_load97 (by rfl) _ rfl p9 rfl X (unhide A9) ?_) | (refine wpList_load97 (by rfl) _ rfl p13 rfl X (unhide A13) ?_))
                go_ret
                exact ⟨by trivial, (unhide HZG).kp.below (Nat.le_refl _) (by simp)⟩
            · go_simp
              have HB1 := hide ((unhide HB0).box (wagg (fun _ => dv)) 97)
              rw [zeros_eq] at HB1
              refine hK.out _ _ (rangeAt_var (zoo_varm (unhide HB1) (List.Mem.tail _ (List.Mem.head _)))) (fun hHeld2 => ?_)
              clear hK K hHeld
              have hHeld := hHeld2
              clear hHeld2
              try simp only [Act.put, List.setIfInBounds_toArray, List.set_cons_zero, List.set_cons_succ]
              generalize WE.heap.size = p13 at *
              refine wpAnyH_only (i := 4) rfl (by kernel_rfl) (fun K hK => ?_)
              go_simp
              refine (unhide HR2 Y _ _ _ (unhide HB1).kp (fun hp => absurd hp (by rw [List.length_drop]; have := unhide HN; omega))).mono ?_
              rintro e w6 ⟨rfl, hk6⟩
              rw [← (unhide HJ).1, unhide HBZ]
              have HB2 := hide ((unhide HB1).kp0 hk6)
              clear hk6
              go_wp2_with fail
              refine hK.out _ _ (rangeAt_var (zoo_varm (unhide HB2) (List.Mem.tail _ (List.Mem.head _)))) (fun hHeld2 => ?_)
              clear hK K hHeld
              have hHeld := hHeld2
              clear hHeld2
              try simp only [Act.put, List.setIfInBounds_toArray, List.set_cons_zero, List.set_cons_succ]
              refine wpAnyH_tk (i := 5) (v := ?_) rfl (by kernel_rfl) (by kernel_rfl) (by kernel_rfl) (fun _ _ _ h => h) (Or.inl ⟨by rfl, ?_⟩) hHeld ?_
              rotate_left
              · intro w hSw
                try dsimp only at hSw
                go_simp
                try with_reducible rfl
              try simp only [Act.put, List.setIfInBounds_toArray, List.set_cons_zero, List.set_cons_succ]
              refine wpAnyH_tk (i := 6) (v := ?_) rfl (by kernel_rfl) (by kernel_rfl) (by kernel_rfl) (fun _ _ _ h => h) (Or.inl ⟨by rfl, ?_⟩) hHeld ?_
              rotate_left
              · intro w hSw
                try dsimp only at hSw
                go_simp
                try with_reducible rfl
              try simp only [Act.put, List.setIfInBounds_toArray, List.set_cons_zero, List.set_cons_succ]
              refine wpAnyH_tk (i := 7) (v := ?_) rfl (by kernel_rfl) (by kernel_rfl) (by kernel_rfl) (fun _ _ _ h => h) (Or.inl ⟨by rfl, ?_⟩) hHeld ?_
              rotate_left
              · intro w hSw
                try dsimp only at hSw
                go_simp
                try with_reducible rfl
              try simp only [Act.put, List.setIfInBounds_toArray, List.set_cons_zero, List.set_cons_succ]
              refine wpAnyH_only (i := 9) rfl (by kernel_rfl) (fun K hK => ?_)
              rw [if_pos (by rfl)]
              refine wp_store_row 97 _ _ rfl p13 (wagg X) rfl rfl 97 _ (zoo_varm (unhide HB2) (List.Mem.head _)) Try.size97 rfl (wagg_one _) ?_
              have HZG := hide (zoo_setrL (l1 := []) (c' := wagg X) (unhide HB2))
              refine hK.out _ _ (rangeAt_var (zoo_varm (unhide HZG) (List.Mem.tail _ (List.Mem.head _)))) (fun hHeld2 => ?_)
              clear hK K hHeld
              have hHeld := hHeld2
              clear hHeld2
              simp only [Act.put]
              refine wpAnyH_tk (i := 10) (v := ?_) rfl (by kernel_rfl) (by kernel_rfl) (by kernel_rfl) (fun _ _ _ h => h) (Or.inl ⟨by rfl, ?_⟩) hHeld ?_
              rotate_left
              · intro w hSw
                try dsimp only at hSw
                go_simp
                try with_reducible rfl
              try simp only [Act.put, List.setIfInBounds_toArray, List.set_cons_zero, List.set_cons_succ]
              refine wpAnyH_done (by kernel_rfl) ?_ _
              generalize World.setRow _ _ _ = W9p13 at HZG ⊢
              clear hHeld
              have A9 := hide (zoo_varm (unhide HZG) (List.Mem.tail _ (List.Mem.tail _ (List.Mem.head _))))
              have A13 := hide (zoo_varm (unhide HZG) (List.Mem.head _))
              have hbj := (unhide HJ).2
              subst hbj
              have heq := eq97 X
              cases bY <;> cases bZ
              all_goals
                go_wp2_with (first | (refine wpList_load97 (by rfl) _ rfl p9 rfl X (unhide A9) ?_) | (refine wpList_load97 (by rfl) _ rfl p13 rfl X (unhide A13) ?_))
                go_ret
                exact ⟨by trivial, (unhide HZG).kp.below (Nat.le_refl _) (by simp)⟩
          · go_simp
            have HA1 := hide ((unhide HA0).box (wagg (fun _ => dv)) 97)
            rw [zeros_eq] at HA1
            refine hK.out _ _ (rangeAt_var (zoo_varm (unhide HA1) (List.Mem.tail _ (List.Mem.tail _ (List.Mem.head _))))) (fun hHeld2 => ?_)
            clear hK K hHeld
            have hHeld := hHeld2
            clear hHeld2
            try simp only [Act.put, List.setIfInBounds_toArray, List.set_cons_zero, List.set_cons_succ]
            generalize WD.heap.size = p11 at *
            refine wpAnyH_only (i := 4) rfl (by kernel_rfl) (fun K hK => ?_)
            go_simp
            refine (unhide HR1 (some ad) _ _ (unhide HA1).kp (acts_take (unhide HA).ins _)).mono ?_
            rintro e w6 ⟨rfl, hk6⟩
            rw [(unhide HYY).1, (unhide HYY).2]
            have HA2 := hide ((unhide HA1).kp0 hk6)
            clear hk6
            go_wp2_with fail
            refine hK.out _ _ (rangeAt_var (zoo_varm (unhide HA2) (List.Mem.tail _ (List.Mem.tail _ (List.Mem.head _))))) (fun hHeld2 => ?_)
            clear hK K hHeld
            have hHeld := hHeld2
            clear hHeld2
            try simp only [Act.put, List.setIfInBounds_toArray, List.set_cons_zero, List.set_cons_succ]
            refine wpAnyH_tk (i := 5) (v := ?_) rfl (by kernel_rfl) (by kernel_rfl) (by kernel_rfl) (fun _ _ _ h => h) (Or.inl ⟨by rfl, ?_⟩) hHeld ?_
            rotate_left
            · intro w hSw
              try dsimp only at hSw
              go_simp
              try with_reducible rfl
            try simp only [Act.put, List.setIfInBounds_toArray, List.set_cons_zero, List.set_cons_succ]
            refine wpAnyH_tk (i := 6) (v := ?_) rfl (by kernel_rfl) (by kernel_rfl) (by kernel_rfl) (fun _ _ _ h => h) (Or.inl ⟨by rfl, ?_⟩) hHeld ?_
            rotate_left
            · intro w hSw
              try dsimp only at hSw
              go_simp
              try with_reducible rfl
            try simp only [Act.put, List.setIfInBounds_toArray, List.set_cons_zero, List.set_cons_succ]
            refine wpAnyH_tk (i := 7) (v := ?_) rfl (by kernel_rfl) (by kernel_rfl) (by kernel_rfl) (fun _ _ _ h => h) (Or.inl ⟨by rfl, ?_⟩) hHeld ?_
            rotate_left
            · intro w hSw
              try dsimp only at hSw
              go_simp
              try with_reducible rfl
            try simp only [Act.put, List.setIfInBounds_toArray, List.set_cons_zero, List.set_cons_succ]
            refine wpAnyH_only (i := 9) rfl (by kernel_rfl) (fun K hK => ?_)
            rw [if_pos (by rfl)]
            refine wp_store_row 97 _ _ rfl p11 (wagg Y) rfl rfl 97 _ (zoo_varm (unhide HA2) (List.Mem.head _)) Try.size97 rfl (wagg_one _) ?_
            have HZF := hide (zoo_setrL (l1 := []) (c' := wagg Y) (unhide HA2))
            refine hK.out _ _ (rangeAt_var (zoo_varm (unhide HZF) (List.Mem.tail _ (List.Mem.tail _ (List.Mem.head _))))) (fun hHeld2 => ?_)
            clear hK K hHeld
            have hHeld := hHeld2
            clear hHeld2
            simp only [Act.put]
            refine wpAnyH_tk (i := 10) (v := ?_) rfl (by kernel_rfl) (by kernel_rfl) (by kernel_rfl) (fun _ _ _ h => h) (Or.inl ⟨by rfl, ?_⟩) hHeld ?_
            rotate_left
            · intro w hSw
              try dsimp only at hSw
              go_simp
              try with_reducible rfl
            try simp only [Act.put, List.setIfInBounds_toArray, List.set_cons_zero, List.set_cons_succ]
            refine wpAnyH_done (by kernel_rfl) ?_ _
            generalize World.setRow _ _ _ = W9p11 at HZF ⊢
            clear hHeld
            go_wp2_with fail
            refine wp_region_held_drew (S := fun w' => w'.rangeAt p11 0 (wagg Y).toList) (by kernel_rfl) (rangeAt_var (zoo_varm ((unhide HZF).kp0 ((Kp.refl [] W9p11).drew)) (List.Mem.head _))) (fun hHeld => ?_)
            have HB0 := hide ((unhide HZF).kp0 ((Kp.refl [] W9p11).drew))
            generalize World.drew _ = WE at HB0 hHeld ⊢
            refine wpAnyH_tk (i := 0) rfl (by kernel_rfl) (by kernel_rfl) (by kernel_rfl) (fun _ _ _ h => h) (yields_s (by rfl) _ rfl p11 0 rfl Y (fun _ h => h)) hHeld ?_
            try simp only [Act.put, List.setIfInBounds_toArray, List.set_cons_zero, List.set_cons_succ]
            refine wpAnyH_tk (i := 1) (v := ?_) rfl (by kernel_rfl) (by kernel_rfl) (by kernel_rfl) (fun _ _ _ h => h) (Or.inl ⟨by rfl, ?_⟩) hHeld ?_
            rotate_left
            · intro w hSw
              try dsimp only at hSw
              go_simp
              try with_reducible rfl
            try simp only [Act.put, List.setIfInBounds_toArray, List.set_cons_zero, List.set_cons_succ]
            refine wpAnyH_tk (i := 2) (v := ?_) rfl (by kernel_rfl) (by kernel_rfl) (by kernel_rfl) (fun _ _ _ h => h) (Or.inl ⟨by rfl, ?_⟩) hHeld ?_
            rotate_left
            · intro w hSw
              try dsimp only at hSw
              go_simp
              try with_reducible rfl
            try simp only [Act.put, List.setIfInBounds_toArray, List.set_cons_zero, List.set_cons_succ]
            refine wpAnyH_tk (i := 3) (v := ?_) rfl (by kernel_rfl) (by kernel_rfl) (by kernel_rfl) (fun _ _ _ h => h) (Or.inl ⟨by rfl, ?_⟩) hHeld ?_
            rotate_left
            · intro w hSw
              try dsimp only at hSw
              go_simp
              try with_reducible rfl
            try simp only [Act.put, List.setIfInBounds_toArray, List.set_cons_zero, List.set_cons_succ]
            refine wpAnyH_two (i := 4) (j := 8) rfl rfl (by kernel_rfl) (fun K hK => ?_) (fun K hK => ?_)
            · go_simp
              refine (unhide HR2 Y _ _ _ (unhide HB0).kp (fun hp => absurd hp (by rw [List.length_drop]; have := unhide HN; omega))).mono ?_
              rintro e w6 ⟨rfl, hk6⟩
              rw [← (unhide HJ).1, unhide HBZ]
              have HB1 := hide ((unhide HB0).kp0 hk6)
              clear hk6
              go_wp2_with fail
              refine hK.out _ _ (rangeAt_var (zoo_varm (unhide HB1) (List.Mem.head _))) (fun hHeld2 => ?_)
              clear hK K hHeld
              have hHeld := hHeld2
              clear hHeld2
              try simp only [Act.put, List.setIfInBounds_toArray, List.set_cons_zero, List.set_cons_succ]
              refine wpAnyH_tk (i := 5) (v := ?_) rfl (by kernel_rfl) (by kernel_rfl) (by kernel_rfl) (fun _ _ _ h => h) (Or.inl ⟨by rfl, ?_⟩) hHeld ?_
              rotate_left
              · intro w hSw
                try dsimp only at hSw
                go_simp
                try with_reducible rfl
              try simp only [Act.put, List.setIfInBounds_toArray, List.set_cons_zero, List.set_cons_succ]
              refine wpAnyH_tk (i := 6) (v := ?_) rfl (by kernel_rfl) (by kernel_rfl) (by kernel_rfl) (fun _ _ _ h => h) (Or.inl ⟨by rfl, ?_⟩) hHeld ?_
              rotate_left
              · intro w hSw
                try dsimp only at hSw
                go_simp
                try with_reducible rfl
              try simp only [Act.put, List.setIfInBounds_toArray, List.set_cons_zero, List.set_cons_succ]
              refine wpAnyH_tk (i := 7) (v := ?_) rfl (by kernel_rfl) (by kernel_rfl) (by kernel_rfl) (fun _ _ _ h => h) (Or.inl ⟨by rfl, ?_⟩) hHeld ?_
              rotate_left
              · intro w hSw
                try dsimp only at hSw
                go_simp
                try with_reducible rfl
              try simp only [Act.put, List.setIfInBounds_toArray, List.set_cons_zero, List.set_cons_succ]
              refine wpAnyH_only (i := 8) rfl (by kernel_rfl) (fun K hK => ?_)
              go_simp
              have HB2 := hide ((unhide HB1).box (wagg (fun _ => dv)) 97)
              rw [zeros_eq] at HB2
              refine hK.out _ _ (rangeAt_var (zoo_varm (unhide HB2) (List.Mem.tail _ (List.Mem.head _)))) (fun hHeld2 => ?_)
              clear hK K hHeld
              have hHeld := hHeld2
              clear hHeld2
              try simp only [Act.put, List.setIfInBounds_toArray, List.set_cons_zero, List.set_cons_succ]
              generalize w6.heap.size = p13 at *
              refine wpAnyH_only (i := 9) rfl (by kernel_rfl) (fun K hK => ?_)
              rw [if_pos (by rfl)]
              refine wp_store_row 97 _ _ rfl p13 (wagg X) rfl rfl 97 _ (zoo_varm (unhide HB2) (List.Mem.head _)) Try.size97 rfl (wagg_one _) ?_
              have HZG := hide (zoo_setrL (l1 := []) (c' := wagg X) (unhide HB2))
              refine hK.out _ _ (rangeAt_var (zoo_varm (unhide HZG) (List.Mem.tail _ (List.Mem.head _)))) (fun hHeld2 => ?_)
              clear hK K hHeld
              have hHeld := hHeld2
              clear hHeld2
              simp only [Act.put]
              refine wpAnyH_tk (i := 10) (v := ?_) rfl (by kernel_rfl) (by kernel_rfl) (by kernel_rfl) (fun _ _ _ h => h) (Or.inl ⟨by rfl, ?_⟩) hHeld ?_
              rotate_left
              · intro w hSw
                try dsimp only at hSw
                go_simp
                try with_reducible rfl
              try simp only [Act.put, List.setIfInBounds_toArray, List.set_cons_zero, List.set_cons_succ]
              refine wpAnyH_done (by kernel_rfl) ?_ _
              generalize World.setRow _ _ _ = W9p13 at HZG ⊢
              clear hHeld
              have A9 := hide (zoo_varm (unhide HZG) (List.Mem.tail _ (List.Mem.tail _ (List.Mem.head _))))
              have A13 := hide (zoo_varm (unhide HZG) (List.Mem.head _))
              have hbj := (unhide HJ).2
              subst hbj
              have heq := eq97 X
              cases bY <;> cases bZ
              all_goals
                go_wp2_with (first | (refine wpList_load97 (by rfl) _ rfl p9 rfl X (unhide A9) ?_) | (refine wpList_load97 (by rfl) _ rfl p13 rfl X (unhide A13) ?_))
                go_ret
                exact ⟨by trivial, (unhide HZG).kp.below (Nat.le_refl _) (by simp)⟩
            · go_simp
              have HB1 := hide ((unhide HB0).box (wagg (fun _ => dv)) 97)
              rw [zeros_eq] at HB1
              refine hK.out _ _ (rangeAt_var (zoo_varm (unhide HB1) (List.Mem.tail _ (List.Mem.head _)))) (fun hHeld2 => ?_)
              clear hK K hHeld
              have hHeld := hHeld2
              clear hHeld2
              try simp only [Act.put, List.setIfInBounds_toArray, List.set_cons_zero, List.set_cons_succ]
              generalize WE.heap.size = p13 at *
              refine wpAnyH_only (i := 4) rfl (by kernel_rfl) (fun K hK => ?_)
              go_simp
              refine (unhide HR2 Y _ _ _ (unhide HB1).kp (fun hp => absurd hp (by rw [List.length_drop]; have := unhide HN; omega))).mono ?_
              rintro e w6 ⟨rfl, hk6⟩
              rw [← (unhide HJ).1, unhide HBZ]
              have HB2 := hide ((unhide HB1).kp0 hk6)
              clear hk6
              go_wp2_with fail
              refine hK.out _ _ (rangeAt_var (zoo_varm (unhide HB2) (List.Mem.tail _ (List.Mem.head _)))) (fun hHeld2 => ?_)
              clear hK K hHeld
              have hHeld := hHeld2
              clear hHeld2
              try simp only [Act.put, List.setIfInBounds_toArray, List.set_cons_zero, List.set_cons_succ]
              refine wpAnyH_tk (i := 5) (v := ?_) rfl (by kernel_rfl) (by kernel_rfl) (by kernel_rfl) (fun _ _ _ h => h) (Or.inl ⟨by rfl, ?_⟩) hHeld ?_
              rotate_left
              · intro w hSw
                try dsimp only at hSw
                go_simp
                try with_reducible rfl
              try simp only [Act.put, List.setIfInBounds_toArray, List.set_cons_zero, List.set_cons_succ]
              refine wpAnyH_tk (i := 6) (v := ?_) rfl (by kernel_rfl) (by kernel_rfl) (by kernel_rfl) (fun _ _ _ h => h) (Or.inl ⟨by rfl, ?_⟩) hHeld ?_
              rotate_left
              · intro w hSw
                try dsimp only at hSw
                go_simp
                try with_reducible rfl
              try simp only [Act.put, List.setIfInBounds_toArray, List.set_cons_zero, List.set_cons_succ]
              refine wpAnyH_tk (i := 7) (v := ?_) rfl (by kernel_rfl) (by kernel_rfl) (by kernel_rfl) (fun _ _ _ h => h) (Or.inl ⟨by rfl, ?_⟩) hHeld ?_
              rotate_left
              · intro w hSw
                try dsimp only at hSw
                go_simp
                try with_reducible rfl
              try simp only [Act.put, List.setIfInBounds_toArray, List.set_cons_zero, List.set_cons_succ]
              refine wpAnyH_only (i := 9) rfl (by kernel_rfl) (fun K hK => ?_)
              rw [if_pos (by rfl)]
              refine wp_store_row 97 _ _ rfl p13 (wagg X) rfl rfl 97 _ (zoo_varm (unhide HB2) (List.Mem.head _)) Try.size97 rfl (wagg_one _) ?_
              have HZG := hide (zoo_setrL (l1 := []) (c' := wagg X) (unhide HB2))
              refine hK.out _ _ (rangeAt_var (zoo_varm (unhide HZG) (List.Mem.tail _ (List.Mem.head _)))) (fun hHeld2 => ?_)
              clear hK K hHeld
              have hHeld := hHeld2
              clear hHeld2
              simp only [Act.put]
              refine wpAnyH_tk (i := 10) (v := ?_) rfl (by kernel_rfl) (by kernel_rfl) (by kernel_rfl) (fun _ _ _ h => h) (Or.inl ⟨by rfl, ?_⟩) hHeld ?_
              rotate_left
              · intro w hSw
                try dsimp only at hSw
                go_simp
                try with_reducible rfl
              try simp only [Act.put, List.setIfInBounds_toArray, List.set_cons_zero, List.set_cons_succ]
              refine wpAnyH_done (by kernel_rfl) ?_ _
              generalize World.setRow _ _ _ = W9p13 at HZG ⊢
              clear hHeld
              have A9 := hide (zoo_varm (unhide HZG) (List.Mem.tail _ (List.Mem.tail _ (List.Mem.head _))))
              have A13 := hide (zoo_varm (unhide HZG) (List.Mem.head _))
              have hbj := (unhide HJ).2
              subst hbj
              have heq := eq97 X
              cases bY <;> cases bZ
              all_goals
                go_wp2_with (first | (refine wpList_load97 (by rfl) _ rfl p9 rfl X (unhide A9) ?_) | (refine wpList_load97 (by rfl) _ rfl p13 rfl X (unhide A13) ?_))
                go_ret
                exact ⟨by trivial, (unhide HZG).kp.below (Nat.le_refl _) (by simp)⟩
        · have hcd2 : ¬ c - d = 0 := by omega
          refine wp_region_held_drew (S := fun w' => w'.rangeAt p3 0 (wagg v).toList) (by kernel_rfl) (rangeAt_var (zoo_varm ((unhide HZ3).kp0 ((Kp.refl [] W3).drew)) (List.Mem.tail _ (List.Mem.head _)))) (fun hHeld => ?_)
          have HA0 := hide ((unhide HZ3).kp0 ((Kp.refl [] W3).drew))
          generalize World.drew _ = WD at HA0 hHeld ⊢
          refine wpAnyH_tk (i := 0) rfl (by kernel_rfl) (by kernel_rfl) (by kernel_rfl) (fun _ _ _ h => h) (yields_av (by rfl) _ rfl p3 0 rfl v (fun _ h => h)) hHeld ?_
          try simp only [Act.put, List.setIfInBounds_toArray, List.set_cons_zero, List.set_cons_succ]
          refine wpAnyH_tk (i := 1) (v := ?_) rfl (by kernel_rfl) (by kernel_rfl) (by kernel_rfl) (fun _ _ _ h => h) (Or.inl ⟨by rfl, ?_⟩) hHeld ?_
          rotate_left
          · intro w hSw
            try dsimp only at hSw
            go_simp
            try with_reducible rfl
          try simp only [Act.put, List.setIfInBounds_toArray, List.set_cons_zero, List.set_cons_succ]
          refine wpAnyH_tk (i := 2) (v := ?_) rfl (by kernel_rfl) (by kernel_rfl) (by kernel_rfl) (fun _ _ _ h => h) (Or.inl ⟨by rfl, ?_⟩) hHeld ?_
          rotate_left
          · intro w hSw
            try dsimp only at hSw
            go_simp
            try with_reducible rfl
          try simp only [Act.put, List.setIfInBounds_toArray, List.set_cons_zero, List.set_cons_succ]
          refine wpAnyH_tk (i := 3) (v := ?_) rfl (by kernel_rfl) (by kernel_rfl) (by kernel_rfl) (fun _ _ _ h => h) (Or.inl ⟨by rfl, ?_⟩) hHeld ?_
          rotate_left
          · intro w hSw
            try dsimp only at hSw
            go_simp
            try with_reducible rfl
          try simp only [Act.put, List.setIfInBounds_toArray, List.set_cons_zero, List.set_cons_succ]
          refine wpAnyH_two (i := 4) (j := 8) rfl rfl (by kernel_rfl) (fun K hK => ?_) (fun K hK => ?_)
          · go_simp
            refine (unhide HR1 (some ad) _ _ (unhide HA0).kp (acts_take (unhide HA).ins _)).mono ?_
            rintro e w6 ⟨rfl, hk6⟩
            rw [(unhide HYY).1, (unhide HYY).2]
            have HA1 := hide ((unhide HA0).kp0 hk6)
            clear hk6
            go_wp2_with fail
            refine hK.out _ _ (rangeAt_var (zoo_varm (unhide HA1) (List.Mem.tail _ (List.Mem.head _)))) (fun hHeld2 => ?_)
            clear hK K hHeld
            have hHeld := hHeld2
            clear hHeld2
            try simp only [Act.put, List.setIfInBounds_toArray, List.set_cons_zero, List.set_cons_succ]
            refine wpAnyH_tk (i := 5) (v := ?_) rfl (by kernel_rfl) (by kernel_rfl) (by kernel_rfl) (fun _ _ _ h => h) (Or.inl ⟨by rfl, ?_⟩) hHeld ?_
            rotate_left
            · intro w hSw
              try dsimp only at hSw
              go_simp
              try with_reducible rfl
            try simp only [Act.put, List.setIfInBounds_toArray, List.set_cons_zero, List.set_cons_succ]
            refine wpAnyH_tk (i := 6) (v := ?_) rfl (by kernel_rfl) (by kernel_rfl) (by kernel_rfl) (fun _ _ _ h => h) (Or.inl ⟨by rfl, ?_⟩) hHeld ?_
            rotate_left
            · intro w hSw
              try dsimp only at hSw
              go_simp
              try with_reducible rfl
            try simp only [Act.put, List.setIfInBounds_toArray, List.set_cons_zero, List.set_cons_succ]
            refine wpAnyH_tk (i := 7) (v := ?_) rfl (by kernel_rfl) (by kernel_rfl) (by kernel_rfl) (fun _ _ _ h => h) (Or.inl ⟨by rfl, ?_⟩) hHeld ?_
            rotate_left
            · intro w hSw
              try dsimp only at hSw
              go_simp
              try with_reducible rfl
            try simp only [Act.put, List.setIfInBounds_toArray, List.set_cons_zero, List.set_cons_succ]
            refine wpAnyH_only (i := 8) rfl (by kernel_rfl) (fun K hK => ?_)
            go_simp
            have HA2 := hide ((unhide HA1).box (wagg (fun _ => dv)) 97)
            rw [zeros_eq] at HA2
            refine hK.out _ _ (rangeAt_var (zoo_varm (unhide HA2) (List.Mem.tail _ (List.Mem.tail _ (List.Mem.head _))))) (fun hHeld2 => ?_)
            clear hK K hHeld
            have hHeld := hHeld2
            clear hHeld2
            try simp only [Act.put, List.setIfInBounds_toArray, List.set_cons_zero, List.set_cons_succ]
            generalize w6.heap.size = p11 at *
            refine wpAnyH_only (i := 9) rfl (by kernel_rfl) (fun K hK => ?_)
            rw [if_pos (by rfl)]
            refine wp_store_row 97 _ _ rfl p11 (wagg Y) rfl rfl 97 _ (zoo_varm (unhide HA2) (List.Mem.head _)) Try.size97 rfl (wagg_one _) ?_
            have HZF := hide (zoo_setrL (l1 := []) (c' := wagg Y) (unhide HA2))
            refine hK.out _ _ (rangeAt_var (zoo_varm (unhide HZF) (List.Mem.tail _ (List.Mem.tail _ (List.Mem.head _))))) (fun hHeld2 => ?_)
            clear hK K hHeld
            have hHeld := hHeld2
            clear hHeld2
            simp only [Act.put]
            refine wpAnyH_tk (i := 10) (v := ?_) rfl (by kernel_rfl) (by kernel_rfl) (by kernel_rfl) (fun _ _ _ h => h) (Or.inl ⟨by rfl, ?_⟩) hHeld ?_
            rotate_left
            · intro w hSw
              try dsimp only at hSw
              go_simp
              try with_reducible rfl
            try simp only [Act.put, List.setIfInBounds_toArray, List.set_cons_zero, List.set_cons_succ]
            refine wpAnyH_done (by kernel_rfl) ?_ _
            generalize World.setRow _ _ _ = W9p11 at HZF ⊢
            clear hHeld
            go_wp2_with fail
            refine wp_region_held_drew (S := fun w' => w'.rangeAt p11 0 (wagg Y).toList) (by kernel_rfl) (rangeAt_var (zoo_varm ((unhide HZF).kp0 ((Kp.refl [] W9p11).drew)) (List.Mem.head _))) (fun hHeld => ?_)
            have HB0 := hide ((unhide HZF).kp0 ((Kp.refl [] W9p11).drew))
            generalize World.drew _ = WE at HB0 hHeld ⊢
            refine wpAnyH_tk (i := 0) rfl (by kernel_rfl) (by kernel_rfl) (by kernel_rfl) (fun _ _ _ h => h) (yields_s (by rfl) _ rfl p11 0 rfl Y (fun _ h => h)) hHeld ?_
            try simp only [Act.put, List.setIfInBounds_toArray, List.set_cons_zero, List.set_cons_succ]
            refine wpAnyH_tk (i := 1) (v := ?_) rfl (by kernel_rfl) (by kernel_rfl) (by kernel_rfl) (fun _ _ _ h => h) (Or.inl ⟨by rfl, ?_⟩) hHeld ?_
            rotate_left
            · intro w hSw
              try dsimp only at hSw
              go_simp
              try with_reducible rfl
            try simp only [Act.put, List.setIfInBounds_toArray, List.set_cons_zero, List.set_cons_succ]
            refine wpAnyH_tk (i := 2) (v := ?_) rfl (by kernel_rfl) (by kernel_rfl) (by kernel_rfl) (fun _ _ _ h => h) (Or.inl ⟨by rfl, ?_⟩) hHeld ?_
            rotate_left
            · intro w hSw
              try dsimp only at hSw
              go_simp
              try with_reducible rfl
            try simp only [Act.put, List.setIfInBounds_toArray, List.set_cons_zero, List.set_cons_succ]
            refine wpAnyH_tk (i := 3) (v := ?_) rfl (by kernel_rfl) (by kernel_rfl) (by kernel_rfl) (fun _ _ _ h => h) (Or.inl ⟨by rfl, ?_⟩) hHeld ?_
            rotate_left
            · intro w hSw
              try dsimp only at hSw
              go_simp
              try with_reducible rfl
            try simp only [Act.put, List.setIfInBounds_toArray, List.set_cons_zero, List.set_cons_succ]
            refine wpAnyH_two (i := 4) (j := 8) rfl rfl (by kernel_rfl) (fun K hK => ?_) (fun K hK => ?_)
            · go_simp
              refine (unhide HR2 Y _ _ _ (unhide HB0).kp (fun hp => (by obtain ⟨b, o, e, h1⟩ := (unhide HA).ins (by rw [List.length_drop] at hp; omega); cases e; exact ⟨b, o + d * 6, by simp [addr_add], ActsIn.drop h1 d⟩))).mono ?_
              rintro e w6 ⟨rfl, hk6⟩
              rw [← (unhide HJ).1, unhide HBZ]
              have HB1 := hide ((unhide HB0).kp0 hk6)
              clear hk6
              go_wp2_with fail
              refine hK.out _ _ (rangeAt_var (zoo_varm (unhide HB1) (List.Mem.head _))) (fun hHeld2 => ?_)
              clear hK K hHeld
              have hHeld := hHeld2
              clear hHeld2
              try simp only [Act.put, List.setIfInBounds_toArray, List.set_cons_zero, List.set_cons_succ]
              refine wpAnyH_tk (i := 5) (v := ?_) rfl (by kernel_rfl) (by kernel_rfl) (by kernel_rfl) (fun _ _ _ h => h) (Or.inl ⟨by rfl, ?_⟩) hHeld ?_
              rotate_left
              · intro w hSw
                try dsimp only at hSw
                go_simp
                try with_reducible rfl
              try simp only [Act.put, List.setIfInBounds_toArray, List.set_cons_zero, List.set_cons_succ]
              refine wpAnyH_tk (i := 6) (v := ?_) rfl (by kernel_rfl) (by kernel_rfl) (by kernel_rfl) (fun _ _ _ h => h) (Or.inl ⟨by rfl, ?_⟩) hHeld ?_
              rotate_left
              · intro w hSw
                try dsimp only at hSw
                go_simp
                try with_reducible rfl
              try simp only [Act.put, List.setIfInBounds_toArray, List.set_cons_zero, List.set_cons_succ]
              refine wpAnyH_tk (i := 7) (v := ?_) rfl (by kernel_rfl) (by kernel_rfl) (by kernel_rfl) (fun _ _ _ h => h) (Or.inl ⟨by rfl, ?_⟩) hHeld ?_
              rotate_left
              · intro w hSw
                try dsimp only at hSw
                go_simp
                try with_reducible rfl
              try simp only [Act.put, List.setIfInBounds_toArray, List.set_cons_zero, List.set_cons_succ]
              refine wpAnyH_only (i := 8) rfl (by kernel_rfl) (fun K hK => ?_)
              go_simp
              have HB2 := hide ((unhide HB1).box (wagg (fun _ => dv)) 97)
              rw [zeros_eq] at HB2
              refine hK.out _ _ (rangeAt_var (zoo_varm (unhide HB2) (List.Mem.tail _ (List.Mem.head _)))) (fun hHeld2 => ?_)
              clear hK K hHeld
              have hHeld := hHeld2
              clear hHeld2
              try simp only [Act.put, List.setIfInBounds_toArray, List.set_cons_zero, List.set_cons_succ]
              generalize w6.heap.size = p13 at *
              refine wpAnyH_only (i := 9) rfl (by kernel_rfl) (fun K hK => ?_)
              rw [if_pos (by rfl)]
              refine wp_store_row 97 _ _ rfl p13 (wagg X) rfl rfl 97 _ (zoo_varm (unhide HB2) (List.Mem.head _)) Try.size97 rfl (wagg_one _) ?_
              have HZG := hide (zoo_setrL (l1 := []) (c' := wagg X) (unhide HB2))
              refine hK.out _ _ (rangeAt_var (zoo_varm (unhide HZG) (List.Mem.tail _ (List.Mem.head _)))) (fun hHeld2 => ?_)
              clear hK K hHeld
              have hHeld := hHeld2
              clear hHeld2
              simp only [Act.put]
              refine wpAnyH_tk (i := 10) (v := ?_) rfl (by kernel_rfl) (by kernel_rfl) (by kernel_rfl) (fun _ _ _ h => h) (Or.inl ⟨by rfl, ?_⟩) hHeld ?_
              rotate_left
              · intro w hSw
                try dsimp only at hSw
                go_simp
                try with_reducible rfl
              try simp only [Act.put, List.setIfInBounds_toArray, List.set_cons_zero, List.set_cons_succ]
              refine wpAnyH_done (by kernel_rfl) ?_ _
              generalize World.setRow _ _ _ = W9p13 at HZG ⊢
              clear hHeld
              have A9 := hide (zoo_varm (unhide HZG) (List.Mem.tail _ (List.Mem.tail _ (List.Mem.head _))))
              have A13 := hide (zoo_varm (unhide HZG) (List.Mem.head _))
              have hbj := (unhide HJ).2
              subst hbj
              have heq := eq97 X
              cases bY <;> cases bZ
              all_goals
                go_wp2_with (first | (refine wpList_load97 (by rfl) _ rfl p9 rfl X (unhide A9) ?_) | (refine wpList_load97 (by rfl) _ rfl p13 rfl X (unhide A13) ?_))
                go_ret
                exact ⟨by trivial, (unhide HZG).kp.below (Nat.le_refl _) (by simp)⟩
            · go_simp
              have HB1 := hide ((unhide HB0).box (wagg (fun _ => dv)) 97)
              rw [zeros_eq] at HB1
              refine hK.out _ _ (rangeAt_var (zoo_varm (unhide HB1) (List.Mem.tail _ (List.Mem.head _)))) (fun hHeld2 => ?_)
              clear hK K hHeld
              have hHeld := hHeld2
              clear hHeld2
              try simp only [Act.put, List.setIfInBounds_toArray, List.set_cons_zero, List.set_cons_succ]
              generalize WE.heap.size = p13 at *
              refine wpAnyH_only (i := 4) rfl (by kernel_rfl) (fun K hK => ?_)
              go_simp
              refine (unhide HR2 Y _ _ _ (unhide HB1).kp (fun hp => (by obtain ⟨b, o, e, h1⟩ := (unhide HA).ins (by rw [List.length_drop] at hp; omega); cases e; exact ⟨b, o + d * 6, by simp [addr_add], ActsIn.drop h1 d⟩))).mono ?_
              rintro e w6 ⟨rfl, hk6⟩
              rw [← (unhide HJ).1, unhide HBZ]
              have HB2 := hide ((unhide HB1).kp0 hk6)
              clear hk6
              go_wp2_with fail
              refine hK.out _ _ (rangeAt_var (zoo_varm (unhide HB2) (List.Mem.tail _ (List.Mem.head _)))) (fun hHeld2 => ?_)
              clear hK K hHeld
              have hHeld := hHeld2
              clear hHeld2
              try simp only [Act.put, List.setIfInBounds_toArray, List.set_cons_zero, List.set_cons_succ]
              refine wpAnyH_tk (i := 5) (v := ?_) rfl (by kernel_rfl) (by kernel_rfl) (by kernel_rfl) (fun _ _ _ h => h) (Or.inl ⟨by rfl, ?_⟩) hHeld ?_
              rotate_left
              · intro w hSw
                try dsimp only at hSw
                go_simp
                try with_reducible rfl
              try simp only [Act.put, List.setIfInBounds_toArray, List.set_cons_zero, List.set_cons_succ]
              refine wpAnyH_tk (i := 6) (v := ?_) rfl (by kernel_rfl) (by kernel_rfl) (by kernel_rfl) (fun _ _ _ h => h) (Or.inl ⟨by rfl, ?_⟩) hHeld ?_
              rotate_left
              · intro w hSw
                try dsimp only at hSw
                go_simp
                try with_reducible rfl
              try simp only [Act.put, List.setIfInBounds_toArray, List.set_cons_zero, List.set_cons_succ]
              refine wpAnyH_tk (i := 7) (v := ?_) rfl (by kernel_rfl) (by kernel_rfl) (by kernel_rfl) (fun _ _ _ h => h) (Or.inl ⟨by rfl, ?_⟩) hHeld ?_
              rotate_left
              · intro w hSw
                try dsimp only at hSw
                go_simp
                try with_reducible rfl
              try simp only [Act.put, List.setIfInBounds_toArray, List.set_cons_zero, List.set_cons_succ]
              refine wpAnyH_only (i := 9) rfl (by kernel_rfl) (fun K hK => ?_)
              rw [if_pos (by rfl)]
              refine wp_store_row 97 _ _ rfl p13 (wagg X) rfl rfl 97 _ (zoo_varm (unhide HB2) (List.Mem.head _)) Try.size97 rfl (wagg_one _) ?_
              have HZG := hide (zoo_setrL (l1 := []) (c' := wagg X) (unhide HB2))
              refine hK.out _ _ (rangeAt_var (zoo_varm (unhide HZG) (List.Mem.tail _ (List.Mem.head _)))) (fun hHeld2 => ?_)
              clear hK K hHeld
              have hHeld := hHeld2
              clear hHeld2
              simp only [Act.put]
              refine wpAnyH_tk (i := 10) (v := ?_) rfl (by kernel_rfl) (by kernel_rfl) (by kernel_rfl) (fun _ _ _ h => h) (Or.inl ⟨by rfl, ?_⟩) hHeld ?_
              rotate_left
              · intro w hSw
                try dsimp only at hSw
                go_simp
                try with_reducible rfl
              try simp only [Act.put, List.setIfInBounds_toArray, List.set_cons_zero, List.set_cons_succ]
              refine wpAnyH_done (by kernel_rfl) ?_ _
              generalize World.setRow _ _ _ = W9p13 at HZG ⊢
              clear hHeld
              have A9 := hide (zoo_varm (unhide HZG) (List.Mem.tail _ (List.Mem.tail _ (List.Mem.head _))))
              have A13 := hide (zoo_varm (unhide HZG) (List.Mem.head _))
              have hbj := (unhide HJ).2
              subst hbj
              have heq := eq97 X
              cases bY <;> cases bZ
              all_goals
                go_wp2_with (first | (refine wpList_load97 (by rfl) _ rfl p9 rfl X (unhide A9) ?_) | (refine wpList_load97 (by rfl) _ rfl p13 rfl X (unhide A13) ?_))
                go_ret
                exact ⟨by trivial, (unhide HZG).kp.below (Nat.le_refl _) (by simp)⟩
          · go_simp
            have HA1 := hide ((unhide HA0).box (wagg (fun _ => dv)) 97)
            rw [zeros_eq] at HA1
            refine hK.out _ _ (rangeAt_var (zoo_varm (unhide HA1) (List.Mem.tail _ (List.Mem.tail _ (List.Mem.head _))))) (fun hHeld2 => ?_)
            clear hK K hHeld
            have hHeld := hHeld2
            clear hHeld2
            try simp only [Act.put, List.setIfInBounds_toArray, List.set_cons_zero, List.set_cons_succ]
            generalize WD.heap.size = p11 at *
            refine wpAnyH_only (i := 4) rfl (by kernel_rfl) (fun K hK => ?_)
            go_simp
            refine (unhide HR1 (some ad) _ _ (unhide HA1).kp (acts_take (unhide HA).ins _)).mono ?_
            rintro e w6 ⟨rfl, hk6⟩
            rw [(unhide HYY).1, (unhide HYY).2]
            have HA2 := hide ((unhide HA1).kp0 hk6)
            clear hk6
            go_wp2_with fail
            refine hK.out _ _ (rangeAt_var (zoo_varm (unhide HA2) (List.Mem.tail _ (List.Mem.tail _ (List.Mem.head _))))) (fun hHeld2 => ?_)
            clear hK K hHeld
            have hHeld := hHeld2
            clear hHeld2
            try simp only [Act.put, List.setIfInBounds_toArray, List.set_cons_zero, List.set_cons_succ]
            refine wpAnyH_tk (i := 5) (v := ?_) rfl (by kernel_rfl) (by kernel_rfl) (by kernel_rfl) (fun _ _ _ h => h) (Or.inl ⟨by rfl, ?_⟩) hHeld ?_
            rotate_left
            · intro w hSw
              try dsimp only at hSw
              go_simp
              try with_reducible rfl
            try simp only [Act.put, List.setIfInBounds_toArray, List.set_cons_zero, List.set_cons_succ]
            refine wpAnyH_tk (i := 6) (v := ?_) rfl (by kernel_rfl) (by kernel_rfl) (by kernel_rfl) (fun _ _ _ h => h) (Or.inl ⟨by rfl, ?_⟩) hHeld ?_
            rotate_left
            · intro w hSw
              try dsimp only at hSw
              go_simp
              try with_reducible rfl
            try simp only [Act.put, List.setIfInBounds_toArray, List.set_cons_zero, List.set_cons_succ]
            refine wpAnyH_tk (i := 7) (v := ?_) rfl (by kernel_rfl) (by kernel_rfl) (by kernel_rfl) (fun _ _ _ h => h) (Or.inl ⟨by rfl, ?_⟩) hHeld ?_
            rotate_left
            · intro w hSw
              try dsimp only at hSw
              go_simp
              try with_reducible rfl
            try simp only [Act.put, List.setIfInBounds_toArray, List.set_cons_zero, List.set_cons_succ]
            refine wpAnyH_only (i := 9) rfl (by kernel_rfl) (fun K hK => ?_)
            rw [if_pos (by rfl)]
            refine wp_store_row 97 _ _ rfl p11 (wagg Y) rfl rfl 97 _ (zoo_varm (unhide HA2) (List.Mem.head _)) Try.size97 rfl (wagg_one _) ?_
            have HZF := hide (zoo_setrL (l1 := []) (c' := wagg Y) (unhide HA2))
            refine hK.out _ _ (rangeAt_var (zoo_varm (unhide HZF) (List.Mem.tail _ (List.Mem.tail _ (List.Mem.head _))))) (fun hHeld2 => ?_)
            clear hK K hHeld
            have hHeld := hHeld2
            clear hHeld2
            simp only [Act.put]
            refine wpAnyH_tk (i := 10) (v := ?_) rfl (by kernel_rfl) (by kernel_rfl) (by kernel_rfl) (fun _ _ _ h => h) (Or.inl ⟨by rfl, ?_⟩) hHeld ?_
            rotate_left
            · intro w hSw
              try dsimp only at hSw
              go_simp
              try with_reducible rfl
            try simp only [Act.put, List.setIfInBounds_toArray, List.set_cons_zero, List.set_cons_succ]
            refine wpAnyH_done (by kernel_rfl) ?_ _
            generalize World.setRow _ _ _ = W9p11 at HZF ⊢
            clear hHeld
            go_wp2_with fail
            refine wp_region_held_drew (S := fun w' => w'.rangeAt p11 0 (wagg Y).toList) (by kernel_rfl) (rangeAt_var (zoo_varm ((unhide HZF).kp0 ((Kp.refl [] W9p11).drew)) (List.Mem.head _))) (fun hHeld => ?_)
            have HB0 := hide ((unhide HZF).kp0 ((Kp.refl [] W9p11).drew))
            generalize World.drew _ = WE at HB0 hHeld ⊢
            refine wpAnyH_tk (i := 0) rfl (by kernel_rfl) (by kernel_rfl) (by kernel_rfl) (fun _ _ _ h => h) (yields_s (by rfl) _ rfl p11 0 rfl Y (fun _ h => h)) hHeld ?_
            try simp only [Act.put, List.setIfInBounds_toArray, List.set_cons_zero, List.set_cons_succ]
            refine wpAnyH_tk (i := 1) (v := ?_) rfl (by kernel_rfl) (by kernel_rfl) (by kernel_rfl) (fun _ _ _ h => h) (Or.inl ⟨by rfl, ?_⟩) hHeld ?_
            rotate_left
            · intro w hSw
              try dsimp only at hSw
              go_simp
              try with_reducible rfl
            try simp only [Act.put, List.setIfInBounds_toArray, List.set_cons_zero, List.set_cons_succ]
            refine wpAnyH_tk (i := 2) (v := ?_) rfl (by kernel_rfl) (by kernel_rfl) (by kernel_rfl) (fun _ _ _ h => h) (Or.inl ⟨by rfl, ?_⟩) hHeld ?_
            rotate_left
            · intro w hSw
              try dsimp only at hSw
              go_simp
              try with_reducible rfl
            try simp only [Act.put, List.setIfInBounds_toArray, List.set_cons_zero, List.set_cons_succ]
            refine wpAnyH_tk (i := 3) (v := ?_) rfl (by kernel_rfl) (by kernel_rfl) (by kernel_rfl) (fun _ _ _ h => h) (Or.inl ⟨by rfl, ?_⟩) hHeld ?_
            rotate_left
            · intro w hSw
              try dsimp only at hSw
              go_simp
              try with_reducible rfl
            try simp only [Act.put, List.setIfInBounds_toArray, List.set_cons_zero, List.set_cons_succ]
            refine wpAnyH_two (i := 4) (j := 8) rfl rfl (by kernel_rfl) (fun K hK => ?_) (fun K hK => ?_)
            · go_simp
              refine (unhide HR2 Y _ _ _ (unhide HB0).kp (fun hp => (by obtain ⟨b, o, e, h1⟩ := (unhide HA).ins (by rw [List.length_drop] at hp; omega); cases e; exact ⟨b, o + d * 6, by simp [addr_add], ActsIn.drop h1 d⟩))).mono ?_
              rintro e w6 ⟨rfl, hk6⟩
              rw [← (unhide HJ).1, unhide HBZ]
              have HB1 := hide ((unhide HB0).kp0 hk6)
              clear hk6
              go_wp2_with fail
              refine hK.out _ _ (rangeAt_var (zoo_varm (unhide HB1) (List.Mem.head _))) (fun hHeld2 => ?_)
              clear hK K hHeld
              have hHeld := hHeld2
              clear hHeld2
              try simp only [Act.put, List.setIfInBounds_toArray, List.set_cons_zero, List.set_cons_succ]
              refine wpAnyH_tk (i := 5) (v := ?_) rfl (by kernel_rfl) (by kernel_rfl) (by kernel_rfl) (fun _ _ _ h => h) (Or.inl ⟨by rfl, ?_⟩) hHeld ?_
              rotate_left
              · intro w hSw
                try dsimp only at hSw
                go_simp
                try with_reducible rfl
              try simp only [Act.put, List.setIfInBounds_toArray, List.set_cons_zero, List.set_cons_succ]
              refine wpAnyH_tk (i := 6) (v := ?_) rfl (by kernel_rfl) (by kernel_rfl) (by kernel_rfl) (fun _ _ _ h => h) (Or.inl ⟨by rfl, ?_⟩) hHeld ?_
              rotate_left
              · intro w hSw
                try dsimp only at hSw
                go_simp
                try with_reducible rfl
              try simp only [Act.put, List.setIfInBounds_toArray, List.set_cons_zero, List.set_cons_succ]
              refine wpAnyH_tk (i := 7) (v := ?_) rfl (by kernel_rfl) (by kernel_rfl) (by kernel_rfl) (fun _ _ _ h => h) (Or.inl ⟨by rfl, ?_⟩) hHeld ?_
              rotate_left
              · intro w hSw
                try dsimp only at hSw
                go_simp
                try with_reducible rfl
              try simp only [Act.put, List.setIfInBounds_toArray, List.set_cons_zero, List.set_cons_succ]
              refine wpAnyH_only (i := 8) rfl (by kernel_rfl) (fun K hK => ?_)
              go_simp
              have HB2 := hide ((unhide HB1).box (wagg (fun _ => dv)) 97)
              rw [zeros_eq] at HB2
              refine hK.out _ _ (rangeAt_var (zoo_varm (unhide HB2) (List.Mem.tail _ (List.Mem.head _)))) (fun hHeld2 => ?_)
              clear hK K hHeld
              have hHeld := hHeld2
              clear hHeld2
              try simp only [Act.put, List.setIfInBounds_toArray, List.set_cons_zero, List.set_cons_succ]
              generalize w6.heap.size = p13 at *
              refine wpAnyH_only (i := 9) rfl (by kernel_rfl) (fun K hK => ?_)
              rw [if_pos (by rfl)]
              refine wp_store_row 97 _ _ rfl p13 (wagg X) rfl rfl 97 _ (zoo_varm (unhide HB2) (List.Mem.head _)) Try.size97 rfl (wagg_one _) ?_
              have HZG := hide (zoo_setrL (l1 := []) (c' := wagg X) (unhide HB2))
              refine hK.out _ _ (rangeAt_var (zoo_varm (unhide HZG) (List.Mem.tail _ (List.Mem.head _)))) (fun hHeld2 => ?_)
              clear hK K hHeld
              have hHeld := hHeld2
              clear hHeld2
              simp only [Act.put]
              refine wpAnyH_tk (i := 10) (v := ?_) rfl (by kernel_rfl) (by kernel_rfl) (by kernel_rfl) (fun _ _ _ h => h) (Or.inl ⟨by rfl, ?_⟩) hHeld ?_
              rotate_left
              · intro w hSw
                try dsimp only at hSw
                go_simp
                try with_reducible rfl
              try simp only [Act.put, List.setIfInBounds_toArray, List.set_cons_zero, List.set_cons_succ]
              refine wpAnyH_done (by kernel_rfl) ?_ _
              generalize World.setRow _ _ _ = W9p13 at HZG ⊢
              clear hHeld
              have A9 := hide (zoo_varm (unhide HZG) (List.Mem.tail _ (List.Mem.tail _ (List.Mem.head _))))
              have A13 := hide (zoo_varm (unhide HZG) (List.Mem.head _))
              have hbj := (unhide HJ).2
              subst hbj
              have heq := eq97 X
              cases bY <;> cases bZ
              all_goals
                go_wp2_with (first | (refine wpList_load97 (by rfl) _ rfl p9 rfl X (unhide A9) ?_) | (refine wpList_load97 (by rfl) _ rfl p13 rfl X (unhide A13) ?_))
                go_ret
                exact ⟨by trivial, (unhide HZG).kp.below (Nat.le_refl _) (by simp)⟩
            · go_simp
              have HB1 := hide ((unhide HB0).box (wagg (fun _ => dv)) 97)
              rw [zeros_eq] at HB1
              refine hK.out _ _ (rangeAt_var (zoo_varm (unhide HB1) (List.Mem.tail _ (List.Mem.head _)))) (fun hHeld2 => ?_)
              clear hK K hHeld
              have hHeld := hHeld2
              clear hHeld2
              try simp only [Act.put, List.setIfInBounds_toArray, List.set_cons_zero, List.set_cons_succ]
              generalize WE.heap.size = p13 at *
              refine wpAnyH_only (i := 4) rfl (by kernel_rfl) (fun K hK => ?_)
              go_simp
              refine (unhide HR2 Y _ _ _ (unhide HB1).kp (fun hp => (by obtain ⟨b, o, e, h1⟩ := (unhide HA).ins (by rw [List.length_drop] at hp; omega); cases e; exact ⟨b, o + d * 6, by simp [addr_add], ActsIn.drop h1 d⟩))).mono ?_
              rintro e w6 ⟨rfl, hk6⟩
              rw [← (unhide HJ).1, unhide HBZ]
              have HB2 := hide ((unhide HB1).kp0 hk6)
              clear hk6
              go_wp2_with fail
              refine hK.out _ _ (rangeAt_var (zoo_varm (unhide HB2) (List.Mem.tail _ (List.Mem.head _)))) (fun hHeld2 => ?_)
              clear hK K hHeld
              have hHeld := hHeld2
              clear hHeld2
              try simp only [Act.put, List.setIfInBounds_toArray, List.set_cons_zero, List.set_cons_succ]
              refine wpAnyH_tk (i := 5) (v := ?_) rfl (by kernel_rfl) (by kernel_rfl) (by kernel_rfl) (fun _ _ _ h => h) (Or.inl ⟨by rfl, ?_⟩) hHeld ?_
              rotate_left
              · intro w hSw
                try dsimp only at hSw
                go_simp
                try with_reducible rfl
              try simp only [Act.put, List.setIfInBounds_toArray, List.set_cons_zero, List.set_cons_succ]
              refine wpAnyH_tk (i := 6) (v := ?_) rfl (by kernel_rfl) (by kernel_rfl) (by kernel_rfl) (fun _ _ _ h => h) (Or.inl ⟨by rfl, ?_⟩) hHeld ?_
              rotate_left
              · intro w hSw
                try dsimp only at hSw
                go_simp
                try with_reducible rfl
              try simp only [Act.put, List.setIfInBounds_toArray, List.set_cons_zero, List.set_cons_succ]
              refine wpAnyH_tk (i := 7) (v := ?_) rfl (by kernel_rfl) (by kernel_rfl) (by kernel_rfl) (fun _ _ _ h => h) (Or.inl ⟨by rfl, ?_⟩) hHeld ?_
              rotate_left
              · intro w hSw
                try dsimp only at hSw
                go_simp
                try with_reducible rfl
              try simp only [Act.put, List.setIfInBounds_toArray, List.set_cons_zero, List.set_cons_succ]
              refine wpAnyH_only (i := 9) rfl (by kernel_rfl) (fun K hK => ?_)
              rw [if_pos (by rfl)]
              refine wp_store_row 97 _ _ rfl p13 (wagg X) rfl rfl 97 _ (zoo_varm (unhide HB2) (List.Mem.head _)) Try.size97 rfl (wagg_one _) ?_
              have HZG := hide (zoo_setrL (l1 := []) (c' := wagg X) (unhide HB2))
              refine hK.out _ _ (rangeAt_var (zoo_varm (unhide HZG) (List.Mem.tail _ (List.Mem.head _)))) (fun hHeld2 => ?_)
              clear hK K hHeld
              have hHeld := hHeld2
              clear hHeld2
              simp only [Act.put]
              refine wpAnyH_tk (i := 10) (v := ?_) rfl (by kernel_rfl) (by kernel_rfl) (by kernel_rfl) (fun _ _ _ h => h) (Or.inl ⟨by rfl, ?_⟩) hHeld ?_
              rotate_left
              · intro w hSw
                try dsimp only at hSw
                go_simp
                try with_reducible rfl
              try simp only [Act.put, List.setIfInBounds_toArray, List.set_cons_zero, List.set_cons_succ]
              refine wpAnyH_done (by kernel_rfl) ?_ _
              generalize World.setRow _ _ _ = W9p13 at HZG ⊢
              clear hHeld
              have A9 := hide (zoo_varm (unhide HZG) (List.Mem.tail _ (List.Mem.tail _ (List.Mem.head _))))
              have A13 := hide (zoo_varm (unhide HZG) (List.Mem.head _))
              have hbj := (unhide HJ).2
              subst hbj
              have heq := eq97 X
              cases bY <;> cases bZ
              all_goals
                go_wp2_with (first | (refine wpList_load97 (by rfl) _ rfl p9 rfl X (unhide A9) ?_) | (refine wpList_load97 (by rfl) _ rfl p13 rfl X (unhide A13) ?_))
                go_ret
                exact ⟨by trivial, (unhide HZG).kp.below (Nat.le_refl _) (by simp)⟩
end Go.Proofs.Ytliopckocegknac
