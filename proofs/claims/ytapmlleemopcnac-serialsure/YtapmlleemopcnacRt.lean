/- Acts as the document has them, by their contract. -/
import Derived.Test.YtapmlleemopcnacM10
import Derived.Test.YtapmlleemopcnacRy
namespace Go.Proofs.Ytapmlleemopcnac
open Go.RowKit
set_option maxRecDepth 20000
attribute [local go_sem ↓] Go.wp_at_zero Go.wp_at_succ

theorem Try.info134 : (Try.prog.info? 134).map (fun i => (i.zero, i.size, i.bytes)) = some (some (.agg #[.int .i64 0, .int .i64 0, .int .i64 0, .bool false, .string ByteArray.empty, .slice none 0 0]), 6, 72) := by kernel_rfl
theorem krow_acts {T : TypeId} {B : Nat} {w : World} {ac : Option Addr} {cc n : Nat} {zs : List Ax} (hrow : KRow T 6 B w ac n cc (axcs zs)) (h : ∀ y, y ∈ zs → SlO w y.a y.x.l) : ActsIn w ac (zs.map Ax.x) := by
  intro hp
  rw [List.length_map] at hp
  obtain ⟨y0, hy0⟩ : ∃ y, zs[0]? = some y := ⟨_, List.getElem?_eq_getElem hp⟩
  obtain ⟨g, e, _⟩ := hrow.cell (axcs_at (j := 0) hy0 (by omega) rfl)
  refine ⟨g, 0, e, fun i x hx => ?_⟩
  rw [List.getElem?_map] at hx
  cases hz2 : zs[i]? with
  | none => rw [hz2] at hx; cases hx
  | some y =>
    rw [hz2] at hx
    simp only [Option.map_some, Option.some.injEq] at hx
    subst hx
    have key : ∀ {j : Nat} {v : Value}, j < 6 → (axc y)[j]? = some v → w.cell? ⟨g, 0 + i * 6 + j, none⟩ = some v := fun {j v} hj hv => by
      obtain ⟨g', e', hc⟩ := hrow.cell (axcs_at hz2 hj hv)
      rw [e] at e'
      simp only [Option.some.injEq, Addr.mk.injEq, and_true] at e'
      rw [Nat.zero_add, e']
      exact hc
    exact ⟨key (j := 0) (by omega) rfl, key (j := 1) (by omega) rfl, key (j := 2) (by omega) rfl, key (j := 3) (by omega) rfl, key (j := 4) (by omega) rfl, y.a, y.c, key (j := 5) (by omega) rfl, h y (List.mem_of_getElem? hz2)⟩
theorem c6_kp {w w' : World} {p0 p1 p2 p3 p4 p5 : Addr} {x0 x1 x2 x3 x4 x5 : Value} (h : w.cell? p0 = some x0 ∧ w.cell? p1 = some x1 ∧ w.cell? p2 = some x2 ∧ w.cell? p3 = some x3 ∧ w.cell? p4 = some x4 ∧ w.cell? p5 = some x5) (hk : Kp [] w w') : w'.cell? p0 = some x0 ∧ w'.cell? p1 = some x1 ∧ w'.cell? p2 = some x2 ∧ w'.cell? p3 = some x3 ∧ w'.cell? p4 = some x4 ∧ w'.cell? p5 = some x5 :=
  ⟨hk.cell (by simp) h.1, hk.cell (by simp) h.2.1, hk.cell (by simp) h.2.2.1, hk.cell (by simp) h.2.2.2.1, hk.cell (by simp) h.2.2.2.2.1, hk.cell (by simp) h.2.2.2.2.2⟩
def ActsEnd (l : List Ac) (w0 w : World) (e : Ending) (w' : World) : Prop := ∃ a c zs, e = .returned (.slice a l.length c) ∧ KRow 134 6 w.heap.size w' a l.length c (axcs zs) ∧ Kp [] w w' ∧ zs.map Ax.x = l ∧ ∀ y, y ∈ zs → SlO w0 y.a y.x.l
structure AcI (l : List Ac) (w0 w wr : World) (aO : Option Addr) (cO n i : Nat) (zs : List Ax) : Prop where
  zoo : Zoo w wr [KwT 134 6 aO n cO (axcs zs)]
  nl : n = zs.length
  map : zs.map Ax.x = l.take i
  sl : ∀ y, y ∈ zs → SlO w0 y.a y.x.l
set_option maxHeartbeats 4000000 in
theorem racts (a : Option Addr) (c : Nat) (l : List Ac) (w0 w : World) (hk0 : Kp [] w0 w) (h : ActsIn w0 a l) (hok : ActsOk l) :
    Calls Try.prog 45 #[.slice a l.length c] w (ActsEnd l w0 w) := by
  have hu := Try.underlying91
  have HA := hide h
  have HK0 := hide hk0
  have hm := hok.1
  clear h hok hk0
  obtain ⟨m, hmm⟩ : ∃ m, l.length = m := ⟨_, rfl⟩
  have HM := hide hmm
  rw [hmm] at hm ⊢
  clear hmm
  go_enter Try.func45, Try.ntmps45
  go_wp2_with fail
  go_loopw [3, 4] (fun x y wr => ∃ (i : Nat) (aO : Option Addr) (cO n : Nat), i ≤ m ∧ n ≤ i ∧ x = .slice aO n cO ∧ y = .int .i64 i ∧ Hid (∃ zs, AcI l w0 w wr aO cO n i zs)) (fun _ y _ => m - (intOf y).toNat)
  case atStart => exact ⟨0, none, 0, 0, Nat.zero_le _, Nat.le_refl _, rfl, rfl, [], kw_nil 134 6 (zoo_nil (Kp.refl [] w)), rfl, rfl, fun y hy => by simp at hy⟩
  case round =>
    obtain ⟨i, aO, cO, n, hi, hni, rfl, rfl, HI⟩ := hrel
    obtain ⟨zs, hz⟩ := unhide HI
    have HZ := hide hz
    clear hz HI
    by_cases hlt : i < m
    · have i1 : (i : Int) < (m : Int) := by omega
      have i0 : (0 : Int) ≤ (i : Int) := by omega
      have hln : i < l.length := by have := unhide HM; omega
      obtain ⟨g, o, rfl, hb⟩ := (unhide HA) (by omega)
      obtain ⟨x, hx⟩ : ∃ x, l[i]? = some x := ⟨_, List.getElem?_eq_getElem hln⟩
      have htk : l.take (i + 1) = l.take i ++ [x] := by rw [List.take_add_one, hx]; rfl
      have hat := hb i x hx
      obtain ⟨la, lc, z5, hls⟩ := hat.ls
      have q0 := (unhide HK0).cell (by simp) hat.c0
      have q1 := (unhide HK0).cell (by simp) hat.c1
      have q2 : w.cell? ⟨g, o + i * 6 + 1 + 1, none⟩ = _ := (unhide HK0).cell (by simp) hat.c2
      have q3 : w.cell? ⟨g, o + i * 6 + 1 + 1 + 1, none⟩ = _ := (unhide HK0).cell (by simp) hat.c3
      have q4 : w.cell? ⟨g, o + i * 6 + 1 + 1 + 1 + 1, none⟩ = _ := (unhide HK0).cell (by simp) hat.c4
      have q5 : w.cell? ⟨g, o + i * 6 + 1 + 1 + 1 + 1 + 1, none⟩ = _ := (unhide HK0).cell (by simp) z5
      have HLS := hide hls
      have HT := hide htk
      clear hat hb hx hls z5 htk
      obtain ⟨kd, key, to_, xt, xs, xl⟩ := x
      dsimp only at q0 q1 q2 q3 q4 q5 HLS
      obtain ⟨ln, hlen⟩ : ∃ ln, xl.length = ln := ⟨_, rfl⟩
      rw [hlen] at q5
      have HLX := hide hlen
      clear hlen
      have HG := hide (And.intro q0 (And.intro q1 (And.intro q2 (And.intro q3 (And.intro q4 q5)))))
      clear q0 q1 q2 q3 q4 q5
      go_wp2_with fail
      refine wp_region_held_drew (S := fun w' => w'.cell? ⟨g, o + i * 6, none⟩ = some (.int .i64 kd) ∧ w'.cell? ⟨g, o + i * 6 + 1, none⟩ = some (.int .i64 key) ∧ w'.cell? ⟨g, o + i * 6 + 1 + 1, none⟩ = some (.int .i64 to_) ∧ w'.cell? ⟨g, o + i * 6 + 1 + 1 + 1, none⟩ = some (.bool xt) ∧ w'.cell? ⟨g, o + i * 6 + 1 + 1 + 1 + 1, none⟩ = some (.string xs) ∧ w'.cell? ⟨g, o + i * 6 + 1 + 1 + 1 + 1 + 1, none⟩ = some (.slice la ln lc)) (by kernel_rfl) (c6_kp (unhide HG) ((unhide HZ).zoo.kp.drew)) (fun hHeld => ?_)
      have HA0 := hide ((unhide HZ).zoo.kp0 ((Kp.refl [] wr).drew))
      generalize World.drew _ = WD at HA0 hHeld ⊢
      refine wpAnyH_tk (i := 0) (v := ?_) rfl (by kernel_rfl) (by kernel_rfl) (by kernel_rfl) (fun _ _ _ h => h) (Or.inl ⟨by rfl, ?_⟩) hHeld ?_
      rotate_left
      · intro w hSw
        try dsimp only at hSw
        go_simp
        try with_reducible rfl
      try simp only [Act.put, List.setIfInBounds_toArray, List.set_cons_zero, List.set_cons_succ]
      refine wpAnyH_tk (i := 1) (v := ?_) rfl (by kernel_rfl) (by kernel_rfl) (by kernel_rfl) (fun _ _ _ h => h) (Or.inl ⟨by rfl, ?_⟩) hHeld ?_
      rotate_left
      · intro w hSw
        try dsimp only at hSw
        go_simp
        try with_reducible rfl
      try simp only [Act.put, List.setIfInBounds_toArray, List.set_cons_zero, List.set_cons_succ]
      refine wpAnyH_tk (i := 2) (v := ?_) rfl (by kernel_rfl) (by kernel_rfl) (by kernel_rfl) (fun _ _ _ h => h) (Or.inl ⟨by rfl, ?_⟩) hHeld ?_
      rotate_left
      · intro w hSw
        try dsimp only at hSw
        go_simp
        try with_reducible rfl
      try simp only [Act.put, List.setIfInBounds_toArray, List.set_cons_zero, List.set_cons_succ]
      refine wpAnyH_tk (i := 3) (v := ?_) rfl (by kernel_rfl) (by kernel_rfl) (by kernel_rfl) (fun _ _ _ h => h) (Or.inl ⟨by rfl, ?_⟩) hHeld ?_
      rotate_left
      · intro w hSw
        try dsimp only at hSw
        go_simp
        try with_reducible rfl
      try simp only [Act.put, List.setIfInBounds_toArray, List.set_cons_zero, List.set_cons_succ]
      refine wpAnyH_tk (i := 4) (v := ?_) rfl (by kernel_rfl) (by kernel_rfl) (by kernel_rfl) (fun _ _ _ h => h) (Or.inl ⟨by rfl, ?_⟩) hHeld ?_
      rotate_left
      · intro w hSw
        try dsimp only at hSw
        go_simp
        try with_reducible rfl
      try simp only [Act.put, List.setIfInBounds_toArray, List.set_cons_zero, List.set_cons_succ]
      refine wpAnyH_tk (i := 5) (v := ?_) rfl (by kernel_rfl) (by kernel_rfl) (by kernel_rfl) (fun _ _ _ h => h) (Or.inl ⟨by rfl, ?_⟩) hHeld ?_
      rotate_left
      · intro w hSw
        try dsimp only at hSw
        go_simp
        try with_reducible rfl
      try simp only [Act.put, List.setIfInBounds_toArray, List.set_cons_zero, List.set_cons_succ]
      refine wpAnyH_tk (i := 6) (v := ?_) rfl (by kernel_rfl) (by kernel_rfl) (by kernel_rfl) (fun _ _ _ h => h) (Or.inl ⟨by rfl, ?_⟩) hHeld ?_
      rotate_left
      · intro w hSw
        try dsimp only at hSw
        go_simp
        try with_reducible rfl
      try simp only [Act.put, List.setIfInBounds_toArray, List.set_cons_zero, List.set_cons_succ]
      refine wpAnyH_tk (i := 7) (v := ?_) rfl (by kernel_rfl) (by kernel_rfl) (by kernel_rfl) (fun _ _ _ h => h) (Or.inl ⟨by rfl, ?_⟩) hHeld ?_
      rotate_left
      · intro w hSw
        try dsimp only at hSw
        go_simp
        try with_reducible rfl
      try simp only [Act.put, List.setIfInBounds_toArray, List.set_cons_zero, List.set_cons_succ]
      refine wpAnyH_tk (i := 8) (v := ?_) rfl (by kernel_rfl) (by kernel_rfl) (by kernel_rfl) (fun _ _ _ h => h) (Or.inl ⟨by rfl, ?_⟩) hHeld ?_
      rotate_left
      · intro w hSw
        try dsimp only at hSw
        go_simp
        try with_reducible rfl
      try simp only [Act.put, List.setIfInBounds_toArray, List.set_cons_zero, List.set_cons_succ]
      refine wpAnyH_tk (i := 9) (v := ?_) rfl (by kernel_rfl) (by kernel_rfl) (by kernel_rfl) (fun _ _ _ h => h) (Or.inl ⟨by rfl, ?_⟩) hHeld ?_
      rotate_left
      · intro w hSw
        try dsimp only at hSw
        go_simp
        try with_reducible rfl
      try simp only [Act.put, List.setIfInBounds_toArray, List.set_cons_zero, List.set_cons_succ]
      refine wpAnyH_tk (i := 10) (v := ?_) rfl (by kernel_rfl) (by kernel_rfl) (by kernel_rfl) (fun _ _ _ h => h) (Or.inl ⟨by rfl, ?_⟩) hHeld ?_
      rotate_left
      · intro w hSw
        try dsimp only at hSw
        go_simp
        try with_reducible rfl
      try simp only [Act.put, List.setIfInBounds_toArray, List.set_cons_zero, List.set_cons_succ]
      refine wpAnyH_tk (i := 11) (v := ?_) rfl (by kernel_rfl) (by kernel_rfl) (by kernel_rfl) (fun _ _ _ h => h) (Or.inl ⟨by rfl, ?_⟩) hHeld ?_
      rotate_left
      · intro w hSw
        try dsimp only at hSw
        go_simp
        try with_reducible rfl
      try simp only [Act.put, List.setIfInBounds_toArray, List.set_cons_zero, List.set_cons_succ]
      refine wpAnyH_tk (i := 12) (v := ?_) rfl (by kernel_rfl) (by kernel_rfl) (by kernel_rfl) (fun _ _ _ h => h) (Or.inl ⟨by rfl, ?_⟩) hHeld ?_
      rotate_left
      · intro w hSw
        try dsimp only at hSw
        go_simp
        try with_reducible rfl
      try simp only [Act.put, List.setIfInBounds_toArray, List.set_cons_zero, List.set_cons_succ]
      refine wpAnyH_tk (i := 13) (v := ?_) rfl (by kernel_rfl) (by kernel_rfl) (by kernel_rfl) (fun _ _ _ h => h) (Or.inl ⟨by rfl, ?_⟩) hHeld ?_
      rotate_left
      · intro w hSw
        try dsimp only at hSw
        go_simp
        try with_reducible rfl
      try simp only [Act.put, List.setIfInBounds_toArray, List.set_cons_zero, List.set_cons_succ]
      refine wpAnyH_tk (i := 14) (v := ?_) rfl (by kernel_rfl) (by kernel_rfl) (by kernel_rfl) (fun _ _ _ h => h) (Or.inl ⟨by rfl, ?_⟩) hHeld ?_
      rotate_left
      · intro w hSw
        try dsimp only at hSw
        go_simp
        try with_reducible rfl
      try simp only [Act.put, List.setIfInBounds_toArray, List.set_cons_zero, List.set_cons_succ]
      refine wpAnyH_tk (i := 15) (v := ?_) rfl (by kernel_rfl) (by kernel_rfl) (by kernel_rfl) (fun _ _ _ h => h) (Or.inl ⟨by rfl, ?_⟩) hHeld ?_
      rotate_left
      · intro w hSw
        try dsimp only at hSw
        go_simp
        try with_reducible rfl
      try simp only [Act.put, List.setIfInBounds_toArray, List.set_cons_zero, List.set_cons_succ]
      refine wpAnyH_tk (i := 16) (v := ?_) rfl (by kernel_rfl) (by kernel_rfl) (by kernel_rfl) (fun _ _ _ h => h) (Or.inl ⟨by rfl, ?_⟩) hHeld ?_
      rotate_left
      · intro w hSw
        try dsimp only at hSw
        go_simp
        try with_reducible rfl
      try simp only [Act.put, List.setIfInBounds_toArray, List.set_cons_zero, List.set_cons_succ]
      refine wpAnyH_tk (i := 17) (v := ?_) rfl (by kernel_rfl) (by kernel_rfl) (by kernel_rfl) (fun _ _ _ h => h) (Or.inl ⟨by rfl, ?_⟩) hHeld ?_
      rotate_left
      · intro w hSw
        try dsimp only at hSw
        go_simp
        try with_reducible rfl
      try simp only [Act.put, List.setIfInBounds_toArray, List.set_cons_zero, List.set_cons_succ]
      refine wpAnyH_tk (i := 18) (v := ?_) rfl (by kernel_rfl) (by kernel_rfl) (by kernel_rfl) (fun _ _ _ h => h) (Or.inl ⟨by rfl, ?_⟩) hHeld ?_
      rotate_left
      · intro w hSw
        try dsimp only at hSw
        go_simp
        try with_reducible rfl
      try simp only [Act.put, List.setIfInBounds_toArray, List.set_cons_zero, List.set_cons_succ]
      refine wpAnyH_tk (i := 19) (v := ?_) rfl (by kernel_rfl) (by kernel_rfl) (by kernel_rfl) (fun _ _ _ h => h) (Or.inl ⟨by rfl, ?_⟩) hHeld ?_
      rotate_left
      · intro w hSw
        try dsimp only at hSw
        go_simp
        try with_reducible rfl
      try simp only [Act.put, List.setIfInBounds_toArray, List.set_cons_zero, List.set_cons_succ]
      refine wpAnyH_tk (i := 20) (v := ?_) rfl (by kernel_rfl) (by kernel_rfl) (by kernel_rfl) (fun _ _ _ h => h) (Or.inl ⟨by rfl, ?_⟩) hHeld ?_
      rotate_left
      · intro w hSw
        try dsimp only at hSw
        go_simp
        try with_reducible rfl
      try simp only [Act.put, List.setIfInBounds_toArray, List.set_cons_zero, List.set_cons_succ]
      refine wpAnyH_tk (i := 21) (v := ?_) rfl (by kernel_rfl) (by kernel_rfl) (by kernel_rfl) (fun _ _ _ h => h) (Or.inl ⟨by rfl, ?_⟩) hHeld ?_
      rotate_left
      · intro w hSw
        try dsimp only at hSw
        go_simp
        try with_reducible rfl
      try simp only [Act.put, List.setIfInBounds_toArray, List.set_cons_zero, List.set_cons_succ]
      refine wpAnyH_tk (i := 22) (v := ?_) rfl (by kernel_rfl) (by kernel_rfl) (by kernel_rfl) (fun _ _ _ h => h) (Or.inl ⟨by rfl, ?_⟩) hHeld ?_
      rotate_left
      · intro w hSw
        try dsimp only at hSw
        go_simp
        try with_reducible rfl
      try simp only [Act.put, List.setIfInBounds_toArray, List.set_cons_zero, List.set_cons_succ]
      refine wpAnyH_tk (i := 23) (v := ?_) rfl (by kernel_rfl) (by kernel_rfl) (by kernel_rfl) (fun _ _ _ h => h) (Or.inl ⟨by rfl, ?_⟩) hHeld ?_
      rotate_left
      · intro w hSw
        try dsimp only at hSw
        go_simp
        try with_reducible rfl
      try simp only [Act.put, List.setIfInBounds_toArray, List.set_cons_zero, List.set_cons_succ]
      refine wpAnyH_tk (i := 24) (v := ?_) rfl (by kernel_rfl) (by kernel_rfl) (by kernel_rfl) (fun _ _ _ h => h) (Or.inl ⟨by rfl, ?_⟩) hHeld ?_
      rotate_left
      · intro w hSw
        try dsimp only at hSw
        go_simp
        try with_reducible rfl
      try simp only [Act.put, List.setIfInBounds_toArray, List.set_cons_zero, List.set_cons_succ]
      refine wpAnyH_tk (i := 25) (v := ?_) rfl (by kernel_rfl) (by kernel_rfl) (by kernel_rfl) (fun _ _ _ h => h) (Or.inl ⟨by rfl, ?_⟩) hHeld ?_
      rotate_left
      · intro w hSw
        try dsimp only at hSw
        go_simp
        try with_reducible rfl
      try simp only [Act.put, List.setIfInBounds_toArray, List.set_cons_zero, List.set_cons_succ]
      refine wpAnyH_tk (i := 26) (v := ?_) rfl (by kernel_rfl) (by kernel_rfl) (by kernel_rfl) (fun _ _ _ h => h) (Or.inl ⟨by rfl, ?_⟩) hHeld ?_
      rotate_left
      · intro w hSw
        try dsimp only at hSw
        go_simp
        try with_reducible rfl
      try simp only [Act.put, List.setIfInBounds_toArray, List.set_cons_zero, List.set_cons_succ]
      refine wpAnyH_only (i := 27) rfl (by kernel_rfl) (fun K hK => ?_)
      go_simp
      have HA1 := hide ((unhide HA0).box #[.int .i64 kd, .int .i64 key, .int .i64 to_, .bool xt, .string xs, .slice la ln lc] 134)
      refine hK.out _ _ (c6_kp (unhide HG) (unhide HA1).kp) (fun hHeld2 => ?_)
      clear hK K hHeld
      have hHeld := hHeld2
      clear hHeld2
      try simp only [Act.put, List.setIfInBounds_toArray, List.set_cons_zero, List.set_cons_succ]
      have HBX := hide (Zoo.var (unhide HA1))
      have hBw := Zoo.base (unhide HA1)
      generalize WD.alloc (.cells #[.int .i64 kd, .int .i64 key, .int .i64 to_, .bool xt, .string xs, .slice la ln lc] 134) = W1 at *
      generalize WD.heap.size = p3 at *
      refine wpAnyH_only (i := 28) rfl (by kernel_rfl) (fun K hK => ?_)
      refine step_krow (by rfl) (.tmp 11) (.tmp 38) 91 (by rfl) hu Try.info134 rfl (by omega) (kw_row (l1 := [BoxT p3 #[.int .i64 kd, .int .i64 key, .int .i64 to_, .bool xt, .string xs, .slice la ln lc] 134]) (unhide HA1)) hBw (.slice (some ⟨p3, 0, none⟩) 1 1) [.int .i64 kd, .int .i64 key, .int .i64 to_, .bool xt, .string xs, .slice la ln lc] 1 (by rfl) (by rfl) (src_built (cs := #[.int .i64 kd, .int .i64 key, .int .i64 to_, .bool xt, .string xs, .slice la ln lc]) hu (unhide HBX) rfl (by simp [Value.oneCell'])) (by omega) (n + 1) rfl ?_
      intro a2 c2 w9 g1 g2 g3
      have HA2 := hide (Zoo.tail (kw_app (l1 := [BoxT p3 #[.int .i64 kd, .int .i64 key, .int .i64 to_, .bool xt, .string xs, .slice la ln lc] 134]) (unhide HA1) (unhide g1) (unhide g2) (unhide g3)))
      refine hK.out _ _ (c6_kp (unhide HG) (unhide HA2).kp) (fun hHeld2 => ?_)
      clear hK K hHeld
      have hHeld := hHeld2
      clear hHeld2
      try simp only [Act.put, List.setIfInBounds_toArray, List.set_cons_zero, List.set_cons_succ]
      refine wpAnyH_tk (i := 29) (v := ?_) rfl (by kernel_rfl) (by kernel_rfl) (by kernel_rfl) (fun _ _ _ h => h) (Or.inl ⟨by rfl, ?_⟩) hHeld ?_
      rotate_left
      · intro w hSw
        try dsimp only at hSw
        go_simp
        try with_reducible rfl
      try simp only [Act.put, List.setIfInBounds_toArray, List.set_cons_zero, List.set_cons_succ]
      refine wpAnyH_done (by kernel_rfl) ?_ _
      clear hHeld g1 g2 g3
      go_wp2_with fail
      refine ⟨⟨i + 1, a2, c2, n + 1, by omega, by omega, rfl, by go_num, zs ++ [⟨⟨kd, key, to_, xt, xs, xl⟩, la, lc⟩], ?_, ?_, ?_, fun y hy => ?_⟩, by simp [intOf]; omega⟩
      · have e1 : axcs (zs ++ [(⟨⟨kd, key, to_, xt, xs, xl⟩, la, lc⟩ : Ax)]) = axcs zs ++ [.int .i64 kd, .int .i64 key, .int .i64 to_, .bool xt, .string xs, .slice la ln lc] := by
          rw [axcs_app]
          simp [axcs, axc, unhide HLX]
        rw [e1]
        exact unhide HA2
      · rw [List.length_append, (unhide HZ).nl]; rfl
      · rw [List.map_append, (unhide HZ).map, unhide HT]; rfl
      · rcases List.mem_append.1 hy with e | e
        · exact (unhide HZ).sl y e
        · rw [List.mem_singleton.1 e]; exact unhide HLS
    · have i1 : ¬ (i : Int) < (m : Int) := by omega
      have hmp := (unhide HZ).map
      rw [List.take_of_length_le (by have := unhide HM; omega)] at hmp
      have hl : n = l.length := by rw [(unhide HZ).nl, ← hmp, List.length_map]
      have HE : Hid (ActsEnd l w0 w (.returned (.slice aO n cO)) wr) := by
        unfold ActsEnd
        rw [← hl]
        exact ⟨aO, cO, zs, rfl, kw_row (l1 := []) (unhide HZ).zoo, (unhide HZ).zoo.kp, hmp, (unhide HZ).sl⟩
      clear hmp hl
      go_wp2_with fail
      go_ret
      exact unhide HE
end Go.Proofs.Ytapmlleemopcnac
