/- SerialSure, walked. -/
import Derived.Test.YtapmlleemopcnacRs
import Derived.Test.YtapmlleemopcnacWw
namespace Go.Proofs.Ytapmlleemopcnac
open Go.RowKit Srt
set_option maxRecDepth 20000
attribute [local go_sem ↓] Go.wp_at_zero Go.wp_at_succ

theorem Try.info94 : (Try.prog.info? 94).map (fun i => (i.zero, i.size, i.bytes)) = some (some (.agg #[.int .i64 0, .int .i64 0, .int .i64 0, .slice none 0 0]), 4, 48) := by kernel_rfl
/-- A deed's acts, as the document has them: a row of one's own. -/
def raT (y : Dy) : Thing := KwT 134 6 y.x.a y.ys.length y.x.c (axcs y.ys)
structure RuI (ds : List Dn) (w wr : World) (aU : Option Addr) (cU n i : Nat) (ys : List Dy) : Prop where
  zoo : Zoo w wr (KwT 94 4 aU n cU (dxcs (ys.map Dy.x)) :: ys.map raT)
  nl : n = ys.length
  map : ys.map (fun y => y.x.d) = ds.take i
  acts : ∀ y, y ∈ ys → y.x.d.acts = y.ys.map Ax.x
  sl : ∀ y, y ∈ ys → ∀ z, z ∈ y.ys → SlO w z.a z.x.l
theorem RuI.dns {ds : List Dn} {w wr : World} {aU : Option Addr} {cU n i : Nat} {ys : List Dy} (h : RuI ds w wr aU cU n i ys) : DnsIn wr aU (ys.map (fun y => y.x.d)) := by
  have hrow := kw_row (l1 := []) h.zoo
  intro hp
  rw [List.length_map] at hp
  have hat : ∀ {i : Nat} {y : Dy}, ys[i]? = some y → (ys.map Dy.x)[i]? = some y.x := fun {i y} h => by rw [List.getElem?_map, h]; rfl
  obtain ⟨g, e, _⟩ := hrow.cell (dxcs_at (hat (List.getElem?_eq_getElem hp))).1
  refine ⟨g, 0, e, fun i d hd => ?_⟩
  rw [List.getElem?_map] at hd
  cases hy : ys[i]? with
  | none => rw [hy] at hd; cases hd
  | some y =>
    rw [hy] at hd
    simp only [Option.map_some, Option.some.injEq] at hd
    subst hd
    obtain ⟨c0, c1, c2, c3⟩ := dxcs_at (hat hy)
    have key : ∀ {j : Nat} {v : Value}, (dxcs (ys.map Dy.x))[j]? = some v → wr.cell? ⟨g, j, none⟩ = some v := fun {j v} hv => by
      obtain ⟨g', e', hc⟩ := hrow.cell hv
      rw [e] at e'
      simp only [Option.some.injEq, Addr.mk.injEq, and_true] at e'
      rw [e']
      exact hc
    have hm := List.mem_of_getElem? hy
    rw [Nat.zero_add]
    have hm2 : raT y ∈ KwT 94 4 aU n cU (dxcs (ys.map Dy.x)) :: ys.map raT := List.mem_cons_of_mem _ (List.mem_map_of_mem hm)
    obtain ⟨l1, l2, el⟩ := List.append_of_mem hm2
    have hr2 := kw_row (l1 := l1) (r := l2) (show Zoo w wr (l1 ++ KwT 134 6 y.x.a y.ys.length y.x.c (axcs y.ys) :: l2) by have z := h.zoo; rw [el] at z; exact z)
    refine ⟨key c0, key c1, key c2, ⟨y.x.a, y.x.c, key c3, ?_⟩, y.x.a, y.x.c, key c3, ?_⟩
    · rw [h.acts y hm, List.length_map]
      exact krow_cap hr2
    · rw [h.acts y hm]
      exact krow_acts hr2 (fun z hz => (h.sl y hm z hz).kp0 h.zoo.kp)
set_option maxHeartbeats 8000000 in
theorem ssure10 (a : Option Addr) (n1 c : Nat) (st : Nat → HStep) (w : World) (h : HSts w a n1 st) :
    Calls Try.prog 10 #[.slice a n1 c] w fun e w' => e = .returned (.bool true) ∧ Below w.heap.size w w' := by
  have hu := Try.underlying87
  have HS := hide h
  clear h
  go_enter Try.func10, Try.ntmps10
  go_wp2_with fail
  refine (sbegun w).mono ?_
  rintro e w1 ⟨rfl, hk1⟩
  have HK1 := hide hk1
  clear hk1
  go_wp2_with fail
  refine (gsteps a n1 c st w1 ((unhide HS).kp0 (unhide HK1))).mono ?_
  rintro e w' ⟨q, rfl, hq, hw'⟩
  subst w'
  cases q with
  | true =>
    clear hq
    go_wp2_with fail
    go_ret
    exact ⟨rfl, (unhide HK1).below (Nat.le_refl _) (by simp)⟩
  | false =>
  have h200 := hq rfl
  clear hq
  have HNT := hide (fun cc => noted a n1 cc st w1 ((unhide HS).kp0 (unhide HK1)) (by omega))
  have HO : Hid (DnsOk (ntd (hstl st n1)) ∧ (∀ d, d ∈ ntd (hstl st n1) → d.n ≤ 1000) ∧ ser (ntd (hstl st n1)) = true) := by
    have h1 := ntd_ok (hstl st n1) (by rw [hstl_len]; omega)
    refine ⟨h1, fun d hd => ?_, ntd_ser _⟩
    have h2 := ntd_di (hstl st n1)
    have h3 := (h2.ok d hd).hi
    have h4 := h2.len
    have h5 := h1.1
    omega
  obtain ⟨ds, hds⟩ : ∃ ds, ntd (hstl st n1) = ds := ⟨_, rfl⟩
  rw [hds] at HO HNT
  clear hds
  go_wp2_with fail
  refine (unhide HNT _).mono ?_
  rintro e w2 ⟨aD, cD, rfl, hd, hk2⟩
  have HD := hide hd
  have HK2 := hide ((unhide HK1).trans0 hk2)
  clear hd hk2 HNT
  obtain ⟨m, hm⟩ : ∃ m, ds.length = m := ⟨_, rfl⟩
  rw [hm]
  have HM := hide hm
  have hm1 : m ≤ 1000 := by rw [← hm]; exact (unhide HO).1.1
  clear hm
  go_wp2_with fail
  go_loopw [4, 5] (fun x y wr => ∃ (i : Nat) (aU : Option Addr) (cU n : Nat), i ≤ m ∧ n ≤ i ∧ x = .slice aU n cU ∧ y = .int .i64 i ∧ Hid (∃ ys, RuI ds w2 wr aU cU n i ys)) (fun _ y _ => m - (intOf y).toNat)
  case atStart => exact ⟨0, none, 0, 0, Nat.zero_le _, Nat.le_refl _, rfl, rfl, [], kw_nil 94 4 (zoo_nil (Kp.refl [] w2)), rfl, rfl, fun y hy => by simp at hy, fun y hy => by simp at hy⟩
  case round =>
    obtain ⟨i, aU, cU, n, hi, hni, rfl, rfl, HI⟩ := hrel
    obtain ⟨ys, hz⟩ := unhide HI
    have HZ := hide hz
    clear hz HI
    by_cases hlt : i < m
    · have i1 : (i : Int) < (m : Int) := by omega
      have i0 : (0 : Int) ≤ (i : Int) := by omega
      have hln : i < ds.length := by have := unhide HM; omega
      obtain ⟨g, o, rfl, hb⟩ := (unhide HD) (by omega)
      obtain ⟨x, hx⟩ : ∃ x, ds[i]? = some x := ⟨_, List.getElem?_eq_getElem hln⟩
      have htk : ds.take (i + 1) = ds.take i ++ [x] := by rw [List.take_add_one, hx]; rfl
      have hok := (unhide HO).1.2 x (List.mem_of_getElem? hx)
      have hat := hb i x hx
      obtain ⟨la, lc, z3, hls⟩ := hat.ls
      have HT := hide htk
      have HLS := hide hls
      have HG := hide (And.intro hat.c0 (And.intro hat.c1 (And.intro hat.c2 z3)))
      clear hat hb hx hls z3 htk
      obtain ⟨xn, xa, xm, xacts⟩ := x
      dsimp only at HG HLS hok
      have HOK := hide hok
      clear hok
      obtain ⟨ln, hlen⟩ : ∃ ln, xacts.length = ln := ⟨_, rfl⟩
      rw [hlen] at HG
      have HLX := hide hlen
      clear hlen
      go_wp2_with fail
      refine wp_region_held_drew (S := fun w' => w'.cell? ⟨g, o + i * 4, none⟩ = some (.int .i64 xn) ∧ w'.cell? ⟨g, o + i * 4 + 1, none⟩ = some (.int .i64 xa) ∧ w'.cell? ⟨g, o + i * 4 + 2, none⟩ = some (.int .i64 xm) ∧ w'.cell? ⟨g, o + i * 4 + 3, none⟩ = some (.slice la ln lc)) (by kernel_rfl) (c4_kp (unhide HG) ((unhide HZ).zoo.kp.drew)) (fun hHeld => ?_)
      have HA0 := hide ((unhide HZ).zoo.kp0 ((Kp.refl [] wr).drew))
      generalize World.drew _ = WD at HA0 hHeld ⊢
      refine wpAnyH_tk (i := 0) (v := ?_) rfl (by kernel_rfl) (by kernel_rfl) (by kernel_rfl) (fun _ _ _ h => h) (Or.inl ⟨by rfl, ?_⟩) hHeld ?_
      rotate_left
      · intro w hSw
        try dsimp only at hSw
        go_simp
        try with_reducible rfl
      try simp only [Act.put, List.setIfInBounds_toArray, List.set_cons_zero, List.set_cons_succ]
      refine wpAnyH_tk (i := 1) (v := ?_) rfl (by kernel_rfl) (by kernel_rfl) (by kernel_rfl) (fun _ _ _ h => h) (Or.inl ⟨by rfl, ?_⟩) hHeld ?_
      rotate_left
      · intro w hSw
        try dsimp only at hSw
        go_simp
        try with_reducible rfl
      try simp only [Act.put, List.setIfInBounds_toArray, List.set_cons_zero, List.set_cons_succ]
      refine wpAnyH_tk (i := 2) (v := ?_) rfl (by kernel_rfl) (by kernel_rfl) (by kernel_rfl) (fun _ _ _ h => h) (Or.inl ⟨by rfl, ?_⟩) hHeld ?_
      rotate_left
      · intro w hSw
        try dsimp only at hSw
        go_simp
        try with_reducible rfl
      try simp only [Act.put, List.setIfInBounds_toArray, List.set_cons_zero, List.set_cons_succ]
      refine wpAnyH_tk (i := 3) (v := ?_) rfl (by kernel_rfl) (by kernel_rfl) (by kernel_rfl) (fun _ _ _ h => h) (Or.inl ⟨by rfl, ?_⟩) hHeld ?_
      rotate_left
      · intro w hSw
        try dsimp only at hSw
        go_simp
        try with_reducible rfl
      try simp only [Act.put, List.setIfInBounds_toArray, List.set_cons_zero, List.set_cons_succ]
      refine wpAnyH_tk (i := 4) (v := ?_) rfl (by kernel_rfl) (by kernel_rfl) (by kernel_rfl) (fun _ _ _ h => h) (Or.inl ⟨by rfl, ?_⟩) hHeld ?_
      rotate_left
      · intro w hSw
        try dsimp only at hSw
        go_simp
        try with_reducible rfl
      try simp only [Act.put, List.setIfInBounds_toArray, List.set_cons_zero, List.set_cons_succ]
      refine wpAnyH_tk (i := 5) (v := ?_) rfl (by kernel_rfl) (by kernel_rfl) (by kernel_rfl) (fun _ _ _ h => h) (Or.inl ⟨by rfl, ?_⟩) hHeld ?_
      rotate_left
      · intro w hSw
        try dsimp only at hSw
        go_simp
        try with_reducible rfl
      try simp only [Act.put, List.setIfInBounds_toArray, List.set_cons_zero, List.set_cons_succ]
      refine wpAnyH_tk (i := 6) (v := ?_) rfl (by kernel_rfl) (by kernel_rfl) (by kernel_rfl) (fun _ _ _ h => h) (Or.inl ⟨by rfl, ?_⟩) hHeld ?_
      rotate_left
      · intro w hSw
        try dsimp only at hSw
        go_simp
        try with_reducible rfl
      try simp only [Act.put, List.setIfInBounds_toArray, List.set_cons_zero, List.set_cons_succ]
      refine wpAnyH_tk (i := 7) (v := ?_) rfl (by kernel_rfl) (by kernel_rfl) (by kernel_rfl) (fun _ _ _ h => h) (Or.inl ⟨by rfl, ?_⟩) hHeld ?_
      rotate_left
      · intro w hSw
        try dsimp only at hSw
        go_simp
        try with_reducible rfl
      try simp only [Act.put, List.setIfInBounds_toArray, List.set_cons_zero, List.set_cons_succ]
      refine wpAnyH_tk (i := 8) (v := ?_) rfl (by kernel_rfl) (by kernel_rfl) (by kernel_rfl) (fun _ _ _ h => h) (Or.inl ⟨by rfl, ?_⟩) hHeld ?_
      rotate_left
      · intro w hSw
        try dsimp only at hSw
        go_simp
        try with_reducible rfl
      try simp only [Act.put, List.setIfInBounds_toArray, List.set_cons_zero, List.set_cons_succ]
      refine wpAnyH_tk (i := 9) (v := ?_) rfl (by kernel_rfl) (by kernel_rfl) (by kernel_rfl) (fun _ _ _ h => h) (Or.inl ⟨by rfl, ?_⟩) hHeld ?_
      rotate_left
      · intro w hSw
        try dsimp only at hSw
        go_simp
        try with_reducible rfl
      try simp only [Act.put, List.setIfInBounds_toArray, List.set_cons_zero, List.set_cons_succ]
      refine wpAnyH_tk (i := 10) (v := ?_) rfl (by kernel_rfl) (by kernel_rfl) (by kernel_rfl) (fun _ _ _ h => h) (Or.inl ⟨by rfl, ?_⟩) hHeld ?_
      rotate_left
      · intro w hSw
        try dsimp only at hSw
        go_simp
        try with_reducible rfl
      try simp only [Act.put, List.setIfInBounds_toArray, List.set_cons_zero, List.set_cons_succ]
      refine wpAnyH_tk (i := 11) (v := ?_) rfl (by kernel_rfl) (by kernel_rfl) (by kernel_rfl) (fun _ _ _ h => h) (Or.inl ⟨by rfl, ?_⟩) hHeld ?_
      rotate_left
      · intro w hSw
        try dsimp only at hSw
        go_simp
        try with_reducible rfl
      try simp only [Act.put, List.setIfInBounds_toArray, List.set_cons_zero, List.set_cons_succ]
      refine wpAnyH_tk (i := 12) (v := ?_) rfl (by kernel_rfl) (by kernel_rfl) (by kernel_rfl) (fun _ _ _ h => h) (Or.inl ⟨by rfl, ?_⟩) hHeld ?_
      rotate_left
      · intro w hSw
        try dsimp only at hSw
        go_simp
        try with_reducible rfl
      try simp only [Act.put, List.setIfInBounds_toArray, List.set_cons_zero, List.set_cons_succ]
      refine wpAnyH_tk (i := 13) (v := ?_) rfl (by kernel_rfl) (by kernel_rfl) (by kernel_rfl) (fun _ _ _ h => h) (Or.inl ⟨by rfl, ?_⟩) hHeld ?_
      rotate_left
      · intro w hSw
        try dsimp only at hSw
        go_simp
        try with_reducible rfl
      try simp only [Act.put, List.setIfInBounds_toArray, List.set_cons_zero, List.set_cons_succ]
      refine wpAnyH_tk (i := 14) (v := ?_) rfl (by kernel_rfl) (by kernel_rfl) (by kernel_rfl) (fun _ _ _ h => h) (Or.inl ⟨by rfl, ?_⟩) hHeld ?_
      rotate_left
      · intro w hSw
        try dsimp only at hSw
        go_simp
        try with_reducible rfl
      try simp only [Act.put, List.setIfInBounds_toArray, List.set_cons_zero, List.set_cons_succ]
      refine wpAnyH_tk (i := 15) (v := ?_) rfl (by kernel_rfl) (by kernel_rfl) (by kernel_rfl) (fun _ _ _ h => h) (Or.inl ⟨by rfl, ?_⟩) hHeld ?_
      rotate_left
      · intro w hSw
        try dsimp only at hSw
        go_simp
        try with_reducible rfl
      try simp only [Act.put, List.setIfInBounds_toArray, List.set_cons_zero, List.set_cons_succ]
      refine wpAnyH_tk (i := 16) (v := ?_) rfl (by kernel_rfl) (by kernel_rfl) (by kernel_rfl) (fun _ _ _ h => h) (Or.inl ⟨by rfl, ?_⟩) hHeld ?_
      rotate_left
      · intro w hSw
        try dsimp only at hSw
        go_simp
        try with_reducible rfl
      try simp only [Act.put, List.setIfInBounds_toArray, List.set_cons_zero, List.set_cons_succ]
      refine wpAnyH_tk (i := 17) (v := ?_) rfl (by kernel_rfl) (by kernel_rfl) (by kernel_rfl) (fun _ _ _ h => h) (Or.inl ⟨by rfl, ?_⟩) hHeld ?_
      rotate_left
      · intro w hSw
        try dsimp only at hSw
        go_simp
        try with_reducible rfl
      try simp only [Act.put, List.setIfInBounds_toArray, List.set_cons_zero, List.set_cons_succ]
      refine wpAnyH_tk (i := 18) (v := ?_) rfl (by kernel_rfl) (by kernel_rfl) (by kernel_rfl) (fun _ _ _ h => h) (Or.inl ⟨by rfl, ?_⟩) hHeld ?_
      rotate_left
      · intro w hSw
        try dsimp only at hSw
        go_simp
        try with_reducible rfl
      try simp only [Act.put, List.setIfInBounds_toArray, List.set_cons_zero, List.set_cons_succ]
      refine wpAnyH_tk (i := 19) (v := ?_) rfl (by kernel_rfl) (by kernel_rfl) (by kernel_rfl) (fun _ _ _ h => h) (Or.inl ⟨by rfl, ?_⟩) hHeld ?_
      rotate_left
      · intro w hSw
        try dsimp only at hSw
        go_simp
        try with_reducible rfl
      try simp only [Act.put, List.setIfInBounds_toArray, List.set_cons_zero, List.set_cons_succ]
      refine wpAnyH_tk (i := 20) (v := ?_) rfl (by kernel_rfl) (by kernel_rfl) (by kernel_rfl) (fun _ _ _ h => h) (Or.inl ⟨by rfl, ?_⟩) hHeld ?_
      rotate_left
      · intro w hSw
        try dsimp only at hSw
        go_simp
        try with_reducible rfl
      try simp only [Act.put, List.setIfInBounds_toArray, List.set_cons_zero, List.set_cons_succ]
      refine wpAnyH_only (i := 21) rfl (by kernel_rfl) (fun K hK => ?_)
      go_simp
      rw [← unhide HLX]
      refine (racts la lc xacts w2 WD (unhide HA0).kp (unhide HLS) (unhide HOK)).mono ?_
      rintro e w5 ⟨a5, c5, zs, rfl, hr5, hk5, hm5, hs5⟩
      have hzl : zs.length = xacts.length := by rw [← hm5, List.length_map]
      rw [← hzl] at hr5
      have HA1 := hide ((unhide HA0).cons (o := raT ⟨⟨⟨xn, xa, xm, xacts⟩, a5, c5⟩, zs⟩) (F := ob a5) ⟨hr5, rfl⟩ hk5)
      have HM5 := hide hm5
      have HS5 : Hid (∀ z, z ∈ zs → SlO w2 z.a z.x.l) := hs5
      rw [unhide HLX]
      clear hr5 hk5 hm5 hs5 hzl
      go_wp2_with fail
      refine hK.out _ _ (c4_kp (unhide HG) (unhide HA1).kp) (fun hHeld2 => ?_)
      clear hK K hHeld
      have hHeld := hHeld2
      clear hHeld2
      try simp only [Act.put, List.setIfInBounds_toArray, List.set_cons_zero, List.set_cons_succ]
      refine wpAnyH_tk (i := 22) (v := ?_) rfl (by kernel_rfl) (by kernel_rfl) (by kernel_rfl) (fun _ _ _ h => h) (Or.inl ⟨by rfl, ?_⟩) hHeld ?_
      rotate_left
      · intro w hSw
        try dsimp only at hSw
        go_simp
        try with_reducible rfl
      try simp only [Act.put, List.setIfInBounds_toArray, List.set_cons_zero, List.set_cons_succ]
      refine wpAnyH_only (i := 23) rfl (by kernel_rfl) (fun K hK => ?_)
      go_simp
      have HA2 := hide ((unhide HA1).box #[.int .i64 xn, .int .i64 xa, .int .i64 xm, .slice a5 ln c5] 94)
      refine hK.out _ _ (c4_kp (unhide HG) (unhide HA2).kp) (fun hHeld2 => ?_)
      clear hK K hHeld
      have hHeld := hHeld2
      clear hHeld2
      try simp only [Act.put, List.setIfInBounds_toArray, List.set_cons_zero, List.set_cons_succ]
      have HBX := hide (Zoo.var (unhide HA2))
      have hBw := Zoo.base (unhide HA2)
      generalize w5.alloc (.cells #[.int .i64 xn, .int .i64 xa, .int .i64 xm, .slice a5 ln c5] 94) = W1 at *
      generalize w5.heap.size = p3 at *
      refine wpAnyH_only (i := 24) rfl (by kernel_rfl) (fun K hK => ?_)
      refine step_krow (by rfl) (.tmp 18) (.tmp 41) 87 (by rfl) hu Try.info94 rfl (by omega) (kw_row (l1 := [BoxT p3 #[.int .i64 xn, .int .i64 xa, .int .i64 xm, .slice a5 ln c5] 94, raT ⟨⟨⟨xn, xa, xm, xacts⟩, a5, c5⟩, zs⟩]) (unhide HA2)) hBw (.slice (some ⟨p3, 0, none⟩) 1 1) [.int .i64 xn, .int .i64 xa, .int .i64 xm, .slice a5 ln c5] 1 (by rfl) (by rfl) (src_built (cs := #[.int .i64 xn, .int .i64 xa, .int .i64 xm, .slice a5 ln c5]) hu (unhide HBX) rfl (by simp [Value.oneCell'])) (by omega) (n + 1) rfl ?_
      intro a2 c2 w9 g1 g2 g3
      have HA3 := hide (Zoo.tail (kw_app (l1 := [BoxT p3 #[.int .i64 xn, .int .i64 xa, .int .i64 xm, .slice a5 ln c5] 94, raT ⟨⟨⟨xn, xa, xm, xacts⟩, a5, c5⟩, zs⟩]) (unhide HA2) (unhide g1) (unhide g2) (unhide g3)))
      refine hK.out _ _ (c4_kp (unhide HG) (unhide HA3).kp) (fun hHeld2 => ?_)
      clear hK K hHeld
      have hHeld := hHeld2
      clear hHeld2
      try simp only [Act.put, List.setIfInBounds_toArray, List.set_cons_zero, List.set_cons_succ]
      refine wpAnyH_tk (i := 25) (v := ?_) rfl (by kernel_rfl) (by kernel_rfl) (by kernel_rfl) (fun _ _ _ h => h) (Or.inl ⟨by rfl, ?_⟩) hHeld ?_
      rotate_left
      · intro w hSw
        try dsimp only at hSw
        go_simp
        try with_reducible rfl
      try simp only [Act.put, List.setIfInBounds_toArray, List.set_cons_zero, List.set_cons_succ]
      refine wpAnyH_done (by kernel_rfl) ?_ _
      clear hHeld g1 g2 g3
      go_wp2_with fail
      refine ⟨⟨i + 1, a2, c2, n + 1, by omega, by omega, rfl, by go_num, ys ++ [⟨⟨⟨xn, xa, xm, xacts⟩, a5, c5⟩, zs⟩], ?_, ?_, ?_, fun y hy => ?_, fun y hy => ?_⟩, by simp [intOf]; omega⟩
      · have e1 : dxcs ((ys ++ [(⟨⟨⟨xn, xa, xm, xacts⟩, a5, c5⟩, zs⟩ : Dy)]).map Dy.x) = dxcs (ys.map Dy.x) ++ [.int .i64 xn, .int .i64 xa, .int .i64 xm, .slice a5 ln c5] := by
          rw [List.map_append, dxcs_app]
          simp [dxcs, dxc, unhide HLX]
        rw [e1, List.map_append]
        refine (unhide HA3).perm ?_
        have p1 : (raT ⟨⟨⟨xn, xa, xm, xacts⟩, a5, c5⟩, zs⟩ :: KwT 94 4 a2 (n + 1) c2 (dxcs (ys.map Dy.x) ++ [.int .i64 xn, .int .i64 xa, .int .i64 xm, .slice a5 ln c5]) :: ys.map raT).Perm (KwT 94 4 a2 (n + 1) c2 (dxcs (ys.map Dy.x) ++ [.int .i64 xn, .int .i64 xa, .int .i64 xm, .slice a5 ln c5]) :: (raT ⟨⟨⟨xn, xa, xm, xacts⟩, a5, c5⟩, zs⟩ :: ys.map raT)) := List.Perm.swap _ _ _
        refine p1.trans (List.Perm.cons _ ?_)
        exact (List.perm_append_comm (l₁ := ys.map raT) (l₂ := [raT ⟨⟨⟨xn, xa, xm, xacts⟩, a5, c5⟩, zs⟩])).symm
      · rw [List.length_append, (unhide HZ).nl]; rfl
      · rw [List.map_append, (unhide HZ).map, unhide HT]; rfl
      · rcases List.mem_append.1 hy with e | e
        · exact (unhide HZ).acts y e
        · rw [List.mem_singleton.1 e]; exact (unhide HM5).symm
      · rcases List.mem_append.1 hy with e | e
        · exact (unhide HZ).sl y e
        · rw [List.mem_singleton.1 e]; exact unhide HS5
    · have i1 : ¬ (i : Int) < (m : Int) := by omega
      have hmp := (unhide HZ).map
      rw [List.take_of_length_le (by have := unhide HM; omega)] at hmp
      have hl : n = m := by rw [(unhide HZ).nl, ← unhide HM, ← hmp, List.length_map]
      have hdn := (unhide HZ).dns
      rw [hmp] at hdn
      have HDU := hide hdn
      clear hmp hdn
      have HC1 := hide (serial46 aD cD ds wr ((unhide HD).kp0 (unhide HZ).zoo.kp) (unhide HO).1 (unhide HO).2.1)
      have HC2 := hide (fun W (hk : Kp [] wr W) => rserial aU cU ds W ((unhide HDU).kp0 hk) (unhide HO).1 (unhide HO).2.1)
      rw [unhide HM, (unhide HO).2.2] at HC1 HC2
      rw [← hl] at HC2
      clear hl
      go_wp2_with fail
      refine (unhide HC1).mono ?_
      rintro e w6 ⟨rfl, hk6⟩
      have HK6 := hide hk6
      clear hk6
      go_wp2_with fail
      refine (unhide HC2 w6 (unhide HK6)).mono ?_
      rintro e w7 ⟨rfl, hk7⟩
      have HK7 := hide ((unhide HK2).trans0 ((unhide HZ).zoo.kp.trans0 ((unhide HK6).trans0 hk7)))
      clear hk7
      go_wp2_with fail
      go_ret
      exact ⟨rfl, (unhide HK7).below (Nat.le_refl _) (by simp)⟩
end Go.Proofs.Ytapmlleemopcnac
