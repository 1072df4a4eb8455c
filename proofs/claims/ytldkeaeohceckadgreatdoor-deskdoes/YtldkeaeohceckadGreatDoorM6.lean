/- Bound together for a claim. -/
import Derived.Test.YtldkeaeohceckadGreatDoorM5
import Derived.Deep.RegionHeld3
namespace Go.Proofs.YtldkeaeohceckadGreatDoor
set_option maxRecDepth 20000
set_option maxHeartbeats 64000000
/- The desk's step: what a step tells, by its contract. -/
section
open Go.RowKit
attribute [local go_sem ↓] Go.wp_at_zero Go.wp_at_succ

theorem zoo_22 {w0 w : World} {a b c e : Thing} {r : List Thing} (h : Zoo w0 w (a :: b :: c :: e :: r)) : Zoo w0 w (c :: e :: a :: b :: r) := h.perm ((List.perm_append_comm (l₁ := [a, b]) (l₂ := [c, e])).append_right r)
theorem zoo_in {w0 w : World} {a b : Thing} {r : List Thing} (h : Zoo w0 w (a :: b :: r)) : Zoo w0 w (b :: a :: r) := zoo_swap h
theorem Tryz.sizeEv : (Tryz.prog.info? 102).map (·.size) = some 5 := by kernel_rfl
theorem x8_of {w : World} {p : Nat} {x : HStep} (h : w.heap[p]? = some (.cells (xcs x) 79 (0, 0))) : w.cell? ⟨p, 0, none⟩ = some (.int .i64 x.d) ∧ w.cell? ⟨p, 1, none⟩ = some (.int .i64 x.s) ∧ w.cell? ⟨p, 1 + 1, none⟩ = some (.int .i64 x.md) ∧ w.cell? ⟨p, 1 + 1 + 1, none⟩ = some (.int .i64 x.at_) ∧ w.cell? ⟨p, 1 + 1 + 1 + 1, none⟩ = some (.int .i64 x.key) ∧ w.cell? ⟨p, 1 + 1 + 1 + 1 + 1, none⟩ = some (.int .i64 x.to_) ∧ w.cell? ⟨p, 1 + 1 + 1 + 1 + 1 + 1, none⟩ = some (.int .i64 x.keep) ∧ w.cell? ⟨p, 1 + 1 + 1 + 1 + 1 + 1 + 1, none⟩ = some (.string x.b) :=
  ⟨cell_of_block h rfl, cell_of_block h rfl, cell_of_block h rfl, cell_of_block h rfl, cell_of_block h rfl, cell_of_block h rfl, cell_of_block h rfl, cell_of_block h rfl⟩
theorem dsk_m {w0 w : World} {os : List Thing} {d hb : Nat} {bs : List UInt8} (hz : Zoo w0 w os) (hm : DskT d hb bs ∈ os) : w.cell? ⟨d, 2, none⟩ = some (.pointer (some ⟨hb, 0, none⟩)) := by
  obtain ⟨l1, l2, rfl⟩ := List.append_of_mem hm
  exact dsk_cell hz
theorem zoo_42 {w0 w : World} {a b x y c e : Thing} {r : List Thing} (h : Zoo w0 w (a :: b :: x :: y :: c :: e :: r)) : Zoo w0 w (c :: e :: a :: b :: x :: y :: r) := h.perm ((List.perm_append_comm (l₁ := [a, b, x, y]) (l₂ := [c, e])).append_right r)
theorem zoo_24 {w0 w : World} {a b x y c e : Thing} {r : List Thing} (h : Zoo w0 w (c :: e :: a :: b :: x :: y :: r)) : Zoo w0 w (a :: c :: e :: [b, x, y] ++ r) := h.perm (by
  have h1 := (List.perm_append_comm (l₁ := [c, e]) (l₂ := [a])).append_right (b :: x :: y :: r)
  exact h1)
theorem zoo_b {w0 w : World} {a b x : Thing} {r : List Thing} (h : Zoo w0 w (x :: a :: b :: r)) : Zoo w0 w (a :: b :: x :: r) := h.perm ((List.perm_append_comm (l₁ := [x]) (l₂ := [a, b])).append_right r)
section
variable {w0 w : World} {r : List Thing} {d hb q : Nat} {bs : List UInt8} {h : HSt}
set_option maxHeartbeats 4000000 in
theorem dstep1 (x : HStep) (hsz : x.b.size ≤ maxLen) (hg : Gnd w0) (hv : EvOk (hev h x)) (hz : Zoo w0 w (HalT hb h :: BoxT q #[.pointer (some ⟨d, 0, none⟩)] 25 :: DskT d hb bs :: r)) (hlen : bs.length + (say (if (hev h x).c ≠ 0 then [[110, 111], Lib.itoa (hev h x).c] else [[104, 97, 115], vtx (hev h x).t (hev h x).s])).length ≤ 100000) :
    Calls Tryz.prog 30 #[.pointer (some ⟨d, 0, none⟩), .agg #[.int .i64 x.d, .int .i64 x.s, .int .i64 x.md, .int .i64 x.at_, .int .i64 x.key, .int .i64 x.to_, .int .i64 x.keep, .string x.b], .func (.func 54) #[] #[.pointer (some ⟨q, 0, none⟩)]] w fun e w' => e = .returned (.tuple #[]) ∧ Hid (∃ r', Zoo w0 w' (HalT hb (hdo h x) :: BoxT q #[.pointer (some ⟨d, 0, none⟩)] 25 :: DskT d hb (bs ++ say (if (hev h x).c ≠ 0 then [[110, 111], Lib.itoa (hev h x).c] else [[104, 97, 115], vtx (hev h x).t (hev h x).s])) :: r' ++ r)) := by
  have hd : ∀ (W : World) (r1 : List Thing), Zoo w0 W (HalT hb h :: r1) → Calls Tryz.prog 53 #[.pointer (some ⟨hb, 0, none⟩), .agg #[.int .i64 x.d, .int .i64 x.s, .int .i64 x.md, .int .i64 x.at_, .int .i64 x.key, .int .i64 x.to_, .int .i64 x.keep, .string x.b]] W fun e w' => ∃ a cap, e = .returned (.agg #[.int .i64 (hev h x).c, .int .i64 (hev h x).n, .bool (hev h x).t, .string (hev h x).s, .slice a (hev h x).l.length cap]) ∧ Hid (Zoo w0 w' (HalT hb (hdo h x) :: PsT a cap (hev h x).l :: r1)) := fun W r1 hz1 => hal_do x hsz hz1
  generalize hdo h x = h' at *
  generalize hev h x = v at *
  obtain ⟨xd, xs, xm, xa, xk, xt, xp, xb⟩ := x
  obtain ⟨vc, vn, vt, vs, vl⟩ := v
  dsimp only at *
  obtain ⟨m, hm⟩ : ∃ m, m = vl.length := ⟨_, rfl⟩
  rw [← hm] at hd
  have HM := hide hm
  have HD := hide hd
  have HV := hide hv
  have HG := hide hg
  have hcn := hv.c0
  have hcm := hv.c1
  dsimp only at hcn hcm
  have HX := hide (zoo_in (hz.box (xcs ⟨xd, xs, xm, xa, xk, xt, xp, xb⟩) 79))
  obtain ⟨ww, hww⟩ : ∃ ww, (if vc ≠ 0 then [[110, 111], Lib.itoa vc] else [[104, 97, 115], vtx vt vs]) = ww := ⟨_, rfl⟩
  rw [hww] at hlen ⊢
  have HWW := hide hww
  clear hz hg hv hd hm hsz hww
  go_enter Tryz.func30, Tryz.ntmps30
  go_wp2_with fail
  have HX2 : Hid (Zoo w0 (w.alloc (.cells #[.int .i64 xd, .int .i64 xs, .int .i64 xm, .int .i64 xa, .int .i64 xk, .int .i64 xt, .int .i64 xp, .string xb] 79)) (HalT hb h :: BoxT w.heap.size (xcs ⟨xd, xs, xm, xa, xk, xt, xp, xb⟩) 79 :: BoxT q #[.pointer (some ⟨d, 0, none⟩)] 25 :: DskT d hb bs :: r)) := HX
  clear HX
  generalize w.alloc (.cells #[.int .i64 xd, .int .i64 xs, .int .i64 xm, .int .i64 xa, .int .i64 xk, .int .i64 xt, .int .i64 xp, .string xb] 79) = W5 at *
  generalize w.heap.size = p5 at *
  refine wp_region_held_drew (S := fun w' => w'.cell? ⟨d, 2, none⟩ = some (.pointer (some ⟨hb, 0, none⟩)) ∧ w'.cell? ⟨p5, 0, none⟩ = some (.int .i64 xd) ∧ w'.cell? ⟨p5, 1, none⟩ = some (.int .i64 xs) ∧ w'.cell? ⟨p5, 1 + 1, none⟩ = some (.int .i64 xm) ∧ w'.cell? ⟨p5, 1 + 1 + 1, none⟩ = some (.int .i64 xa) ∧ w'.cell? ⟨p5, 1 + 1 + 1 + 1, none⟩ = some (.int .i64 xk) ∧ w'.cell? ⟨p5, 1 + 1 + 1 + 1 + 1, none⟩ = some (.int .i64 xt) ∧ w'.cell? ⟨p5, 1 + 1 + 1 + 1 + 1 + 1, none⟩ = some (.int .i64 xp) ∧ w'.cell? ⟨p5, 1 + 1 + 1 + 1 + 1 + 1 + 1, none⟩ = some (.string xb)) (by kernel_rfl) ⟨dsk_m ((unhide HX2).kp0 (Kp.refl [] W5).drew) (List.Mem.tail _ (List.Mem.tail _ (List.Mem.tail _ (List.Mem.head _)))), x8_of (zoo_varm ((unhide HX2).kp0 (Kp.refl [] W5).drew) (List.Mem.tail _ (List.Mem.head _)))⟩ (fun hHeld => ?_)
  have HA0 := hide ((unhide HX2).kp0 (Kp.refl [] W5).drew)
  generalize World.drew _ = WD at HA0 hHeld ⊢
  refine wpAnyH_tk (i := 0) (v := ?_) rfl (by kernel_rfl) (by kernel_rfl) (by kernel_rfl) (fun _ _ _ h => h) (Or.inl ⟨by rfl, ?_⟩) hHeld ?_
  rotate_left
  · intro w hSw
    try dsimp only at hSw
    go_simp
    try with_reducible rfl
  try simp only [Act.put, List.setIfInBounds_toArray, List.set_cons_zero, List.set_cons_succ]
  refine wpAnyH_tk (i := 1) (v := ?_) rfl (by kernel_rfl) (by kernel_rfl) (by kernel_rfl) (fun _ _ _ h => h) (Or.inl ⟨by rfl, ?_⟩) hHeld ?_
  rotate_left
  · intro w hSw
    try dsimp only at hSw
    go_simp
    try with_reducible rfl
  try simp only [Act.put, List.setIfInBounds_toArray, List.set_cons_zero, List.set_cons_succ]
  refine wpAnyH_tk (i := 2) (v := ?_) rfl (by kernel_rfl) (by kernel_rfl) (by kernel_rfl) (fun _ _ _ h => h) (Or.inl ⟨by rfl, ?_⟩) hHeld ?_
  rotate_left
  · intro w hSw
    try dsimp only at hSw
    go_simp
    try with_reducible rfl
  try simp only [Act.put, List.setIfInBounds_toArray, List.set_cons_zero, List.set_cons_succ]
  refine wpAnyH_tk (i := 3) (v := ?_) rfl (by kernel_rfl) (by kernel_rfl) (by kernel_rfl) (fun _ _ _ h => h) (Or.inl ⟨by rfl, ?_⟩) hHeld ?_
  rotate_left
  · intro w hSw
    try dsimp only at hSw
    go_simp
    try with_reducible rfl
  try simp only [Act.put, List.setIfInBounds_toArray, List.set_cons_zero, List.set_cons_succ]
  refine wpAnyH_tk (i := 4) (v := ?_) rfl (by kernel_rfl) (by kernel_rfl) (by kernel_rfl) (fun _ _ _ h => h) (Or.inl ⟨by rfl, ?_⟩) hHeld ?_
  rotate_left
  · intro w hSw
    try dsimp only at hSw
    go_simp
    try with_reducible rfl
  try simp only [Act.put, List.setIfInBounds_toArray, List.set_cons_zero, List.set_cons_succ]
  refine wpAnyH_two (i := 5) (j := 6) rfl rfl (by kernel_rfl) (fun K hK => ?_) (fun K hK => ?_)
  · go_simp
    refine (unhide HD WD _ (unhide HA0)).mono ?_
    rintro e w3 ⟨a9, c9, rfl, HA1⟩
    go_wp2_with fail
    refine hK.out _ _ (⟨dsk_m (unhide HA1) (List.Mem.tail _ (List.Mem.tail _ (List.Mem.tail _ (List.Mem.tail _ (List.Mem.head _))))), x8_of (zoo_varm (unhide HA1) (List.Mem.tail _ (List.Mem.tail _ (List.Mem.head _))))⟩) (fun hHeld2 => ?_)
    clear hK K hHeld
    have hHeld := hHeld2
    clear hHeld2
    try simp only [Act.put, List.setIfInBounds_toArray, List.set_cons_zero, List.set_cons_succ]
    refine wpAnyH_only (i := 6) rfl (by kernel_rfl) (fun K hK => ?_)
    go_simp
    have HA2 := hide ((unhide HA1).box #[.int .i64 0, .int .i64 0, .bool false, .string ⟨#[]⟩, .slice none 0 0] 102)
    refine hK.out _ _ (⟨dsk_m (unhide HA2) (List.Mem.tail _ (List.Mem.tail _ (List.Mem.tail _ (List.Mem.tail _ (List.Mem.tail _ (List.Mem.head _)))))), x8_of (zoo_varm (unhide HA2) (List.Mem.tail _ (List.Mem.tail _ (List.Mem.tail _ (List.Mem.head _)))))⟩) (fun hHeld2 => ?_)
    clear hK K hHeld
    have hHeld := hHeld2
    clear hHeld2
    try simp only [Act.put, List.setIfInBounds_toArray, List.set_cons_zero, List.set_cons_succ]
    generalize w3.alloc (.cells #[.int .i64 0, .int .i64 0, .bool false, .string ⟨#[]⟩, .slice none 0 0] 102) = W6 at *
    generalize w3.heap.size = p6 at *
    refine wpAnyH_only (i := 7) rfl (by kernel_rfl) (fun K hK => ?_)
    rw [if_pos (by rfl)]
    refine wp_store_row 102 _ _ rfl p6 #[.int .i64 vc, .int .i64 vn, .bool vt, .string vs, .slice a9 m c9] rfl rfl 102 _ (zoo_varm (unhide HA2) (List.Mem.head _)) Tryz.sizeEv rfl (by simp [Value.oneCell']) ?_
    have HB0 := hide (zoo_setrow (c' := #[.int .i64 vc, .int .i64 vn, .bool vt, .string vs, .slice a9 m c9]) (l1 := []) (unhide HA2))
    refine hK.out _ _ (⟨dsk_m (unhide HB0) (List.Mem.tail _ (List.Mem.tail _ (List.Mem.tail _ (List.Mem.tail _ (List.Mem.tail _ (List.Mem.head _)))))), x8_of (zoo_varm (unhide HB0) (List.Mem.tail _ (List.Mem.tail _ (List.Mem.tail _ (List.Mem.head _)))))⟩) (fun hHeld2 => ?_)
    clear hK K hHeld
    have hHeld := hHeld2
    clear hHeld2
    have HB := hide (zoo_b (unhide HB0))
    refine wpAnyH_done (by kernel_rfl) ?_ _
    clear hHeld
    generalize World.setRow _ _ _ = W9 at *
    have HC : Hid (Zoo w0 W9 (BoxT q #[.pointer (some ⟨d, 0, none⟩)] 25 :: DskT d hb bs :: HalT hb h' :: PsT a9 c9 vl :: BoxT p6 #[.int .i64 vc, .int .i64 vn, .bool vt, .string vs, .slice a9 m c9] 102 :: BoxT p5 (xcs ⟨xd, xs, xm, xa, xk, xt, xp, xb⟩) 79 :: r)) := hide (zoo_42 (unhide HB))
    have hE := zoo_varm (unhide HC) (List.Mem.tail _ (List.Mem.tail _ (List.Mem.tail _ (List.Mem.tail _ (List.Mem.head _)))))
    have e0 : W9.cell? ⟨p6, 0, none⟩ = some (.int .i64 vc) := cell_of_block hE rfl
    by_cases hc : vc = 0
    · subst hc
      have e1 : W9.cell? ⟨p6, 1, none⟩ = some (.int .i64 vn) := cell_of_block hE rfl
      have e2 : W9.cell? ⟨p6, 1 + 1, none⟩ = some (.bool vt) := cell_of_block hE rfl
      have e3 : W9.cell? ⟨p6, 1 + 1 + 1, none⟩ = some (.string vs) := cell_of_block hE rfl
      have e4 : W9.cell? ⟨p6, 1 + 1 + 1 + 1, none⟩ = some (.slice a9 m c9) := cell_of_block hE rfl
      have e9 : ww = [[104, 97, 115], vtx vt vs] := by rw [← unhide HWW, if_neg (by simp)]
      subst e9
      have HT := hide (tel1 ⟨0, vn, vt, vs, vl⟩ a9 c9 (unhide HV) (unhide HG) (unhide HC) hlen)
      dsimp only at HT
      rw [← unhide HM] at HT
      clear hE
      go_wp2_with (go_at_call 54; refine (unhide HT).mono ?_; rintro e w7 ⟨rfl, HZ7⟩)
      go_end0
      exact ⟨rfl, _, zoo_24 (r := r) (unhide HZ7)⟩
    · have hc2 : ¬ (vc = 0) := hc
      have e9 : ww = [[110, 111], Lib.itoa vc] := by rw [← unhide HWW, if_pos hc]
      subst e9
      clear hE
      have HI := hide (sitoa vc W9 (gnd_kp (unhide HG) (unhide HC).kp) hcn hcm)
      go_wp2_with (first | (go_at_call 25; refine (unhide HI).mono ?_; rintro e w7 ⟨rfl, hk7⟩; have HZ7 := hide (((unhide HC).kp0 hk7).box #[.string ⟨#[110, 111]⟩, .string ⟨(Lib.itoa vc).toArray⟩] 9); clear hk7) | (go_at_call 24; refine (dsay (l1 := [_, _]) [[110, 111], Lib.itoa vc] 2 rfl _ 0 2 (unhide HZ7) (cells_strs [[110, 111], Lib.itoa vc] (zoo_varm (unhide HZ7) (List.Mem.head _)) rfl) (join_pos (by simp)) (by simp) (by simp) hlen).mono ?_; rintro e w8 ⟨rfl, HZ8⟩))
      refine bodyPost_ret (v := .tuple #[]) (results_none Tryz.results30 _ _ _) rfl ?_
      exact ⟨rfl, _, zoo_24 (r := r) (Zoo.tail (unhide HZ8))⟩
  · go_simp
    have HA1 := hide ((unhide HA0).box #[.int .i64 0, .int .i64 0, .bool false, .string ⟨#[]⟩, .slice none 0 0] 102)
    refine hK.out _ _ (⟨dsk_m (unhide HA1) (List.Mem.tail _ (List.Mem.tail _ (List.Mem.tail _ (List.Mem.tail _ (List.Mem.head _))))), x8_of (zoo_varm (unhide HA1) (List.Mem.tail _ (List.Mem.tail _ (List.Mem.head _))))⟩) (fun hHeld2 => ?_)
    clear hK K hHeld
    have hHeld := hHeld2
    clear hHeld2
    try simp only [Act.put, List.setIfInBounds_toArray, List.set_cons_zero, List.set_cons_succ]
    generalize WD.alloc (.cells #[.int .i64 0, .int .i64 0, .bool false, .string ⟨#[]⟩, .slice none 0 0] 102) = W6 at *
    generalize WD.heap.size = p6 at *
    have HA1b := hide (zoo_in (unhide HA1))
    refine wpAnyH_only (i := 5) rfl (by kernel_rfl) (fun K hK => ?_)
    go_simp
    refine (unhide HD W6 _ (unhide HA1b)).mono ?_
    rintro e w3 ⟨a9, c9, rfl, HA2⟩
    go_wp2_with fail
    refine hK.out _ _ (⟨dsk_m (unhide HA2) (List.Mem.tail _ (List.Mem.tail _ (List.Mem.tail _ (List.Mem.tail _ (List.Mem.tail _ (List.Mem.head _)))))), x8_of (zoo_varm (unhide HA2) (List.Mem.tail _ (List.Mem.tail _ (List.Mem.tail _ (List.Mem.head _)))))⟩) (fun hHeld2 => ?_)
    clear hK K hHeld
    have hHeld := hHeld2
    clear hHeld2
    try simp only [Act.put, List.setIfInBounds_toArray, List.set_cons_zero, List.set_cons_succ]
    refine wpAnyH_only (i := 7) rfl (by kernel_rfl) (fun K hK => ?_)
    rw [if_pos (by rfl)]
    refine wp_store_row 102 _ _ rfl p6 #[.int .i64 vc, .int .i64 vn, .bool vt, .string vs, .slice a9 m c9] rfl rfl 102 _ (zoo_varm (unhide HA2) (List.Mem.tail _ (List.Mem.tail _ (List.Mem.head _)))) Tryz.sizeEv rfl (by simp [Value.oneCell']) ?_
    have HB := hide (zoo_setrow (c' := #[.int .i64 vc, .int .i64 vn, .bool vt, .string vs, .slice a9 m c9]) (l1 := [_, _]) (unhide HA2))
    refine hK.out _ _ (⟨dsk_m (unhide HB) (List.Mem.tail _ (List.Mem.tail _ (List.Mem.tail _ (List.Mem.tail _ (List.Mem.tail _ (List.Mem.head _)))))), x8_of (zoo_varm (unhide HB) (List.Mem.tail _ (List.Mem.tail _ (List.Mem.tail _ (List.Mem.head _)))))⟩) (fun hHeld2 => ?_)
    clear hK K hHeld
    have hHeld := hHeld2
    clear hHeld2
    refine wpAnyH_done (by kernel_rfl) ?_ _
    clear hHeld
    generalize World.setRow _ _ _ = W9 at *
    have HC : Hid (Zoo w0 W9 (BoxT q #[.pointer (some ⟨d, 0, none⟩)] 25 :: DskT d hb bs :: HalT hb h' :: PsT a9 c9 vl :: BoxT p6 #[.int .i64 vc, .int .i64 vn, .bool vt, .string vs, .slice a9 m c9] 102 :: BoxT p5 (xcs ⟨xd, xs, xm, xa, xk, xt, xp, xb⟩) 79 :: r)) := hide (zoo_42 (unhide HB))
    have hE := zoo_varm (unhide HC) (List.Mem.tail _ (List.Mem.tail _ (List.Mem.tail _ (List.Mem.tail _ (List.Mem.head _)))))
    have e0 : W9.cell? ⟨p6, 0, none⟩ = some (.int .i64 vc) := cell_of_block hE rfl
    by_cases hc : vc = 0
    · subst hc
      have e1 : W9.cell? ⟨p6, 1, none⟩ = some (.int .i64 vn) := cell_of_block hE rfl
      have e2 : W9.cell? ⟨p6, 1 + 1, none⟩ = some (.bool vt) := cell_of_block hE rfl
      have e3 : W9.cell? ⟨p6, 1 + 1 + 1, none⟩ = some (.string vs) := cell_of_block hE rfl
      have e4 : W9.cell? ⟨p6, 1 + 1 + 1 + 1, none⟩ = some (.slice a9 m c9) := cell_of_block hE rfl
      have e9 : ww = [[104, 97, 115], vtx vt vs] := by rw [← unhide HWW, if_neg (by simp)]
      subst e9
      have HT := hide (tel1 ⟨0, vn, vt, vs, vl⟩ a9 c9 (unhide HV) (unhide HG) (unhide HC) hlen)
      dsimp only at HT
      rw [← unhide HM] at HT
      clear hE
      go_wp2_with (go_at_call 54; refine (unhide HT).mono ?_; rintro e w7 ⟨rfl, HZ7⟩)
      go_end0
      exact ⟨rfl, _, zoo_24 (r := r) (unhide HZ7)⟩
    · have hc2 : ¬ (vc = 0) := hc
      have e9 : ww = [[110, 111], Lib.itoa vc] := by rw [← unhide HWW, if_pos hc]
      subst e9
      clear hE
      have HI := hide (sitoa vc W9 (gnd_kp (unhide HG) (unhide HC).kp) hcn hcm)
      go_wp2_with (first | (go_at_call 25; refine (unhide HI).mono ?_; rintro e w7 ⟨rfl, hk7⟩; have HZ7 := hide (((unhide HC).kp0 hk7).box #[.string ⟨#[110, 111]⟩, .string ⟨(Lib.itoa vc).toArray⟩] 9); clear hk7) | (go_at_call 24; refine (dsay (l1 := [_, _]) [[110, 111], Lib.itoa vc] 2 rfl _ 0 2 (unhide HZ7) (cells_strs [[110, 111], Lib.itoa vc] (zoo_varm (unhide HZ7) (List.Mem.head _)) rfl) (join_pos (by simp)) (by simp) (by simp) hlen).mono ?_; rintro e w8 ⟨rfl, HZ8⟩))
      refine bodyPost_ret (v := .tuple #[]) (results_none Tryz.results30 _ _ _) rfl ?_
      exact ⟨rfl, _, zoo_24 (r := r) (Zoo.tail (unhide HZ8))⟩
set_option maxHeartbeats 4000000 in
theorem dstep2 (x : HStep) (hsz : x.b.size ≤ maxLen) (hg : Gnd w0) (hv : EvOk (hev h x)) (hz : Zoo w0 w (HalT hb h :: BoxT q #[.pointer (some ⟨d, 0, none⟩)] 25 :: DskT d hb bs :: r)) (hlen : bs.length + (say (if (hev h x).c ≠ 0 then [[110, 111], Lib.itoa (hev h x).c] else [97, 108, 108] :: (hev h x).l.map pvx)).length ≤ 100000) :
    Calls Tryz.prog 30 #[.pointer (some ⟨d, 0, none⟩), .agg #[.int .i64 x.d, .int .i64 x.s, .int .i64 x.md, .int .i64 x.at_, .int .i64 x.key, .int .i64 x.to_, .int .i64 x.keep, .string x.b], .func (.func 56) #[] #[.pointer (some ⟨q, 0, none⟩)]] w fun e w' => e = .returned (.tuple #[]) ∧ Hid (∃ r', Zoo w0 w' (HalT hb (hdo h x) :: BoxT q #[.pointer (some ⟨d, 0, none⟩)] 25 :: DskT d hb (bs ++ say (if (hev h x).c ≠ 0 then [[110, 111], Lib.itoa (hev h x).c] else [97, 108, 108] :: (hev h x).l.map pvx)) :: r' ++ r)) := by
  have hd : ∀ (W : World) (r1 : List Thing), Zoo w0 W (HalT hb h :: r1) → Calls Tryz.prog 53 #[.pointer (some ⟨hb, 0, none⟩), .agg #[.int .i64 x.d, .int .i64 x.s, .int .i64 x.md, .int .i64 x.at_, .int .i64 x.key, .int .i64 x.to_, .int .i64 x.keep, .string x.b]] W fun e w' => ∃ a cap, e = .returned (.agg #[.int .i64 (hev h x).c, .int .i64 (hev h x).n, .bool (hev h x).t, .string (hev h x).s, .slice a (hev h x).l.length cap]) ∧ Hid (Zoo w0 w' (HalT hb (hdo h x) :: PsT a cap (hev h x).l :: r1)) := fun W r1 hz1 => hal_do x hsz hz1
  generalize hdo h x = h' at *
  generalize hev h x = v at *
  obtain ⟨xd, xs, xm, xa, xk, xt, xp, xb⟩ := x
  obtain ⟨vc, vn, vt, vs, vl⟩ := v
  dsimp only at *
  obtain ⟨m, hm⟩ : ∃ m, m = vl.length := ⟨_, rfl⟩
  rw [← hm] at hd
  have HM := hide hm
  have HD := hide hd
  have HV := hide hv
  have HG := hide hg
  have hcn := hv.c0
  have hcm := hv.c1
  dsimp only at hcn hcm
  have HX := hide (zoo_in (hz.box (xcs ⟨xd, xs, xm, xa, xk, xt, xp, xb⟩) 79))
  obtain ⟨ww, hww⟩ : ∃ ww, (if vc ≠ 0 then [[110, 111], Lib.itoa vc] else [97, 108, 108] :: vl.map pvx) = ww := ⟨_, rfl⟩
  rw [hww] at hlen ⊢
  have HWW := hide hww
  clear hz hg hv hd hm hsz hww
  go_enter Tryz.func30, Tryz.ntmps30
  go_wp2_with fail
  have HX2 : Hid (Zoo w0 (w.alloc (.cells #[.int .i64 xd, .int .i64 xs, .int .i64 xm, .int .i64 xa, .int .i64 xk, .int .i64 xt, .int .i64 xp, .string xb] 79)) (HalT hb h :: BoxT w.heap.size (xcs ⟨xd, xs, xm, xa, xk, xt, xp, xb⟩) 79 :: BoxT q #[.pointer (some ⟨d, 0, none⟩)] 25 :: DskT d hb bs :: r)) := HX
  clear HX
  generalize w.alloc (.cells #[.int .i64 xd, .int .i64 xs, .int .i64 xm, .int .i64 xa, .int .i64 xk, .int .i64 xt, .int .i64 xp, .string xb] 79) = W5 at *
  generalize w.heap.size = p5 at *
  refine wp_region_held_drew (S := fun w' => w'.cell? ⟨d, 2, none⟩ = some (.pointer (some ⟨hb, 0, none⟩)) ∧ w'.cell? ⟨p5, 0, none⟩ = some (.int .i64 xd) ∧ w'.cell? ⟨p5, 1, none⟩ = some (.int .i64 xs) ∧ w'.cell? ⟨p5, 1 + 1, none⟩ = some (.int .i64 xm) ∧ w'.cell? ⟨p5, 1 + 1 + 1, none⟩ = some (.int .i64 xa) ∧ w'.cell? ⟨p5, 1 + 1 + 1 + 1, none⟩ = some (.int .i64 xk) ∧ w'.cell? ⟨p5, 1 + 1 + 1 + 1 + 1, none⟩ = some (.int .i64 xt) ∧ w'.cell? ⟨p5, 1 + 1 + 1 + 1 + 1 + 1, none⟩ = some (.int .i64 xp) ∧ w'.cell? ⟨p5, 1 + 1 + 1 + 1 + 1 + 1 + 1, none⟩ = some (.string xb)) (by kernel_rfl) ⟨dsk_m ((unhide HX2).kp0 (Kp.refl [] W5).drew) (List.Mem.tail _ (List.Mem.tail _ (List.Mem.tail _ (List.Mem.head _)))), x8_of (zoo_varm ((unhide HX2).kp0 (Kp.refl [] W5).drew) (List.Mem.tail _ (List.Mem.head _)))⟩ (fun hHeld => ?_)
  have HA0 := hide ((unhide HX2).kp0 (Kp.refl [] W5).drew)
  generalize World.drew _ = WD at HA0 hHeld ⊢
  refine wpAnyH_tk (i := 0) (v := ?_) rfl (by kernel_rfl) (by kernel_rfl) (by kernel_rfl) (fun _ _ _ h => h) (Or.inl ⟨by rfl, ?_⟩) hHeld ?_
  rotate_left
  · intro w hSw
    try dsimp only at hSw
    go_simp
    try with_reducible rfl
  try simp only [Act.put, List.setIfInBounds_toArray, List.set_cons_zero, List.set_cons_succ]
  refine wpAnyH_tk (i := 1) (v := ?_) rfl (by kernel_rfl) (by kernel_rfl) (by kernel_rfl) (fun _ _ _ h => h) (Or.inl ⟨by rfl, ?_⟩) hHeld ?_
  rotate_left
  · intro w hSw
    try dsimp only at hSw
    go_simp
    try with_reducible rfl
  try simp only [Act.put, List.setIfInBounds_toArray, List.set_cons_zero, List.set_cons_succ]
  refine wpAnyH_tk (i := 2) (v := ?_) rfl (by kernel_rfl) (by kernel_rfl) (by kernel_rfl) (fun _ _ _ h => h) (Or.inl ⟨by rfl, ?_⟩) hHeld ?_
  rotate_left
  · intro w hSw
    try dsimp only at hSw
    go_simp
    try with_reducible rfl
  try simp only [Act.put, List.setIfInBounds_toArray, List.set_cons_zero, List.set_cons_succ]
  refine wpAnyH_tk (i := 3) (v := ?_) rfl (by kernel_rfl) (by kernel_rfl) (by kernel_rfl) (fun _ _ _ h => h) (Or.inl ⟨by rfl, ?_⟩) hHeld ?_
  rotate_left
  · intro w hSw
    try dsimp only at hSw
    go_simp
    try with_reducible rfl
  try simp only [Act.put, List.setIfInBounds_toArray, List.set_cons_zero, List.set_cons_succ]
  refine wpAnyH_tk (i := 4) (v := ?_) rfl (by kernel_rfl) (by kernel_rfl) (by kernel_rfl) (fun _ _ _ h => h) (Or.inl ⟨by rfl, ?_⟩) hHeld ?_
  rotate_left
  · intro w hSw
    try dsimp only at hSw
    go_simp
    try with_reducible rfl
  try simp only [Act.put, List.setIfInBounds_toArray, List.set_cons_zero, List.set_cons_succ]
  refine wpAnyH_two (i := 5) (j := 6) rfl rfl (by kernel_rfl) (fun K hK => ?_) (fun K hK => ?_)
  · go_simp
    refine (unhide HD WD _ (unhide HA0)).mono ?_
    rintro e w3 ⟨a9, c9, rfl, HA1⟩
    go_wp2_with fail
    refine hK.out _ _ (⟨dsk_m (unhide HA1) (List.Mem.tail _ (List.Mem.tail _ (List.Mem.tail _ (List.Mem.tail _ (List.Mem.head _))))), x8_of (zoo_varm (unhide HA1) (List.Mem.tail _ (List.Mem.tail _ (List.Mem.head _))))⟩) (fun hHeld2 => ?_)
    clear hK K hHeld
    have hHeld := hHeld2
    clear hHeld2
    try simp only [Act.put, List.setIfInBounds_toArray, List.set_cons_zero, List.set_cons_succ]
    refine wpAnyH_only (i := 6) rfl (by kernel_rfl) (fun K hK => ?_)
    go_simp
    have HA2 := hide ((unhide HA1).box #[.int .i64 0, .int .i64 0, .bool false, .string ⟨#[]⟩, .slice none 0 0] 102)
    refine hK.out _ _ (⟨dsk_m (unhide HA2) (List.Mem.tail _ (List.Mem.tail _ (List.Mem.tail _ (List.Mem.tail _ (List.Mem.tail _ (List.Mem.head _)))))), x8_of (zoo_varm (unhide HA2) (List.Mem.tail _ (List.Mem.tail _ (List.Mem.tail _ (List.Mem.head _)))))⟩) (fun hHeld2 => ?_)
    clear hK K hHeld
    have hHeld := hHeld2
    clear hHeld2
    try simp only [Act.put, List.setIfInBounds_toArray, List.set_cons_zero, List.set_cons_succ]
    generalize w3.alloc (.cells #[.int .i64 0, .int .i64 0, .bool false, .string ⟨#[]⟩, .slice none 0 0] 102) = W6 at *
    generalize w3.heap.size = p6 at *
    refine wpAnyH_only (i := 7) rfl (by kernel_rfl) (fun K hK => ?_)
    rw [if_pos (by rfl)]
    refine wp_store_row 102 _ _ rfl p6 #[.int .i64 vc, .int .i64 vn, .bool vt, .string vs, .slice a9 m c9] rfl rfl 102 _ (zoo_varm (unhide HA2) (List.Mem.head _)) Tryz.sizeEv rfl (by simp [Value.oneCell']) ?_
    have HB0 := hide (zoo_setrow (c' := #[.int .i64 vc, .int .i64 vn, .bool vt, .string vs, .slice a9 m c9]) (l1 := []) (unhide HA2))
    refine hK.out _ _ (⟨dsk_m (unhide HB0) (List.Mem.tail _ (List.Mem.tail _ (List.Mem.tail _ (List.Mem.tail _ (List.Mem.tail _ (List.Mem.head _)))))), x8_of (zoo_varm (unhide HB0) (List.Mem.tail _ (List.Mem.tail _ (List.Mem.tail _ (List.Mem.head _)))))⟩) (fun hHeld2 => ?_)
    clear hK K hHeld
    have hHeld := hHeld2
    clear hHeld2
    have HB := hide (zoo_b (unhide HB0))
    refine wpAnyH_done (by kernel_rfl) ?_ _
    clear hHeld
    generalize World.setRow _ _ _ = W9 at *
    have HC : Hid (Zoo w0 W9 (BoxT q #[.pointer (some ⟨d, 0, none⟩)] 25 :: DskT d hb bs :: HalT hb h' :: PsT a9 c9 vl :: BoxT p6 #[.int .i64 vc, .int .i64 vn, .bool vt, .string vs, .slice a9 m c9] 102 :: BoxT p5 (xcs ⟨xd, xs, xm, xa, xk, xt, xp, xb⟩) 79 :: r)) := hide (zoo_42 (unhide HB))
    have hE := zoo_varm (unhide HC) (List.Mem.tail _ (List.Mem.tail _ (List.Mem.tail _ (List.Mem.tail _ (List.Mem.head _)))))
    have e0 : W9.cell? ⟨p6, 0, none⟩ = some (.int .i64 vc) := cell_of_block hE rfl
    by_cases hc : vc = 0
    · subst hc
      have e1 : W9.cell? ⟨p6, 1, none⟩ = some (.int .i64 vn) := cell_of_block hE rfl
      have e2 : W9.cell? ⟨p6, 1 + 1, none⟩ = some (.bool vt) := cell_of_block hE rfl
      have e3 : W9.cell? ⟨p6, 1 + 1 + 1, none⟩ = some (.string vs) := cell_of_block hE rfl
      have e4 : W9.cell? ⟨p6, 1 + 1 + 1 + 1, none⟩ = some (.slice a9 m c9) := cell_of_block hE rfl
      have e9 : ww = [97, 108, 108] :: vl.map pvx := by rw [← unhide HWW, if_neg (by simp)]
      subst e9
      have HT := hide (tel2 ⟨0, vn, vt, vs, vl⟩ a9 c9 (unhide HV) (unhide HG) (unhide HC) (List.Mem.tail _ (List.Mem.head _)) hlen)
      dsimp only at HT
      rw [← unhide HM] at HT
      clear hE
      go_wp2_with (go_at_call 56; refine (unhide HT).mono ?_; rintro e w7 ⟨rfl, HZ7⟩)
      go_end0
      exact ⟨rfl, _, zoo_24 (r := r) (unhide HZ7)⟩
    · have hc2 : ¬ (vc = 0) := hc
      have e9 : ww = [[110, 111], Lib.itoa vc] := by rw [← unhide HWW, if_pos hc]
      subst e9
      clear hE
      have HI := hide (sitoa vc W9 (gnd_kp (unhide HG) (unhide HC).kp) hcn hcm)
      go_wp2_with (first | (go_at_call 25; refine (unhide HI).mono ?_; rintro e w7 ⟨rfl, hk7⟩; have HZ7 := hide (((unhide HC).kp0 hk7).box #[.string ⟨#[110, 111]⟩, .string ⟨(Lib.itoa vc).toArray⟩] 9); clear hk7) | (go_at_call 24; refine (dsay (l1 := [_, _]) [[110, 111], Lib.itoa vc] 2 rfl _ 0 2 (unhide HZ7) (cells_strs [[110, 111], Lib.itoa vc] (zoo_varm (unhide HZ7) (List.Mem.head _)) rfl) (join_pos (by simp)) (by simp) (by simp) hlen).mono ?_; rintro e w8 ⟨rfl, HZ8⟩))
      refine bodyPost_ret (v := .tuple #[]) (results_none Tryz.results30 _ _ _) rfl ?_
      exact ⟨rfl, _, zoo_24 (r := r) (Zoo.tail (unhide HZ8))⟩
  · go_simp
    have HA1 := hide ((unhide HA0).box #[.int .i64 0, .int .i64 0, .bool false, .string ⟨#[]⟩, .slice none 0 0] 102)
    refine hK.out _ _ (⟨dsk_m (unhide HA1) (List.Mem.tail _ (List.Mem.tail _ (List.Mem.tail _ (List.Mem.tail _ (List.Mem.head _))))), x8_of (zoo_varm (unhide HA1) (List.Mem.tail _ (List.Mem.tail _ (List.Mem.head _))))⟩) (fun hHeld2 => ?_)
    clear hK K hHeld
    have hHeld := hHeld2
    clear hHeld2
    try simp only [Act.put, List.setIfInBounds_toArray, List.set_cons_zero, List.set_cons_succ]
    generalize WD.alloc (.cells #[.int .i64 0, .int .i64 0, .bool false, .string ⟨#[]⟩, .slice none 0 0] 102) = W6 at *
    generalize WD.heap.size = p6 at *
    have HA1b := hide (zoo_in (unhide HA1))
    refine wpAnyH_only (i := 5) rfl (by kernel_rfl) (fun K hK => ?_)
    go_simp
    refine (unhide HD W6 _ (unhide HA1b)).mono ?_
    rintro e w3 ⟨a9, c9, rfl, HA2⟩
    go_wp2_with fail
    refine hK.out _ _ (⟨dsk_m (unhide HA2) (List.Mem.tail _ (List.Mem.tail _ (List.Mem.tail _ (List.Mem.tail _ (List.Mem.tail _ (List.Mem.head _)))))), x8_of (zoo_varm (unhide HA2) (List.Mem.tail _ (List.Mem.tail _ (List.Mem.tail _ (List.Mem.head _)))))⟩) (fun hHeld2 => ?_)
    clear hK K hHeld
    have hHeld := hHeld2
    clear hHeld2
    try simp only [Act.put, List.setIfInBounds_toArray, List.set_cons_zero, List.set_cons_succ]
    refine wpAnyH_only (i := 7) rfl (by kernel_rfl) (fun K hK => ?_)
    rw [if_pos (by rfl)]
    refine wp_store_row 102 _ _ rfl p6 #[.int .i64 vc, .int .i64 vn, .bool vt, .string vs, .slice a9 m c9] rfl rfl 102 _ (zoo_varm (unhide HA2) (List.Mem.tail _ (List.Mem.tail _ (List.Mem.head _)))) Tryz.sizeEv rfl (by simp [Value.oneCell']) ?_
    have HB := hide (zoo_setrow (c' := #[.int .i64 vc, .int .i64 vn, .bool vt, .string vs, .slice a9 m c9]) (l1 := [_, _]) (unhide HA2))
    refine hK.out _ _ (⟨dsk_m (unhide HB) (List.Mem.tail _ (List.Mem.tail _ (List.Mem.tail _ (List.Mem.tail _ (List.Mem.tail _ (List.Mem.head _)))))), x8_of (zoo_varm (unhide HB) (List.Mem.tail _ (List.Mem.tail _ (List.Mem.tail _ (List.Mem.head _)))))⟩) (fun hHeld2 => ?_)
    clear hK K hHeld
    have hHeld := hHeld2
    clear hHeld2
    refine wpAnyH_done (by kernel_rfl) ?_ _
    clear hHeld
    generalize World.setRow _ _ _ = W9 at *
    have HC : Hid (Zoo w0 W9 (BoxT q #[.pointer (some ⟨d, 0, none⟩)] 25 :: DskT d hb bs :: HalT hb h' :: PsT a9 c9 vl :: BoxT p6 #[.int .i64 vc, .int .i64 vn, .bool vt, .string vs, .slice a9 m c9] 102 :: BoxT p5 (xcs ⟨xd, xs, xm, xa, xk, xt, xp, xb⟩) 79 :: r)) := hide (zoo_42 (unhide HB))
    have hE := zoo_varm (unhide HC) (List.Mem.tail _ (List.Mem.tail _ (List.Mem.tail _ (List.Mem.tail _ (List.Mem.head _)))))
    have e0 : W9.cell? ⟨p6, 0, none⟩ = some (.int .i64 vc) := cell_of_block hE rfl
    by_cases hc : vc = 0
    · subst hc
      have e1 : W9.cell? ⟨p6, 1, none⟩ = some (.int .i64 vn) := cell_of_block hE rfl
      have e2 : W9.cell? ⟨p6, 1 + 1, none⟩ = some (.bool vt) := cell_of_block hE rfl
      have e3 : W9.cell? ⟨p6, 1 + 1 + 1, none⟩ = some (.string vs) := cell_of_block hE rfl
      have e4 : W9.cell? ⟨p6, 1 + 1 + 1 + 1, none⟩ = some (.slice a9 m c9) := cell_of_block hE rfl
      have e9 : ww = [97, 108, 108] :: vl.map pvx := by rw [← unhide HWW, if_neg (by simp)]
      subst e9
      have HT := hide (tel2 ⟨0, vn, vt, vs, vl⟩ a9 c9 (unhide HV) (unhide HG) (unhide HC) (List.Mem.tail _ (List.Mem.head _)) hlen)
      dsimp only at HT
      rw [← unhide HM] at HT
      clear hE
      go_wp2_with (go_at_call 56; refine (unhide HT).mono ?_; rintro e w7 ⟨rfl, HZ7⟩)
      go_end0
      exact ⟨rfl, _, zoo_24 (r := r) (unhide HZ7)⟩
    · have hc2 : ¬ (vc = 0) := hc
      have e9 : ww = [[110, 111], Lib.itoa vc] := by rw [← unhide HWW, if_pos hc]
      subst e9
      clear hE
      have HI := hide (sitoa vc W9 (gnd_kp (unhide HG) (unhide HC).kp) hcn hcm)
      go_wp2_with (first | (go_at_call 25; refine (unhide HI).mono ?_; rintro e w7 ⟨rfl, hk7⟩; have HZ7 := hide (((unhide HC).kp0 hk7).box #[.string ⟨#[110, 111]⟩, .string ⟨(Lib.itoa vc).toArray⟩] 9); clear hk7) | (go_at_call 24; refine (dsay (l1 := [_, _]) [[110, 111], Lib.itoa vc] 2 rfl _ 0 2 (unhide HZ7) (cells_strs [[110, 111], Lib.itoa vc] (zoo_varm (unhide HZ7) (List.Mem.head _)) rfl) (join_pos (by simp)) (by simp) (by simp) hlen).mono ?_; rintro e w8 ⟨rfl, HZ8⟩))
      refine bodyPost_ret (v := .tuple #[]) (results_none Tryz.results30 _ _ _) rfl ?_
      exact ⟨rfl, _, zoo_24 (r := r) (Zoo.tail (unhide HZ8))⟩
set_option maxHeartbeats 4000000 in
theorem dstep3 (x : HStep) (hsz : x.b.size ≤ maxLen) (hg : Gnd w0) (hv : EvOk (hev h x)) (hz : Zoo w0 w (HalT hb h :: BoxT q #[.pointer (some ⟨d, 0, none⟩)] 25 :: DskT d hb bs :: r)) (hlen : bs.length + (say (if (hev h x).c ≠ 0 then [[110, 111], Lib.itoa (hev h x).c] else [[111, 107], Lib.itoa (hev h x).n])).length ≤ 100000) :
    Calls Tryz.prog 30 #[.pointer (some ⟨d, 0, none⟩), .agg #[.int .i64 x.d, .int .i64 x.s, .int .i64 x.md, .int .i64 x.at_, .int .i64 x.key, .int .i64 x.to_, .int .i64 x.keep, .string x.b], .func (.func 58) #[] #[.pointer (some ⟨q, 0, none⟩)]] w fun e w' => e = .returned (.tuple #[]) ∧ Hid (∃ r', Zoo w0 w' (HalT hb (hdo h x) :: BoxT q #[.pointer (some ⟨d, 0, none⟩)] 25 :: DskT d hb (bs ++ say (if (hev h x).c ≠ 0 then [[110, 111], Lib.itoa (hev h x).c] else [[111, 107], Lib.itoa (hev h x).n])) :: r' ++ r)) := by
  have hd : ∀ (W : World) (r1 : List Thing), Zoo w0 W (HalT hb h :: r1) → Calls Tryz.prog 53 #[.pointer (some ⟨hb, 0, none⟩), .agg #[.int .i64 x.d, .int .i64 x.s, .int .i64 x.md, .int .i64 x.at_, .int .i64 x.key, .int .i64 x.to_, .int .i64 x.keep, .string x.b]] W fun e w' => ∃ a cap, e = .returned (.agg #[.int .i64 (hev h x).c, .int .i64 (hev h x).n, .bool (hev h x).t, .string (hev h x).s, .slice a (hev h x).l.length cap]) ∧ Hid (Zoo w0 w' (HalT hb (hdo h x) :: PsT a cap (hev h x).l :: r1)) := fun W r1 hz1 => hal_do x hsz hz1
  generalize hdo h x = h' at *
  generalize hev h x = v at *
  obtain ⟨xd, xs, xm, xa, xk, xt, xp, xb⟩ := x
  obtain ⟨vc, vn, vt, vs, vl⟩ := v
  dsimp only at *
  obtain ⟨m, hm⟩ : ∃ m, m = vl.length := ⟨_, rfl⟩
  rw [← hm] at hd
  have HM := hide hm
  have HD := hide hd
  have HV := hide hv
  have HG := hide hg
  have hcn := hv.c0
  have hcm := hv.c1
  dsimp only at hcn hcm
  have HX := hide (zoo_in (hz.box (xcs ⟨xd, xs, xm, xa, xk, xt, xp, xb⟩) 79))
  obtain ⟨ww, hww⟩ : ∃ ww, (if vc ≠ 0 then [[110, 111], Lib.itoa vc] else [[111, 107], Lib.itoa vn]) = ww := ⟨_, rfl⟩
  rw [hww] at hlen ⊢
  have HWW := hide hww
  clear hz hg hv hd hm hsz hww
  go_enter Tryz.func30, Tryz.ntmps30
  go_wp2_with fail
  have HX2 : Hid (Zoo w0 (w.alloc (.cells #[.int .i64 xd, .int .i64 xs, .int .i64 xm, .int .i64 xa, .int .i64 xk, .int .i64 xt, .int .i64 xp, .string xb] 79)) (HalT hb h :: BoxT w.heap.size (xcs ⟨xd, xs, xm, xa, xk, xt, xp, xb⟩) 79 :: BoxT q #[.pointer (some ⟨d, 0, none⟩)] 25 :: DskT d hb bs :: r)) := HX
  clear HX
  generalize w.alloc (.cells #[.int .i64 xd, .int .i64 xs, .int .i64 xm, .int .i64 xa, .int .i64 xk, .int .i64 xt, .int .i64 xp, .string xb] 79) = W5 at *
  generalize w.heap.size = p5 at *
  refine wp_region_held_drew (S := fun w' => w'.cell? ⟨d, 2, none⟩ = some (.pointer (some ⟨hb, 0, none⟩)) ∧ w'.cell? ⟨p5, 0, none⟩ = some (.int .i64 xd) ∧ w'.cell? ⟨p5, 1, none⟩ = some (.int .i64 xs) ∧ w'.cell? ⟨p5, 1 + 1, none⟩ = some (.int .i64 xm) ∧ w'.cell? ⟨p5, 1 + 1 + 1, none⟩ = some (.int .i64 xa) ∧ w'.cell? ⟨p5, 1 + 1 + 1 + 1, none⟩ = some (.int .i64 xk) ∧ w'.cell? ⟨p5, 1 + 1 + 1 + 1 + 1, none⟩ = some (.int .i64 xt) ∧ w'.cell? ⟨p5, 1 + 1 + 1 + 1 + 1 + 1, none⟩ = some (.int .i64 xp) ∧ w'.cell? ⟨p5, 1 + 1 + 1 + 1 + 1 + 1 + 1, none⟩ = some (.string xb)) (by kernel_rfl) ⟨dsk_m ((unhide HX2).kp0 (Kp.refl [] W5).drew) (List.Mem.tail _ (List.Mem.tail _ (List.Mem.tail _ (List.Mem.head _)))), x8_of (zoo_varm ((unhide HX2).kp0 (Kp.refl [] W5).drew) (List.Mem.tail _ (List.Mem.head _)))⟩ (fun hHeld => ?_)
  have HA0 := hide ((unhide HX2).kp0 (Kp.refl [] W5).drew)
  generalize World.drew _ = WD at HA0 hHeld ⊢
  refine wpAnyH_tk (i := 0) (v := ?_) rfl (by kernel_rfl) (by kernel_rfl) (by kernel_rfl) (fun _ _ _ h => h) (Or.inl ⟨by rfl, ?_⟩) hHeld ?_
  rotate_left
  · intro w hSw
    try dsimp only at hSw
    go_simp
    try with_reducible rfl
  try simp only [Act.put, List.setIfInBounds_toArray, List.set_cons_zero, List.set_cons_succ]
  refine wpAnyH_tk (i := 1) (v := ?_) rfl (by kernel_rfl) (by kernel_rfl) (by kernel_rfl) (fun _ _ _ h => h) (Or.inl ⟨by rfl, ?_⟩) hHeld ?_
  rotate_left
  · intro w hSw
    try dsimp only at hSw
    go_simp
    try with_reducible rfl
  try simp only [Act.put, List.setIfInBounds_toArray, List.set_cons_zero, List.set_cons_succ]
  refine wpAnyH_tk (i := 2) (v := ?_) rfl (by kernel_rfl) (by kernel_rfl) (by kernel_rfl) (fun _ _ _ h => h) (Or.inl ⟨by rfl, ?_⟩) hHeld ?_
  rotate_left
  · intro w hSw
    try dsimp only at hSw
    go_simp
    try with_reducible rfl
  try simp only [Act.put, List.setIfInBounds_toArray, List.set_cons_zero, List.set_cons_succ]
  refine wpAnyH_tk (i := 3) (v := ?_) rfl (by kernel_rfl) (by kernel_rfl) (by kernel_rfl) (fun _ _ _ h => h) (Or.inl ⟨by rfl, ?_⟩) hHeld ?_
  rotate_left
  · intro w hSw
    try dsimp only at hSw
    go_simp
    try with_reducible rfl
  try simp only [Act.put, List.setIfInBounds_toArray, List.set_cons_zero, List.set_cons_succ]
  refine wpAnyH_tk (i := 4) (v := ?_) rfl (by kernel_rfl) (by kernel_rfl) (by kernel_rfl) (fun _ _ _ h => h) (Or.inl ⟨by rfl, ?_⟩) hHeld ?_
  rotate_left
  · intro w hSw
    try dsimp only at hSw
    go_simp
    try with_reducible rfl
  try simp only [Act.put, List.setIfInBounds_toArray, List.set_cons_zero, List.set_cons_succ]
  refine wpAnyH_two (i := 5) (j := 6) rfl rfl (by kernel_rfl) (fun K hK => ?_) (fun K hK => ?_)
  · go_simp
    refine (unhide HD WD _ (unhide HA0)).mono ?_
    rintro e w3 ⟨a9, c9, rfl, HA1⟩
    go_wp2_with fail
    refine hK.out _ _ (⟨dsk_m (unhide HA1) (List.Mem.tail _ (List.Mem.tail _ (List.Mem.tail _ (List.Mem.tail _ (List.Mem.head _))))), x8_of (zoo_varm (unhide HA1) (List.Mem.tail _ (List.Mem.tail _ (List.Mem.head _))))⟩) (fun hHeld2 => ?_)
    clear hK K hHeld
    have hHeld := hHeld2
    clear hHeld2
    try simp only [Act.put, List.setIfInBounds_toArray, List.set_cons_zero, List.set_cons_succ]
    refine wpAnyH_only (i := 6) rfl (by kernel_rfl) (fun K hK => ?_)
    go_simp
    have HA2 := hide ((unhide HA1).box #[.int .i64 0, .int .i64 0, .bool false, .string ⟨#[]⟩, .slice none 0 0] 102)
    refine hK.out _ _ (⟨dsk_m (unhide HA2) (List.Mem.tail _ (List.Mem.tail _ (List.Mem.tail _ (List.Mem.tail _ (List.Mem.tail _ (List.Mem.head _)))))), x8_of (zoo_varm (unhide HA2) (List.Mem.tail _ (List.Mem.tail _ (List.Mem.tail _ (List.Mem.head _)))))⟩) (fun hHeld2 => ?_)
    clear hK K hHeld
    have hHeld := hHeld2
    clear hHeld2
    try simp only [Act.put, List.setIfInBounds_toArray, List.set_cons_zero, List.set_cons_succ]
    generalize w3.alloc (.cells #[.int .i64 0, .int .i64 0, .bool false, .string ⟨#[]⟩, .slice none 0 0] 102) = W6 at *
    generalize w3.heap.size = p6 at *
    refine wpAnyH_only (i := 7) rfl (by kernel_rfl) (fun K hK => ?_)
    rw [if_pos (by rfl)]
    refine wp_store_row 102 _ _ rfl p6 #[.int .i64 vc, .int .i64 vn, .bool vt, .string vs, .slice a9 m c9] rfl rfl 102 _ (zoo_varm (unhide HA2) (List.Mem.head _)) Tryz.sizeEv rfl (by simp [Value.oneCell']) ?_
    have HB0 := hide (zoo_setrow (c' := #[.int .i64 vc, .int .i64 vn, .bool vt, .string vs, .slice a9 m c9]) (l1 := []) (unhide HA2))
    refine hK.out _ _ (⟨dsk_m (unhide HB0) (List.Mem.tail _ (List.Mem.tail _ (List.Mem.tail _ (List.Mem.tail _ (List.Mem.tail _ (List.Mem.head _)))))), x8_of (zoo_varm (unhide HB0) (List.Mem.tail _ (List.Mem.tail _ (List.Mem.tail _ (List.Mem.head _)))))⟩) (fun hHeld2 => ?_)
    clear hK K hHeld
    have hHeld := hHeld2
    clear hHeld2
    have HB := hide (zoo_b (unhide HB0))
    refine wpAnyH_done (by kernel_rfl) ?_ _
    clear hHeld
    generalize World.setRow _ _ _ = W9 at *
    have HC : Hid (Zoo w0 W9 (BoxT q #[.pointer (some ⟨d, 0, none⟩)] 25 :: DskT d hb bs :: HalT hb h' :: PsT a9 c9 vl :: BoxT p6 #[.int .i64 vc, .int .i64 vn, .bool vt, .string vs, .slice a9 m c9] 102 :: BoxT p5 (xcs ⟨xd, xs, xm, xa, xk, xt, xp, xb⟩) 79 :: r)) := hide (zoo_42 (unhide HB))
    have hE := zoo_varm (unhide HC) (List.Mem.tail _ (List.Mem.tail _ (List.Mem.tail _ (List.Mem.tail _ (List.Mem.head _)))))
    have e0 : W9.cell? ⟨p6, 0, none⟩ = some (.int .i64 vc) := cell_of_block hE rfl
    by_cases hc : vc = 0
    · subst hc
      have e1 : W9.cell? ⟨p6, 1, none⟩ = some (.int .i64 vn) := cell_of_block hE rfl
      have e2 : W9.cell? ⟨p6, 1 + 1, none⟩ = some (.bool vt) := cell_of_block hE rfl
      have e3 : W9.cell? ⟨p6, 1 + 1 + 1, none⟩ = some (.string vs) := cell_of_block hE rfl
      have e4 : W9.cell? ⟨p6, 1 + 1 + 1 + 1, none⟩ = some (.slice a9 m c9) := cell_of_block hE rfl
      have e9 : ww = [[111, 107], Lib.itoa vn] := by rw [← unhide HWW, if_neg (by simp)]
      subst e9
      have HT := hide (tel3 ⟨0, vn, vt, vs, vl⟩ a9 c9 (unhide HV) (unhide HG) (unhide HC) hlen)
      dsimp only at HT
      rw [← unhide HM] at HT
      clear hE
      go_wp2_with (go_at_call 58; refine (unhide HT).mono ?_; rintro e w7 ⟨rfl, HZ7⟩)
      go_end0
      exact ⟨rfl, _, zoo_24 (r := r) (unhide HZ7)⟩
    · have hc2 : ¬ (vc = 0) := hc
      have e9 : ww = [[110, 111], Lib.itoa vc] := by rw [← unhide HWW, if_pos hc]
      subst e9
      clear hE
      have HI := hide (sitoa vc W9 (gnd_kp (unhide HG) (unhide HC).kp) hcn hcm)
      go_wp2_with (first | (go_at_call 25; refine (unhide HI).mono ?_; rintro e w7 ⟨rfl, hk7⟩; have HZ7 := hide (((unhide HC).kp0 hk7).box #[.string ⟨#[110, 111]⟩, .string ⟨(Lib.itoa vc).toArray⟩] 9); clear hk7) | (go_at_call 24; refine (dsay (l1 := [_, _]) [[110, 111], Lib.itoa vc] 2 rfl _ 0 2 (unhide HZ7) (cells_strs [[110, 111], Lib.itoa vc] (zoo_varm (unhide HZ7) (List.Mem.head _)) rfl) (join_pos (by simp)) (by simp) (by simp) hlen).mono ?_; rintro e w8 ⟨rfl, HZ8⟩))
      refine bodyPost_ret (v := .tuple #[]) (results_none Tryz.results30 _ _ _) rfl ?_
      exact ⟨rfl, _, zoo_24 (r := r) (Zoo.tail (unhide HZ8))⟩
  · go_simp
    have HA1 := hide ((unhide HA0).box #[.int .i64 0, .int .i64 0, .bool false, .string ⟨#[]⟩, .slice none 0 0] 102)
    refine hK.out _ _ (⟨dsk_m (unhide HA1) (List.Mem.tail _ (List.Mem.tail _ (List.Mem.tail _ (List.Mem.tail _ (List.Mem.head _))))), x8_of (zoo_varm (unhide HA1) (List.Mem.tail _ (List.Mem.tail _ (List.Mem.head _))))⟩) (fun hHeld2 => ?_)
    clear hK K hHeld
    have hHeld := hHeld2
    clear hHeld2
    try simp only [Act.put, List.setIfInBounds_toArray, List.set_cons_zero, List.set_cons_succ]
    generalize WD.alloc (.cells #[.int .i64 0, .int .i64 0, .bool false, .string ⟨#[]⟩, .slice none 0 0] 102) = W6 at *
    generalize WD.heap.size = p6 at *
    have HA1b := hide (zoo_in (unhide HA1))
    refine wpAnyH_only (i := 5) rfl (by kernel_rfl) (fun K hK => ?_)
    go_simp
    refine (unhide HD W6 _ (unhide HA1b)).mono ?_
    rintro e w3 ⟨a9, c9, rfl, HA2⟩
    go_wp2_with fail
    refine hK.out _ _ (⟨dsk_m (unhide HA2) (List.Mem.tail _ (List.Mem.tail _ (List.Mem.tail _ (List.Mem.tail _ (List.Mem.tail _ (List.Mem.head _)))))), x8_of (zoo_varm (unhide HA2) (List.Mem.tail _ (List.Mem.tail _ (List.Mem.tail _ (List.Mem.head _)))))⟩) (fun hHeld2 => ?_)
    clear hK K hHeld
    have hHeld := hHeld2
    clear hHeld2
    try simp only [Act.put, List.setIfInBounds_toArray, List.set_cons_zero, List.set_cons_succ]
    refine wpAnyH_only (i := 7) rfl (by kernel_rfl) (fun K hK => ?_)
    rw [if_pos (by rfl)]
    refine wp_store_row 102 _ _ rfl p6 #[.int .i64 vc, .int .i64 vn, .bool vt, .string vs, .slice a9 m c9] rfl rfl 102 _ (zoo_varm (unhide HA2) (List.Mem.tail _ (List.Mem.tail _ (List.Mem.head _)))) Tryz.sizeEv rfl (by simp [Value.oneCell']) ?_
    have HB := hide (zoo_setrow (c' := #[.int .i64 vc, .int .i64 vn, .bool vt, .string vs, .slice a9 m c9]) (l1 := [_, _]) (unhide HA2))
    refine hK.out _ _ (⟨dsk_m (unhide HB) (List.Mem.tail _ (List.Mem.tail _ (List.Mem.tail _ (List.Mem.tail _ (List.Mem.tail _ (List.Mem.head _)))))), x8_of (zoo_varm (unhide HB) (List.Mem.tail _ (List.Mem.tail _ (List.Mem.tail _ (List.Mem.head _)))))⟩) (fun hHeld2 => ?_)
    clear hK K hHeld
    have hHeld := hHeld2
    clear hHeld2
    refine wpAnyH_done (by kernel_rfl) ?_ _
    clear hHeld
    generalize World.setRow _ _ _ = W9 at *
    have HC : Hid (Zoo w0 W9 (BoxT q #[.pointer (some ⟨d, 0, none⟩)] 25 :: DskT d hb bs :: HalT hb h' :: PsT a9 c9 vl :: BoxT p6 #[.int .i64 vc, .int .i64 vn, .bool vt, .string vs, .slice a9 m c9] 102 :: BoxT p5 (xcs ⟨xd, xs, xm, xa, xk, xt, xp, xb⟩) 79 :: r)) := hide (zoo_42 (unhide HB))
    have hE := zoo_varm (unhide HC) (List.Mem.tail _ (List.Mem.tail _ (List.Mem.tail _ (List.Mem.tail _ (List.Mem.head _)))))
    have e0 : W9.cell? ⟨p6, 0, none⟩ = some (.int .i64 vc) := cell_of_block hE rfl
    by_cases hc : vc = 0
    · subst hc
      have e1 : W9.cell? ⟨p6, 1, none⟩ = some (.int .i64 vn) := cell_of_block hE rfl
      have e2 : W9.cell? ⟨p6, 1 + 1, none⟩ = some (.bool vt) := cell_of_block hE rfl
      have e3 : W9.cell? ⟨p6, 1 + 1 + 1, none⟩ = some (.string vs) := cell_of_block hE rfl
      have e4 : W9.cell? ⟨p6, 1 + 1 + 1 + 1, none⟩ = some (.slice a9 m c9) := cell_of_block hE rfl
      have e9 : ww = [[111, 107], Lib.itoa vn] := by rw [← unhide HWW, if_neg (by simp)]
      subst e9
      have HT := hide (tel3 ⟨0, vn, vt, vs, vl⟩ a9 c9 (unhide HV) (unhide HG) (unhide HC) hlen)
      dsimp only at HT
      rw [← unhide HM] at HT
      clear hE
      go_wp2_with (go_at_call 58; refine (unhide HT).mono ?_; rintro e w7 ⟨rfl, HZ7⟩)
      go_end0
      exact ⟨rfl, _, zoo_24 (r := r) (unhide HZ7)⟩
    · have hc2 : ¬ (vc = 0) := hc
      have e9 : ww = [[110, 111], Lib.itoa vc] := by rw [← unhide HWW, if_pos hc]
      subst e9
      clear hE
      have HI := hide (sitoa vc W9 (gnd_kp (unhide HG) (unhide HC).kp) hcn hcm)
      go_wp2_with (first | (go_at_call 25; refine (unhide HI).mono ?_; rintro e w7 ⟨rfl, hk7⟩; have HZ7 := hide (((unhide HC).kp0 hk7).box #[.string ⟨#[110, 111]⟩, .string ⟨(Lib.itoa vc).toArray⟩] 9); clear hk7) | (go_at_call 24; refine (dsay (l1 := [_, _]) [[110, 111], Lib.itoa vc] 2 rfl _ 0 2 (unhide HZ7) (cells_strs [[110, 111], Lib.itoa vc] (zoo_varm (unhide HZ7) (List.Mem.head _)) rfl) (join_pos (by simp)) (by simp) (by simp) hlen).mono ?_; rintro e w8 ⟨rfl, HZ8⟩))
      refine bodyPost_ret (v := .tuple #[]) (results_none Tryz.results30 _ _ _) rfl ?_
      exact ⟨rfl, _, zoo_24 (r := r) (Zoo.tail (unhide HZ8))⟩
set_option maxHeartbeats 4000000 in
theorem dstep4 (x : HStep) (hsz : x.b.size ≤ maxLen) (hg : Gnd w0) (hv : EvOk (hev h x)) (hz : Zoo w0 w (HalT hb h :: BoxT q #[.pointer (some ⟨d, 0, none⟩)] 25 :: DskT d hb bs :: r)) (hlen : bs.length + (say (if (hev h x).c ≠ 0 then [[110, 111], Lib.itoa (hev h x).c] else [[111, 107]])).length ≤ 100000) :
    Calls Tryz.prog 30 #[.pointer (some ⟨d, 0, none⟩), .agg #[.int .i64 x.d, .int .i64 x.s, .int .i64 x.md, .int .i64 x.at_, .int .i64 x.key, .int .i64 x.to_, .int .i64 x.keep, .string x.b], .func (.func 59) #[] #[.pointer (some ⟨q, 0, none⟩)]] w fun e w' => e = .returned (.tuple #[]) ∧ Hid (∃ r', Zoo w0 w' (HalT hb (hdo h x) :: BoxT q #[.pointer (some ⟨d, 0, none⟩)] 25 :: DskT d hb (bs ++ say (if (hev h x).c ≠ 0 then [[110, 111], Lib.itoa (hev h x).c] else [[111, 107]])) :: r' ++ r)) := by
  have hd : ∀ (W : World) (r1 : List Thing), Zoo w0 W (HalT hb h :: r1) → Calls Tryz.prog 53 #[.pointer (some ⟨hb, 0, none⟩), .agg #[.int .i64 x.d, .int .i64 x.s, .int .i64 x.md, .int .i64 x.at_, .int .i64 x.key, .int .i64 x.to_, .int .i64 x.keep, .string x.b]] W fun e w' => ∃ a cap, e = .returned (.agg #[.int .i64 (hev h x).c, .int .i64 (hev h x).n, .bool (hev h x).t, .string (hev h x).s, .slice a (hev h x).l.length cap]) ∧ Hid (Zoo w0 w' (HalT hb (hdo h x) :: PsT a cap (hev h x).l :: r1)) := fun W r1 hz1 => hal_do x hsz hz1
  generalize hdo h x = h' at *
  generalize hev h x = v at *
  obtain ⟨xd, xs, xm, xa, xk, xt, xp, xb⟩ := x
  obtain ⟨vc, vn, vt, vs, vl⟩ := v
  dsimp only at *
  obtain ⟨m, hm⟩ : ∃ m, m = vl.length := ⟨_, rfl⟩
  rw [← hm] at hd
  have HM := hide hm
  have HD := hide hd
  have HV := hide hv
  have HG := hide hg
  have hcn := hv.c0
  have hcm := hv.c1
  dsimp only at hcn hcm
  have HX := hide (zoo_in (hz.box (xcs ⟨xd, xs, xm, xa, xk, xt, xp, xb⟩) 79))
  obtain ⟨ww, hww⟩ : ∃ ww, (if vc ≠ 0 then [[110, 111], Lib.itoa vc] else [[111, 107]]) = ww := ⟨_, rfl⟩
  rw [hww] at hlen ⊢
  have HWW := hide hww
  clear hz hg hv hd hm hsz hww
  go_enter Tryz.func30, Tryz.ntmps30
  go_wp2_with fail
  have HX2 : Hid (Zoo w0 (w.alloc (.cells #[.int .i64 xd, .int .i64 xs, .int .i64 xm, .int .i64 xa, .int .i64 xk, .int .i64 xt, .int .i64 xp, .string xb] 79)) (HalT hb h :: BoxT w.heap.size (xcs ⟨xd, xs, xm, xa, xk, xt, xp, xb⟩) 79 :: BoxT q #[.pointer (some ⟨d, 0, none⟩)] 25 :: DskT d hb bs :: r)) := HX
  clear HX
  generalize w.alloc (.cells #[.int .i64 xd, .int .i64 xs, .int .i64 xm, .int .i64 xa, .int .i64 xk, .int .i64 xt, .int .i64 xp, .string xb] 79) = W5 at *
  generalize w.heap.size = p5 at *
  refine wp_region_held_drew (S := fun w' => w'.cell? ⟨d, 2, none⟩ = some (.pointer (some ⟨hb, 0, none⟩)) ∧ w'.cell? ⟨p5, 0, none⟩ = some (.int .i64 xd) ∧ w'.cell? ⟨p5, 1, none⟩ = some (.int .i64 xs) ∧ w'.cell? ⟨p5, 1 + 1, none⟩ = some (.int .i64 xm) ∧ w'.cell? ⟨p5, 1 + 1 + 1, none⟩ = some (.int .i64 xa) ∧ w'.cell? ⟨p5, 1 + 1 + 1 + 1, none⟩ = some (.int .i64 xk) ∧ w'.cell? ⟨p5, 1 + 1 + 1 + 1 + 1, none⟩ = some (.int .i64 xt) ∧ w'.cell? ⟨p5, 1 + 1 + 1 + 1 + 1 + 1, none⟩ = some (.int .i64 xp) ∧ w'.cell? ⟨p5, 1 + 1 + 1 + 1 + 1 + 1 + 1, none⟩ = some (.string xb)) (by kernel_rfl) ⟨dsk_m ((unhide HX2).kp0 (Kp.refl [] W5).drew) (List.Mem.tail _ (List.Mem.tail _ (List.Mem.tail _ (List.Mem.head _)))), x8_of (zoo_varm ((unhide HX2).kp0 (Kp.refl [] W5).drew) (List.Mem.tail _ (List.Mem.head _)))⟩ (fun hHeld => ?_)
  have HA0 := hide ((unhide HX2).kp0 (Kp.refl [] W5).drew)
  generalize World.drew _ = WD at HA0 hHeld ⊢
  refine wpAnyH_tk (i := 0) (v := ?_) rfl (by kernel_rfl) (by kernel_rfl) (by kernel_rfl) (fun _ _ _ h => h) (Or.inl ⟨by rfl, ?_⟩) hHeld ?_
  rotate_left
  · intro w hSw
    try dsimp only at hSw
    go_simp
    try with_reducible rfl
  try simp only [Act.put, List.setIfInBounds_toArray, List.set_cons_zero, List.set_cons_succ]
  refine wpAnyH_tk (i := 1) (v := ?_) rfl (by kernel_rfl) (by kernel_rfl) (by kernel_rfl) (fun _ _ _ h => h) (Or.inl ⟨by rfl, ?_⟩) hHeld ?_
  rotate_left
  · intro w hSw
    try dsimp only at hSw
    go_simp
    try with_reducible rfl
  try simp only [Act.put, List.setIfInBounds_toArray, List.set_cons_zero, List.set_cons_succ]
  refine wpAnyH_tk (i := 2) (v := ?_) rfl (by kernel_rfl) (by kernel_rfl) (by kernel_rfl) (fun _ _ _ h => h) (Or.inl ⟨by rfl, ?_⟩) hHeld ?_
  rotate_left
  · intro w hSw
    try dsimp only at hSw
    go_simp
    try with_reducible rfl
  try simp only [Act.put, List.setIfInBounds_toArray, List.set_cons_zero, List.set_cons_succ]
  refine wpAnyH_tk (i := 3) (v := ?_) rfl (by kernel_rfl) (by kernel_rfl) (by kernel_rfl) (fun _ _ _ h => h) (Or.inl ⟨by rfl, ?_⟩) hHeld ?_
  rotate_left
  · intro w hSw
    try dsimp only at hSw
    go_simp
    try with_reducible rfl
  try simp only [Act.put, List.setIfInBounds_toArray, List.set_cons_zero, List.set_cons_succ]
  refine wpAnyH_tk (i := 4) (v := ?_) rfl (by kernel_rfl) (by kernel_rfl) (by kernel_rfl) (fun _ _ _ h => h) (Or.inl ⟨by rfl, ?_⟩) hHeld ?_
  rotate_left
  · intro w hSw
    try dsimp only at hSw
    go_simp
    try with_reducible rfl
  try simp only [Act.put, List.setIfInBounds_toArray, List.set_cons_zero, List.set_cons_succ]
  refine wpAnyH_two (i := 5) (j := 6) rfl rfl (by kernel_rfl) (fun K hK => ?_) (fun K hK => ?_)
  · go_simp
    refine (unhide HD WD _ (unhide HA0)).mono ?_
    rintro e w3 ⟨a9, c9, rfl, HA1⟩
    go_wp2_with fail
    refine hK.out _ _ (⟨dsk_m (unhide HA1) (List.Mem.tail _ (List.Mem.tail _ (List.Mem.tail _ (List.Mem.tail _ (List.Mem.head _))))), x8_of (zoo_varm (unhide HA1) (List.Mem.tail _ (List.Mem.tail _ (List.Mem.head _))))⟩) (fun hHeld2 => ?_)
    clear hK K hHeld
    have hHeld := hHeld2
    clear hHeld2
    try simp only [Act.put, List.setIfInBounds_toArray, List.set_cons_zero, List.set_cons_succ]
    refine wpAnyH_only (i := 6) rfl (by kernel_rfl) (fun K hK => ?_)
    go_simp
    have HA2 := hide ((unhide HA1).box #[.int .i64 0, .int .i64 0, .bool false, .string ⟨#[]⟩, .slice none 0 0] 102)
    refine hK.out _ _ (⟨dsk_m (unhide HA2) (List.Mem.tail _ (List.Mem.tail _ (List.Mem.tail _ (List.Mem.tail _ (List.Mem.tail _ (List.Mem.head _)))))), x8_of (zoo_varm (unhide HA2) (List.Mem.tail _ (List.Mem.tail _ (List.Mem.tail _ (List.Mem.head _)))))⟩) (fun hHeld2 => ?_)
    clear hK K hHeld
    have hHeld := hHeld2
    clear hHeld2
    try simp only [Act.put, List.setIfInBounds_toArray, List.set_cons_zero, List.set_cons_succ]
    generalize w3.alloc (.cells #[.int .i64 0, .int .i64 0, .bool false, .string ⟨#[]⟩, .slice none 0 0] 102) = W6 at *
    generalize w3.heap.size = p6 at *
    refine wpAnyH_only (i := 7) rfl (by kernel_rfl) (fun K hK => ?_)
    rw [if_pos (by rfl)]
    refine wp_store_row 102 _ _ rfl p6 #[.int .i64 vc, .int .i64 vn, .bool vt, .string vs, .slice a9 m c9] rfl rfl 102 _ (zoo_varm (unhide HA2) (List.Mem.head _)) Tryz.sizeEv rfl (by simp [Value.oneCell']) ?_
    have HB0 := hide (zoo_setrow (c' := #[.int .i64 vc, .int .i64 vn, .bool vt, .string vs, .slice a9 m c9]) (l1 := []) (unhide HA2))
    refine hK.out _ _ (⟨dsk_m (unhide HB0) (List.Mem.tail _ (List.Mem.tail _ (List.Mem.tail _ (List.Mem.tail _ (List.Mem.tail _ (List.Mem.head _)))))), x8_of (zoo_varm (unhide HB0) (List.Mem.tail _ (List.Mem.tail _ (List.Mem.tail _ (List.Mem.head _)))))⟩) (fun hHeld2 => ?_)
    clear hK K hHeld
    have hHeld := hHeld2
    clear hHeld2
    have HB := hide (zoo_b (unhide HB0))
    refine wpAnyH_done (by kernel_rfl) ?_ _
    clear hHeld
    generalize World.setRow _ _ _ = W9 at *
    have HC : Hid (Zoo w0 W9 (BoxT q #[.pointer (some ⟨d, 0, none⟩)] 25 :: DskT d hb bs :: HalT hb h' :: PsT a9 c9 vl :: BoxT p6 #[.int .i64 vc, .int .i64 vn, .bool vt, .string vs, .slice a9 m c9] 102 :: BoxT p5 (xcs ⟨xd, xs, xm, xa, xk, xt, xp, xb⟩) 79 :: r)) := hide (zoo_42 (unhide HB))
    have hE := zoo_varm (unhide HC) (List.Mem.tail _ (List.Mem.tail _ (List.Mem.tail _ (List.Mem.tail _ (List.Mem.head _)))))
    have e0 : W9.cell? ⟨p6, 0, none⟩ = some (.int .i64 vc) := cell_of_block hE rfl
    by_cases hc : vc = 0
    · subst hc
      have e1 : W9.cell? ⟨p6, 1, none⟩ = some (.int .i64 vn) := cell_of_block hE rfl
      have e2 : W9.cell? ⟨p6, 1 + 1, none⟩ = some (.bool vt) := cell_of_block hE rfl
      have e3 : W9.cell? ⟨p6, 1 + 1 + 1, none⟩ = some (.string vs) := cell_of_block hE rfl
      have e4 : W9.cell? ⟨p6, 1 + 1 + 1 + 1, none⟩ = some (.slice a9 m c9) := cell_of_block hE rfl
      have e9 : ww = [[111, 107]] := by rw [← unhide HWW, if_neg (by simp)]
      subst e9
      have HT := hide (tel4 ⟨0, vn, vt, vs, vl⟩ a9 c9 (unhide HV) (unhide HG) (unhide HC) hlen)
      dsimp only at HT
      rw [← unhide HM] at HT
      clear hE
      go_wp2_with (go_at_call 59; refine (unhide HT).mono ?_; rintro e w7 ⟨rfl, HZ7⟩)
      go_end0
      exact ⟨rfl, _, zoo_24 (r := r) (unhide HZ7)⟩
    · have hc2 : ¬ (vc = 0) := hc
      have e9 : ww = [[110, 111], Lib.itoa vc] := by rw [← unhide HWW, if_pos hc]
      subst e9
      clear hE
      have HI := hide (sitoa vc W9 (gnd_kp (unhide HG) (unhide HC).kp) hcn hcm)
      go_wp2_with (first | (go_at_call 25; refine (unhide HI).mono ?_; rintro e w7 ⟨rfl, hk7⟩; have HZ7 := hide (((unhide HC).kp0 hk7).box #[.string ⟨#[110, 111]⟩, .string ⟨(Lib.itoa vc).toArray⟩] 9); clear hk7) | (go_at_call 24; refine (dsay (l1 := [_, _]) [[110, 111], Lib.itoa vc] 2 rfl _ 0 2 (unhide HZ7) (cells_strs [[110, 111], Lib.itoa vc] (zoo_varm (unhide HZ7) (List.Mem.head _)) rfl) (join_pos (by simp)) (by simp) (by simp) hlen).mono ?_; rintro e w8 ⟨rfl, HZ8⟩))
      refine bodyPost_ret (v := .tuple #[]) (results_none Tryz.results30 _ _ _) rfl ?_
      exact ⟨rfl, _, zoo_24 (r := r) (Zoo.tail (unhide HZ8))⟩
  · go_simp
    have HA1 := hide ((unhide HA0).box #[.int .i64 0, .int .i64 0, .bool false, .string ⟨#[]⟩, .slice none 0 0] 102)
    refine hK.out _ _ (⟨dsk_m (unhide HA1) (List.Mem.tail _ (List.Mem.tail _ (List.Mem.tail _ (List.Mem.tail _ (List.Mem.head _))))), x8_of (zoo_varm (unhide HA1) (List.Mem.tail _ (List.Mem.tail _ (List.Mem.head _))))⟩) (fun hHeld2 => ?_)
    clear hK K hHeld
    have hHeld := hHeld2
    clear hHeld2
    try simp only [Act.put, List.setIfInBounds_toArray, List.set_cons_zero, List.set_cons_succ]
    generalize WD.alloc (.cells #[.int .i64 0, .int .i64 0, .bool false, .string ⟨#[]⟩, .slice none 0 0] 102) = W6 at *
    generalize WD.heap.size = p6 at *
    have HA1b := hide (zoo_in (unhide HA1))
    refine wpAnyH_only (i := 5) rfl (by kernel_rfl) (fun K hK => ?_)
    go_simp
    refine (unhide HD W6 _ (unhide HA1b)).mono ?_
    rintro e w3 ⟨a9, c9, rfl, HA2⟩
    go_wp2_with fail
    refine hK.out _ _ (⟨dsk_m (unhide HA2) (List.Mem.tail _ (List.Mem.tail _ (List.Mem.tail _ (List.Mem.tail _ (List.Mem.tail _ (List.Mem.head _)))))), x8_of (zoo_varm (unhide HA2) (List.Mem.tail _ (List.Mem.tail _ (List.Mem.tail _ (List.Mem.head _)))))⟩) (fun hHeld2 => ?_)
    clear hK K hHeld
    have hHeld := hHeld2
    clear hHeld2
    try simp only [Act.put, List.setIfInBounds_toArray, List.set_cons_zero, List.set_cons_succ]
    refine wpAnyH_only (i := 7) rfl (by kernel_rfl) (fun K hK => ?_)
    rw [if_pos (by rfl)]
    refine wp_store_row 102 _ _ rfl p6 #[.int .i64 vc, .int .i64 vn, .bool vt, .string vs, .slice a9 m c9] rfl rfl 102 _ (zoo_varm (unhide HA2) (List.Mem.tail _ (List.Mem.tail _ (List.Mem.head _)))) Tryz.sizeEv rfl (by simp [Value.oneCell']) ?_
    have HB := hide (zoo_setrow (c' := #[.int .i64 vc, .int .i64 vn, .bool vt, .string vs, .slice a9 m c9]) (l1 := [_, _]) (unhide HA2))
    refine hK.out _ _ (⟨dsk_m (unhide HB) (List.Mem.tail _ (List.Mem.tail _ (List.Mem.tail _ (List.Mem.tail _ (List.Mem.tail _ (List.Mem.head _)))))), x8_of (zoo_varm (unhide HB) (List.Mem.tail _ (List.Mem.tail _ (List.Mem.tail _ (List.Mem.head _)))))⟩) (fun hHeld2 => ?_)
    clear hK K hHeld
    have hHeld := hHeld2
    clear hHeld2
    refine wpAnyH_done (by kernel_rfl) ?_ _
    clear hHeld
    generalize World.setRow _ _ _ = W9 at *
    have HC : Hid (Zoo w0 W9 (BoxT q #[.pointer (some ⟨d, 0, none⟩)] 25 :: DskT d hb bs :: HalT hb h' :: PsT a9 c9 vl :: BoxT p6 #[.int .i64 vc, .int .i64 vn, .bool vt, .string vs, .slice a9 m c9] 102 :: BoxT p5 (xcs ⟨xd, xs, xm, xa, xk, xt, xp, xb⟩) 79 :: r)) := hide (zoo_42 (unhide HB))
    have hE := zoo_varm (unhide HC) (List.Mem.tail _ (List.Mem.tail _ (List.Mem.tail _ (List.Mem.tail _ (List.Mem.head _)))))
    have e0 : W9.cell? ⟨p6, 0, none⟩ = some (.int .i64 vc) := cell_of_block hE rfl
    by_cases hc : vc = 0
    · subst hc
      have e1 : W9.cell? ⟨p6, 1, none⟩ = some (.int .i64 vn) := cell_of_block hE rfl
      have e2 : W9.cell? ⟨p6, 1 + 1, none⟩ = some (.bool vt) := cell_of_block hE rfl
      have e3 : W9.cell? ⟨p6, 1 + 1 + 1, none⟩ = some (.string vs) := cell_of_block hE rfl
      have e4 : W9.cell? ⟨p6, 1 + 1 + 1 + 1, none⟩ = some (.slice a9 m c9) := cell_of_block hE rfl
      have e9 : ww = [[111, 107]] := by rw [← unhide HWW, if_neg (by simp)]
      subst e9
      have HT := hide (tel4 ⟨0, vn, vt, vs, vl⟩ a9 c9 (unhide HV) (unhide HG) (unhide HC) hlen)
      dsimp only at HT
      rw [← unhide HM] at HT
      clear hE
      go_wp2_with (go_at_call 59; refine (unhide HT).mono ?_; rintro e w7 ⟨rfl, HZ7⟩)
      go_end0
      exact ⟨rfl, _, zoo_24 (r := r) (unhide HZ7)⟩
    · have hc2 : ¬ (vc = 0) := hc
      have e9 : ww = [[110, 111], Lib.itoa vc] := by rw [← unhide HWW, if_pos hc]
      subst e9
      clear hE
      have HI := hide (sitoa vc W9 (gnd_kp (unhide HG) (unhide HC).kp) hcn hcm)
      go_wp2_with (first | (go_at_call 25; refine (unhide HI).mono ?_; rintro e w7 ⟨rfl, hk7⟩; have HZ7 := hide (((unhide HC).kp0 hk7).box #[.string ⟨#[110, 111]⟩, .string ⟨(Lib.itoa vc).toArray⟩] 9); clear hk7) | (go_at_call 24; refine (dsay (l1 := [_, _]) [[110, 111], Lib.itoa vc] 2 rfl _ 0 2 (unhide HZ7) (cells_strs [[110, 111], Lib.itoa vc] (zoo_varm (unhide HZ7) (List.Mem.head _)) rfl) (join_pos (by simp)) (by simp) (by simp) hlen).mono ?_; rintro e w8 ⟨rfl, HZ8⟩))
      refine bodyPost_ret (v := .tuple #[]) (results_none Tryz.results30 _ _ _) rfl ?_
      exact ⟨rfl, _, zoo_24 (r := r) (Zoo.tail (unhide HZ8))⟩
end
end
/- The desk's teller, which chooses one; by its contract. -/
section
open Go.RowKit
attribute [local go_sem ↓] Go.wp_at_zero Go.wp_at_succ

/-- Which of the tellers a kind of steps has. -/
def tfn (k : Int) : Nat := if k = 2 then 54 else if k = 5 then 56 else if k = 6 ∨ k = 8 ∨ k = 10 then 58 else 59
set_option maxHeartbeats 1000000 in
theorem dteller (d : Nat) (k : Int) (w : World) :
    Calls Tryz.prog 31 #[.pointer (some ⟨d, 0, none⟩), .int .i64 k] w fun e w' => e = .returned (.func (.func (tfn k)) #[] #[.pointer (some ⟨w.heap.size, 0, none⟩)]) ∧ w' = w.alloc (.cells #[.pointer (some ⟨d, 0, none⟩)] 25) := by
  obtain ⟨f, hf⟩ : ∃ f, tfn k = f := ⟨_, rfl⟩
  have HF := hide hf
  rw [hf]
  clear hf
  go_enter Tryz.func31, Tryz.ntmps31
  by_cases h2 : k = 2
  · subst h2
    have e : f = _ := (unhide HF).symm
    subst e
    go_wp2_with fail
    go_ret
    exact ⟨rfl, rfl⟩
  by_cases h5 : k = 5
  · subst h5
    have e : f = _ := (unhide HF).symm
    subst e
    go_wp2_with fail
    go_ret
    exact ⟨rfl, rfl⟩
  by_cases h6 : k = 6
  · subst h6
    have e : f = _ := (unhide HF).symm
    subst e
    go_wp2_with fail
    go_ret
    exact ⟨rfl, rfl⟩
  by_cases h8 : k = 8
  · subst h8
    have e : f = _ := (unhide HF).symm
    subst e
    go_wp2_with fail
    go_ret
    exact ⟨rfl, rfl⟩
  by_cases h10 : k = 10
  · subst h10
    have e : f = _ := (unhide HF).symm
    subst e
    go_wp2_with fail
    go_ret
    exact ⟨rfl, rfl⟩
  have e : f = 59 := by rw [← unhide HF]; unfold tfn; rw [if_neg h2, if_neg h5, if_neg (by omega)]
  subst e
  go_wp2_with fail
  go_ret
  exact ⟨rfl, rfl⟩
end
/- What an event of a hall may be: small numbers, short values; how long what is told of it is. -/
section
open Go.RowKit

def Vsz (f : Nat → List Ver) : Prop := ∀ k, ∀ v ∈ f k, v.s.size ≤ 12
theorem vsz_pvers {vs : List Ver} (h : ∀ v ∈ vs, v.s.size ≤ 12) (x : Int) (t : Bool) (s : ByteArray) : ∀ v ∈ pvers vs x t s, v.s.size ≤ 12 := by
  unfold pvers
  split
  · rename_i hp
    intro v hv
    rcases List.mem_append.1 hv with e | e
    · exact h v e
    · rw [List.mem_singleton.1 e]
      have hc : chk t s = 0 := by
        unfold pcode at hp
        split at hp
        · assumption
        · exact hp
      exact (chk_zero hc).1
  · exact h
theorem vsz_wrs (x : Int) : ∀ (ps : List Ver) (f : Nat → List Ver), Vsz f → Vsz (YtldkeaeohceckadGreatDoor.wrs f x ps) := by
  intro ps
  induction ps with
  | nil => intro f h; exact h
  | cons p r ih =>
    intro f h
    refine ih _ (fun k v hv => ?_)
    unfold wr1 upd at hv
    split at hv
    · exact vsz_pvers (h _) x p.t p.s v hv
    · exact h k v hv
theorem vsz_wal : ∀ (xs : List (List Ver)) (f : Nat → List Ver) (n : Nat), Vsz f → Vsz (wal f n xs) := by
  intro xs
  induction xs with
  | nil => intro f n h; exact h
  | cons c r ih =>
    intro f n h
    refine ih _ _ ?_
    unfold wst
    split
    · exact vsz_wrs _ c f h
    · exact h
theorem vsz_wal0 (xs : List (List Ver)) : Vsz (wal0 xs) := vsz_wal xs _ 0 (fun k v hv => by rw [List.mem_singleton.1 hv]; decide)
theorem hinv_vsz {h : HSt} (hi : HInv h) {k : Nat} (hk : k < 8) : ∀ v ∈ h.f k, v.s.size ≤ 12 := by
  obtain ⟨d, _, e⟩ := hi.vi.sfx k hk
  rw [e]
  intro v hv
  exact vsz_wal0 h.cs k v (List.mem_of_mem_drop hv)
theorem vb_mem {vs : List Ver} {k : Nat} (h : ∀ v ∈ vs, v.s.size ≤ 12) : (vb vs k).size ≤ 12 := by
  unfold vb
  rw [List.getD_eq_getElem?_getD]
  cases hq : vs[k]? with
  | none => decide
  | some v => exact h v (List.mem_of_getElem? hq)
theorem tr_sz {h : HSt} (hi : HInv h) (k y : Int) : (tr h.f h.n k y).s.size ≤ 12 := by
  unfold tr
  split
  · rename_i hk
    have hk8 : k.toNat < 8 := by
      have := hk.1
      unfold keyB at this
      simp at this
      omega
    unfold rd3
    split
    · decide
    · split
      · decide
      · exact vb_mem (hinv_vsz hi hk8)
  · decide
theorem lw_sz {ws : List Ver} (h : WOk ws) {k : Int} {v : Ver} : ∀ i, lw ws k i = some v → v.s.size ≤ 12 := by
  intro i
  induction i with
  | zero => intro e; cases e
  | succ i ih =>
    intro e
    unfold lw at e
    split at e
    · cases e
      exact vb_mem (fun p hp => (chk_zero (h p hp).2.2).1)
    · exact ih e
theorem dg_sz {h : HSt} (hi : HInv h) {s : Nat} {d : Dp} (hs : h.seat s = some d) (k : Int) : (dg h.f h.n d.y d.ws k).s.size ≤ 12 := by
  unfold dg
  split
  · cases hl : lwr d.ws k with
    | none => exact tr_sz hi k d.y
    | some v =>
      have := lw_sz (v := v) (hi.ok s d hs) _ hl
      exact this
  · decide
theorem dgo_ok {h : HSt} (hi : HInv h) {s : Nat} {d : Dp} (hs : h.seat s = some d) : ∀ (m k : Nat) (acc : List Ver) (rs : List Int), k + m ≤ 9 → (∀ p ∈ acc, p.s.size ≤ 12 ∧ 0 ≤ p.a ∧ p.a ≤ 9) → ∀ p ∈ (dgo h.f h.n d.y d.ws k m acc rs).1, p.s.size ≤ 12 ∧ 0 ≤ p.a ∧ p.a ≤ 9 := by
  intro m
  induction m with
  | zero => intro k acc rs _ ha; exact ha
  | succ m ih =>
    intro k acc rs hk ha
    unfold dgo
    split
    · split
      · refine ih _ _ _ (by omega) (fun p hp => ?_)
        rcases List.mem_append.1 hp with e | e
        · exact ha p e
        · rw [List.mem_singleton.1 e]
          exact ⟨dg_sz hi hs k, by show (0 : Int) ≤ (k : Int); omega, by show (k : Int) ≤ 9; omega⟩
      · exact ih _ _ _ (by omega) ha
    · intro p hp; simp at hp
theorem len_41 {h : HSt} (hi : HInv h) {k : Nat} (hk : k < 8) : (h.f k).length ≤ 41 := by
  have h1 := hi.inv.pos k hk
  have h2 := hi.inv.hi k hk
  have h3 := rise_ge (hi.inv.rise k hk) (hi.inv.lo k hk) ((h.f k).length - 1) (by omega)
  have h4 := hi.inv.n40
  omega
theorem cln_small {h : HSt} (hi : HInv h) (y : Int) : ∀ m, m ≤ 8 → cln h.f y m ≤ m * 41 := by
  intro m
  induction m with
  | zero => intro _; exact Nat.le_refl _
  | succ m ih =>
    intro hm
    have h1 := ih (by omega)
    have h2 := cd_lt y (hi.inv.rise m (by omega)) (hi.inv.pos m (by omega))
    have h3 := len_41 hi (k := m) (by omega)
    simp only [cln]
    omega
theorem pf_small : ∀ (ps : List Ver) (a : Int), 0 ≤ pf a ps ∧ pf a ps ≤ 9 := by
  intro ps
  induction ps with
  | nil => intro a; exact ⟨Int.le_refl _, by show (0 : Int) ≤ 9; decide⟩
  | cons p r ih =>
    intro a
    unfold pf
    split
    · exact ⟨by decide, by decide⟩
    · split
      · exact ⟨by decide, by decide⟩
      · split
        · exact ih _
        · unfold chk; split
          · exact ⟨by decide, by decide⟩
          · split <;> exact ⟨by decide, by decide⟩
theorem lcode_small (cs : List (List Ver)) (ps : List Ver) : 0 ≤ lcode cs ps ∧ lcode cs ps ≤ 9 := by
  unfold lcode
  split
  · split <;> exact ⟨by decide, by decide⟩
  · exact pf_small ps _
theorem vcode_small (f : Nat → List Ver) (cs : List (List Ver)) (md y : Int) (rs : List Int) (ws : List Ver) : 0 ≤ vcode f cs md y rs ws ∧ vcode f cs md y rs ws ≤ 12 := by
  have h1 : 0 ≤ dm f md y rs ws ∧ dm f md y rs ws ≤ 12 := by unfold dm; split; exact ⟨by decide, by decide⟩; split <;> exact ⟨by decide, by decide⟩
  unfold vcode
  split
  · split
    · exact ⟨by decide, by decide⟩
    · have := lcode_small cs (wk ws 8); omega
  · exact h1
theorem dpc_small (md k : Int) (t : Bool) (s : ByteArray) : 0 ≤ dpc md k t s ∧ dpc md k t s ≤ 12 := by
  unfold dpc
  split
  · split
    · exact ⟨by decide, by decide⟩
    · unfold chk; split
      · exact ⟨by decide, by decide⟩
      · split <;> exact ⟨by decide, by decide⟩
  · exact ⟨by decide, by decide⟩
theorem bcode_small (f : Nat → List Ver) (n : Nat) (md y : Int) : 0 ≤ bcode f n md y ∧ bcode f n md y ≤ 12 := by
  unfold bcode
  split
  · split
    · split
      · exact ⟨by decide, by decide⟩
      · split <;> exact ⟨by decide, by decide⟩
    · exact ⟨by decide, by decide⟩
  · exact ⟨by decide, by decide⟩
/-- A small event. -/
structure EvS (v : Ev) : Prop where
  c0 : 0 ≤ v.c
  c1 : v.c ≤ 12
  n0 : 0 ≤ v.n
  n1 : v.n ≤ 1000
  s : v.s.size ≤ 12
  l : ∀ p ∈ v.l, p.s.size ≤ 12 ∧ 0 ≤ p.a ∧ p.a ≤ 9
  len : v.l.length ≤ 8
theorem evs_c {c : Int} (h : 0 ≤ c ∧ c ≤ 12) : EvS (evc c) := ⟨h.1, h.2, Int.le_refl _, by show (0 : Int) ≤ 1000; decide, Nat.zero_le _, (by intro p hp; cases hp), Nat.zero_le _⟩
theorem evs_n {c n : Int} (h : 0 ≤ c ∧ c ≤ 12) (hn : 0 ≤ n ∧ n ≤ 1000) : EvS (evn c n) := ⟨h.1, h.2, hn.1, hn.2, Nat.zero_le _, (by intro p hp; cases hp), Nat.zero_le _⟩
theorem hev_small {h : HSt} (hi : HInv h) (x : HStep) : EvS (hev h x) := by
  have hn40 := hi.inv.n40
  unfold hev
  by_cases h1 : x.d < 1 ∨ 10 < x.d
  · rw [if_pos h1]; exact evs_c ⟨by decide, by decide⟩
  rw [if_neg h1]
  by_cases h2 : x.d = 8
  · rw [if_pos h2]
    have := cln_small hi (least h.n h.seat 5) 8 (Nat.le_refl _)
    exact evs_n ⟨by decide, by decide⟩ ⟨by omega, by omega⟩
  rw [if_neg h2]
  by_cases h3 : x.d = 9
  · rw [if_pos h3]; exact evs_c ⟨by decide, by decide⟩
  rw [if_neg h3]
  by_cases h4 : ¬ (0 ≤ x.s ∧ x.s < 5)
  · rw [if_pos h4]; exact evs_c ⟨by decide, by decide⟩
  rw [if_neg h4]
  cases hs : h.seat x.s.toNat with
  | none =>
    dsimp only
    by_cases h5 : x.d = 1
    · rw [if_pos h5]; exact evs_c (bcode_small _ _ _ _)
    · rw [if_neg h5]; exact evs_c ⟨by decide, by decide⟩
  | some d =>
    dsimp only
    by_cases h5 : x.d = 1
    · rw [if_pos h5]; exact evs_c ⟨by decide, by decide⟩
    rw [if_neg h5]
    by_cases h6 : x.d = 2
    · rw [if_pos h6]
      have q1 := tr_a_known hi hs x.key
      refine ⟨?_, ?_, Int.le_refl _, by show (0 : Int) ≤ 1000; decide, dg_sz hi hs x.key, (by intro p hp; cases hp), Nat.zero_le _⟩
      · show 0 ≤ (dg h.f h.n d.y d.ws x.key).a; omega
      · show (dg h.f h.n d.y d.ws x.key).a ≤ 12; omega
    rw [if_neg h6]
    by_cases h7 : x.d = 3
    · rw [if_pos h7]; exact evs_c (dpc_small _ _ _ _)
    rw [if_neg h7]
    by_cases h8 : x.d = 4
    · rw [if_pos h8]; exact evs_c (dpc_small _ _ _ _)
    rw [if_neg h8]
    by_cases h9 : x.d = 5
    · rw [if_pos h9]
      have q1 := dls_code hi hs x.key x.to_
      refine ⟨?_, ?_, Int.le_refl _, by show (0 : Int) ≤ 1000; decide, Nat.zero_le _, ?_, ?_⟩
      · show 0 ≤ (dls h.f h.n d.y d.ws d.rs x.key x.to_).2.1; omega
      · show (dls h.f h.n d.y d.ws d.rs x.key x.to_).2.1 ≤ 12; omega
      · show ∀ p ∈ (dls h.f h.n d.y d.ws d.rs x.key x.to_).1, _
        unfold dls
        by_cases hk : keyB x.key = true ∧ keyB x.to_ = true
        · rw [if_pos hk]
          have k1 := hk.1
          have k2 := hk.2
          unfold keyB at k1 k2
          simp at k1 k2
          exact dgo_ok hi hs _ _ _ _ (by omega) (by intro p hp; cases hp)
        · rw [if_neg hk]; exact (by intro p hp; cases hp)
      · show (dls h.f h.n d.y d.ws d.rs x.key x.to_).1.length ≤ 8
        unfold dls
        by_cases hk : keyB x.key = true ∧ keyB x.to_ = true
        · rw [if_pos hk]
          have k1 := hk.1
          have k2 := hk.2
          unfold keyB at k1 k2
          simp at k1 k2
          have := dgo_len8 (f := h.f) (n := h.n) (y := d.y) (ws := d.ws) (x.to_ + 1 - x.key).toNat x.key.toNat [] d.rs
          simp at this
          omega
        · rw [if_neg hk]; exact Nat.zero_le _
    rw [if_neg h9]
    by_cases h10 : x.d = 6
    · rw [if_pos h10]
      refine evs_n (vcode_small _ _ _ _ _ _) ?_
      unfold vnum
      by_cases hv : vdone h.f h.cs d.md d.y d.rs d.ws = true
      · rw [if_pos hv]; omega
      · rw [if_neg hv]; omega
    rw [if_neg h10]
    by_cases h11 : x.d = 10
    · rw [if_pos h11]
      refine evs_n (vcode_small _ _ _ _ _ _) ?_
      unfold tnum
      have hl := hi.li.n40
      rcases tcs_cases (f := h.f) (cs := h.cs) (md := d.md) (y := d.y) (rs := d.rs) (ws := d.ws) (keep := x.keep) with e | ⟨e, _⟩
      · rw [e, if_neg (by omega)]; omega
      · rw [e, if_pos (by simp)]; simp; omega
    · rw [if_neg h11]; exact evs_c ⟨by decide, by decide⟩
theorem EvS.ok {v : Ev} (h : EvS v) : EvOk v := ⟨by have := h.s; omega, fun p hp => by have := h.l p hp; omega, h.len, by have := h.n0; omega, by have := h.n1; omega, by have := h.c0; omega, by have := h.c1; omega⟩
end
/- The desk's step, whichever its kind; what is seen of a hall behind a desk. -/
section
open Go.RowKit

theorem zoo_less {w0 w : World} {l1 r : List Thing} : ∀ {r' : List Thing}, Zoo w0 w (l1 ++ (r' ++ r)) → Zoo w0 w (l1 ++ r)
  | [], h => h
  | _ :: r', h => zoo_less (r' := r') (Zoo.drop_ h)
section
variable {w0 w : World} {r : List Thing} {d hb q : Nat} {bs : List UInt8} {h : HSt}
theorem hal_hinv {w0 w : World} {hb : Nat} {h : HSt} {r : List Thing} (hz : Zoo w0 w (HalT hb h :: r)) : HInv h := by
  obtain ⟨vb, tb, gb, st, _, hi, _⟩ := hal_open hz
  exact hi
theorem dstep (x : HStep) (hsz : x.b.size ≤ maxLen) (hg : Gnd w0) (hz : Zoo w0 w (HalT hb h :: BoxT q #[.pointer (some ⟨d, 0, none⟩)] 25 :: DskT d hb bs :: r)) (hlen : bs.length + (say (tell x.d (hev h x))).length ≤ 100000) :
    Calls Tryz.prog 30 #[.pointer (some ⟨d, 0, none⟩), .agg #[.int .i64 x.d, .int .i64 x.s, .int .i64 x.md, .int .i64 x.at_, .int .i64 x.key, .int .i64 x.to_, .int .i64 x.keep, .string x.b], .func (.func (tfn x.d)) #[] #[.pointer (some ⟨q, 0, none⟩)]] w fun e w' => e = .returned (.tuple #[]) ∧ Hid (Zoo w0 w' (HalT hb (hdo h x) :: DskT d hb (bs ++ say (tell x.d (hev h x))) :: r)) := by
  have hv := (hev_small (hal_hinv hz) x).ok
  have fin : ∀ {w' : World} {bs' : List UInt8}, Hid (∃ r', Zoo w0 w' (HalT hb (hdo h x) :: BoxT q #[.pointer (some ⟨d, 0, none⟩)] 25 :: DskT d hb bs' :: r' ++ r)) → Hid (Zoo w0 w' (HalT hb (hdo h x) :: DskT d hb bs' :: r)) := by
    rintro w' bs' ⟨r', h1⟩
    exact zoo_less (l1 := [_, _]) (r' := r') (Zoo.drop_ (l1 := [_]) h1)
  by_cases h2 : x.d = 2
  · have e1 : tfn x.d = 54 := by unfold tfn; rw [if_pos h2]
    have e2 : tell x.d (hev h x) = if (hev h x).c ≠ 0 then [[110, 111], Lib.itoa (hev h x).c] else [[104, 97, 115], vtx (hev h x).t (hev h x).s] := by unfold tell telk; rw [if_pos h2]
    rw [e2] at hlen ⊢
    rw [e1]
    exact (dstep1 x hsz hg hv hz hlen).mono (fun e w' hh => ⟨hh.1, fin hh.2⟩)
  by_cases h5 : x.d = 5
  · have e1 : tfn x.d = 56 := by unfold tfn; rw [if_neg h2, if_pos h5]
    have e2 : tell x.d (hev h x) = if (hev h x).c ≠ 0 then [[110, 111], Lib.itoa (hev h x).c] else [97, 108, 108] :: (hev h x).l.map pvx := by unfold tell telk; rw [if_neg h2, if_pos h5]
    rw [e2] at hlen ⊢
    rw [e1]
    exact (dstep2 x hsz hg hv hz hlen).mono (fun e w' hh => ⟨hh.1, fin hh.2⟩)
  by_cases h6 : x.d = 6 ∨ x.d = 8 ∨ x.d = 10
  · have e1 : tfn x.d = 58 := by unfold tfn; rw [if_neg h2, if_neg h5, if_pos h6]
    have e2 : tell x.d (hev h x) = if (hev h x).c ≠ 0 then [[110, 111], Lib.itoa (hev h x).c] else [[111, 107], Lib.itoa (hev h x).n] := by unfold tell telk; rw [if_neg h2, if_neg h5, if_pos h6]
    rw [e2] at hlen ⊢
    rw [e1]
    exact (dstep3 x hsz hg hv hz hlen).mono (fun e w' hh => ⟨hh.1, fin hh.2⟩)
  · have e1 : tfn x.d = 59 := by unfold tfn; rw [if_neg h2, if_neg h5, if_neg h6]
    have e2 : tell x.d (hev h x) = if (hev h x).c ≠ 0 then [[110, 111], Lib.itoa (hev h x).c] else [[111, 107]] := by unfold tell telk; rw [if_neg h2, if_neg h5, if_neg h6]
    rw [e2] at hlen ⊢
    rw [e1]
    exact (dstep4 x hsz hg hv hz hlen).mono (fun e w' hh => ⟨hh.1, fin hh.2⟩)
theorem hal_nums {h : HSt} (hi : HInv h) : (h.n : Int) ≤ 40 ∧ 0 ≤ fmx h.f 8 ∧ fmx h.f 8 ≤ 40 ∧ 0 ≤ least h.n h.seat 5 ∧ least h.n h.seat 5 ≤ 40 := by
  have h1 := hi.inv.n40
  have h2 := fmx_le hi.inv 8 (Nat.le_refl _)
  have h3 := (least_le h.n h.seat 5).1
  have h4 := least_ge (z := 0) (n := h.n) (seat := h.seat) (by omega) (fun s d hs => by have := (hi.known s d hs).1; omega) 5
  omega
end
end
/- The desk's doLine: what a line leaves and tells, by its contract. -/
section
open Go.RowKit
attribute [local go_sem ↓] Go.wp_at_zero Go.wp_at_succ

theorem put1_sz {x y : HStep} {c : UInt8} {v : List UInt8} (h : put1 x c v = some y) (hx : x.b.size ≤ 10000) (hv : v.length ≤ 10000) : y.b.size ≤ 10000 := by
  unfold put1 at h
  have hm : ∀ (g : Int → HStep) (o : Option Int), o.map g = some y → (∀ z, (g z).b = x.b) → y.b.size ≤ 10000 := by
    intro g o ho hg
    cases o with
    | none => cases ho
    | some z => cases ho; rw [hg z]; exact hx
  by_cases h1 : c = 83
  · rw [if_pos h1] at h; exact hm _ _ h (fun _ => rfl)
  rw [if_neg h1] at h
  by_cases h2 : c = 65
  · rw [if_pos h2] at h; exact hm _ _ h (fun _ => rfl)
  rw [if_neg h2] at h
  by_cases h3 : c = 75
  · rw [if_pos h3] at h; exact hm _ _ h (fun _ => rfl)
  rw [if_neg h3] at h
  by_cases h4 : c = 84
  · rw [if_pos h4] at h; exact hm _ _ h (fun _ => rfl)
  rw [if_neg h4] at h
  by_cases h5 : c = 78
  · rw [if_pos h5] at h; exact hm _ _ h (fun _ => rfl)
  rw [if_neg h5] at h
  by_cases h6 : c = 66
  · rw [if_pos h6] at h
    cases hb : bts v with
    | none => rw [hb] at h; cases h
    | some b =>
      rw [hb] at h
      cases h
      show (ByteArray.mk b.toArray).size ≤ 10000
      rw [size8]
      cases v with
      | nil => cases hb
      | cons c0 r =>
        unfold bts at hb
        dsimp only at hb
        by_cases hc : c0 = 61
        · rw [if_pos hc] at hb
          have := mn_len hb
          simp at hv
          omega
        · rw [if_neg hc] at hb; cases hb
  · rw [if_neg h6] at h; cases h
theorem fgo_sz : ∀ (ls : List UInt8) (ws : List (List UInt8)) (x y : HStep), fgo x ls ws = some y → x.b.size ≤ 10000 → (∀ v ∈ ws, v.length ≤ 10000) → y.b.size ≤ 10000
  | [], ws, x, y, h, hx, _ => by rw [fgo_nil] at h; cases h; exact hx
  | _ :: _, [], x, y, h, hx, _ => by
    unfold fgo at h
    cases h; exact hx
  | c :: cs, v :: ws, x, y, h, hx, hw => by
    unfold fgo at h
    cases hp : put1 x c v with
    | none => rw [hp] at h; cases h
    | some z =>
      rw [hp] at h
      exact fgo_sz cs ws z y h (put1_sz hp hx (hw v (by simp))) (fun v hv => hw v (by simp [hv]))
theorem rdg_sz : ∀ (os : List Od) (nm : List UInt8) (ws : List (List UInt8)) (y : HStep), rdg nm ws os = some y → (∀ v ∈ ws, v.length ≤ 10000) → y.b.size ≤ 10000
  | [], _, _, _, h, _ => by cases h
  | o :: r, nm, ws, y, h, hw => by
    unfold rdg at h
    split at h
    · exact fgo_sz _ _ _ _ h (Nat.zero_le _) hw
    · exact rdg_sz r nm ws y h hw
theorem rdl_sz {nm : List UInt8} {ws : List (List UInt8)} {y : HStep} (h : rdl nm ws = some y) (hw : ∀ v ∈ ws, v.length ≤ 10000) : y.b.size ≤ 10000 := rdg_sz ods nm ws y h hw
theorem wgo_len : ∀ (l cur : List UInt8) (v : List UInt8), v ∈ wgo cur l → v.length ≤ cur.length + l.length
  | [], cur, v, h => by
    unfold wgo at h
    split at h
    · cases h
    · rw [List.mem_singleton.1 h]; omega
  | c :: r, cur, v, h => by
    unfold wgo at h
    split at h
    · split at h
      · have := wgo_len r [] v h; simp at *; omega
      · rcases List.mem_cons.1 h with e | e
        · rw [e]; omega
        · have := wgo_len r [] v e; simp at *; omega
    · have := wgo_len r (cur ++ [c]) v h; simp at *; omega
theorem wrd_tail {w : World} {g o cap : Nat} {nm : List UInt8} {rt : List (List UInt8)} (hc : ∀ k l, (nm :: rt)[k]? = some l → w.cell? ⟨g, o + k, none⟩ = some (.string ⟨l.toArray⟩)) (hcap : rt.length + 1 ≤ cap) : Wrd w (if cap = 1 then some ⟨g, o, none⟩ else some ⟨g, o + 1, none⟩) rt := fun hp => by
  rw [if_neg (by omega)]
  refine ⟨g, o + 1, rfl, fun k l hl => ?_⟩
  have := hc (k + 1) l (by simpa using hl)
  rwa [show o + 1 + k = o + (k + 1) by omega]
theorem zoo_p4 {w0 w : World} {q p H D : Thing} {r : List Thing} (h : Zoo w0 w (q :: p :: H :: D :: r)) : Zoo w0 w (H :: q :: D :: p :: r) :=
  (h.perm (List.perm_middle (l₁ := [q, p]) (a := H) (l₂ := D :: r))).perm (((List.Perm.swap D p r).cons q).cons H)
theorem wds_len {l v : List UInt8} (h : v ∈ wds l) : v.length ≤ l.length := by have := wgo_len l [] v h; simpa using this
section
variable {w0 w : World} {r : List Thing} {d hb : Nat} {bs : List UInt8} {h : HSt}
set_option maxHeartbeats 16000000 in
theorem doline (l : List UInt8) (hl : l.length ≤ 10000) (hg : Gnd w0) (hz : Zoo w0 w (HalT hb h :: DskT d hb bs :: r)) (hlen : bs.length + (dln h l).2.length ≤ 100000) :
    Calls Tryz.prog 15 #[.pointer (some ⟨d, 0, none⟩), .string ⟨l.toArray⟩] w fun e w' => e = .returned (.tuple #[]) ∧ Hid (Zoo w0 w' (HalT hb (dln h l).1 :: DskT d hb (bs ++ (dln h l).2) :: r)) := by
  have HC := hide (dcut l w (gnd_kp hg hz.kp) hl)
  have HZ := hide hz
  have HG := hide hg
  have hwl : ∀ v ∈ wds l, v.length ≤ 10000 := fun v hv => Nat.le_trans (wds_len hv) hl
  obtain ⟨h2, t2, hd2⟩ : ∃ h2 t2, dln h l = (h2, t2) := ⟨_, _, rfl⟩
  rw [hd2] at hlen ⊢
  dsimp only at hlen ⊢
  clear hz hg hl
  cases hws : wds l with
  | nil =>
    have hdl : dln h l = (h, []) := by unfold dln; rw [hws]
    rw [hd2] at hdl
    cases hdl
    go_enter Tryz.func15, Tryz.ntmps15
    go_wp2_with (go_at_call 23; refine (unhide HC).mono ?_; rintro e w1 ⟨ws, a, cap, hw1, rfl, hr1, hk1⟩; rw [hws] at hw1; subst hw1; have HZ1 := hide ((unhide HZ).kp0 hk1); clear hr1 hk1)
    refine bodyPost_ret (v := .tuple #[]) (results_none Tryz.results15 _ _ _) rfl ?_
    exact ⟨rfl, by rw [List.append_nil]; exact HZ1⟩
  | cons nm rs =>
    by_cases hlast : nm = [108, 97, 115, 116] ∧ rs = []
    · obtain ⟨rfl, rfl⟩ := hlast
      have hdl : dln h l = (h, say [[108, 97, 115, 116], Lib.itoa h.n, Lib.itoa (fmx h.f 8), Lib.itoa (least h.n h.seat 5)]) := by unfold dln; rw [hws]; rfl
      rw [hd2] at hdl
      cases hdl
      obtain ⟨b1, b2, b3, b4, b5⟩ := hal_nums (hal_hinv (unhide HZ))
      have hnn : (0 : Int) ≤ (h.n : Int) := by omega
      obtain ⟨zn, hzn⟩ : ∃ z, (h.n : Int) = z := ⟨_, rfl⟩
      obtain ⟨zf, hzf⟩ : ∃ z, fmx h.f 8 = z := ⟨_, rfl⟩
      obtain ⟨zl, hzl⟩ : ∃ z, least h.n h.seat 5 = z := ⟨_, rfl⟩
      rw [hzn, hzf, hzl] at hlen ⊢
      rw [hzn] at b1 hnn
      rw [hzf] at b2 b3
      rw [hzl] at b4 b5
      have HZN := hide hzn
      have HZF := hide hzf
      have HZL := hide hzl
      clear hzn hzf hzl
      go_enter Tryz.func15, Tryz.ntmps15
      go_wp2_with (go_at_call 23; refine (unhide HC).mono ?_; rintro e w1 ⟨ws, a, cap, hw1, rfl, hr1, hk1⟩; rw [hws] at hw1; subst hw1; obtain ⟨g, o, rfl, hc1⟩ := krow_wrd hr1 (by simp); have c1 : w1.cell? ⟨g, o, none⟩ = some (.string ⟨#[108, 97, 115, 116]⟩) := hc1 0 _ rfl; have HZ1 := hide ((unhide HZ).kp0 hk1); obtain ⟨vb, tb, gb, st, hst, hi, hl⟩ := hal_open (unhide HZ1); have d1 := hl.c0; have d2 := hl.v0; have L1 := hide (fun W hk => h_last (hl.kp0 (w' := W) hk)); have L2 := hide (fun W hk => h_first (hl.kp0 (w' := W) hk)); have L3 := hide (fun W hk => h_least hst (hl.kp0 (w' := W) hk)); rw [unhide HZN] at L1; rw [unhide HZF] at L2; rw [unhide HZL] at L3; have HL := hide hl; have HST := hide hst; have HI := hide hi; have d0 := dsk_cell (l1 := [_]) (unhide HZ1); clear hr1 hk1 hc1 hl hst hi)
      clear c1 hws
      refine wp_region_held_drew (S := fun w' => w'.cell? ⟨d, 2, none⟩ = some (.pointer (some ⟨hb, 0, none⟩)) ∧ w'.cell? ⟨hb, 0, none⟩ = some (.pointer (some ⟨vb, 0, none⟩)) ∧ w'.cell? ⟨vb, 0, none⟩ = some (.pointer (some ⟨tb, 0, none⟩))) (by kernel_rfl) (And.intro (((Kp.refl [] w1).drew).cell (by simp) d0) (And.intro (((Kp.refl [] w1).drew).cell (by simp) d1) (((Kp.refl [] w1).drew).cell (by simp) d2))) (fun hHeld => ?_)
      have HK0 := hide ((Kp.refl [] w1).drew)
      generalize World.drew _ = WD at HK0 hHeld ⊢
      refine wpAnyH_tk (i := 0) (v := ?_) rfl (by kernel_rfl) (by kernel_rfl) (by kernel_rfl) (fun _ _ _ h => h) (Or.inl ⟨by rfl, ?_⟩) hHeld ?_
      rotate_left
      · intro w hSw
        try dsimp only at hSw
        go_simp
        try with_reducible rfl
      try simp only [Act.put, List.setIfInBounds_toArray, List.set_cons_zero, List.set_cons_succ]
      refine wpAnyH_tk (i := 1) (v := ?_) rfl (by kernel_rfl) (by kernel_rfl) (by kernel_rfl) (fun _ _ _ h => h) (Or.inl ⟨by rfl, ?_⟩) hHeld ?_
      rotate_left
      · intro w hSw
        try dsimp only at hSw
        go_simp
        try with_reducible rfl
      try simp only [Act.put, List.setIfInBounds_toArray, List.set_cons_zero, List.set_cons_succ]
      refine wpAnyH_tk (i := 2) (v := ?_) rfl (by kernel_rfl) (by kernel_rfl) (by kernel_rfl) (fun _ _ _ h => h) (Or.inl ⟨by rfl, ?_⟩) hHeld ?_
      rotate_left
      · intro w hSw
        try dsimp only at hSw
        go_simp
        try with_reducible rfl
      try simp only [Act.put, List.setIfInBounds_toArray, List.set_cons_zero, List.set_cons_succ]
      refine wpAnyH_tk (i := 3) (v := ?_) rfl (by kernel_rfl) (by kernel_rfl) (by kernel_rfl) (fun _ _ _ h => h) (Or.inl ⟨by rfl, ?_⟩) hHeld ?_
      rotate_left
      · intro w hSw
        try dsimp only at hSw
        go_simp
        try with_reducible rfl
      try simp only [Act.put, List.setIfInBounds_toArray, List.set_cons_zero, List.set_cons_succ]
      refine wpAnyH_tk (i := 4) (v := ?_) rfl (by kernel_rfl) (by kernel_rfl) (by kernel_rfl) (fun _ _ _ h => h) (Or.inl ⟨by rfl, ?_⟩) hHeld ?_
      rotate_left
      · intro w hSw
        try dsimp only at hSw
        go_simp
        try with_reducible rfl
      try simp only [Act.put, List.setIfInBounds_toArray, List.set_cons_zero, List.set_cons_succ]
      refine wpAnyH_tk (i := 5) (v := ?_) rfl (by kernel_rfl) (by kernel_rfl) (by kernel_rfl) (fun _ _ _ h => h) (Or.inl ⟨by rfl, ?_⟩) hHeld ?_
      rotate_left
      · intro w hSw
        try dsimp only at hSw
        go_simp
        try with_reducible rfl
      try simp only [Act.put, List.setIfInBounds_toArray, List.set_cons_zero, List.set_cons_succ]
      refine wpAnyH_tk (i := 6) (v := ?_) rfl (by kernel_rfl) (by kernel_rfl) (by kernel_rfl) (fun _ _ _ h => h) (Or.inl ⟨by rfl, ?_⟩) hHeld ?_
      rotate_left
      · intro w hSw
        try dsimp only at hSw
        go_simp
        try with_reducible rfl
      try simp only [Act.put, List.setIfInBounds_toArray, List.set_cons_zero, List.set_cons_succ]
      refine wpAnyH_tk (i := 7) (v := ?_) rfl (by kernel_rfl) (by kernel_rfl) (by kernel_rfl) (fun _ _ _ h => h) (Or.inl ⟨by rfl, ?_⟩) hHeld ?_
      rotate_left
      · intro w hSw
        try dsimp only at hSw
        go_simp
        try with_reducible rfl
      try simp only [Act.put, List.setIfInBounds_toArray, List.set_cons_zero, List.set_cons_succ]
      refine wpAnyH_tk (i := 8) (v := ?_) rfl (by kernel_rfl) (by kernel_rfl) (by kernel_rfl) (fun _ _ _ h => h) (Or.inl ⟨by rfl, ?_⟩) hHeld ?_
      rotate_left
      · intro w hSw
        try dsimp only at hSw
        go_simp
        try with_reducible rfl
      try simp only [Act.put, List.setIfInBounds_toArray, List.set_cons_zero, List.set_cons_succ]
      refine wpAnyH_tk (i := 9) (v := ?_) rfl (by kernel_rfl) (by kernel_rfl) (by kernel_rfl) (fun _ _ _ h => h) (Or.inl ⟨by rfl, ?_⟩) hHeld ?_
      rotate_left
      · intro w hSw
        try dsimp only at hSw
        go_simp
        try with_reducible rfl
      try simp only [Act.put, List.setIfInBounds_toArray, List.set_cons_zero, List.set_cons_succ]
      refine wpAnyH_tk (i := 10) (v := ?_) rfl (by kernel_rfl) (by kernel_rfl) (by kernel_rfl) (fun _ _ _ h => h) (Or.inl ⟨by rfl, ?_⟩) hHeld ?_
      rotate_left
      · intro w hSw
        try dsimp only at hSw
        go_simp
        try with_reducible rfl
      try simp only [Act.put, List.setIfInBounds_toArray, List.set_cons_zero, List.set_cons_succ]
      refine wpAnyH_tk (i := 13) (v := ?_) rfl (by kernel_rfl) (by kernel_rfl) (by kernel_rfl) (fun _ _ _ h => h) (Or.inl ⟨by rfl, ?_⟩) hHeld ?_
      rotate_left
      · intro w hSw
        try dsimp only at hSw
        go_simp
        try with_reducible rfl
      try simp only [Act.put, List.setIfInBounds_toArray, List.set_cons_zero, List.set_cons_succ]
      refine wpAnyH_tk (i := 14) (v := ?_) rfl (by kernel_rfl) (by kernel_rfl) (by kernel_rfl) (fun _ _ _ h => h) (Or.inl ⟨by rfl, ?_⟩) hHeld ?_
      rotate_left
      · intro w hSw
        try dsimp only at hSw
        go_simp
        try with_reducible rfl
      try simp only [Act.put, List.setIfInBounds_toArray, List.set_cons_zero, List.set_cons_succ]
      refine wpAnyH_tk (i := 15) (v := ?_) rfl (by kernel_rfl) (by kernel_rfl) (by kernel_rfl) (fun _ _ _ h => h) (Or.inl ⟨by rfl, ?_⟩) hHeld ?_
      rotate_left
      · intro w hSw
        try dsimp only at hSw
        go_simp
        try with_reducible rfl
      try simp only [Act.put, List.setIfInBounds_toArray, List.set_cons_zero, List.set_cons_succ]
      refine wpAnyH_tk (i := 16) (v := ?_) rfl (by kernel_rfl) (by kernel_rfl) (by kernel_rfl) (fun _ _ _ h => h) (Or.inl ⟨by rfl, ?_⟩) hHeld ?_
      rotate_left
      · intro w hSw
        try dsimp only at hSw
        go_simp
        try with_reducible rfl
      try simp only [Act.put, List.setIfInBounds_toArray, List.set_cons_zero, List.set_cons_succ]
      refine wpAnyH_tk (i := 17) (v := ?_) rfl (by kernel_rfl) (by kernel_rfl) (by kernel_rfl) (fun _ _ _ h => h) (Or.inl ⟨by rfl, ?_⟩) hHeld ?_
      rotate_left
      · intro w hSw
        try dsimp only at hSw
        go_simp
        try with_reducible rfl
      try simp only [Act.put, List.setIfInBounds_toArray, List.set_cons_zero, List.set_cons_succ]
      refine wpAnyH_tk (i := 18) (v := ?_) rfl (by kernel_rfl) (by kernel_rfl) (by kernel_rfl) (fun _ _ _ h => h) (Or.inl ⟨by rfl, ?_⟩) hHeld ?_
      rotate_left
      · intro w hSw
        try dsimp only at hSw
        go_simp
        try with_reducible rfl
      try simp only [Act.put, List.setIfInBounds_toArray, List.set_cons_zero, List.set_cons_succ]
      refine wpAnyH_tk (i := 19) (v := ?_) rfl (by kernel_rfl) (by kernel_rfl) (by kernel_rfl) (fun _ _ _ h => h) (Or.inl ⟨by rfl, ?_⟩) hHeld ?_
      rotate_left
      · intro w hSw
        try dsimp only at hSw
        go_simp
        try with_reducible rfl
      try simp only [Act.put, List.setIfInBounds_toArray, List.set_cons_zero, List.set_cons_succ]
      refine wpAnyH_tk (i := 20) (v := ?_) rfl (by kernel_rfl) (by kernel_rfl) (by kernel_rfl) (fun _ _ _ h => h) (Or.inl ⟨by rfl, ?_⟩) hHeld ?_
      rotate_left
      · intro w hSw
        try dsimp only at hSw
        go_simp
        try with_reducible rfl
      try simp only [Act.put, List.setIfInBounds_toArray, List.set_cons_zero, List.set_cons_succ]
      refine wpAnyH_tk (i := 21) (v := ?_) rfl (by kernel_rfl) (by kernel_rfl) (by kernel_rfl) (fun _ _ _ h => h) (Or.inl ⟨by rfl, ?_⟩) hHeld ?_
      rotate_left
      · intro w hSw
        try dsimp only at hSw
        go_simp
        try with_reducible rfl
      try simp only [Act.put, List.setIfInBounds_toArray, List.set_cons_zero, List.set_cons_succ]
      refine wpAnyH_tk (i := 22) (v := ?_) rfl (by kernel_rfl) (by kernel_rfl) (by kernel_rfl) (fun _ _ _ h => h) (Or.inl ⟨by rfl, ?_⟩) hHeld ?_
      rotate_left
      · intro w hSw
        try dsimp only at hSw
        go_simp
        try with_reducible rfl
      try simp only [Act.put, List.setIfInBounds_toArray, List.set_cons_zero, List.set_cons_succ]
      refine wpAnyH_tk (i := 25) (v := ?_) rfl (by kernel_rfl) (by kernel_rfl) (by kernel_rfl) (fun _ _ _ h => h) (Or.inl ⟨by rfl, ?_⟩) hHeld ?_
      rotate_left
      · intro w hSw
        try dsimp only at hSw
        go_simp
        try with_reducible rfl
      try simp only [Act.put, List.setIfInBounds_toArray, List.set_cons_zero, List.set_cons_succ]
      refine wpAnyH_tk (i := 26) (v := ?_) rfl (by kernel_rfl) (by kernel_rfl) (by kernel_rfl) (fun _ _ _ h => h) (Or.inl ⟨by rfl, ?_⟩) hHeld ?_
      rotate_left
      · intro w hSw
        try dsimp only at hSw
        go_simp
        try with_reducible rfl
      try simp only [Act.put, List.setIfInBounds_toArray, List.set_cons_zero, List.set_cons_succ]
      refine wpAnyH_tk (i := 27) (v := ?_) rfl (by kernel_rfl) (by kernel_rfl) (by kernel_rfl) (fun _ _ _ h => h) (Or.inl ⟨by rfl, ?_⟩) hHeld ?_
      rotate_left
      · intro w hSw
        try dsimp only at hSw
        go_simp
        try with_reducible rfl
      try simp only [Act.put, List.setIfInBounds_toArray, List.set_cons_zero, List.set_cons_succ]
      refine wpAnyH_tk (i := 28) (v := ?_) rfl (by kernel_rfl) (by kernel_rfl) (by kernel_rfl) (fun _ _ _ h => h) (Or.inl ⟨by rfl, ?_⟩) hHeld ?_
      rotate_left
      · intro w hSw
        try dsimp only at hSw
        go_simp
        try with_reducible rfl
      try simp only [Act.put, List.setIfInBounds_toArray, List.set_cons_zero, List.set_cons_succ]
      refine wpAnyH_only (i := 11) rfl (by kernel_rfl) (fun K hK => ?_)
      go_simp
      refine (unhide L1 _ (unhide HK0)).mono ?_
      rintro e wx ⟨rfl, hwx⟩
      subst hwx
      go_wp2_with fail
      refine hK.out _ _ ((And.intro ((unhide HK0).cell (by simp) d0) (And.intro ((unhide HK0).cell (by simp) d1) ((unhide HK0).cell (by simp) d2)))) (fun hHeld2 => ?_)
      clear hK K hHeld
      have hHeld := hHeld2
      clear hHeld2
      try simp only [Act.put, List.setIfInBounds_toArray, List.set_cons_zero, List.set_cons_succ]
      refine wpAnyH_only (i := 12) rfl (by kernel_rfl) (fun K hK => ?_)
      go_simp
      refine (sitoa zn _ (gnd_kp (unhide HG) ((unhide HZ1).kp.trans0 (unhide HK0))) (by omega) (by omega)).mono ?_
      rintro e wHK1 ⟨rfl, hkx⟩
      have HK1 := hide ((unhide HK0).trans0 hkx)
      clear hkx
      go_wp2_with fail
      refine hK.out _ _ ((And.intro ((unhide HK1).cell (by simp) d0) (And.intro ((unhide HK1).cell (by simp) d1) ((unhide HK1).cell (by simp) d2)))) (fun hHeld2 => ?_)
      clear hK K hHeld
      have hHeld := hHeld2
      clear hHeld2
      try simp only [Act.put, List.setIfInBounds_toArray, List.set_cons_zero, List.set_cons_succ]
      refine wpAnyH_only (i := 23) rfl (by kernel_rfl) (fun K hK => ?_)
      go_simp
      refine (unhide L2 _ (unhide HK1)).mono ?_
      rintro e wx ⟨rfl, hwx⟩
      subst hwx
      go_wp2_with fail
      refine hK.out _ _ ((And.intro ((unhide HK1).cell (by simp) d0) (And.intro ((unhide HK1).cell (by simp) d1) ((unhide HK1).cell (by simp) d2)))) (fun hHeld2 => ?_)
      clear hK K hHeld
      have hHeld := hHeld2
      clear hHeld2
      try simp only [Act.put, List.setIfInBounds_toArray, List.set_cons_zero, List.set_cons_succ]
      refine wpAnyH_only (i := 24) rfl (by kernel_rfl) (fun K hK => ?_)
      go_simp
      refine (sitoa zf _ (gnd_kp (unhide HG) ((unhide HZ1).kp.trans0 (unhide HK1))) (by omega) (by omega)).mono ?_
      rintro e wHK2 ⟨rfl, hkx⟩
      have HK2 := hide ((unhide HK1).trans0 hkx)
      clear hkx
      go_wp2_with fail
      refine hK.out _ _ ((And.intro ((unhide HK2).cell (by simp) d0) (And.intro ((unhide HK2).cell (by simp) d1) ((unhide HK2).cell (by simp) d2)))) (fun hHeld2 => ?_)
      clear hK K hHeld
      have hHeld := hHeld2
      clear hHeld2
      try simp only [Act.put, List.setIfInBounds_toArray, List.set_cons_zero, List.set_cons_succ]
      refine wpAnyH_only (i := 29) rfl (by kernel_rfl) (fun K hK => ?_)
      go_simp
      refine (unhide L3 _ (unhide HK2)).mono ?_
      rintro e wx ⟨rfl, hwx⟩
      subst hwx
      go_wp2_with fail
      refine hK.out _ _ ((And.intro ((unhide HK2).cell (by simp) d0) (And.intro ((unhide HK2).cell (by simp) d1) ((unhide HK2).cell (by simp) d2)))) (fun hHeld2 => ?_)
      clear hK K hHeld
      have hHeld := hHeld2
      clear hHeld2
      try simp only [Act.put, List.setIfInBounds_toArray, List.set_cons_zero, List.set_cons_succ]
      refine wpAnyH_only (i := 30) rfl (by kernel_rfl) (fun K hK => ?_)
      go_simp
      refine (sitoa zl _ (gnd_kp (unhide HG) ((unhide HZ1).kp.trans0 (unhide HK2))) (by omega) (by omega)).mono ?_
      rintro e wHK3 ⟨rfl, hkx⟩
      have HK3 := hide ((unhide HK2).trans0 hkx)
      clear hkx
      go_wp2_with fail
      refine hK.out _ _ ((And.intro ((unhide HK3).cell (by simp) d0) (And.intro ((unhide HK3).cell (by simp) d1) ((unhide HK3).cell (by simp) d2)))) (fun hHeld2 => ?_)
      clear hK K hHeld
      have hHeld := hHeld2
      clear hHeld2
      try simp only [Act.put, List.setIfInBounds_toArray, List.set_cons_zero, List.set_cons_succ]
      refine wpAnyH_only (i := 31) rfl (by kernel_rfl) (fun K hK => ?_)
      go_simp
      have HA4 := hide (Zoo.box (show Zoo w0 wHK3 (BoxT hb (hcells vb st) 59 :: VltT vb tb gb h.f h.n h.cs [] :: (seats st ++ (DskT d hb bs :: r))) from (unhide HL).kp0 (unhide HK3)) #[.string ⟨#[108, 97, 115, 116]⟩, .string ⟨(Lib.itoa zn).toArray⟩, .string ⟨(Lib.itoa zf).toArray⟩, .string ⟨(Lib.itoa zl).toArray⟩] 9)
      have HK4 := hide ((unhide HK3).alloc (.cells #[.string ⟨#[108, 97, 115, 116]⟩, .string ⟨(Lib.itoa zn).toArray⟩, .string ⟨(Lib.itoa zf).toArray⟩, .string ⟨(Lib.itoa zl).toArray⟩] 9))
      refine hK.out _ _ ((And.intro ((unhide HK4).cell (by simp) d0) (And.intro ((unhide HK4).cell (by simp) d1) ((unhide HK4).cell (by simp) d2)))) (fun hHeld2 => ?_)
      clear hK K hHeld
      have hHeld := hHeld2
      clear hHeld2
      try simp only [Act.put, List.setIfInBounds_toArray, List.set_cons_zero, List.set_cons_succ]
      generalize wHK3.alloc (.cells #[.string ⟨#[108, 97, 115, 116]⟩, .string ⟨(Lib.itoa zn).toArray⟩, .string ⟨(Lib.itoa zf).toArray⟩, .string ⟨(Lib.itoa zl).toArray⟩] 9) = W6 at *
      generalize wHK3.heap.size = p6 at *
      refine wpAnyH_only (i := 32) rfl (by kernel_rfl) (fun K hK => ?_)
      go_simp
      refine (dsay (l1 := BoxT p6 #[.string ⟨#[108, 97, 115, 116]⟩, .string ⟨(Lib.itoa zn).toArray⟩, .string ⟨(Lib.itoa zf).toArray⟩, .string ⟨(Lib.itoa zl).toArray⟩] 9 :: BoxT hb (hcells vb st) 59 :: VltT vb tb gb h.f h.n h.cs [] :: seats st) (r := r) [[108, 97, 115, 116], Lib.itoa zn, Lib.itoa zf, Lib.itoa zl] 4 rfl _ 0 4 (unhide HA4) (cells_strs [[108, 97, 115, 116], Lib.itoa zn, Lib.itoa zf, Lib.itoa zl] (zoo_varm (unhide HA4) (List.Mem.head _)) rfl) (join_pos (by simp)) (by simp) (by simp) hlen).mono ?_
      rintro e w7 ⟨rfl, HZ7⟩
      have HH : Hall w0 w7 hb vb tb gb h st (DskT d hb (bs ++ say [[108, 97, 115, 116], Lib.itoa zn, Lib.itoa zf, Lib.itoa zl]) :: r) := Zoo.tail (unhide HZ7)
      go_wp2_with fail
      refine hK.out _ _ (And.intro (dsk_cell (unhide HZ7)) (And.intro HH.c0 HH.v0)) (fun hHeld2 => ?_)
      clear hK K hHeld
      have hHeld := hHeld2
      clear hHeld2
      try simp only [Act.put, List.setIfInBounds_toArray, List.set_cons_zero, List.set_cons_succ]
      refine wpAnyH_done (by kernel_rfl) ?_ _
      clear hHeld
      have HE := hide (hal_close (unhide HST) (unhide HI) HH)
      clear HH
      go_wp2_with fail
      refine bodyPost_ret (v := .tuple #[]) (results_none Tryz.results15 _ _ _) rfl ?_
      exact ⟨rfl, HE⟩
    · have hdl : dln h l = (match rdl nm rs with | none => (h, say [[119, 104, 97, 116]]) | some x => (hdo h x, say (tell x.d (hev h x)))) := by unfold dln; rw [hws]; dsimp only; rw [if_neg hlast]; rfl
      obtain ⟨rt, hrt⟩ : ∃ rt, rs.take 4 = rt := ⟨_, rfl⟩
      have hrd : rdl nm rt = rdl nm rs := by rw [← hrt]; exact rdl_take nm rs
      have hm4 : rt.length ≤ 4 := by rw [← hrt]; simp; omega
      have hrl : ∀ v ∈ rt, v.length ≤ 10000 := fun v hv => hwl v (by rw [hws]; rw [← hrt] at hv; simp [List.mem_of_mem_take hv])
      have hnl : nm.length ≤ 10000 := hwl nm (by rw [hws]; simp)
      have hrs : rs = [] → rt = [] := fun e => by rw [← hrt, e]; rfl
      have hrs2 : rt = [] → rs = [] := fun e => by
        cases rs with
        | nil => rfl
        | cons x y => rw [← hrt] at e; simp at e
      have htk : (wds l).take 5 = nm :: rt := by rw [hws, ← hrt]; rfl
      have HRD := hide hrd
      have HRL := hide hrl
      have HDL := hide hdl
      have HTK := hide htk
      have HLA := hide hlast
      have HR2 := hide hrs2
      have HD2 := hide hd2
      obtain ⟨m, hm⟩ : ∃ m, m = rt.length := ⟨_, rfl⟩
      have HM := hide hm
      rw [← hm] at hm4
      clear hrt hrd hrl hdl hrs htk hwl hlast hws hrs2 hd2 hm
      go_enter Tryz.func15, Tryz.ntmps15
      by_cases hm0 : m = 0
      · have hne : ¬ nm = [108, 97, 115, 116] := fun e => unhide HLA ⟨e, unhide HR2 (List.eq_nil_of_length_eq_zero (by rw [← unhide HM]; exact hm0))⟩
        have hneb : (nm == [108, 97, 115, 116]) = false := by simpa using hne
        clear hne
        subst hm0
        go_wp2_with (go_at_call 23; refine (unhide HC).mono ?_; rintro e w1 ⟨ws, a, cap, hw1, rfl, hr1, hk1⟩; rw [unhide HTK] at hw1; subst hw1; obtain ⟨g, o, rfl, hc1⟩ := krow_wrd hr1 (by simp); have c1 : w1.cell? ⟨g, o, none⟩ = some (.string ⟨nm.toArray⟩) := hc1 0 _ rfl; have hcap := hr1.le; have HZ1 := hide ((unhide HZ).kp0 hk1); have HC1 := hide hc1; rw [List.length_cons, ← unhide HM] at hcap ⊢; clear hr1 hk1 hc1)
        refine wp_region_held_drew (S := fun w' => w'.cell? ⟨g, o, none⟩ = some (.string ⟨nm.toArray⟩)) (by kernel_rfl) ((Kp.refl [] w1).drew.cell (by simp) c1) (fun hHeld => ?_)
        have HK0 := hide ((Kp.refl [] w1).drew)
        generalize World.drew _ = WD at HK0 hHeld ⊢
        refine wpAnyH_tk (i := 0) (v := ?_) rfl (by kernel_rfl) (by kernel_rfl) (by kernel_rfl) (fun _ _ _ h => h) (Or.inl ⟨by rfl, ?_⟩) hHeld ?_
        rotate_left
        · intro w hSw
          try dsimp only at hSw
          go_simp
          try with_reducible rfl
        try simp only [Act.put, List.setIfInBounds_toArray, List.set_cons_zero, List.set_cons_succ]
        refine wpAnyH_tk (i := 1) (v := ?_) rfl (by kernel_rfl) (by kernel_rfl) (by kernel_rfl) (fun _ _ _ h => h) (Or.inl ⟨by rfl, ?_⟩) hHeld ?_
        rotate_left
        · intro w hSw
          try dsimp only at hSw
          go_simp
          try with_reducible rfl
        try simp only [Act.put, List.setIfInBounds_toArray, List.set_cons_zero, List.set_cons_succ]
        refine wpAnyH_tk (i := 2) (v := ?_) rfl (by kernel_rfl) (by kernel_rfl) (by kernel_rfl) (fun _ _ _ h => h) (Or.inl ⟨by rfl, ?_⟩) hHeld ?_
        rotate_left
        · intro w hSw
          try dsimp only at hSw
          go_simp
          try with_reducible rfl
        try simp only [Act.put, List.setIfInBounds_toArray, List.set_cons_zero, List.set_cons_succ]
        refine wpAnyH_tk (i := 3) (v := ?_) rfl (by kernel_rfl) (by kernel_rfl) (by kernel_rfl) (fun _ _ _ h => h) (Or.inl ⟨by rfl, ?_⟩) hHeld ?_
        rotate_left
        · intro w hSw
          try dsimp only at hSw
          go_simp
          try with_reducible rfl
        try simp only [Act.put, List.setIfInBounds_toArray, List.set_cons_zero, List.set_cons_succ]
        refine wpAnyH_tk (i := 4) (v := ?_) rfl (by kernel_rfl) (by kernel_rfl) (by kernel_rfl) (fun _ _ _ h => h) (Or.inl ⟨by rfl, ?_⟩) hHeld ?_
        rotate_left
        · intro w hSw
          try dsimp only at hSw
          go_simp
          try with_reducible rfl
        try simp only [Act.put, List.setIfInBounds_toArray, List.set_cons_zero, List.set_cons_succ]
        have HWT := hide (wrd_tail (w := w1) (unhide HC1) (by rw [← unhide HM]; exact hcap))
        generalize (if cap = 1 then some (⟨g, o, none⟩ : Addr) else some ⟨g, o + 1, none⟩) = ar at *
        refine wpAnyH_two (i := 5) (j := 9) rfl rfl (by kernel_rfl) (fun K hK => ?_) (fun K hK => ?_)
        · go_simp
          refine (dread nm rt 0 (unhide HM) (by omega) _ _ _ (gnd_kp (unhide HG) ((unhide HZ1).kp.trans0 (unhide HK0))) ((unhide HWT).kp0 (unhide HK0)) (unhide HRL)).mono ?_
          rintro e w3 ⟨x, b, rfl, hx, hk3⟩
          have HX := hide hx
          have HK3 := hide ((unhide HK0).trans0 hk3)
          clear hx
          have HZ3 := hide ((unhide HZ1).kp0 (unhide HK3))
          clear hk3
          go_wp2_with fail
          refine hK.out _ _ ((unhide HK3).cell (by simp) c1) (fun hHeld2 => ?_)
          clear hK K hHeld
          have hHeld := hHeld2
          clear hHeld2
          try simp only [Act.put, List.setIfInBounds_toArray, List.set_cons_zero, List.set_cons_succ]
          refine wpAnyH_tk (i := 6) (v := ?_) rfl (by kernel_rfl) (by kernel_rfl) (by kernel_rfl) (fun _ _ _ h => h) (Or.inl ⟨by rfl, ?_⟩) hHeld ?_
          rotate_left
          · intro w hSw
            try dsimp only at hSw
            go_simp
            try with_reducible rfl
          try simp only [Act.put, List.setIfInBounds_toArray, List.set_cons_zero, List.set_cons_succ]
          refine wpAnyH_tk (i := 7) (v := ?_) rfl (by kernel_rfl) (by kernel_rfl) (by kernel_rfl) (fun _ _ _ h => h) (Or.inl ⟨by rfl, ?_⟩) hHeld ?_
          rotate_left
          · intro w hSw
            try dsimp only at hSw
            go_simp
            try with_reducible rfl
          try simp only [Act.put, List.setIfInBounds_toArray, List.set_cons_zero, List.set_cons_succ]
          refine wpAnyH_tk (i := 8) (v := ?_) rfl (by kernel_rfl) (by kernel_rfl) (by kernel_rfl) (fun _ _ _ h => h) (Or.inl ⟨by rfl, ?_⟩) hHeld ?_
          rotate_left
          · intro w hSw
            try dsimp only at hSw
            go_simp
            try with_reducible rfl
          try simp only [Act.put, List.setIfInBounds_toArray, List.set_cons_zero, List.set_cons_succ]
          refine wpAnyH_only (i := 9) rfl (by kernel_rfl) (fun K hK => ?_)
          go_simp
          have HA := hide (((unhide HZ3)).box #[.int .i64 0, .int .i64 0, .int .i64 0, .int .i64 0, .int .i64 0, .int .i64 0, .int .i64 0, .string ⟨#[]⟩] 79)
          have HKA := hide ((unhide HK3).alloc (.cells #[.int .i64 0, .int .i64 0, .int .i64 0, .int .i64 0, .int .i64 0, .int .i64 0, .int .i64 0, .string ⟨#[]⟩] 79))
          refine hK.out _ _ ((unhide HKA).cell (by simp) c1) (fun hHeld2 => ?_)
          clear hK K hHeld
          have hHeld := hHeld2
          clear hHeld2
          try simp only [Act.put, List.setIfInBounds_toArray, List.set_cons_zero, List.set_cons_succ]
          have hp6 := (unhide HK3).size
          generalize w3.alloc (.cells #[.int .i64 0, .int .i64 0, .int .i64 0, .int .i64 0, .int .i64 0, .int .i64 0, .int .i64 0, .string ⟨#[]⟩] 79) = W6 at *
          generalize w3.heap.size = p6 at *
          refine wpAnyH_only (i := 10) rfl (by kernel_rfl) (fun K hK => ?_)
          rw [if_pos (by rfl)]
          refine wp_store_row 79 _ _ rfl p6 (xcs x) rfl rfl 79 _ (zoo_varm (unhide HA) (List.Mem.head _)) Tryz.sizeSt rfl (xcs_one _) ?_
          have HB := hide (zoo_setrow (c' := xcs x) (l1 := []) (unhide HA))
          have HKB := hide ((unhide HKA).trans (setRow_kp (cs := xcs x) (zoo_varm (unhide HA) (List.Mem.head _))).2 (fun y hy => .inr (by rw [List.mem_singleton.1 hy]; exact hp6)))
          refine hK.out _ _ ((unhide HKB).cell (by simp) c1) (fun hHeld2 => ?_)
          clear hK K hHeld
          have hHeld := hHeld2
          clear hHeld2
          try simp only [Act.put]
          refine wpAnyH_tk (i := 11) (v := ?_) rfl (by kernel_rfl) (by kernel_rfl) (by kernel_rfl) (fun _ _ _ h => h) (Or.inl ⟨by rfl, ?_⟩) hHeld ?_
          rotate_left
          · intro w hSw
            try dsimp only at hSw
            go_simp
            try with_reducible rfl
          try simp only [Act.put, List.setIfInBounds_toArray, List.set_cons_zero, List.set_cons_succ]
          refine wpAnyH_done (by kernel_rfl) ?_ _
          clear hHeld HKB
          generalize World.setRow _ _ _ = W9 at HB ⊢
          have HB2 : Hid (Zoo w0 W9 (BoxT p6 (xcs x) 79 :: HalT hb h :: DskT d hb bs :: r)) := HB
          clear HB
          cases b with
          | false =>
            have hnone : rdl nm rs = none := (unhide HRD).symm.trans (by simpa using unhide HX)
            have hdl := unhide HDL
            rw [hnone, unhide HD2] at hdl
            cases hdl
            have HZ8 := hide ((unhide HB2).box #[.string ⟨#[119, 104, 97, 116]⟩] 9)
            clear hnone
            go_wp2_with (go_at_call 24; refine (dsay (l1 := [_, _, _]) [[119, 104, 97, 116]] 1 rfl _ 0 1 (unhide HZ8) (cells_strs [[119, 104, 97, 116]] (zoo_varm (unhide HZ8) (List.Mem.head _)) rfl) (join_pos (by simp)) (by simp) (by simp) hlen).mono ?_; rintro e w7 ⟨rfl, HZ7⟩)
            refine bodyPost_ret (v := .tuple #[]) (results_none Tryz.results15 _ _ _) rfl ?_
            exact ⟨rfl, Zoo.tail (Zoo.tail (unhide HZ7))⟩
          | true =>
            have hsome : rdl nm rs = some x := (unhide HRD).symm.trans (by simpa using unhide HX)
            have hxb : x.b.size ≤ maxLen := by
              have := rdl_sz ((unhide HRD).trans hsome) (unhide HRL)
              unfold maxLen; omega
            have hdl := unhide HDL
            rw [hsome, unhide HD2] at hdl
            cases hdl
            have x0 := (x8_of (zoo_varm (unhide HB2) (List.Mem.head _))).1
            clear hsome
            obtain ⟨xd, xs, xm, xa, xk, xt, xp, xb⟩ := x
            dsimp only at hlen hxb x0 HX ⊢
            go_wp2_with fail
            refine wp_region_held_drew (S := fun w' => w'.cell? ⟨p6, 0, none⟩ = some (.int .i64 xd) ∧ w'.cell? ⟨p6, 1, none⟩ = some (.int .i64 xs) ∧ w'.cell? ⟨p6, 1 + 1, none⟩ = some (.int .i64 xm) ∧ w'.cell? ⟨p6, 1 + 1 + 1, none⟩ = some (.int .i64 xa) ∧ w'.cell? ⟨p6, 1 + 1 + 1 + 1, none⟩ = some (.int .i64 xk) ∧ w'.cell? ⟨p6, 1 + 1 + 1 + 1 + 1, none⟩ = some (.int .i64 xt) ∧ w'.cell? ⟨p6, 1 + 1 + 1 + 1 + 1 + 1, none⟩ = some (.int .i64 xp) ∧ w'.cell? ⟨p6, 1 + 1 + 1 + 1 + 1 + 1 + 1, none⟩ = some (.string xb)) (by kernel_rfl) (x8_of (zoo_varm ((unhide HB2).kp0 (Kp.refl [] W9).drew) (List.Mem.head _))) (fun hHeld => ?_)
            have HE0 := hide ((unhide HB2).kp0 (Kp.refl [] W9).drew)
            generalize World.drew _ = WE at HE0 hHeld ⊢
            refine wpAnyH_tk (i := 0) (v := ?_) rfl (by kernel_rfl) (by kernel_rfl) (by kernel_rfl) (fun _ _ _ h => h) (Or.inl ⟨by rfl, ?_⟩) hHeld ?_
            rotate_left
            · intro w hSw
              try dsimp only at hSw
              go_simp
              try with_reducible rfl
            try simp only [Act.put, List.setIfInBounds_toArray, List.set_cons_zero, List.set_cons_succ]
            refine wpAnyH_tk (i := 1) (v := ?_) rfl (by kernel_rfl) (by kernel_rfl) (by kernel_rfl) (fun _ _ _ h => h) (Or.inl ⟨by rfl, ?_⟩) hHeld ?_
            rotate_left
            · intro w hSw
              try dsimp only at hSw
              go_simp
              try with_reducible rfl
            try simp only [Act.put, List.setIfInBounds_toArray, List.set_cons_zero, List.set_cons_succ]
            refine wpAnyH_tk (i := 2) (v := ?_) rfl (by kernel_rfl) (by kernel_rfl) (by kernel_rfl) (fun _ _ _ h => h) (Or.inl ⟨by rfl, ?_⟩) hHeld ?_
            rotate_left
            · intro w hSw
              try dsimp only at hSw
              go_simp
              try with_reducible rfl
            try simp only [Act.put, List.setIfInBounds_toArray, List.set_cons_zero, List.set_cons_succ]
            refine wpAnyH_tk (i := 3) (v := ?_) rfl (by kernel_rfl) (by kernel_rfl) (by kernel_rfl) (fun _ _ _ h => h) (Or.inl ⟨by rfl, ?_⟩) hHeld ?_
            rotate_left
            · intro w hSw
              try dsimp only at hSw
              go_simp
              try with_reducible rfl
            try simp only [Act.put, List.setIfInBounds_toArray, List.set_cons_zero, List.set_cons_succ]
            refine wpAnyH_tk (i := 4) (v := ?_) rfl (by kernel_rfl) (by kernel_rfl) (by kernel_rfl) (fun _ _ _ h => h) (Or.inl ⟨by rfl, ?_⟩) hHeld ?_
            rotate_left
            · intro w hSw
              try dsimp only at hSw
              go_simp
              try with_reducible rfl
            try simp only [Act.put, List.setIfInBounds_toArray, List.set_cons_zero, List.set_cons_succ]
            refine wpAnyH_only (i := 5) rfl (by kernel_rfl) (fun K hK => ?_)
            go_simp
            refine (dteller d xd WE).mono ?_
            rintro e w5 ⟨rfl, hw5⟩
            have HE1 := hide (zoo_p4 ((unhide HE0).box #[.pointer (some ⟨d, 0, none⟩)] 25))
            rw [← hw5] at HE1
            clear hw5
            go_wp2_with fail
            refine hK.out _ _ (x8_of (zoo_varm (unhide HE1) (List.Mem.tail _ (List.Mem.tail _ (List.Mem.tail _ (List.Mem.head _)))))) (fun hHeld2 => ?_)
            clear hK K hHeld
            have hHeld := hHeld2
            clear hHeld2
            try simp only [Act.put, List.setIfInBounds_toArray, List.set_cons_zero, List.set_cons_succ]
            generalize WE.heap.size = q at *
            refine wpAnyH_only (i := 6) rfl (by kernel_rfl) (fun K hK => ?_)
            go_simp
            refine (dstep ⟨xd, xs, xm, xa, xk, xt, xp, xb⟩ hxb (unhide HG) (unhide HE1) hlen).mono ?_
            rintro e w7 ⟨rfl, HZ7⟩
            go_wp2_with fail
            refine hK.out _ _ (x8_of (zoo_varm (unhide HZ7) (List.Mem.tail _ (List.Mem.tail _ (List.Mem.head _))))) (fun hHeld2 => ?_)
            clear hK K hHeld
            have hHeld := hHeld2
            clear hHeld2
            try simp only [Act.put, List.setIfInBounds_toArray, List.set_cons_zero, List.set_cons_succ]
            refine wpAnyH_done (by kernel_rfl) ?_ _
            clear hHeld
            go_wp2_with fail
            go_end0
            exact ⟨rfl, Zoo.drop_ (l1 := [_, _]) (unhide HZ7)⟩
        · go_simp
          have HA := hide ((((unhide HZ1).kp0 (unhide HK0))).box #[.int .i64 0, .int .i64 0, .int .i64 0, .int .i64 0, .int .i64 0, .int .i64 0, .int .i64 0, .string ⟨#[]⟩] 79)
          have HKA := hide ((unhide HK0).alloc (.cells #[.int .i64 0, .int .i64 0, .int .i64 0, .int .i64 0, .int .i64 0, .int .i64 0, .int .i64 0, .string ⟨#[]⟩] 79))
          refine hK.out _ _ ((unhide HKA).cell (by simp) c1) (fun hHeld2 => ?_)
          clear hK K hHeld
          have hHeld := hHeld2
          clear hHeld2
          try simp only [Act.put, List.setIfInBounds_toArray, List.set_cons_zero, List.set_cons_succ]
          have hp6 := (unhide HK0).size
          generalize WD.alloc (.cells #[.int .i64 0, .int .i64 0, .int .i64 0, .int .i64 0, .int .i64 0, .int .i64 0, .int .i64 0, .string ⟨#[]⟩] 79) = W6 at *
          generalize WD.heap.size = p6 at *
          refine wpAnyH_only (i := 5) rfl (by kernel_rfl) (fun K hK => ?_)
          go_simp
          refine (dread nm rt 0 (unhide HM) (by omega) _ _ _ (gnd_kp (unhide HG) ((unhide HZ1).kp.trans0 (unhide HKA))) ((unhide HWT).kp0 (unhide HKA)) (unhide HRL)).mono ?_
          rintro e w3 ⟨x, b, rfl, hx, hk3⟩
          have HX := hide hx
          have HK3 := hide ((unhide HKA).trans0 hk3)
          clear hx
          have HA3 := hide ((unhide HA).kp0 hk3)
          clear hk3
          go_wp2_with fail
          refine hK.out _ _ ((unhide HK3).cell (by simp) c1) (fun hHeld2 => ?_)
          clear hK K hHeld
          have hHeld := hHeld2
          clear hHeld2
          try simp only [Act.put, List.setIfInBounds_toArray, List.set_cons_zero, List.set_cons_succ]
          refine wpAnyH_tk (i := 6) (v := ?_) rfl (by kernel_rfl) (by kernel_rfl) (by kernel_rfl) (fun _ _ _ h => h) (Or.inl ⟨by rfl, ?_⟩) hHeld ?_
          rotate_left
          · intro w hSw
            try dsimp only at hSw
            go_simp
            try with_reducible rfl
          try simp only [Act.put, List.setIfInBounds_toArray, List.set_cons_zero, List.set_cons_succ]
          refine wpAnyH_tk (i := 7) (v := ?_) rfl (by kernel_rfl) (by kernel_rfl) (by kernel_rfl) (fun _ _ _ h => h) (Or.inl ⟨by rfl, ?_⟩) hHeld ?_
          rotate_left
          · intro w hSw
            try dsimp only at hSw
            go_simp
            try with_reducible rfl
          try simp only [Act.put, List.setIfInBounds_toArray, List.set_cons_zero, List.set_cons_succ]
          refine wpAnyH_tk (i := 8) (v := ?_) rfl (by kernel_rfl) (by kernel_rfl) (by kernel_rfl) (fun _ _ _ h => h) (Or.inl ⟨by rfl, ?_⟩) hHeld ?_
          rotate_left
          · intro w hSw
            try dsimp only at hSw
            go_simp
            try with_reducible rfl
          try simp only [Act.put, List.setIfInBounds_toArray, List.set_cons_zero, List.set_cons_succ]
          refine wpAnyH_only (i := 10) rfl (by kernel_rfl) (fun K hK => ?_)
          rw [if_pos (by rfl)]
          refine wp_store_row 79 _ _ rfl p6 (xcs x) rfl rfl 79 _ (zoo_varm (unhide HA3) (List.Mem.head _)) Tryz.sizeSt rfl (xcs_one _) ?_
          have HB := hide (zoo_setrow (c' := xcs x) (l1 := []) (unhide HA3))
          have HKB := hide ((unhide HK3).trans (setRow_kp (cs := xcs x) (zoo_varm (unhide HA3) (List.Mem.head _))).2 (fun y hy => .inr (by rw [List.mem_singleton.1 hy]; exact hp6)))
          refine hK.out _ _ ((unhide HKB).cell (by simp) c1) (fun hHeld2 => ?_)
          clear hK K hHeld
          have hHeld := hHeld2
          clear hHeld2
          try simp only [Act.put]
          refine wpAnyH_tk (i := 11) (v := ?_) rfl (by kernel_rfl) (by kernel_rfl) (by kernel_rfl) (fun _ _ _ h => h) (Or.inl ⟨by rfl, ?_⟩) hHeld ?_
          rotate_left
          · intro w hSw
            try dsimp only at hSw
            go_simp
            try with_reducible rfl
          try simp only [Act.put, List.setIfInBounds_toArray, List.set_cons_zero, List.set_cons_succ]
          refine wpAnyH_done (by kernel_rfl) ?_ _
          clear hHeld HKB
          generalize World.setRow _ _ _ = W9 at HB ⊢
          have HB2 : Hid (Zoo w0 W9 (BoxT p6 (xcs x) 79 :: HalT hb h :: DskT d hb bs :: r)) := HB
          clear HB
          cases b with
          | false =>
            have hnone : rdl nm rs = none := (unhide HRD).symm.trans (by simpa using unhide HX)
            have hdl := unhide HDL
            rw [hnone, unhide HD2] at hdl
            cases hdl
            have HZ8 := hide ((unhide HB2).box #[.string ⟨#[119, 104, 97, 116]⟩] 9)
            clear hnone
            go_wp2_with (go_at_call 24; refine (dsay (l1 := [_, _, _]) [[119, 104, 97, 116]] 1 rfl _ 0 1 (unhide HZ8) (cells_strs [[119, 104, 97, 116]] (zoo_varm (unhide HZ8) (List.Mem.head _)) rfl) (join_pos (by simp)) (by simp) (by simp) hlen).mono ?_; rintro e w7 ⟨rfl, HZ7⟩)
            refine bodyPost_ret (v := .tuple #[]) (results_none Tryz.results15 _ _ _) rfl ?_
            exact ⟨rfl, Zoo.tail (Zoo.tail (unhide HZ7))⟩
          | true =>
            have hsome : rdl nm rs = some x := (unhide HRD).symm.trans (by simpa using unhide HX)
            have hxb : x.b.size ≤ maxLen := by
              have := rdl_sz ((unhide HRD).trans hsome) (unhide HRL)
              unfold maxLen; omega
            have hdl := unhide HDL
            rw [hsome, unhide HD2] at hdl
            cases hdl
            have x0 := (x8_of (zoo_varm (unhide HB2) (List.Mem.head _))).1
            clear hsome
            obtain ⟨xd, xs, xm, xa, xk, xt, xp, xb⟩ := x
            dsimp only at hlen hxb x0 HX ⊢
            go_wp2_with fail
            refine wp_region_held_drew (S := fun w' => w'.cell? ⟨p6, 0, none⟩ = some (.int .i64 xd) ∧ w'.cell? ⟨p6, 1, none⟩ = some (.int .i64 xs) ∧ w'.cell? ⟨p6, 1 + 1, none⟩ = some (.int .i64 xm) ∧ w'.cell? ⟨p6, 1 + 1 + 1, none⟩ = some (.int .i64 xa) ∧ w'.cell? ⟨p6, 1 + 1 + 1 + 1, none⟩ = some (.int .i64 xk) ∧ w'.cell? ⟨p6, 1 + 1 + 1 + 1 + 1, none⟩ = some (.int .i64 xt) ∧ w'.cell? ⟨p6, 1 + 1 + 1 + 1 + 1 + 1, none⟩ = some (.int .i64 xp) ∧ w'.cell? ⟨p6, 1 + 1 + 1 + 1 + 1 + 1 + 1, none⟩ = some (.string xb)) (by kernel_rfl) (x8_of (zoo_varm ((unhide HB2).kp0 (Kp.refl [] W9).drew) (List.Mem.head _))) (fun hHeld => ?_)
            have HE0 := hide ((unhide HB2).kp0 (Kp.refl [] W9).drew)
            generalize World.drew _ = WE at HE0 hHeld ⊢
            refine wpAnyH_tk (i := 0) (v := ?_) rfl (by kernel_rfl) (by kernel_rfl) (by kernel_rfl) (fun _ _ _ h => h) (Or.inl ⟨by rfl, ?_⟩) hHeld ?_
            rotate_left
            · intro w hSw
              try dsimp only at hSw
              go_simp
              try with_reducible rfl
            try simp only [Act.put, List.setIfInBounds_toArray, List.set_cons_zero, List.set_cons_succ]
            refine wpAnyH_tk (i := 1) (v := ?_) rfl (by kernel_rfl) (by kernel_rfl) (by kernel_rfl) (fun _ _ _ h => h) (Or.inl ⟨by rfl, ?_⟩) hHeld ?_
            rotate_left
            · intro w hSw
              try dsimp only at hSw
              go_simp
              try with_reducible rfl
            try simp only [Act.put, List.setIfInBounds_toArray, List.set_cons_zero, List.set_cons_succ]
            refine wpAnyH_tk (i := 2) (v := ?_) rfl (by kernel_rfl) (by kernel_rfl) (by kernel_rfl) (fun _ _ _ h => h) (Or.inl ⟨by rfl, ?_⟩) hHeld ?_
            rotate_left
            · intro w hSw
              try dsimp only at hSw
              go_simp
              try with_reducible rfl
            try simp only [Act.put, List.setIfInBounds_toArray, List.set_cons_zero, List.set_cons_succ]
            refine wpAnyH_tk (i := 3) (v := ?_) rfl (by kernel_rfl) (by kernel_rfl) (by kernel_rfl) (fun _ _ _ h => h) (Or.inl ⟨by rfl, ?_⟩) hHeld ?_
            rotate_left
            · intro w hSw
              try dsimp only at hSw
              go_simp
              try with_reducible rfl
            try simp only [Act.put, List.setIfInBounds_toArray, List.set_cons_zero, List.set_cons_succ]
            refine wpAnyH_tk (i := 4) (v := ?_) rfl (by kernel_rfl) (by kernel_rfl) (by kernel_rfl) (fun _ _ _ h => h) (Or.inl ⟨by rfl, ?_⟩) hHeld ?_
            rotate_left
            · intro w hSw
              try dsimp only at hSw
              go_simp
              try with_reducible rfl
            try simp only [Act.put, List.setIfInBounds_toArray, List.set_cons_zero, List.set_cons_succ]
            refine wpAnyH_only (i := 5) rfl (by kernel_rfl) (fun K hK => ?_)
            go_simp
            refine (dteller d xd WE).mono ?_
            rintro e w5 ⟨rfl, hw5⟩
            have HE1 := hide (zoo_p4 ((unhide HE0).box #[.pointer (some ⟨d, 0, none⟩)] 25))
            rw [← hw5] at HE1
            clear hw5
            go_wp2_with fail
            refine hK.out _ _ (x8_of (zoo_varm (unhide HE1) (List.Mem.tail _ (List.Mem.tail _ (List.Mem.tail _ (List.Mem.head _)))))) (fun hHeld2 => ?_)
            clear hK K hHeld
            have hHeld := hHeld2
            clear hHeld2
            try simp only [Act.put, List.setIfInBounds_toArray, List.set_cons_zero, List.set_cons_succ]
            generalize WE.heap.size = q at *
            refine wpAnyH_only (i := 6) rfl (by kernel_rfl) (fun K hK => ?_)
            go_simp
            refine (dstep ⟨xd, xs, xm, xa, xk, xt, xp, xb⟩ hxb (unhide HG) (unhide HE1) hlen).mono ?_
            rintro e w7 ⟨rfl, HZ7⟩
            go_wp2_with fail
            refine hK.out _ _ (x8_of (zoo_varm (unhide HZ7) (List.Mem.tail _ (List.Mem.tail _ (List.Mem.head _))))) (fun hHeld2 => ?_)
            clear hK K hHeld
            have hHeld := hHeld2
            clear hHeld2
            try simp only [Act.put, List.setIfInBounds_toArray, List.set_cons_zero, List.set_cons_succ]
            refine wpAnyH_done (by kernel_rfl) ?_ _
            clear hHeld
            go_wp2_with fail
            go_end0
            exact ⟨rfl, Zoo.drop_ (l1 := [_, _]) (unhide HZ7)⟩
      · have hmi : ¬ ((m : Int) + 1 = 1) := by omega
        have hmj : ¬ ((m : Int) + 1 = 0) := by omega
        have hmk : (0 : Int) < (m : Int) + 1 := by omega
        have hml : (1 : Int) ≤ (m : Int) + 1 := by omega
        go_wp2_with (go_at_call 23; refine (unhide HC).mono ?_; rintro e w1 ⟨ws, a, cap, hw1, rfl, hr1, hk1⟩; rw [unhide HTK] at hw1; subst hw1; obtain ⟨g, o, rfl, hc1⟩ := krow_wrd hr1 (by simp); have c1 : w1.cell? ⟨g, o, none⟩ = some (.string ⟨nm.toArray⟩) := hc1 0 _ rfl; have hcap := hr1.le; have HZ1 := hide ((unhide HZ).kp0 hk1); have HC1 := hide hc1; rw [List.length_cons, ← unhide HM] at hcap ⊢; clear hr1 hk1 hc1)
        refine wp_region_held_drew (S := fun w' => w'.cell? ⟨g, o, none⟩ = some (.string ⟨nm.toArray⟩)) (by kernel_rfl) ((Kp.refl [] w1).drew.cell (by simp) c1) (fun hHeld => ?_)
        have HK0 := hide ((Kp.refl [] w1).drew)
        generalize World.drew _ = WD at HK0 hHeld ⊢
        refine wpAnyH_tk (i := 0) (v := ?_) rfl (by kernel_rfl) (by kernel_rfl) (by kernel_rfl) (fun _ _ _ h => h) (Or.inl ⟨by rfl, ?_⟩) hHeld ?_
        rotate_left
        · intro w hSw
          try dsimp only at hSw
          go_simp
          try with_reducible rfl
        try simp only [Act.put, List.setIfInBounds_toArray, List.set_cons_zero, List.set_cons_succ]
        refine wpAnyH_tk (i := 1) (v := ?_) rfl (by kernel_rfl) (by kernel_rfl) (by kernel_rfl) (fun _ _ _ h => h) (Or.inl ⟨by rfl, ?_⟩) hHeld ?_
        rotate_left
        · intro w hSw
          try dsimp only at hSw
          go_simp
          try with_reducible rfl
        try simp only [Act.put, List.setIfInBounds_toArray, List.set_cons_zero, List.set_cons_succ]
        refine wpAnyH_tk (i := 2) (v := ?_) rfl (by kernel_rfl) (by kernel_rfl) (by kernel_rfl) (fun _ _ _ h => h) (Or.inl ⟨by rfl, ?_⟩) hHeld ?_
        rotate_left
        · intro w hSw
          try dsimp only at hSw
          go_simp
          try with_reducible rfl
        try simp only [Act.put, List.setIfInBounds_toArray, List.set_cons_zero, List.set_cons_succ]
        refine wpAnyH_tk (i := 3) (v := ?_) rfl (by kernel_rfl) (by kernel_rfl) (by kernel_rfl) (fun _ _ _ h => h) (Or.inl ⟨by rfl, ?_⟩) hHeld ?_
        rotate_left
        · intro w hSw
          try dsimp only at hSw
          go_simp
          try with_reducible rfl
        try simp only [Act.put, List.setIfInBounds_toArray, List.set_cons_zero, List.set_cons_succ]
        refine wpAnyH_tk (i := 4) (v := ?_) rfl (by kernel_rfl) (by kernel_rfl) (by kernel_rfl) (fun _ _ _ h => h) (Or.inl ⟨by rfl, ?_⟩) hHeld ?_
        rotate_left
        · intro w hSw
          try dsimp only at hSw
          go_simp
          try with_reducible rfl
        try simp only [Act.put, List.setIfInBounds_toArray, List.set_cons_zero, List.set_cons_succ]
        have HWT := hide (wrd_tail (w := w1) (unhide HC1) (by rw [← unhide HM]; exact hcap))
        generalize (if cap = 1 then some (⟨g, o, none⟩ : Addr) else some ⟨g, o + 1, none⟩) = ar at *
        refine wpAnyH_two (i := 5) (j := 9) rfl rfl (by kernel_rfl) (fun K hK => ?_) (fun K hK => ?_)
        · go_simp
          refine (dread nm rt m (unhide HM) (by omega) _ _ _ (gnd_kp (unhide HG) ((unhide HZ1).kp.trans0 (unhide HK0))) ((unhide HWT).kp0 (unhide HK0)) (unhide HRL)).mono ?_
          rintro e w3 ⟨x, b, rfl, hx, hk3⟩
          have HX := hide hx
          have HK3 := hide ((unhide HK0).trans0 hk3)
          clear hx
          have HZ3 := hide ((unhide HZ1).kp0 (unhide HK3))
          clear hk3
          go_wp2_with fail
          refine hK.out _ _ ((unhide HK3).cell (by simp) c1) (fun hHeld2 => ?_)
          clear hK K hHeld
          have hHeld := hHeld2
          clear hHeld2
          try simp only [Act.put, List.setIfInBounds_toArray, List.set_cons_zero, List.set_cons_succ]
          refine wpAnyH_tk (i := 6) (v := ?_) rfl (by kernel_rfl) (by kernel_rfl) (by kernel_rfl) (fun _ _ _ h => h) (Or.inl ⟨by rfl, ?_⟩) hHeld ?_
          rotate_left
          · intro w hSw
            try dsimp only at hSw
            go_simp
            try with_reducible rfl
          try simp only [Act.put, List.setIfInBounds_toArray, List.set_cons_zero, List.set_cons_succ]
          refine wpAnyH_tk (i := 7) (v := ?_) rfl (by kernel_rfl) (by kernel_rfl) (by kernel_rfl) (fun _ _ _ h => h) (Or.inl ⟨by rfl, ?_⟩) hHeld ?_
          rotate_left
          · intro w hSw
            try dsimp only at hSw
            go_simp
            try with_reducible rfl
          try simp only [Act.put, List.setIfInBounds_toArray, List.set_cons_zero, List.set_cons_succ]
          refine wpAnyH_tk (i := 8) (v := ?_) rfl (by kernel_rfl) (by kernel_rfl) (by kernel_rfl) (fun _ _ _ h => h) (Or.inl ⟨by rfl, ?_⟩) hHeld ?_
          rotate_left
          · intro w hSw
            try dsimp only at hSw
            go_simp
            try with_reducible rfl
          try simp only [Act.put, List.setIfInBounds_toArray, List.set_cons_zero, List.set_cons_succ]
          refine wpAnyH_only (i := 9) rfl (by kernel_rfl) (fun K hK => ?_)
          go_simp
          have HA := hide (((unhide HZ3)).box #[.int .i64 0, .int .i64 0, .int .i64 0, .int .i64 0, .int .i64 0, .int .i64 0, .int .i64 0, .string ⟨#[]⟩] 79)
          have HKA := hide ((unhide HK3).alloc (.cells #[.int .i64 0, .int .i64 0, .int .i64 0, .int .i64 0, .int .i64 0, .int .i64 0, .int .i64 0, .string ⟨#[]⟩] 79))
          refine hK.out _ _ ((unhide HKA).cell (by simp) c1) (fun hHeld2 => ?_)
          clear hK K hHeld
          have hHeld := hHeld2
          clear hHeld2
          try simp only [Act.put, List.setIfInBounds_toArray, List.set_cons_zero, List.set_cons_succ]
          have hp6 := (unhide HK3).size
          generalize w3.alloc (.cells #[.int .i64 0, .int .i64 0, .int .i64 0, .int .i64 0, .int .i64 0, .int .i64 0, .int .i64 0, .string ⟨#[]⟩] 79) = W6 at *
          generalize w3.heap.size = p6 at *
          refine wpAnyH_only (i := 10) rfl (by kernel_rfl) (fun K hK => ?_)
          rw [if_pos (by rfl)]
          refine wp_store_row 79 _ _ rfl p6 (xcs x) rfl rfl 79 _ (zoo_varm (unhide HA) (List.Mem.head _)) Tryz.sizeSt rfl (xcs_one _) ?_
          have HB := hide (zoo_setrow (c' := xcs x) (l1 := []) (unhide HA))
          have HKB := hide ((unhide HKA).trans (setRow_kp (cs := xcs x) (zoo_varm (unhide HA) (List.Mem.head _))).2 (fun y hy => .inr (by rw [List.mem_singleton.1 hy]; exact hp6)))
          refine hK.out _ _ ((unhide HKB).cell (by simp) c1) (fun hHeld2 => ?_)
          clear hK K hHeld
          have hHeld := hHeld2
          clear hHeld2
          try simp only [Act.put]
          refine wpAnyH_tk (i := 11) (v := ?_) rfl (by kernel_rfl) (by kernel_rfl) (by kernel_rfl) (fun _ _ _ h => h) (Or.inl ⟨by rfl, ?_⟩) hHeld ?_
          rotate_left
          · intro w hSw
            try dsimp only at hSw
            go_simp
            try with_reducible rfl
          try simp only [Act.put, List.setIfInBounds_toArray, List.set_cons_zero, List.set_cons_succ]
          refine wpAnyH_done (by kernel_rfl) ?_ _
          clear hHeld HKB
          generalize World.setRow _ _ _ = W9 at HB ⊢
          have HB2 : Hid (Zoo w0 W9 (BoxT p6 (xcs x) 79 :: HalT hb h :: DskT d hb bs :: r)) := HB
          clear HB
          cases b with
          | false =>
            have hnone : rdl nm rs = none := (unhide HRD).symm.trans (by simpa using unhide HX)
            have hdl := unhide HDL
            rw [hnone, unhide HD2] at hdl
            cases hdl
            have HZ8 := hide ((unhide HB2).box #[.string ⟨#[119, 104, 97, 116]⟩] 9)
            clear hnone
            go_wp2_with (go_at_call 24; refine (dsay (l1 := [_, _, _]) [[119, 104, 97, 116]] 1 rfl _ 0 1 (unhide HZ8) (cells_strs [[119, 104, 97, 116]] (zoo_varm (unhide HZ8) (List.Mem.head _)) rfl) (join_pos (by simp)) (by simp) (by simp) hlen).mono ?_; rintro e w7 ⟨rfl, HZ7⟩)
            refine bodyPost_ret (v := .tuple #[]) (results_none Tryz.results15 _ _ _) rfl ?_
            exact ⟨rfl, Zoo.tail (Zoo.tail (unhide HZ7))⟩
          | true =>
            have hsome : rdl nm rs = some x := (unhide HRD).symm.trans (by simpa using unhide HX)
            have hxb : x.b.size ≤ maxLen := by
              have := rdl_sz ((unhide HRD).trans hsome) (unhide HRL)
              unfold maxLen; omega
            have hdl := unhide HDL
            rw [hsome, unhide HD2] at hdl
            cases hdl
            have x0 := (x8_of (zoo_varm (unhide HB2) (List.Mem.head _))).1
            clear hsome
            obtain ⟨xd, xs, xm, xa, xk, xt, xp, xb⟩ := x
            dsimp only at hlen hxb x0 HX ⊢
            go_wp2_with fail
            refine wp_region_held_drew (S := fun w' => w'.cell? ⟨p6, 0, none⟩ = some (.int .i64 xd) ∧ w'.cell? ⟨p6, 1, none⟩ = some (.int .i64 xs) ∧ w'.cell? ⟨p6, 1 + 1, none⟩ = some (.int .i64 xm) ∧ w'.cell? ⟨p6, 1 + 1 + 1, none⟩ = some (.int .i64 xa) ∧ w'.cell? ⟨p6, 1 + 1 + 1 + 1, none⟩ = some (.int .i64 xk) ∧ w'.cell? ⟨p6, 1 + 1 + 1 + 1 + 1, none⟩ = some (.int .i64 xt) ∧ w'.cell? ⟨p6, 1 + 1 + 1 + 1 + 1 + 1, none⟩ = some (.int .i64 xp) ∧ w'.cell? ⟨p6, 1 + 1 + 1 + 1 + 1 + 1 + 1, none⟩ = some (.string xb)) (by kernel_rfl) (x8_of (zoo_varm ((unhide HB2).kp0 (Kp.refl [] W9).drew) (List.Mem.head _))) (fun hHeld => ?_)
            have HE0 := hide ((unhide HB2).kp0 (Kp.refl [] W9).drew)
            generalize World.drew _ = WE at HE0 hHeld ⊢
            refine wpAnyH_tk (i := 0) (v := ?_) rfl (by kernel_rfl) (by kernel_rfl) (by kernel_rfl) (fun _ _ _ h => h) (Or.inl ⟨by rfl, ?_⟩) hHeld ?_
            rotate_left
            · intro w hSw
              try dsimp only at hSw
              go_simp
              try with_reducible rfl
            try simp only [Act.put, List.setIfInBounds_toArray, List.set_cons_zero, List.set_cons_succ]
            refine wpAnyH_tk (i := 1) (v := ?_) rfl (by kernel_rfl) (by kernel_rfl) (by kernel_rfl) (fun _ _ _ h => h) (Or.inl ⟨by rfl, ?_⟩) hHeld ?_
            rotate_left
            · intro w hSw
              try dsimp only at hSw
              go_simp
              try with_reducible rfl
            try simp only [Act.put, List.setIfInBounds_toArray, List.set_cons_zero, List.set_cons_succ]
            refine wpAnyH_tk (i := 2) (v := ?_) rfl (by kernel_rfl) (by kernel_rfl) (by kernel_rfl) (fun _ _ _ h => h) (Or.inl ⟨by rfl, ?_⟩) hHeld ?_
            rotate_left
            · intro w hSw
              try dsimp only at hSw
              go_simp
              try with_reducible rfl
            try simp only [Act.put, List.setIfInBounds_toArray, List.set_cons_zero, List.set_cons_succ]
            refine wpAnyH_tk (i := 3) (v := ?_) rfl (by kernel_rfl) (by kernel_rfl) (by kernel_rfl) (fun _ _ _ h => h) (Or.inl ⟨by rfl, ?_⟩) hHeld ?_
            rotate_left
            · intro w hSw
              try dsimp only at hSw
              go_simp
              try with_reducible rfl
            try simp only [Act.put, List.setIfInBounds_toArray, List.set_cons_zero, List.set_cons_succ]
            refine wpAnyH_tk (i := 4) (v := ?_) rfl (by kernel_rfl) (by kernel_rfl) (by kernel_rfl) (fun _ _ _ h => h) (Or.inl ⟨by rfl, ?_⟩) hHeld ?_
            rotate_left
            · intro w hSw
              try dsimp only at hSw
              go_simp
              try with_reducible rfl
            try simp only [Act.put, List.setIfInBounds_toArray, List.set_cons_zero, List.set_cons_succ]
            refine wpAnyH_only (i := 5) rfl (by kernel_rfl) (fun K hK => ?_)
            go_simp
            refine (dteller d xd WE).mono ?_
            rintro e w5 ⟨rfl, hw5⟩
            have HE1 := hide (zoo_p4 ((unhide HE0).box #[.pointer (some ⟨d, 0, none⟩)] 25))
            rw [← hw5] at HE1
            clear hw5
            go_wp2_with fail
            refine hK.out _ _ (x8_of (zoo_varm (unhide HE1) (List.Mem.tail _ (List.Mem.tail _ (List.Mem.tail _ (List.Mem.head _)))))) (fun hHeld2 => ?_)
            clear hK K hHeld
            have hHeld := hHeld2
            clear hHeld2
            try simp only [Act.put, List.setIfInBounds_toArray, List.set_cons_zero, List.set_cons_succ]
            generalize WE.heap.size = q at *
            refine wpAnyH_only (i := 6) rfl (by kernel_rfl) (fun K hK => ?_)
            go_simp
            refine (dstep ⟨xd, xs, xm, xa, xk, xt, xp, xb⟩ hxb (unhide HG) (unhide HE1) hlen).mono ?_
            rintro e w7 ⟨rfl, HZ7⟩
            go_wp2_with fail
            refine hK.out _ _ (x8_of (zoo_varm (unhide HZ7) (List.Mem.tail _ (List.Mem.tail _ (List.Mem.head _))))) (fun hHeld2 => ?_)
            clear hK K hHeld
            have hHeld := hHeld2
            clear hHeld2
            try simp only [Act.put, List.setIfInBounds_toArray, List.set_cons_zero, List.set_cons_succ]
            refine wpAnyH_done (by kernel_rfl) ?_ _
            clear hHeld
            go_wp2_with fail
            go_end0
            exact ⟨rfl, Zoo.drop_ (l1 := [_, _]) (unhide HZ7)⟩
        · go_simp
          have HA := hide ((((unhide HZ1).kp0 (unhide HK0))).box #[.int .i64 0, .int .i64 0, .int .i64 0, .int .i64 0, .int .i64 0, .int .i64 0, .int .i64 0, .string ⟨#[]⟩] 79)
          have HKA := hide ((unhide HK0).alloc (.cells #[.int .i64 0, .int .i64 0, .int .i64 0, .int .i64 0, .int .i64 0, .int .i64 0, .int .i64 0, .string ⟨#[]⟩] 79))
          refine hK.out _ _ ((unhide HKA).cell (by simp) c1) (fun hHeld2 => ?_)
          clear hK K hHeld
          have hHeld := hHeld2
          clear hHeld2
          try simp only [Act.put, List.setIfInBounds_toArray, List.set_cons_zero, List.set_cons_succ]
          have hp6 := (unhide HK0).size
          generalize WD.alloc (.cells #[.int .i64 0, .int .i64 0, .int .i64 0, .int .i64 0, .int .i64 0, .int .i64 0, .int .i64 0, .string ⟨#[]⟩] 79) = W6 at *
          generalize WD.heap.size = p6 at *
          refine wpAnyH_only (i := 5) rfl (by kernel_rfl) (fun K hK => ?_)
          go_simp
          refine (dread nm rt m (unhide HM) (by omega) _ _ _ (gnd_kp (unhide HG) ((unhide HZ1).kp.trans0 (unhide HKA))) ((unhide HWT).kp0 (unhide HKA)) (unhide HRL)).mono ?_
          rintro e w3 ⟨x, b, rfl, hx, hk3⟩
          have HX := hide hx
          have HK3 := hide ((unhide HKA).trans0 hk3)
          clear hx
          have HA3 := hide ((unhide HA).kp0 hk3)
          clear hk3
          go_wp2_with fail
          refine hK.out _ _ ((unhide HK3).cell (by simp) c1) (fun hHeld2 => ?_)
          clear hK K hHeld
          have hHeld := hHeld2
          clear hHeld2
          try simp only [Act.put, List.setIfInBounds_toArray, List.set_cons_zero, List.set_cons_succ]
          refine wpAnyH_tk (i := 6) (v := ?_) rfl (by kernel_rfl) (by kernel_rfl) (by kernel_rfl) (fun _ _ _ h => h) (Or.inl ⟨by rfl, ?_⟩) hHeld ?_
          rotate_left
          · intro w hSw
            try dsimp only at hSw
            go_simp
            try with_reducible rfl
          try simp only [Act.put, List.setIfInBounds_toArray, List.set_cons_zero, List.set_cons_succ]
          refine wpAnyH_tk (i := 7) (v := ?_) rfl (by kernel_rfl) (by kernel_rfl) (by kernel_rfl) (fun _ _ _ h => h) (Or.inl ⟨by rfl, ?_⟩) hHeld ?_
          rotate_left
          · intro w hSw
            try dsimp only at hSw
            go_simp
            try with_reducible rfl
          try simp only [Act.put, List.setIfInBounds_toArray, List.set_cons_zero, List.set_cons_succ]
          refine wpAnyH_tk (i := 8) (v := ?_) rfl (by kernel_rfl) (by kernel_rfl) (by kernel_rfl) (fun _ _ _ h => h) (Or.inl ⟨by rfl, ?_⟩) hHeld ?_
          rotate_left
          · intro w hSw
            try dsimp only at hSw
            go_simp
            try with_reducible rfl
          try simp only [Act.put, List.setIfInBounds_toArray, List.set_cons_zero, List.set_cons_succ]
          refine wpAnyH_only (i := 10) rfl (by kernel_rfl) (fun K hK => ?_)
          rw [if_pos (by rfl)]
          refine wp_store_row 79 _ _ rfl p6 (xcs x) rfl rfl 79 _ (zoo_varm (unhide HA3) (List.Mem.head _)) Tryz.sizeSt rfl (xcs_one _) ?_
          have HB := hide (zoo_setrow (c' := xcs x) (l1 := []) (unhide HA3))
          have HKB := hide ((unhide HK3).trans (setRow_kp (cs := xcs x) (zoo_varm (unhide HA3) (List.Mem.head _))).2 (fun y hy => .inr (by rw [List.mem_singleton.1 hy]; exact hp6)))
          refine hK.out _ _ ((unhide HKB).cell (by simp) c1) (fun hHeld2 => ?_)
          clear hK K hHeld
          have hHeld := hHeld2
          clear hHeld2
          try simp only [Act.put]
          refine wpAnyH_tk (i := 11) (v := ?_) rfl (by kernel_rfl) (by kernel_rfl) (by kernel_rfl) (fun _ _ _ h => h) (Or.inl ⟨by rfl, ?_⟩) hHeld ?_
          rotate_left
          · intro w hSw
            try dsimp only at hSw
            go_simp
            try with_reducible rfl
          try simp only [Act.put, List.setIfInBounds_toArray, List.set_cons_zero, List.set_cons_succ]
          refine wpAnyH_done (by kernel_rfl) ?_ _
          clear hHeld HKB
          generalize World.setRow _ _ _ = W9 at HB ⊢
          have HB2 : Hid (Zoo w0 W9 (BoxT p6 (xcs x) 79 :: HalT hb h :: DskT d hb bs :: r)) := HB
          clear HB
          cases b with
          | false =>
            have hnone : rdl nm rs = none := (unhide HRD).symm.trans (by simpa using unhide HX)
            have hdl := unhide HDL
            rw [hnone, unhide HD2] at hdl
            cases hdl
            have HZ8 := hide ((unhide HB2).box #[.string ⟨#[119, 104, 97, 116]⟩] 9)
            clear hnone
            go_wp2_with (go_at_call 24; refine (dsay (l1 := [_, _, _]) [[119, 104, 97, 116]] 1 rfl _ 0 1 (unhide HZ8) (cells_strs [[119, 104, 97, 116]] (zoo_varm (unhide HZ8) (List.Mem.head _)) rfl) (join_pos (by simp)) (by simp) (by simp) hlen).mono ?_; rintro e w7 ⟨rfl, HZ7⟩)
            refine bodyPost_ret (v := .tuple #[]) (results_none Tryz.results15 _ _ _) rfl ?_
            exact ⟨rfl, Zoo.tail (Zoo.tail (unhide HZ7))⟩
          | true =>
            have hsome : rdl nm rs = some x := (unhide HRD).symm.trans (by simpa using unhide HX)
            have hxb : x.b.size ≤ maxLen := by
              have := rdl_sz ((unhide HRD).trans hsome) (unhide HRL)
              unfold maxLen; omega
            have hdl := unhide HDL
            rw [hsome, unhide HD2] at hdl
            cases hdl
            have x0 := (x8_of (zoo_varm (unhide HB2) (List.Mem.head _))).1
            clear hsome
            obtain ⟨xd, xs, xm, xa, xk, xt, xp, xb⟩ := x
            dsimp only at hlen hxb x0 HX ⊢
            go_wp2_with fail
            refine wp_region_held_drew (S := fun w' => w'.cell? ⟨p6, 0, none⟩ = some (.int .i64 xd) ∧ w'.cell? ⟨p6, 1, none⟩ = some (.int .i64 xs) ∧ w'.cell? ⟨p6, 1 + 1, none⟩ = some (.int .i64 xm) ∧ w'.cell? ⟨p6, 1 + 1 + 1, none⟩ = some (.int .i64 xa) ∧ w'.cell? ⟨p6, 1 + 1 + 1 + 1, none⟩ = some (.int .i64 xk) ∧ w'.cell? ⟨p6, 1 + 1 + 1 + 1 + 1, none⟩ = some (.int .i64 xt) ∧ w'.cell? ⟨p6, 1 + 1 + 1 + 1 + 1 + 1, none⟩ = some (.int .i64 xp) ∧ w'.cell? ⟨p6, 1 + 1 + 1 + 1 + 1 + 1 + 1, none⟩ = some (.string xb)) (by kernel_rfl) (x8_of (zoo_varm ((unhide HB2).kp0 (Kp.refl [] W9).drew) (List.Mem.head _))) (fun hHeld => ?_)
            have HE0 := hide ((unhide HB2).kp0 (Kp.refl [] W9).drew)
            generalize World.drew _ = WE at HE0 hHeld ⊢
            refine wpAnyH_tk (i := 0) (v := ?_) rfl (by kernel_rfl) (by kernel_rfl) (by kernel_rfl) (fun _ _ _ h => h) (Or.inl ⟨by rfl, ?_⟩) hHeld ?_
            rotate_left
            · intro w hSw
              try dsimp only at hSw
              go_simp
              try with_reducible rfl
            try simp only [Act.put, List.setIfInBounds_toArray, List.set_cons_zero, List.set_cons_succ]
            refine wpAnyH_tk (i := 1) (v := ?_) rfl (by kernel_rfl) (by kernel_rfl) (by kernel_rfl) (fun _ _ _ h => h) (Or.inl ⟨by rfl, ?_⟩) hHeld ?_
            rotate_left
            · intro w hSw
              try dsimp only at hSw
              go_simp
              try with_reducible rfl
            try simp only [Act.put, List.setIfInBounds_toArray, List.set_cons_zero, List.set_cons_succ]
            refine wpAnyH_tk (i := 2) (v := ?_) rfl (by kernel_rfl) (by kernel_rfl) (by kernel_rfl) (fun _ _ _ h => h) (Or.inl ⟨by rfl, ?_⟩) hHeld ?_
            rotate_left
            · intro w hSw
              try dsimp only at hSw
              go_simp
              try with_reducible rfl
            try simp only [Act.put, List.setIfInBounds_toArray, List.set_cons_zero, List.set_cons_succ]
            refine wpAnyH_tk (i := 3) (v := ?_) rfl (by kernel_rfl) (by kernel_rfl) (by kernel_rfl) (fun _ _ _ h => h) (Or.inl ⟨by rfl, ?_⟩) hHeld ?_
            rotate_left
            · intro w hSw
              try dsimp only at hSw
              go_simp
              try with_reducible rfl
            try simp only [Act.put, List.setIfInBounds_toArray, List.set_cons_zero, List.set_cons_succ]
            refine wpAnyH_tk (i := 4) (v := ?_) rfl (by kernel_rfl) (by kernel_rfl) (by kernel_rfl) (fun _ _ _ h => h) (Or.inl ⟨by rfl, ?_⟩) hHeld ?_
            rotate_left
            · intro w hSw
              try dsimp only at hSw
              go_simp
              try with_reducible rfl
            try simp only [Act.put, List.setIfInBounds_toArray, List.set_cons_zero, List.set_cons_succ]
            refine wpAnyH_only (i := 5) rfl (by kernel_rfl) (fun K hK => ?_)
            go_simp
            refine (dteller d xd WE).mono ?_
            rintro e w5 ⟨rfl, hw5⟩
            have HE1 := hide (zoo_p4 ((unhide HE0).box #[.pointer (some ⟨d, 0, none⟩)] 25))
            rw [← hw5] at HE1
            clear hw5
            go_wp2_with fail
            refine hK.out _ _ (x8_of (zoo_varm (unhide HE1) (List.Mem.tail _ (List.Mem.tail _ (List.Mem.tail _ (List.Mem.head _)))))) (fun hHeld2 => ?_)
            clear hK K hHeld
            have hHeld := hHeld2
            clear hHeld2
            try simp only [Act.put, List.setIfInBounds_toArray, List.set_cons_zero, List.set_cons_succ]
            generalize WE.heap.size = q at *
            refine wpAnyH_only (i := 6) rfl (by kernel_rfl) (fun K hK => ?_)
            go_simp
            refine (dstep ⟨xd, xs, xm, xa, xk, xt, xp, xb⟩ hxb (unhide HG) (unhide HE1) hlen).mono ?_
            rintro e w7 ⟨rfl, HZ7⟩
            go_wp2_with fail
            refine hK.out _ _ (x8_of (zoo_varm (unhide HZ7) (List.Mem.tail _ (List.Mem.tail _ (List.Mem.head _))))) (fun hHeld2 => ?_)
            clear hK K hHeld
            have hHeld := hHeld2
            clear hHeld2
            try simp only [Act.put, List.setIfInBounds_toArray, List.set_cons_zero, List.set_cons_succ]
            refine wpAnyH_done (by kernel_rfl) ?_ _
            clear hHeld
            go_wp2_with fail
            go_end0
            exact ⟨rfl, Zoo.drop_ (l1 := [_, _]) (unhide HZ7)⟩
end
end
/- The desk's builder told and emptied: String, Reset, by their contracts. -/
section
open Go.RowKit
attribute [local go_sem ↓] Go.wp_at_zero Go.wp_at_succ

theorem ob_none : ob none = [] := rfl
theorem ob_some (g o : Nat) : ob (some ⟨g, o, none⟩) = [g] := rfl
/-- A desk whose builder has told: its box alone. -/
def RawT (d hb : Nat) : Thing where
  holds B w F := ∃ p v : Value, w.heap[d]? = some (.cells #[p, v, .pointer (some ⟨hb, 0, none⟩)] 46 (0, 0)) ∧ F = [d] ∧ B ≤ d
  kp := fun ⟨p, v, h1, h2, h3⟩ hk hS => ⟨p, v, by rw [hk.block d (lt_of_block h1) (hS d (by rw [h2]; simp))]; exact h1, h2, h3⟩
  lo := fun ⟨p, v, h1, h2, h3⟩ x hx => by rw [h2] at hx; rw [List.mem_singleton.1 hx]; exact ⟨h3, lt_of_block h1⟩
  base := fun ⟨p, v, h1, h2, h3⟩ hC => ⟨p, v, h1, h2, Nat.le_trans hC h3⟩
theorem kp_freeze {w : World} (g n : Nat) : Kp [g] w (w.freeze ⟨g, 0, none⟩ n) := by
  unfold World.freeze
  split
  · exact Kp.refl _ _
  · refine ⟨rfl, rfl, rfl, by simp, fun k hk hn => ?_⟩
    have hne : g ≠ k := fun e => hn (by simp [e])
    simp only [Array.getElem?_modify, if_neg hne]
set_option maxHeartbeats 2000000 in
theorem dstring {B d hb : Nat} {bs : List UInt8} {w : World} {F : List Nat} (h : (DskT d hb bs).holds B w F) :
    Calls Tryz.prog 16 #[.pointer (some ⟨d, 0, none⟩)] w fun e w' => e = .returned (.string ⟨bs.toArray⟩) ∧ Hid (Ch (RawT d hb) B w F w') := by
  obtain ⟨p, a, cap, _, hbk, hown, rfl, hBd, hda, hnil⟩ := h
  cases bs with
  | nil =>
    have ha := hnil rfl
    subst ha
    obtain ⟨_, hcp, _⟩ | ⟨g, e, _⟩ := hown.cases
    · subst hcp
      have c1 : w.drew.cell? ⟨d, 1, none⟩ = some (.slice none 0 0) := cell_of_block (w := w.drew) hbk rfl
      have hSD : (Builtin.unsafeSliceData_ #[42] 85 #[.slice none 0 0]).run Tryz.prog w.drew = .ok (.pointer none) w.drew := rfl
      have hUS := fun (W : World) (q : Option Addr) => Lib.run_unsafeString_none (P := Tryz.prog) W 85 3 9 q
      have hfin : Ch (RawT d hb) B w [d] w.drew := ⟨[d], ⟨p, _, hbk, rfl, hBd⟩, (Kp.refl [d] w).drew, fun x hx => .inl hx⟩
      have HF := hide hfin
      clear hbk hown hfin
      go_enter Tryz.func16, Tryz.ntmps16
      go_wp2_with fail
      go_region
      all_goals (go_wp2_with fail; go_ret; exact ⟨rfl, HF⟩)
    · cases e
  | cons c0 cr =>
    obtain ⟨_, _, e⟩ | ⟨g, rfl, hBg, hgl, hle⟩ := hown.cases
    · cases e
    obtain ⟨l, hl⟩ : ∃ l, c0 :: cr = l := ⟨_, rfl⟩
    have h0 : l ≠ [] := by rw [← hl]; simp
    rw [hl] at hbk hown hle ⊢
    obtain ⟨g2, cap2, cur, hv, _, hg, hnc, hcm, hcs, htake⟩ : ∃ g2 cap2 cur, Value.slice (some ⟨g, 0, none⟩) l.length cap = .slice (some ⟨g2, 0, none⟩) l.length cap2 ∧ B ≤ g2 ∧ w.heap[g2]? = some (.cells cur 5 (0, 0)) ∧ l.length ≤ cap2 ∧ cap2 ≤ maxLen ∧ cur.size = cap2 * 1 ∧ cur.toList.take (l.length * 1) = bcells l := by
      rcases hown.2 with ⟨_, hz⟩ | ⟨g2, cap2, cur, hv, r⟩
      · exact absurd (List.eq_nil_of_length_eq_zero hz) h0
      · exact ⟨g2, cap2, cur, hv, r⟩
    cases hv
    have c1 : w.drew.cell? ⟨d, 1, none⟩ = some (.slice (some ⟨g, 0, none⟩) l.length cap) := cell_of_block (w := w.drew) hbk rfl
    have hcap0 : cap ≠ 0 := by have := List.length_pos_iff.2 h0; omega
    have hSD : (Builtin.unsafeSliceData_ #[42] 85 #[.slice (some ⟨g, 0, none⟩) l.length cap]).run Tryz.prog w.drew = .ok (.pointer (some ⟨g, 0, none⟩)) w.drew := Lib.run_unsafeSliceData_row _ _ _ _ _ _ (by omega)
    have hUS : (Builtin.unsafeString_ #[85, 3] 9 #[.pointer (some ⟨g, 0, none⟩), .int .i64 l.length]).run Tryz.prog w.drew = .ok (.string ⟨l.toArray⟩) (w.drew.freeze ⟨g, 0, none⟩ l.length) := by
      refine Lib.run_unsafeString_row w.drew 85 3 9 5 Tryz.underlying85 btX.cellsByte g cur.size (by have hg' : w.drew.heap[g]? = some (.cells cur 5 (0, 0)) := hg; simp [World.shape?, hg']) l h0 (by omega) (by unfold maxLen at hcm; omega) ?_
      intro j x hx
      exact hown.cells (g := g) rfl j (.int .u8 x.toNat) (by simp [bcells, hx])
    have hne : d ∉ [g] := by simpa [ob_some] using hda
    have hkf : Kp [g] w (w.drew.freeze ⟨g, 0, none⟩ l.length) := (Kp.refl [g] w).drew.trans (kp_freeze g l.length) (fun x hx => .inl hx)
    have hfin : Ch (RawT d hb) B w (d :: ob (some ⟨g, 0, none⟩)) (w.drew.freeze ⟨g, 0, none⟩ l.length) := by
      refine ⟨[d], ⟨p, .slice (some ⟨g, 0, none⟩) l.length cap, ?_, rfl, hBd⟩, hkf.mono (fun x hx => by simp [ob_some] at hx ⊢; simp [hx]), fun x hx => .inl (by simp at hx; simp [hx])⟩
      rw [hkf.block d (lt_of_block hbk) hne]
      exact hbk
    have HF := hide hfin
    generalize l.length = n at *
    clear hbk hown hfin hkf hg htake hle hnc hda hnil hl h0
    go_enter Tryz.func16, Tryz.ntmps16
    go_wp2_with fail
    go_region
    all_goals (go_wp2_with fail; go_ret; exact ⟨rfl, HF⟩)
set_option maxHeartbeats 1000000 in
theorem dreset {B d hb : Nat} {w : World} {F : List Nat} (h : (RawT d hb).holds B w F) :
    Calls Tryz.prog 17 #[.pointer (some ⟨d, 0, none⟩)] w fun e w' => e = .returned (.tuple #[]) ∧ Hid (Ch (DskT d hb []) B w F w') := by
  obtain ⟨p, v, hbk, rfl, hBd⟩ := h
  have c0 : w.cell? ⟨d, 0, none⟩ = some p := cell_of_block hbk rfl
  have c1 : w.cell? ⟨d, 1, none⟩ = some v := cell_of_block hbk rfl
  have f0 : w.frozen? ⟨d, 0, none⟩ = false := frozen_of_block _ hbk
  have hb1 := heap_setCell_at 0 (.pointer none) hbk
  have f1 : (w.setCell ⟨d, 0, none⟩ (.pointer none)).frozen? ⟨d, 1, none⟩ = false := frozen_of_block _ hb1
  have hfin : Ch (DskT d hb []) B w [d] ((w.setCell ⟨d, 0, none⟩ (.pointer none)).setCell ⟨d, 1, none⟩ (.slice none 0 0)) := by
    refine ⟨[d], ⟨.pointer none, none, 0, .inl rfl, ?_, ownU_nil _ _, rfl, hBd, by simp [ob_none], fun _ => rfl⟩, ((Kp.refl [d] w).setCell (.inl (by simp)) _).setCell (.inl (by simp)) _, fun x hx => .inl hx⟩
    rw [heap_setCell_at 1 _ hb1]
    rfl
  have HF := hide hfin
  clear hfin hb1 hbk
  go_enter Tryz.func17, Tryz.ntmps17
  go_wp2_with fail
  go_end0
  exact ⟨rfl, HF⟩
section
variable {w0 w : World} {l1 r : List Thing} {d hb : Nat} {bs : List UInt8}
theorem z_string (hz : Zoo w0 w (l1 ++ DskT d hb bs :: r)) : Calls Tryz.prog 16 #[.pointer (some ⟨d, 0, none⟩)] w fun e w' => e = .returned (.string ⟨bs.toArray⟩) ∧ Hid (Zoo w0 w' (l1 ++ RawT d hb :: r)) := by
  obtain ⟨F, h1, k⟩ := hz.at_
  refine (dstring h1).mono ?_
  rintro e w' ⟨rfl, hch⟩
  exact ⟨rfl, k _ _ (unhide hch)⟩
theorem z_reset (hz : Zoo w0 w (l1 ++ RawT d hb :: r)) : Calls Tryz.prog 17 #[.pointer (some ⟨d, 0, none⟩)] w fun e w' => e = .returned (.tuple #[]) ∧ Hid (Zoo w0 w' (l1 ++ DskT d hb [] :: r)) := by
  obtain ⟨F, h1, k⟩ := hz.at_
  refine (dreset h1).mono ?_
  rintro e w' ⟨rfl, hch⟩
  exact ⟨rfl, k _ _ (unhide hch)⟩
end
end
/- The desk's check; how long what is told can be. -/
section
open Go.RowKit
attribute [local go_sem ↓] Go.wp_at_zero Go.wp_at_succ

def lsum : List (List UInt8) → Nat
  | [] => 0
  | x :: r => x.length + lsum r
theorem join_len : ∀ ws : List (List UInt8), (Lib.join ws [32]).length ≤ lsum ws + ws.length
  | [] => Nat.zero_le _
  | [x] => by rw [Lib.join_one]; simp [lsum]
  | x :: y :: r => by
    have h : Lib.join (x :: y :: r) [32] = x ++ ([32] ++ Lib.join (y :: r) [32]) := by simp [Lib.join, List.intercalate]
    have := join_len (y :: r)
    rw [h]
    simp [lsum] at this ⊢
    omega
theorem say_len (ws : List (List UInt8)) : (say ws).length ≤ lsum ws + ws.length + 1 := by
  unfold say
  rw [List.length_append]
  have := join_len ws
  simp
  omega
theorem pvx_sum : ∀ l : List Ver, (∀ p ∈ l, p.s.size ≤ 12 ∧ 0 ≤ p.a ∧ p.a ≤ 9) → lsum (l.map pvx) ≤ l.length * 58
  | [], _ => Nat.zero_le _
  | p :: r, h => by
    have h1 := h p (by simp)
    have h2 := pvx_sum r (fun q hq => h q (by simp [hq]))
    have h3 := Lib.itoa_length_le p.a (by omega) (by omega)
    have h4 := vtx_len p.t p.s (by omega)
    have h5 : (pvx p).length = (Lib.itoa p.a).length + (vtx p.t p.s).length := by unfold pvx; rw [List.length_append]
    simp only [List.map_cons, lsum, List.length_cons, h5]
    omega
theorem tell_len {v : Ev} (h : EvS v) (d : Int) : (say (tell d v)).length ≤ 600 := by
  have h0 := say_len (tell d v)
  have c := Lib.itoa_length_le v.c (by have := h.c0; omega) (by have := h.c1; omega)
  have n := Lib.itoa_length_le v.n (by have := h.n0; omega) (by have := h.n1; omega)
  have s := vtx_len v.t v.s (by have := h.s; omega)
  have ss := h.s
  have pl := pvx_sum v.l h.l
  have ll := h.len
  have hb : lsum (tell d v) + (tell d v).length ≤ 599 := by
    unfold tell
    by_cases hc : v.c ≠ 0
    · rw [if_pos hc]; simp [lsum]; omega
    · rw [if_neg hc]
      unfold telk
      by_cases h2 : d = 2
      · rw [if_pos h2]; simp [lsum]; omega
      · rw [if_neg h2]
        by_cases h5 : d = 5
        · rw [if_pos h5]; simp [lsum]; omega
        · rw [if_neg h5]
          by_cases h6 : d = 6 ∨ d = 8 ∨ d = 10
          · rw [if_pos h6]; simp [lsum]; omega
          · rw [if_neg h6]; simp [lsum]
  omega
theorem dln_len {h : HSt} (hi : HInv h) (l : List UInt8) : (dln h l).2.length ≤ 600 := by
  unfold dln
  cases hw : wds l with
  | nil => exact Nat.zero_le _
  | cons w ws =>
    dsimp only
    by_cases hl : w = [108, 97, 115, 116] ∧ ws = []
    · rw [if_pos hl]
      obtain ⟨b1, b2, b3, b4, b5⟩ := hal_nums hi
      have h0 := say_len [[108, 97, 115, 116], Lib.itoa h.n, Lib.itoa (fmx h.f 8), Lib.itoa (least h.n h.seat 5)]
      have e1 := Lib.itoa_length_le h.n (by omega) (by omega)
      have e2 := Lib.itoa_length_le (fmx h.f 8) (by omega) (by omega)
      have e3 := Lib.itoa_length_le (least h.n h.seat 5) (by omega) (by omega)
      simp [lsum] at h0
      dsimp only
      omega
    · rw [if_neg hl]
      cases hr : rdl w ws with
      | none =>
        have h0 := say_len [[119, 104, 97, 116]]
        simp [lsum] at h0
        dsimp only
        omega
      | some x => exact tell_len (hev_small hi x) x.d
def CkEnd (ls : List (List UInt8)) (w : World) (e : Ending) (w' : World) : Prop := ∃ c p : Int, e = .returned (.agg #[.int .i64 c, .int .i64 p]) ∧ lft ls = (c, p) ∧ Kp [] w w'
theorem ckEnd_mk {ls : List (List UInt8)} {w w' : World} (c p : Int) (h : lft ls = (c, p)) (hk : Kp [] w w') : CkEnd ls w (.returned (.agg #[.int .i64 c, .int .i64 p])) w' := ⟨c, p, rfl, h, hk⟩
theorem Tryz.sizeFa : (Tryz.prog.info? 31).map (·.size) = some 2 := by kernel_rfl
theorem lfg_step {ls : List (List UInt8)} {k : Nat} {l : List UInt8} (h : ls[k]? = some l) : lfg k (ls.drop k) = if (10 : UInt8) ∈ l then (15, (k : Int)) else lfg (k + 1) (ls.drop (k + 1)) := by
  obtain ⟨hk, e⟩ := List.getElem?_eq_some_iff.1 h
  rw [List.drop_eq_getElem_cons hk, e, lfg]
set_option maxHeartbeats 2000000 in
theorem dchk (ls : List (List UInt8)) (n : Nat) (hn : n = ls.length) (a : Option Addr) (cap : Nat) (w : World) (hw : Wrd w a ls) :
    Calls Tryz.prog 14 #[.slice a n cap] w fun e w' => CkEnd ls w e w' := by
  have HZ0 := hide ((zoo_nil (Kp.refl [] w)).box #[.int .i64 0, .int .i64 0] 31)
  have HW := hide hw
  have HN := hide hn
  clear hw hn
  go_enter Tryz.func14, Tryz.ntmps14
  by_cases hbig : 150 < n
  · have i1 : (150 : Int) < (n : Int) := by omega
    have hfin : lft ls = (14, -1) := by unfold lft; rw [if_pos (by rw [← unhide HN]; exact hbig)]
    have HF := hide hfin
    clear hfin
    go_wp2_with fail
    have hz3 := (zoo_nil (Kp.refl [] w)).box #[.int .i64 14, .int .i64 (-1)] 31
    refine bodyPost_ret (v := .agg #[.int .i64 14, .int .i64 (-1)]) (results_cell_row Tryz.results14 _ _ w.heap.size 31 _ (0, 0) _ rfl (zoo_varm hz3 (List.Mem.head _)) Tryz.underlying31 rfl Tryz.sizeFa) rfl ?_
    exact ckEnd_mk _ _ (unhide HF) hz3.kp
  · have i1 : ¬ (150 : Int) < (n : Int) := by omega
    go_wp2_with fail
    generalize w.alloc (.cells #[.int .i64 0, .int .i64 0] 31) = W at *
    generalize w.heap.size = pR at *
    go_loopw [11] (fun t wr => ∃ k : Nat, k ≤ n ∧ t = .int .i64 k ∧ Hid (lft ls = lfg k (ls.drop k)) ∧ Hid (Zoo w wr [BoxT pR #[.int .i64 0, .int .i64 0] 31])) (fun t _ => n - (intOf t).toNat)
    case atStart => exact ⟨0, Nat.zero_le _, rfl, by show lft ls = lfg 0 ls; unfold lft; rw [if_neg (by rw [← unhide HN]; exact hbig)], HZ0⟩
    case round =>
      obtain ⟨k, hk, rfl, HI, HZ⟩ := hrel
      have hR := zoo_varm (unhide HZ) (List.Mem.head _)
      by_cases hlt : k < n
      · have i0 : (0 : Int) ≤ (k : Int) := by omega
        have i2 : (k : Int) < (n : Int) := by omega
        obtain ⟨l, hl⟩ : ∃ l, ls[k]? = some l := ⟨_, List.getElem?_eq_getElem (by rw [← unhide HN]; exact hlt)⟩
        obtain ⟨g, o, rfl, hc⟩ := ((unhide HW).kp0 (unhide HZ).kp) (by rw [← unhide HN]; omega)
        have c1 := hc k l hl
        have HST := hide (lfg_step hl)
        have HCO := hide (scontains l wr)
        clear hc hl
        by_cases hm : (10 : UInt8) ∈ l
        · have e1 : decide ((10 : UInt8) ∈ l) = true := by simp [hm]
          rw [e1] at HCO
          have hfin : lft ls = (15, (k : Int)) := by rw [unhide HI, unhide HST, if_pos hm]
          have HF := hide hfin
          clear hfin e1
          go_wp2_with (first | (go_at_call 22; refine (unhide HCO).mono ?_; rintro e w' ⟨rfl, hw'⟩; subst w') | (refine wpList_store_row rfl 31 _ _ rfl pR #[.int .i64 15, .int .i64 (k : Int)] rfl rfl 31 _ hR Tryz.sizeFa rfl (by simp [Value.oneCell']) ?_))
          have hz3 := zoo_setrow (c' := #[.int .i64 15, .int .i64 (k : Int)]) (l1 := []) (unhide HZ)
          refine bodyPost_ret (v := .agg #[.int .i64 15, .int .i64 (k : Int)]) (results_cell_row Tryz.results14 _ _ pR 31 _ (0, 0) _ rfl (zoo_varm hz3 (List.Mem.head _)) Tryz.underlying31 rfl Tryz.sizeFa) rfl ?_
          exact ckEnd_mk _ _ (unhide HF) hz3.kp
        · have e1 : decide ((10 : UInt8) ∈ l) = false := by simp [hm]
          rw [e1] at HCO
          clear e1
          go_wp2_with (go_at_call 22; refine (unhide HCO).mono ?_; rintro e w' ⟨rfl, hw'⟩; subst w')
          refine ⟨⟨k + 1, by omega, by go_num, ?_, HZ⟩, by simp [intOf]; omega⟩
          exact (unhide HI).trans ((unhide HST).trans (if_neg hm))
      · have i2 : ¬ (k : Int) < (n : Int) := by omega
        have hfin : lft ls = (0, 0) := by
          rw [unhide HI, List.drop_of_length_le (by rw [← unhide HN]; omega)]; rfl
        have HF := hide hfin
        clear hfin
        go_wp2_with (refine wpList_store_row rfl 31 _ _ rfl pR #[.int .i64 0, .int .i64 0] rfl rfl 31 _ hR Tryz.sizeFa rfl (by simp [Value.oneCell']) ?_)
        have hz3 := zoo_setrow (c' := #[.int .i64 0, .int .i64 0]) (l1 := []) (unhide HZ)
        refine bodyPost_ret (v := .agg #[.int .i64 0, .int .i64 0]) (results_cell_row Tryz.results14 _ _ pR 31 _ (0, 0) _ rfl (zoo_varm hz3 (List.Mem.head _)) Tryz.underlying31 rfl Tryz.sizeFa) rfl ?_
        exact ckEnd_mk _ _ (unhide HF) hz3.kp
end
/- The document's desk, its small functions: num, say, LinesFault, Words, by their contracts. -/
section
open Go.RowKit
attribute [local go_sem ↓] Go.wp_at_zero Go.wp_at_succ

set_option maxHeartbeats 1000000 in
theorem rnum (n : Int) (w : World) (hg : Gnd w) (h0 : -9223372036854775808 ≤ n) (h1 : n ≤ 9223372036854775807) : Calls Tryz.prog 36 #[.int .i64 n] w fun e w' => e = .returned (.string ⟨(Lib.itoa n).toArray⟩) ∧ Kp [] w w' := by
  have HI := hide (sitoa n w hg h0 h1)
  clear hg
  go_enter Tryz.func36, Tryz.ntmps36
  go_wp2_with (go_at_call 25; refine (unhide HI).mono ?_; rintro e w1 ⟨rfl, hk⟩; have HK := hide hk; clear hk)
  go_ret
  exact ⟨rfl, unhide HK⟩
def rdc (told : List UInt8) (cb : Nat) : Array Value := #[.string ⟨told.toArray⟩, .pointer (some ⟨cb, 0, none⟩)]
section
variable {w0 w : World} {l1 r : List Thing} {rd cb : Nat} {told : List UInt8}
set_option maxHeartbeats 1000000 in
theorem rsay (x : List UInt8) (hz : Zoo w0 w (l1 ++ BoxT rd (rdc told cb) 50 :: r)) (hm : told.length + (x.length + 1) ≤ 200000) :
    Calls Tryz.prog 34 #[.pointer (some ⟨rd, 0, none⟩), .string ⟨x.toArray⟩] w fun e w' => e = .returned (.tuple #[]) ∧ Hid (Zoo w0 w' (l1 ++ BoxT rd (rdc (told ++ (x ++ [10])) cb) 50 :: r)) := by
  have hb := zoo_varm hz (by simp : BoxT rd (rdc told cb) 50 ∈ l1 ++ BoxT rd (rdc told cb) 50 :: r)
  have c0 : w.cell? ⟨rd, 0, none⟩ = some (.string ⟨told.toArray⟩) := cell_of_block hb rfl
  have f0 : w.frozen? ⟨rd, 0, none⟩ = false := frozen_of_block _ hb
  have i1 : ¬ 9223372036854775807 < x.length + 1 := by omega
  have i2 : ¬ 9223372036854775807 < told.length + (x.length + 1) := by omega
  have m1 := mk_app x [10]
  have m2 := mk_app told (x ++ [10])
  have hfin := zoo_setc (i := 0) (v := .string ⟨(told ++ (x ++ [10])).toArray⟩) hz
  have HF := hide hfin
  clear hz hb hfin
  go_enter Tryz.func34, Tryz.ntmps34
  go_wp2_with fail
  go_end0
  exact ⟨rfl, HF⟩
end
set_option maxHeartbeats 1000000 in
theorem rfault (c p : Int) (w : World) : Calls Tryz.prog 18 #[.int .i64 c, .int .i64 p] w fun e w' => e = .returned (.agg #[.int .i64 c, .int .i64 p]) ∧ Kp [] w w' := by
  have hz := (zoo_nil (Kp.refl [] w)).box #[.int .i64 c, .int .i64 p] 31
  have HZ := hide hz
  clear hz
  go_enter Tryz.func18, Tryz.ntmps18
  go_wp2_with fail
  refine bodyPost_ret (v := .agg #[.int .i64 c, .int .i64 p]) (results_cell_row Tryz.results18 _ _ w.heap.size 31 _ (0, 0) _ rfl (zoo_varm (unhide HZ) (List.Mem.head _)) Tryz.underlying31 rfl Tryz.sizeFa) rfl ?_
  exact ⟨rfl, (unhide HZ).kp⟩
theorem mem_take {l : List UInt8} {k : Nat} {c : UInt8} (h : l[k]? = some c) : ((10 : UInt8) ∈ l.take (k + 1)) ↔ ((10 : UInt8) ∈ l.take k ∨ c = 10) := by
  rw [List.take_add_one, h]
  simp only [List.mem_append, Option.toList_some, List.mem_singleton]
  constructor
  · rintro (q | q)
    · exact .inl q
    · exact .inr q.symm
  · rintro (q | q)
    · exact .inl q
    · exact .inr q.symm
set_option maxHeartbeats 4000000 in
theorem rlines (ls : List (List UInt8)) (n : Nat) (hn : n = ls.length) (a : Option Addr) (cap : Nat) (w : World) (hw : Wrd w a ls) (hl : ∀ l ∈ ls, l.length ≤ 140737488355327) :
    Calls Tryz.prog 10 #[.slice a n cap] w fun e w' => CkEnd ls w e w' := by
  have HZ0 := hide ((zoo_nil (Kp.refl [] w)).box #[.int .i64 0, .int .i64 0] 31)
  have HW := hide hw
  have HN := hide hn
  have HL := hide hl
  clear hw hn hl
  go_enter Tryz.func10, Tryz.ntmps10
  by_cases hbig : 150 < n
  · have i1 : (150 : Int) < (n : Int) := by omega
    have hfin : lft ls = (14, -1) := by unfold lft; rw [if_pos (by rw [← unhide HN]; exact hbig)]
    have HF := hide hfin
    clear hfin
    have HFA := hide (rfault 14 (-1) (w.alloc (.cells #[.int .i64 0, .int .i64 0] 31)))
    go_wp2_with (first | (go_at_call 18; refine (unhide HFA).mono ?_; rintro e w1 ⟨rfl, hk1⟩; have HZ1 := hide ((unhide HZ0).kp0 hk1); clear hk1) | (refine wpList_store_row rfl 31 _ _ rfl w.heap.size #[.int .i64 14, .int .i64 (-1)] rfl rfl 31 _ (zoo_varm (unhide HZ1) (List.Mem.head _)) Tryz.sizeFa rfl (by simp [Value.oneCell']) ?_))
    have hz3 := zoo_setrow (c' := #[.int .i64 14, .int .i64 (-1)]) (l1 := []) (unhide HZ1)
    refine bodyPost_ret (v := .agg #[.int .i64 14, .int .i64 (-1)]) (results_cell_row Tryz.results10 _ _ w.heap.size 31 _ (0, 0) _ rfl (zoo_varm hz3 (List.Mem.head _)) Tryz.underlying31 rfl Tryz.sizeFa) rfl ?_
    exact ckEnd_mk _ _ (unhide HF) hz3.kp
  · have i1 : ¬ (150 : Int) < (n : Int) := by omega
    go_wp2_with fail
    generalize w.alloc (.cells #[.int .i64 0, .int .i64 0] 31) = W at *
    generalize w.heap.size = pR at *
    go_loop [3, 4] (fun t _ => ∃ k : Nat, k ≤ n ∧ t = .int .i64 k ∧ Hid (lft ls = lfg k (ls.drop k))) (fun t _ => n - (intOf t).toNat)
    case atStart => exact ⟨0, Nat.zero_le _, rfl, by show lft ls = lfg 0 ls; unfold lft; rw [if_neg (by rw [← unhide HN]; exact hbig)]⟩
    case round =>
      obtain ⟨k, hk, rfl, HI⟩ := hrel
      by_cases hlt : k < n
      · have i0 : (0 : Int) ≤ (k : Int) := by omega
        have i2 : (k : Int) < (n : Int) := by omega
        obtain ⟨l, hl⟩ : ∃ l, ls[k]? = some l := ⟨_, List.getElem?_eq_getElem (by rw [← unhide HN]; exact hlt)⟩
        obtain ⟨g, o, rfl, hc⟩ := ((unhide HW).kp0 (unhide HZ0).kp) (by rw [← unhide HN]; omega)
        have c1 := hc k l hl
        have hll := unhide HL l (List.mem_of_getElem? hl)
        have HST := hide (lfg_step hl)
        have hsz : (ByteArray.mk l.toArray).size = l.length := size8 l
        clear hc hl
        go_wp2_with fail
        go_loop [4] (fun t => ∃ j : Nat, j ≤ l.length ∧ t = .int .i64 j ∧ Hid ((10 : UInt8) ∉ l.take j)) (fun t => l.length - (intOf t).toNat)
        case atStart => exact ⟨0, Nat.zero_le _, rfl, by simp [Hid]⟩
        case round =>
          obtain ⟨j, hj, rfl, HJ⟩ := hrel
          by_cases hjl : j < l.length
          · have j0 : (0 : Int) ≤ (j : Int) := by omega
            have j1 : (j : Int) < (l.length : Int) := by omega
            obtain ⟨c, hcj⟩ : ∃ c, l[j]? = some c := ⟨_, List.getElem?_eq_getElem hjl⟩
            have hget := get_lit l j (by rw [size8]; exact hjl) c hcj
            have HM := hide (mem_take hcj)
            clear hcj
            by_cases hc10 : c = 10
            · subst hc10
              have hmem : (10 : UInt8) ∈ l := List.mem_of_mem_take ((unhide HM).2 (.inr rfl))
              have hfin : lft ls = (15, (k : Int)) := by rw [unhide HI, unhide HST, if_pos hmem]
              have HF := hide hfin
              clear hfin hmem
              have HFA := hide (rfault 15 (k : Int) W)
              go_wp2_with (first | (go_at_call 18; refine (unhide HFA).mono ?_; rintro e w1 ⟨rfl, hk1⟩; have HZ1 := hide ((unhide HZ0).kp0 hk1); clear hk1) | (refine wpList_store_row rfl 31 _ _ rfl pR #[.int .i64 15, .int .i64 (k : Int)] rfl rfl 31 _ (zoo_varm (unhide HZ1) (List.Mem.head _)) Tryz.sizeFa rfl (by simp [Value.oneCell']) ?_))
              have hz3 := zoo_setrow (c' := #[.int .i64 15, .int .i64 (k : Int)]) (l1 := []) (unhide HZ1)
              refine bodyPost_ret (v := .agg #[.int .i64 15, .int .i64 (k : Int)]) (results_cell_row Tryz.results10 _ _ pR 31 _ (0, 0) _ rfl (zoo_varm hz3 (List.Mem.head _)) Tryz.underlying31 rfl Tryz.sizeFa) rfl ?_
              exact ckEnd_mk _ _ (unhide HF) hz3.kp
            · have hcn : ¬ ((c.toNat : Int) = 10) := u8_ne hc10 rfl
              go_wp2_with fail
              refine ⟨⟨j + 1, by omega, by go_num, fun hm => ?_⟩, by simp [intOf]; omega⟩
              rcases (unhide HM).1 hm with q | q
              · exact unhide HJ q
              · exact hc10 q
          · have j1 : ¬ (j : Int) < (l.length : Int) := by omega
            go_wp2_with fail
            refine ⟨⟨k + 1, by omega, by go_num, ?_⟩, by simp [intOf]; omega⟩
            have hno := unhide HJ
            rw [List.take_of_length_le (by omega)] at hno
            exact (unhide HI).trans ((unhide HST).trans (if_neg hno))
      · have i2 : ¬ (k : Int) < (n : Int) := by omega
        have hfin : lft ls = (0, 0) := by
          rw [unhide HI, List.drop_of_length_le (by rw [← unhide HN]; omega)]; rfl
        have HF := hide hfin
        clear hfin
        have hR := zoo_varm (unhide HZ0) (List.Mem.head _)
        go_wp2_with (refine wpList_store_row rfl 31 _ _ rfl pR #[.int .i64 0, .int .i64 0] rfl rfl 31 _ hR Tryz.sizeFa rfl (by simp [Value.oneCell']) ?_)
        have hz3 := zoo_setrow (c' := #[.int .i64 0, .int .i64 0]) (l1 := []) (unhide HZ0)
        refine bodyPost_ret (v := .agg #[.int .i64 0, .int .i64 0]) (results_cell_row Tryz.results10 _ _ pR 31 _ (0, 0) _ rfl (zoo_varm hz3 (List.Mem.head _)) Tryz.underlying31 rfl Tryz.sizeFa) rfl ?_
        exact ckEnd_mk _ _ (unhide HF) hz3.kp
end
/- Values as texts: textBegun, by its contract. -/
section
open Go.RowKit
attribute [local go_sem ↓] Go.wp_at_zero Go.wp_at_succ

/-- What bytes are shown as, as a string. -/
def shs (s : ByteArray) : ByteArray := ⟨(sh s.data.toList).toArray⟩
theorem shs_size (s : ByteArray) : s.size ≤ (shs s).size ∧ (shs s).size ≤ 3 * s.size := by
  have := sh_len s.data.toList
  unfold shs
  rw [mk_size]
  rw [len8] at this
  exact this
theorem mk_list (s : ByteArray) : ByteArray.mk s.data.toList.toArray = s := rfl
theorem list_inj {s t : ByteArray} (h : s.data.toList = t.data.toList) : s = t := by rw [← mk_list s, h, mk_list]
end
/- Values as texts, the document's: Shown, ValueText, by their contracts. -/
section
open Go.RowKit
attribute [local go_sem ↓] Go.wp_at_zero Go.wp_at_succ

theorem ext1 (s : ByteArray) (k : Nat) (h : k < s.size) : s.extract k (k + 1) = ⟨[s[k]].toArray⟩ := by
  apply list_inj
  rw [ByteArray.data_extract, Array.toList_extract, List.extract_eq_take_drop]
  show List.take (k + 1 - k) (s.data.toList.drop k) = _
  rw [get8 s k h, Nat.add_sub_cancel_left]
  rfl
/-- What the first k bytes are shown as. -/
def shk (s : ByteArray) (k : Nat) : ByteArray := ⟨(sh (s.data.toList.take k)).toArray⟩
theorem shk_size (s : ByteArray) (k : Nat) : (shk s k).size ≤ 3 * k := by
  unfold shk
  rw [mk_size]
  exact take_len8 s k
theorem shk_all (s : ByteArray) {k : Nat} (h : s.size ≤ k) : shk s k = shs s := by
  unfold shk shs
  rw [List.take_of_length_le (by rw [len8]; exact h)]
theorem shk_step (s : ByteArray) {k : Nat} (h : k < s.size) : shk s (k + 1) = shk s k ++ ⟨(shb s[k]).toArray⟩ := by
  unfold shk
  rw [take_snoc8 s k h, sh_snoc, mk_app]
theorem ext_dig : ∀ (k : Fin 16), (ByteArray.mk #[48, 49, 50, 51, 52, 53, 54, 55, 56, 57, 97, 98, 99, 100, 101, 102]).extract k.val (k.val + 1) = ⟨[hxd k.val].toArray⟩ := fun k => (ext1 (ByteArray.mk #[48, 49, 50, 51, 52, 53, 54, 55, 56, 57, 97, 98, 99, 100, 101, 102]) k.val k.isLt).trans (by rw [show (ByteArray.mk #[48, 49, 50, 51, 52, 53, 54, 55, 56, 57, 97, 98, 99, 100, 101, 102])[k.val] = hxd k.val from UInt8.toNat_inj.1 (dig_at k.isLt)])
theorem ext_digs (k : Nat) (h : k < 16) : (ByteArray.mk #[48, 49, 50, 51, 52, 53, 54, 55, 56, 57, 97, 98, 99, 100, 101, 102]).extract k (k + 1) = ⟨[hxd k].toArray⟩ := ext_dig ⟨k, h⟩
set_option maxHeartbeats 1000000 in
/-- What bytes are shown as, by the document. -/
theorem rshown (s : ByteArray) (w : World) (hs : s.size ≤ 30000) :
    Calls Tryz.prog 60 #[.string s] w fun e w' => e = .returned (.string (shs s)) ∧ Below w.heap.size w w' := by
  have HW := thide (Below.refl w.heap.size w)
  go_enter Tryz.func60, Tryz.ntmps60
  go_wp2_with fail
  go_loopw [4, 5] (fun o i wr => ∃ k : Nat, k ≤ s.size ∧ o = .string (shk s k) ∧ i = .int .i64 k ∧ Hid (Below w.heap.size w wr)) (fun _ i _ => s.size - (intOf i).toNat)
  case atStart => exact ⟨0, Nat.zero_le _, rfl, rfl, HW⟩
  case round =>
    obtain ⟨k, hk, rfl, rfl, HL⟩ := hrel
    by_cases hlt : k < s.size
    · have i0 : (0 : Int) ≤ (k : Int) := by omega
      have i1 : (k : Int) < (s.size : Int) := by omega
      have i2 : (k : Int) ≤ (k : Int) + 1 := by omega
      have i3 : (k : Int) + 1 ≤ (s.size : Int) := by omega
      have HT := thide (shk_step s hlt)
      have hl3 := shk_size s k
      have hc := s[k].toNat_lt
      have HX := thide (ext1 s k hlt)
      by_cases hp : pln s[k] = true
      · have hp' := hp
        unfold pln at hp'
        simp only [Bool.and_eq_true, decide_eq_true_eq, Bool.not_eq_true', decide_eq_false_iff_not] at hp'
        have j1 : (33 : Int) ≤ (s[k].toNat : Int) := by omega
        have j2 : (s[k].toNat : Int) ≤ 126 := by omega
        have j3 : ¬ (s[k].toNat : Int) = 92 := by omega
        have HE := thide (show shb s[k] = [s[k]] by unfold shb; rw [if_pos hp])
        clear hp hp'
        go_wp2_with fail
        refine ⟨⟨k + 1, by omega, ?_, by go_num, HL⟩, by simp [intOf]; omega⟩
        rw [tunhide HX, tunhide HT, tunhide HE]
      · have HE := thide (show (ByteArray.mk (shb s[k]).toArray) = (ByteArray.mk #[92] ++ ByteArray.mk [hxd (s[k].toNat / 16)].toArray) ++ ByteArray.mk [hxd (s[k].toNat % 16)].toArray by rw [show (ByteArray.mk #[92] : ByteArray) = ByteArray.mk [92].toArray from rfl, mk_app, mk_app]; unfold shb; rw [if_neg hp]; rfl)
        have HD1 := thide (ext_digs (s[k].toNat / 16) (by omega))
        have HD2 := thide (ext_digs (s[k].toNat % 16) (by omega))
        have q1 : (0 : Int) ≤ (s[k].toNat : Int) / 16 := by omega
        have q2 : (s[k].toNat : Int) / 16 + 1 ≤ 16 := by omega
        have q3 : (s[k].toNat : Int) / 16 ≤ (s[k].toNat : Int) / 16 + 1 := by omega
        have q4 : (0 : Int) ≤ (s[k].toNat : Int) % 16 := by omega
        have q5 : (s[k].toNat : Int) % 16 + 1 ≤ 16 := by omega
        have q6 : (s[k].toNat : Int) % 16 ≤ (s[k].toNat : Int) % 16 + 1 := by omega
        have hp' : s[k].toNat < 33 ∨ 126 < s[k].toNat ∨ s[k].toNat = 92 := by
          unfold pln at hp
          simp only [Bool.and_eq_true, decide_eq_true_eq, Bool.not_eq_true', decide_eq_false_iff_not] at hp
          omega
        clear hp
        by_cases h1 : s[k].toNat < 33
        · have j1 : ¬ (33 : Int) ≤ (s[k].toNat : Int) := by omega
          go_wp2_with fail
          go_quiet (fail)
          have HL2 := thide (tbelow_drewN (tunhide HL) nq)
          generalize wr.drewN nq = W2 at *
          go_wp2_with fail
          refine ⟨⟨k + 1, by omega, ?_, by go_num, HL2⟩, by simp [intOf]; omega⟩
          rw [tunhide HT, tunhide HE, tunhide HD1, tunhide HD2]
        · have j1 : (33 : Int) ≤ (s[k].toNat : Int) := by omega
          by_cases h2 : 126 < s[k].toNat
          · have j2 : ¬ (s[k].toNat : Int) ≤ 126 := by omega
            go_wp2_with fail
            go_quiet (fail)
            have HL2 := thide (tbelow_drewN (tunhide HL) nq)
            generalize wr.drewN nq = W2 at *
            go_wp2_with fail
            refine ⟨⟨k + 1, by omega, ?_, by go_num, HL2⟩, by simp [intOf]; omega⟩
            rw [tunhide HT, tunhide HE, tunhide HD1, tunhide HD2]
          · have j2 : (s[k].toNat : Int) ≤ 126 := by omega
            have j3 : (s[k].toNat : Int) = 92 := by omega
            go_wp2_with fail
            go_quiet (fail)
            have HL2 := thide (tbelow_drewN (tunhide HL) nq)
            generalize wr.drewN nq = W2 at *
            go_wp2_with fail
            refine ⟨⟨k + 1, by omega, ?_, by go_num, HL2⟩, by simp [intOf]; omega⟩
            rw [tunhide HT, tunhide HE, show s[k].toNat = 92 by omega]
            rw [show (ByteArray.mk #[48, 49, 50, 51, 52, 53, 54, 55, 56, 57, 97, 98, 99, 100, 101, 102]).extract 5 6 = _ from ext_digs 5 (by decide), show (ByteArray.mk #[48, 49, 50, 51, 52, 53, 54, 55, 56, 57, 97, 98, 99, 100, 101, 102]).extract 12 13 = _ from ext_digs 12 (by decide)]
    · have i1 : ¬ (k : Int) < (s.size : Int) := by omega
      have HE := thide (shk_all s (k := k) (by omega))
      go_wp2_with fail
      go_ret
      exact ⟨by rw [← tunhide HE]; rfl, HL⟩
end
/- The document's Words, by its contract. -/
section
open Go.RowKit
attribute [local go_sem ↓] Go.wp_at_zero Go.wp_at_succ

/-- The words still to come at place k, behind the bytes of one that has begun. -/
def wtl (l : List UInt8) (k : Nat) (cw : List UInt8) : List (List UInt8) := if k ≤ l.length then wgo cw (l.drop k) else []
theorem wtl_in {l : List UInt8} {k : Nat} {c : UInt8} (h : l[k]? = some c) (hc : c ≠ 32) (cw : List UInt8) : wtl l k cw = wtl l (k + 1) (cw ++ [c]) := by
  obtain ⟨hk, e⟩ := List.getElem?_eq_some_iff.1 h
  unfold wtl
  rw [if_pos (by omega), if_pos (by omega), List.drop_eq_getElem_cons hk, e, wgo, if_neg hc]
theorem wtl_out {l : List UInt8} {k : Nat} (hk : k ≤ l.length) (h : ∀ c, l[k]? = some c → c = 32) (cw : List UInt8) : wtl l k cw = (if cw = [] then [] else [cw]) ++ wtl l (k + 1) [] := by
  have e0 : wtl l k cw = wgo cw (l.drop k) := if_pos hk
  rw [e0]
  by_cases hlt : k < l.length
  · have e1 : wtl l (k + 1) [] = wgo [] (l.drop (k + 1)) := if_pos (by omega)
    rw [e1, List.drop_eq_getElem_cons hlt, wgo, if_pos (h _ (List.getElem?_eq_getElem hlt))]
    by_cases hcw : cw = []
    · rw [if_pos hcw, if_pos hcw]; rfl
    · rw [if_neg hcw, if_neg hcw]; rfl
  · have e1 : wtl l (k + 1) [] = [] := if_neg (by omega)
    rw [e1, List.drop_of_length_le (by omega), wgo, List.append_nil]
def WdEnd (l : List UInt8) (w : World) (e : Ending) (w' : World) : Prop := ∃ (a : Option Addr) (n cap : Nat), n = (wds l).length ∧ e = .returned (.slice a n cap) ∧ KRow 9 1 w.heap.size w' a n cap (strs (wds l)) ∧ Kp [] w w'
set_option maxHeartbeats 4000000 in
theorem rwords (l : List UInt8) (w : World) (hl : l.length ≤ 10000) :
    Calls Tryz.prog 32 #[.string ⟨l.toArray⟩] w fun e w' => WdEnd l w e w' := by
  have hu : Tryz.prog.underlying 22 = some (.slice 9) := Tryz.underlying22
  have hsz : (ByteArray.mk l.toArray).size = l.length := size8 l
  go_enter Tryz.func32, Tryz.ntmps32
  go_wp2_with fail
  go_loopw [3, 4, 5] (fun t3 t4 t5 wr => ∃ (k : Nat) (acc : List (List UInt8)) (cw : List UInt8) (a : Option Addr) (n cap : Nat), k ≤ l.length + 1 ∧ n ≤ k ∧ cw.length ≤ k ∧ t3 = .slice a n cap ∧ t4 = .string ⟨cw.toArray⟩ ∧ t5 = .int .i64 k ∧ Hid (n = acc.length) ∧ Hid (wds l = acc ++ wtl l k cw) ∧ Hid (KRow 9 1 w.heap.size wr a n cap (strs acc)) ∧ Hid (Kp [] w wr)) (fun _ _ t _ => l.length + 1 - (intOf t).toNat)
  case atStart => exact ⟨0, [], [], none, 0, 0, by omega, by omega, by simp, rfl, rfl, rfl, rfl, by show wds l = [] ++ wtl l 0 []; unfold wtl wds; rw [if_pos (by omega)]; rfl, krow_nil _ _ _ _, Kp.refl _ _⟩
  case round =>
    obtain ⟨k, acc, cw, a, n, cap, hk, hnk, hck, rfl, rfl, rfl, HN, HW, HR, HK⟩ := hrel
    have hwsz := (unhide HK).size
    by_cases hle : k ≤ l.length
    · have i0 : (0 : Int) ≤ (k : Int) := by omega
      have i1 : (k : Int) ≤ (l.length : Int) := by omega
      by_cases hin : ∃ c, l[k]? = some c ∧ c ≠ 32
      · obtain ⟨c, hc, hne⟩ := hin
        have hlt : k < l.length := (List.getElem?_eq_some_iff.1 hc).1
        have i2 : (k : Int) < (l.length : Int) := by omega
        have hget := get_lit l k (by rw [size8]; exact hlt) c hc
        have hex : (ByteArray.mk l.toArray).extract k (k + 1) = ⟨[c].toArray⟩ := by rw [ext1 _ k (by rw [size8]; exact hlt), hget]
        have hcn : ¬ ((c.toNat : Int) = 32) := u8_ne hne rfl
        have hcat : ¬ 9223372036854775807 < cw.length + 1 := by omega
        have hmk := mk_app cw [c]
        have HWI := hide (show wds l = acc ++ wtl l (k + 1) (cw ++ [c]) by rw [unhide HW, wtl_in hc hne])
        clear hc
        go_wp2_with fail
        exact ⟨⟨k + 1, acc, cw ++ [c], a, n, cap, by omega, by omega, by simp; omega, rfl, rfl, by go_num, HN, HWI, HR, HK⟩, by simp [intOf]; omega⟩
      · have hout : ∀ c, l[k]? = some c → c = 32 := fun c hc => Classical.byContradiction (fun q => hin ⟨c, hc, q⟩)
        have HWO := hide (wtl_out hle hout cw)
        by_cases hlt : k < l.length
        · have i2 : (k : Int) < (l.length : Int) := by omega
          obtain ⟨c, hc⟩ : ∃ c, l[k]? = some c := ⟨_, List.getElem?_eq_getElem hlt⟩
          have hc32 := hout c hc
          have hget := get_lit l k (by rw [size8]; exact hlt) c hc
          subst hc32
          clear hc hout hin
          by_cases hcw : cw = []
          · subst hcw
            go_wp2_with fail
            exact ⟨⟨k + 1, acc, [], a, n, cap, by omega, by omega, by simp, rfl, rfl, by go_num, HN, by show wds l = _; rw [unhide HW, unhide HWO, if_pos rfl]; rfl, HR, HK⟩, by simp [intOf]; omega⟩
          · have hcwb : cw.isEmpty = false := by cases cw; exact absurd rfl hcw; rfl
            go_wp2_with (at_builtin; refine wpList_krow (by rfl) (.tmp 31) (.tmp 33) 22 (by rfl) hu Tryz.infoS rfl (by omega) ((unhide HR).kp0 ((Kp.refl [] wr).alloc _)) (by simp; omega) (.slice (some ⟨wr.heap.size, 0, none⟩) 1 1) (strs [cw]) 1 (by rfl) (by rfl) (src_strs [cw] (heap_alloc_new wr _) rfl 1) (by omega) (n + 1) rfl ?_; intro a' cap' wd HR' HK' HX')
            refine ⟨⟨k + 1, acc ++ [cw], [], a', n + 1, cap', by omega, by omega, by simp, rfl, rfl, by go_num, ?_, ?_, ?_, ?_⟩, by simp [intOf]; omega⟩
            · rw [List.length_append, ← unhide HN]; rfl
            · exact hide (by rw [unhide HW, unhide HWO, if_neg hcw]; simp)
            · rw [strs_app]; exact HR'
            · exact ((unhide HK).trans0 ((Kp.refl [] wr).alloc _)).trans (unhide HK') (fun x hx => .inr ((unhide HR).lo x hx).1)
        · have i2 : ¬ (k : Int) < (l.length : Int) := by omega
          clear hout hin
          by_cases hcw : cw = []
          · subst hcw
            go_wp2_with fail
            exact ⟨⟨k + 1, acc, [], a, n, cap, by omega, by omega, by simp, rfl, rfl, by go_num, HN, by show wds l = _; rw [unhide HW, unhide HWO, if_pos rfl]; rfl, HR, HK⟩, by simp [intOf]; omega⟩
          · have hcwb : cw.isEmpty = false := by cases cw; exact absurd rfl hcw; rfl
            go_wp2_with (at_builtin; refine wpList_krow (by rfl) (.tmp 31) (.tmp 33) 22 (by rfl) hu Tryz.infoS rfl (by omega) ((unhide HR).kp0 ((Kp.refl [] wr).alloc _)) (by simp; omega) (.slice (some ⟨wr.heap.size, 0, none⟩) 1 1) (strs [cw]) 1 (by rfl) (by rfl) (src_strs [cw] (heap_alloc_new wr _) rfl 1) (by omega) (n + 1) rfl ?_; intro a' cap' wd HR' HK' HX')
            refine ⟨⟨k + 1, acc ++ [cw], [], a', n + 1, cap', by omega, by omega, by simp, rfl, rfl, by go_num, ?_, ?_, ?_, ?_⟩, by simp [intOf]; omega⟩
            · rw [List.length_append, ← unhide HN]; rfl
            · exact hide (by rw [unhide HW, unhide HWO, if_neg hcw]; simp)
            · rw [strs_app]; exact HR'
            · exact ((unhide HK).trans0 ((Kp.refl [] wr).alloc _)).trans (unhide HK') (fun x hx => .inr ((unhide HR).lo x hx).1)
    · have i1 : ¬ (k : Int) ≤ (l.length : Int) := by omega
      have fin : WdEnd l w (.returned (.slice a n cap)) wr := by
        have hw : wds l = acc := by rw [unhide HW]; unfold wtl; rw [if_neg hle, List.append_nil]
        refine ⟨a, n, cap, by rw [hw]; exact unhide HN, rfl, by rw [hw]; exact unhide HR, unhide HK⟩
      have HF := hide fin
      clear fin
      go_wp2_with fail
      go_ret
      exact unhide HF
end
/- The document's line, of no program: the words behind the first one, the numbers they are, the place in the table; against the step that the program reads. -/
section

/-- The words behind a line's first one that must be numbers, and the bytes. -/
def pgs (nm : List UInt8) (ws : List (List UInt8)) : Option (List (List UInt8) × List UInt8) :=
  if nm = [112, 117, 116] then (match ws with
    | [a, b, c] => (bts c).map fun t => ([a, b], t)
    | _ => none)
  else some (ws, [])
def nms : List (List UInt8) → Option (List Int)
  | [] => some []
  | w :: r => match num w with
    | none => none
    | some v => (nms r).map (v :: ·)
def tbl : List (List UInt8 × Nat) := [([115, 104, 111, 116], 1), ([115, 117, 114, 101], 1), ([108, 111, 111, 107], 2), ([103, 101, 116], 2), ([112, 117, 116], 2), ([100, 114, 111, 112], 2), ([108, 105, 115, 116], 3), ([99, 111, 109, 109, 105, 116], 1), ([97, 98, 111, 114, 116], 1), ([99, 108, 101, 97, 114], 0), ([99, 114, 97, 115, 104], 0), ([116, 101, 97, 114], 2), ([108, 97, 115, 116], 0)]
/-- The place in the table, of its first k rows. -/
def atf (nm : List UInt8) (m : Nat) : Nat → Int
  | 0 => -1
  | k + 1 => if tbl[k]? = some (nm, m) then (k : Int) else atf nm m k
/-- One number of a line laid into its step. -/
def lay1 (x : HStep) (c : UInt8) (v : Int) : HStep :=
  if c = 83 then { x with s := v } else if c = 65 then { x with at_ := v } else if c = 75 then { x with key := v } else if c = 84 then { x with to_ := v } else { x with keep := v }
def layn (x : HStep) : List UInt8 → List Int → HStep
  | c :: cs, v :: vs => layn (lay1 x c v) cs vs
  | _, _ => x
theorem put1_num {x : HStep} {c : UInt8} (hc : c ∈ ([83, 65, 75, 84, 78] : List UInt8)) (w : List UInt8) : put1 x c w = (num w).map (lay1 x c) := by
  simp only [List.mem_cons, List.not_mem_nil, or_false] at hc
  rcases hc with rfl | rfl | rfl | rfl | rfl <;> rfl
theorem fgo_nums : ∀ (L : List UInt8) (ws : List (List UInt8)) (x : HStep), (∀ c ∈ L, c ∈ ([83, 65, 75, 84, 78] : List UInt8)) → L.length = ws.length → fgo x L ws = (nms ws).map (layn x L)
  | [], ws, x, _, hl => by
    have : ws = [] := List.eq_nil_of_length_eq_zero hl.symm
    subst this; rfl
  | c :: cs, [], x, _, hl => by cases hl
  | c :: cs, w :: ws, x, hc, hl => by
    unfold fgo nms
    rw [put1_num (hc c (by simp)) w]
    cases num w with
    | none => rfl
    | some v =>
      show fgo (lay1 x c v) cs ws = _
      rw [fgo_nums cs ws (lay1 x c v) (fun d hd => hc d (by simp [hd])) (by simpa using hl)]
      cases nms ws <;> rfl
theorem rdg_no {nm : List UInt8} {ws : List (List UInt8)} : ∀ {os : List Od}, (∀ o ∈ os, o.name ≠ nm) → rdg nm ws os = none
  | [], _ => rfl
  | o :: r, h => by
    unfold rdg
    rw [if_neg (fun q => h o (by simp) q.1)]
    exact rdg_no (fun o ho => h o (by simp [ho]))
theorem rdg_at {ws : List (List UInt8)} {o : Od} : ∀ {os : List Od}, (os.map (·.name)).Nodup → o ∈ os → rdg o.name ws os = if o.letters.length = ws.length then fil o ws else none
  | [], _, h => by cases h
  | p :: r, hn, h => by
    rw [List.map_cons, List.nodup_cons] at hn
    unfold rdg
    rcases List.mem_cons.1 h with rfl | h
    · by_cases hl : o.letters.length = ws.length
      · rw [if_pos ⟨rfl, hl⟩, if_pos hl]
      · rw [if_neg (fun q => hl q.2), if_neg hl]
        exact rdg_no (fun q hq e => hn.1 (by rw [← e]; exact List.mem_map_of_mem hq))
    · rw [if_neg (fun q => hn.1 (by rw [q.1]; exact List.mem_map_of_mem h))]
      exact rdg_at hn.2 h
theorem rdl_at {ws : List (List UInt8)} {o : Od} (h : o ∈ ods) : rdl o.name ws = if o.letters.length = ws.length then fil o ws else none := rdg_at (by decide) h
/-- What a line's first word and its numbers are, by the document's table. -/
def Ordr (nm : List UInt8) (ns : List Int) (p : Int) (bs : List UInt8) (x : HStep) : Prop :=
  (nm = [115, 104, 111, 116] ∧ ∃ s, ns = [s] ∧ p = 0 ∧ x = ⟨1, s, 1, 0, 0, 0, 0, ⟨#[]⟩⟩)
  ∨ (nm = [115, 117, 114, 101] ∧ ∃ s, ns = [s] ∧ p = 1 ∧ x = ⟨1, s, 2, 0, 0, 0, 0, ⟨#[]⟩⟩)
  ∨ (nm = [108, 111, 111, 107] ∧ ∃ s k, ns = [s, k] ∧ p = 2 ∧ x = ⟨1, s, 3, k, 0, 0, 0, ⟨#[]⟩⟩)
  ∨ (nm = [103, 101, 116] ∧ ∃ s k, ns = [s, k] ∧ p = 3 ∧ x = ⟨2, s, 0, 0, k, 0, 0, ⟨#[]⟩⟩)
  ∨ (nm = [112, 117, 116] ∧ ∃ s k, ns = [s, k] ∧ p = 4 ∧ x = ⟨3, s, 0, 0, k, 0, 0, ⟨bs.toArray⟩⟩)
  ∨ (nm = [100, 114, 111, 112] ∧ ∃ s k, ns = [s, k] ∧ p = 5 ∧ x = ⟨4, s, 0, 0, k, 0, 0, ⟨#[]⟩⟩)
  ∨ (nm = [108, 105, 115, 116] ∧ ∃ s k t, ns = [s, k, t] ∧ p = 6 ∧ x = ⟨5, s, 0, 0, k, t, 0, ⟨#[]⟩⟩)
  ∨ (nm = [99, 111, 109, 109, 105, 116] ∧ ∃ s, ns = [s] ∧ p = 7 ∧ x = ⟨6, s, 0, 0, 0, 0, 0, ⟨#[]⟩⟩)
  ∨ (nm = [97, 98, 111, 114, 116] ∧ ∃ s, ns = [s] ∧ p = 8 ∧ x = ⟨7, s, 0, 0, 0, 0, 0, ⟨#[]⟩⟩)
  ∨ (nm = [99, 108, 101, 97, 114] ∧ ns = [] ∧ p = 9 ∧ x = ⟨8, 0, 0, 0, 0, 0, 0, ⟨#[]⟩⟩)
  ∨ (nm = [99, 114, 97, 115, 104] ∧ ns = [] ∧ p = 10 ∧ x = ⟨9, 0, 0, 0, 0, 0, 0, ⟨#[]⟩⟩)
  ∨ (nm = [116, 101, 97, 114] ∧ ∃ s k, ns = [s, k] ∧ p = 11 ∧ x = ⟨10, s, 0, 0, 0, 0, k, ⟨#[]⟩⟩)
theorem nms_len : ∀ {ws : List (List UInt8)} {ns : List Int}, nms ws = some ns → ns.length = ws.length
  | [], ns, h => by cases h; rfl
  | w :: r, ns, h => by
    unfold nms at h
    cases hw : num w with
    | none => rw [hw] at h; cases h
    | some v =>
      rw [hw] at h
      cases hr : nms r with
      | none => rw [hr] at h; cases h
      | some vs => rw [hr] at h; cases h; simp [nms_len hr]
/-- The place in the table of a name with another number of words behind it: none. -/
theorem atf_no {nm : List UInt8} {m : Nat} (h : ∀ q ∈ tbl, q ≠ (nm, m)) : ∀ k, atf nm m k = -1
  | 0 => rfl
  | k + 1 => by
    unfold atf
    rw [if_neg (fun e => h _ (List.mem_of_getElem? e) rfl)]
    exact atf_no h k
theorem atf_bad {nm : List UInt8} {m j : Nat} (hq : ∀ q ∈ tbl, q.1 = nm → q.2 = j) (hm : ¬ m = j) (k : Nat) : atf nm m k = -1 := atf_no (fun q h e => hm (by have := hq q h (by rw [e]); rw [e] at this; exact this)) k
/-- How a line comes out: no step, the last commit, or a step of the table. -/
def Out (nm : List UInt8) (ws : List (List UInt8)) (ns : List Int) (bs : List UInt8) : Prop :=
  (atf nm ns.length 13 = -1 ∧ rdl nm ws = none ∧ ¬ (nm = [108, 97, 115, 116] ∧ ws = []))
  ∨ (nm = [108, 97, 115, 116] ∧ ws = [] ∧ ns = [] ∧ atf nm ns.length 13 = 12)
  ∨ (¬ nm = [108, 97, 115, 116] ∧ ∃ x, rdl nm ws = some x ∧ 0 ≤ atf nm ns.length 13 ∧ Ordr nm ns (atf nm ns.length 13) bs x)
theorem out_row {o : Od} (ho : o ∈ ods) (hL : ∀ c ∈ o.letters, c ∈ ([83, 65, 75, 84, 78] : List UInt8)) (hlast : ¬ o.name = [108, 97, 115, 116]) (hput : ¬ o.name = [112, 117, 116])
    (hq : ∀ q ∈ tbl, q.1 = o.name → q.2 = o.letters.length) {p : Int} (hp : atf o.name o.letters.length 13 = p) (hp0 : 0 ≤ p)
    {ws vs : List (List UInt8)} {bs : List UInt8} {ns : List Int} (h1 : pgs o.name ws = some (vs, bs)) (h2 : nms vs = some ns)
    (hx : ns.length = o.letters.length → Ordr o.name ns p bs (layn ⟨o.kind, 0, o.mode, 0, 0, 0, 0, ⟨#[]⟩⟩ o.letters ns)) : Out o.name ws ns bs := by
  have e : vs = ws ∧ bs = [] := by
    unfold pgs at h1
    rw [if_neg hput] at h1
    cases h1; exact ⟨rfl, rfl⟩
  obtain ⟨rfl, rfl⟩ := e
  have hlen := nms_len h2
  have hr := rdl_at (ws := vs) ho
  by_cases hl : o.letters.length = vs.length
  · rw [if_pos hl] at hr
    refine .inr (.inr ⟨hlast, layn ⟨o.kind, 0, o.mode, 0, 0, 0, 0, ⟨#[]⟩⟩ o.letters ns, ?_, ?_⟩)
    · rw [hr]; unfold fil; rw [fgo_nums _ _ _ hL hl, h2]; rfl
    · rw [show ns.length = o.letters.length by omega, hp]; exact ⟨hp0, hx (by omega)⟩
  · rw [if_neg hl] at hr
    exact .inl ⟨atf_bad hq (by omega) 13, hr, fun q => hlast q.1⟩
theorem len1 {α : Type} {l : List α} (h : l.length = 1) : ∃ a, l = [a] := List.length_eq_one_iff.1 h
theorem len2 {α : Type} {l : List α} (h : l.length = 2) : ∃ a b, l = [a, b] := by
  match l, h with
  | [a, b], _ => exact ⟨a, b, rfl⟩
theorem len3 {α : Type} {l : List α} (h : l.length = 3) : ∃ a b c, l = [a, b, c] := by
  match l, h with
  | [a, b, c], _ => exact ⟨a, b, c, rfl⟩
theorem out_of {nm : List UInt8} {ws vs : List (List UInt8)} {bs : List UInt8} {ns : List Int} (h1 : pgs nm ws = some (vs, bs)) (h2 : nms vs = some ns) : Out nm ws ns bs := by
  by_cases c0 : nm = [115, 104, 111, 116]
  · subst c0
    exact out_row (o := ⟨[115, 104, 111, 116], [83], 1, 1⟩) (by simp [ods]) (by decide) (by decide) (by decide) (by decide) (p := 0) (by decide) (by decide) h1 h2 (fun hl => by obtain ⟨s, rfl⟩ := len1 hl; exact .inl ⟨rfl, s, rfl, rfl, rfl⟩)
  by_cases c1 : nm = [115, 117, 114, 101]
  · subst c1
    exact out_row (o := ⟨[115, 117, 114, 101], [83], 1, 2⟩) (by simp [ods]) (by decide) (by decide) (by decide) (by decide) (p := 1) (by decide) (by decide) h1 h2 (fun hl => by obtain ⟨s, rfl⟩ := len1 hl; exact .inr (.inl ⟨rfl, s, rfl, rfl, rfl⟩))
  by_cases c2 : nm = [108, 111, 111, 107]
  · subst c2
    exact out_row (o := ⟨[108, 111, 111, 107], [83, 65], 1, 3⟩) (by simp [ods]) (by decide) (by decide) (by decide) (by decide) (p := 2) (by decide) (by decide) h1 h2 (fun hl => by obtain ⟨s, k, rfl⟩ := len2 hl; exact .inr (.inr (.inl ⟨rfl, s, k, rfl, rfl, rfl⟩)))
  by_cases c3 : nm = [103, 101, 116]
  · subst c3
    exact out_row (o := ⟨[103, 101, 116], [83, 75], 2, 0⟩) (by simp [ods]) (by decide) (by decide) (by decide) (by decide) (p := 3) (by decide) (by decide) h1 h2 (fun hl => by obtain ⟨s, k, rfl⟩ := len2 hl; exact .inr (.inr (.inr (.inl ⟨rfl, s, k, rfl, rfl, rfl⟩))))
  by_cases c4 : nm = [112, 117, 116]
  · subst c4
    have hlast : ¬ ([112, 117, 116] : List UInt8) = [108, 97, 115, 116] := by decide
    unfold pgs at h1
    rw [if_pos rfl] at h1
    match ws, h1 with
    | [a, b, c], h1 =>
      dsimp only at h1
      cases hb : bts c with
      | none => rw [hb] at h1; cases h1
      | some t =>
        rw [hb] at h1
        cases h1
        have hr : rdl [112, 117, 116] [a, b, c] = fil ⟨[112, 117, 116], [83, 75, 66], 3, 0⟩ [a, b, c] := (rdl_at (o := ⟨[112, 117, 116], [83, 75, 66], 3, 0⟩) (ws := [a, b, c]) (by simp [ods])).trans (if_pos rfl)
        unfold nms nms nms at h2
        cases ha : num a with
        | none => rw [ha] at h2; cases h2
        | some va =>
          cases hbn : num b with
          | none => rw [ha, hbn] at h2; cases h2
          | some vb =>
            rw [ha, hbn] at h2
            cases h2
            have hp : atf [112, 117, 116] 2 13 = 4 := by decide
            refine .inr (.inr ⟨hlast, ⟨3, va, 0, 0, vb, 0, 0, ⟨bs.toArray⟩⟩, ?_, ?_⟩)
            · refine Eq.trans hr ?_
              simp [fil, fgo, put1, ha, hbn, hb]
            · refine ⟨by show 0 ≤ atf [112, 117, 116] 2 13; rw [hp]; decide, ?_⟩
              show Ordr _ _ (atf [112, 117, 116] 2 13) _ _
              rw [hp]
              exact .inr (.inr (.inr (.inr (.inl ⟨rfl, va, vb, rfl, rfl, rfl⟩))))
  by_cases c5 : nm = [100, 114, 111, 112]
  · subst c5
    exact out_row (o := ⟨[100, 114, 111, 112], [83, 75], 4, 0⟩) (by simp [ods]) (by decide) (by decide) (by decide) (by decide) (p := 5) (by decide) (by decide) h1 h2 (fun hl => by obtain ⟨s, k, rfl⟩ := len2 hl; exact .inr (.inr (.inr (.inr (.inr (.inl ⟨rfl, s, k, rfl, rfl, rfl⟩))))))
  by_cases c6 : nm = [108, 105, 115, 116]
  · subst c6
    exact out_row (o := ⟨[108, 105, 115, 116], [83, 75, 84], 5, 0⟩) (by simp [ods]) (by decide) (by decide) (by decide) (by decide) (p := 6) (by decide) (by decide) h1 h2 (fun hl => by obtain ⟨s, k, t, rfl⟩ := len3 hl; exact .inr (.inr (.inr (.inr (.inr (.inr (.inl ⟨rfl, s, k, t, rfl, rfl, rfl⟩)))))))
  by_cases c7 : nm = [99, 111, 109, 109, 105, 116]
  · subst c7
    exact out_row (o := ⟨[99, 111, 109, 109, 105, 116], [83], 6, 0⟩) (by simp [ods]) (by decide) (by decide) (by decide) (by decide) (p := 7) (by decide) (by decide) h1 h2 (fun hl => by obtain ⟨s, rfl⟩ := len1 hl; exact .inr (.inr (.inr (.inr (.inr (.inr (.inr (.inl ⟨rfl, s, rfl, rfl, rfl⟩))))))))
  by_cases c8 : nm = [97, 98, 111, 114, 116]
  · subst c8
    exact out_row (o := ⟨[97, 98, 111, 114, 116], [83], 7, 0⟩) (by simp [ods]) (by decide) (by decide) (by decide) (by decide) (p := 8) (by decide) (by decide) h1 h2 (fun hl => by obtain ⟨s, rfl⟩ := len1 hl; exact .inr (.inr (.inr (.inr (.inr (.inr (.inr (.inr (.inl ⟨rfl, s, rfl, rfl, rfl⟩)))))))))
  by_cases c9 : nm = [99, 108, 101, 97, 114]
  · subst c9
    exact out_row (o := ⟨[99, 108, 101, 97, 114], [], 8, 0⟩) (by simp [ods]) (by decide) (by decide) (by decide) (by decide) (p := 9) (by decide) (by decide) h1 h2 (fun hl => by obtain rfl := List.eq_nil_of_length_eq_zero hl; exact .inr (.inr (.inr (.inr (.inr (.inr (.inr (.inr (.inr (.inl ⟨rfl, rfl, rfl, rfl⟩))))))))))
  by_cases c10 : nm = [99, 114, 97, 115, 104]
  · subst c10
    exact out_row (o := ⟨[99, 114, 97, 115, 104], [], 9, 0⟩) (by simp [ods]) (by decide) (by decide) (by decide) (by decide) (p := 10) (by decide) (by decide) h1 h2 (fun hl => by obtain rfl := List.eq_nil_of_length_eq_zero hl; exact .inr (.inr (.inr (.inr (.inr (.inr (.inr (.inr (.inr (.inr (.inl ⟨rfl, rfl, rfl, rfl⟩)))))))))))
  by_cases c11 : nm = [116, 101, 97, 114]
  · subst c11
    exact out_row (o := ⟨[116, 101, 97, 114], [83, 78], 10, 0⟩) (by simp [ods]) (by decide) (by decide) (by decide) (by decide) (p := 11) (by decide) (by decide) h1 h2 (fun hl => by obtain ⟨s, k, rfl⟩ := len2 hl; exact .inr (.inr (.inr (.inr (.inr (.inr (.inr (.inr (.inr (.inr (.inr ⟨rfl, s, k, rfl, rfl, rfl⟩)))))))))))
  have hno : rdl nm ws = none := rdg_no (by
    intro o ho e
    simp only [ods, List.mem_cons, List.not_mem_nil, or_false] at ho
    rcases ho with rfl | rfl | rfl | rfl | rfl | rfl | rfl | rfl | rfl | rfl | rfl | rfl
    · exact c0 e.symm
    · exact c1 e.symm
    · exact c2 e.symm
    · exact c3 e.symm
    · exact c4 e.symm
    · exact c5 e.symm
    · exact c6 e.symm
    · exact c7 e.symm
    · exact c9 e.symm
    · exact c11 e.symm
    · exact c8 e.symm
    · exact c10 e.symm)
  by_cases c12 : nm = [108, 97, 115, 116] ∧ ws = []
  · obtain ⟨rfl, rfl⟩ := c12
    unfold pgs at h1
    rw [if_neg c4] at h1
    cases h1
    cases h2
    exact .inr (.inl ⟨rfl, rfl, rfl, by decide⟩)
  · refine .inl ⟨?_, hno, c12⟩
    by_cases cl : nm = [108, 97, 115, 116]
    · subst cl
      have e : vs = ws := by
        unfold pgs at h1
        rw [if_neg c4] at h1
        cases h1; rfl
      subst e
      refine atf_bad (j := 0) (by decide) (fun q => c12 ⟨rfl, ?_⟩) 13
      have := nms_len h2
      exact List.eq_nil_of_length_eq_zero (by omega)
    · refine atf_no ?_ 13
      intro q hq e
      subst e
      simp only [tbl, List.mem_cons, List.not_mem_nil, or_false, Prod.mk.injEq] at hq
      rcases hq with q | q | q | q | q | q | q | q | q | q | q | q | q
      · exact c0 q.1
      · exact c1 q.1
      · exact c2 q.1
      · exact c3 q.1
      · exact c4 q.1
      · exact c5 q.1
      · exact c6 q.1
      · exact c7 q.1
      · exact c8 q.1
      · exact c9 q.1
      · exact c10 q.1
      · exact c11 q.1
      · exact cl q.1
/-- A word that is no number: the line is no step. -/
theorem rdl_bad {nm : List UInt8} {ws vs : List (List UInt8)} {bs : List UInt8} (h1 : pgs nm ws = some (vs, bs)) (h2 : nms vs = none) : rdl nm ws = none ∧ ¬ (nm = [108, 97, 115, 116] ∧ ws = []) := by
  refine ⟨?_, ?_⟩
  · by_cases hin : ∃ o ∈ ods, o.name = nm
    · obtain ⟨o, ho, rfl⟩ := hin
      rw [rdl_at ho]
      by_cases hl : o.letters.length = ws.length
      · rw [if_pos hl]
        by_cases hp : o.name = [112, 117, 116]
        · unfold pgs at h1
          rw [if_pos hp] at h1
          have eo : o = ⟨[112, 117, 116], [83, 75, 66], 3, 0⟩ := by
            simp only [ods, List.mem_cons, List.not_mem_nil, or_false] at ho
            rcases ho with rfl | rfl | rfl | rfl | rfl | rfl | rfl | rfl | rfl | rfl | rfl | rfl <;> first | rfl | (exact absurd hp (by decide))
          subst eo
          match ws, h1 with
          | [a, b, c], h1 =>
            dsimp only at h1
            cases hb : bts c with
            | none => rw [hb] at h1; cases h1
            | some t =>
              rw [hb] at h1
              cases h1
              unfold nms nms nms at h2
              cases ha : num a with
              | none => simp [fil, fgo, put1, ha]
              | some va =>
                cases hbn : num b with
                | none => simp [fil, fgo, put1, ha, hbn]
                | some vb => rw [ha, hbn] at h2; cases h2
        · unfold pgs at h1
          rw [if_neg hp] at h1
          cases h1
          have hL' : ∀ o ∈ ods, ¬ o.name = [112, 117, 116] → ∀ c ∈ o.letters, c ∈ ([83, 65, 75, 84, 78] : List UInt8) := by decide
          have hL := hL' o ho hp
          unfold fil
          rw [fgo_nums _ _ _ hL hl, h2]; rfl
      · rw [if_neg hl]
    · exact rdg_no (fun o ho e => hin ⟨o, ho, e⟩)
  · rintro ⟨rfl, rfl⟩
    unfold pgs at h1
    rw [if_neg (by decide)] at h1
    cases h1
    cases h2
/-- No bytes where the table has them: the line is no step. -/
theorem rdl_put {ws : List (List UInt8)} (h1 : pgs [112, 117, 116] ws = none) : rdl [112, 117, 116] ws = none := by
  have hr := rdl_at (o := ⟨[112, 117, 116], [83, 75, 66], 3, 0⟩) (ws := ws) (by simp [ods])
  refine Eq.trans hr ?_
  by_cases hl : 3 = ws.length
  · obtain ⟨a, b, c, rfl⟩ := len3 hl.symm
    refine Eq.trans (if_pos rfl) ?_
    unfold pgs at h1
    rw [if_pos rfl] at h1
    dsimp only at h1
    cases hb : bts c with
    | none =>
      cases ha : num a with
      | none => simp [fil, fgo, put1, ha]
      | some va =>
        cases hbn : num b with
        | none => simp [fil, fgo, put1, ha, hbn]
        | some vb => simp [fil, fgo, put1, ha, hbn, hb]
    | some t => rw [hb] at h1; cases h1
  · exact if_neg hl
end
/- Values as texts, the document's: ValueText, Meant, by their contracts. -/
section
open Go.RowKit
attribute [local go_sem ↓] Go.wp_at_zero Go.wp_at_succ

set_option maxHeartbeats 1000000 in
theorem rvalue (t : Bool) (s : ByteArray) (w : World) (hs : s.size ≤ 30000) :
    Calls Tryz.prog 40 #[.agg #[.bool t, .string s]] w fun e w' => e = .returned (.string ⟨(vtx t s).toArray⟩) ∧ Below w.heap.size w w' := by
  have HW := thide ((Below.refl w.heap.size w).alloc (Nat.le_refl _) (.cells #[.bool t, .string s] 99))
  cases t with
  | false =>
    go_enter Tryz.func40, Tryz.ntmps40
    go_wp2_with fail
    go_ret
    exact ⟨rfl, HW⟩
  | true =>
    have HE := thide (show ByteArray.mk (vtx true s).toArray = ByteArray.mk #[61] ++ shs s by rw [show (ByteArray.mk #[61] : ByteArray) = ByteArray.mk [61].toArray from rfl, shs, mk_app]; rfl)
    have hz := (shs_size s).2
    go_enter Tryz.func40, Tryz.ntmps40
    go_wp2_with fail
    refine (rshown s _ hs).mono ?_
    rintro e w1 ⟨rfl, k1⟩
    have K1 := thide k1
    clear k1
    generalize shs s = R at *
    go_wp2_with fail
    go_ret
    exact ⟨by rw [tunhide HE]; rfl, (tunhide HW).trans ((tunhide K1).mono (by simp))⟩
/-- Does a byte's text stand at a place? -/
theorem mt_yes {s : ByteArray} {p : Nat} {c : UInt8} (_h1 : p + (shb c).length ≤ s.size) (h2 : s.extract p (p + (shb c).length) = ⟨(shb c).toArray⟩) : mby (s.data.toList.drop p) = some (c, (shb c).length) := by
  have h3 := congrArg (fun b : ByteArray => b.data.toList) h2
  simp only [ByteArray.data_extract, Array.toList_extract, List.extract_eq_take_drop, Nat.add_sub_cancel_left] at h3
  have h4 := (List.take_append_drop (shb c).length (s.data.toList.drop p)).symm
  rw [h3] at h4
  rw [h4]
  exact mby_app c _
theorem mt_no {s : ByteArray} {p : Nat} {c : UInt8} {n : Nat} (hp : p ≤ s.size) (h : mby (s.data.toList.drop p) = some (c, n)) : n = (shb c).length ∧ p + (shb c).length ≤ s.size ∧ s.extract p (p + (shb c).length) = ⟨(shb c).toArray⟩ := by
  obtain ⟨h1, h2⟩ := mby_pre h
  have h3 := congrArg List.length h2
  rw [List.length_append, List.length_drop, List.length_drop, List.length_drop, len8] at h3
  have h5 : 1 ≤ (shb c).length := by rcases shb_len c with q | q <;> omega
  refine ⟨h1, by omega, ?_⟩
  apply list_inj
  rw [ByteArray.data_extract, Array.toList_extract, List.extract_eq_take_drop, Nat.add_sub_cancel_left, h2]
  simp
/-- A byte as a string. -/
theorem conv1 (W : World) {k : Nat} {c : UInt8} (hc : c.toNat = k) (T : TypeId) : (convert 42 9 (.slice (some ⟨W.heap.size, 0, none⟩) 1 1)).run Tryz.prog (W.alloc (.cells #[.int .u8 (k : Int)] T)) = .ok (.string ⟨#[c]⟩) (W.alloc (.cells #[.int .u8 (k : Int)] T)) := by
  refine run_convert_bytes_back _ 42 9 5 ⟨W.heap.size, 0, none⟩ 1 [c] Tryz.underlying42 Tryz.underlying5 Tryz.underlying9 (fun j hj => ?_)
  have : j = 0 := by simp at hj; omega
  subst this
  simp [Addr.add, hc]
theorem shs1 (c : UInt8) : shs ⟨#[c]⟩ = ⟨(shb c).toArray⟩ := by
  unfold shs
  show (⟨(sh [c]).toArray⟩ : ByteArray) = _
  rw [sh_cons, sh_nil, List.append_nil]
theorem tlist_ne {s t : ByteArray} (h : ¬ s = t) : (s.toList == t.toList) = false := beq_eq_false_iff_ne.2 (fun e => h (list_inj (by rw [← ByteArray.toList_eq, ← ByteArray.toList_eq]; exact e)))
theorem tlist_eq {s t : ByteArray} (h : s = t) : (s.toList == t.toList) = true := by rw [h]; exact beq_self_eq_true _
set_option maxHeartbeats 2000000 in
theorem rmeant (s : ByteArray) (w : World) (hs : s.size ≤ 30000) :
    Calls Tryz.prog 33 #[.string s] w fun e w' => e = .returned (mnv (mn s.data.toList)) ∧ Below w.heap.size w w' := by
  have HW := thide (Below.refl w.heap.size w)
  obtain ⟨o, ho⟩ : ∃ o, mn s.data.toList = o := ⟨_, rfl⟩
  have HO := thide ho
  rw [ho]
  clear ho
  go_enter Tryz.func33, Tryz.ntmps33
  go_wp2_with fail
  go_loopw [4, 5] (fun q a wr => ∃ (p : Nat) (acc : List UInt8), p ≤ s.size ∧ acc.length ≤ p ∧ q = .string ⟨acc.toArray⟩ ∧ a = .int .i64 p ∧ Hid (MnI s.data.toList acc (s.data.toList.drop p)) ∧ Hid (Below w.heap.size w wr)) (fun _ a _ => s.size - (intOf a).toNat)
  case atStart => exact ⟨0, [], Nat.zero_le _, Nat.le_refl _, rfl, rfl, by rw [List.drop_zero]; exact mni_0 _, HW⟩
  case round =>
    obtain ⟨p, acc, hp, hal, rfl, rfl, HI, HL⟩ := hrel
    by_cases hlt : p < s.size
    · have i1 : (p : Int) < (s.size : Int) := by omega
      have HR := thide (show s.data.toList.drop p ≠ [] from fun e => by
        have := congrArg List.length e
        rw [List.length_drop, len8, List.length_nil] at this
        omega)
      have hasz := mk_size acc
      have HAP := thide (fun c : UInt8 => mk_app acc [c])
      generalize hOO : ByteArray.mk acc.toArray = OO at *
      have HOO := thide hOO
      clear hOO
      have hoz : OO.size ≤ 30000 := by omega
      clear hasz
      go_wp2_with fail
      go_loopw [4, 5, 6, 7] (fun q a h c wr => ∃ (k : Nat) (hit : Bool), k ≤ 256 ∧ c = .int .i64 k ∧ h = .bool hit ∧ Hid (Below w.heap.size w wr) ∧ (hit = false → q = .string OO ∧ a = .int .i64 p ∧ Hid (∀ (c : UInt8) n, mby (s.data.toList.drop p) = some (c, n) → k ≤ c.toNat)) ∧ (hit = true → ∃ (c : UInt8) (n : Nat), q = .string ⟨(acc ++ [c]).toArray⟩ ∧ a = .int .i64 ((p + n : Nat) : Int) ∧ Hid (mby (s.data.toList.drop p) = some (c, n)))) (fun _ _ _ c _ => 257 - (intOf c).toNat)
      case atStart => exact ⟨0, false, by omega, rfl, rfl, HL, fun _ => ⟨rfl, rfl, fun _ _ _ => Nat.zero_le _⟩, fun h => by cases h⟩
      case round =>
        obtain ⟨k, hit, hk, rfl, rfl, HL2, hf, ht⟩ := hrel
        cases hit with
        | true =>
          obtain ⟨c, n, rfl, rfl, HM⟩ := ht rfl
          clear hf ht
          have HB : 1 ≤ n ∧ p + n ≤ s.size := by
            have := mby_n (tunhide HM)
            rw [List.length_drop, len8] at this
            omega
          by_cases hk2 : k < 256
          · have i2 : (k : Int) < 256 := by omega
            go_wp2_with fail
            refine ⟨⟨p + n, acc ++ [c], HB.2, by rw [List.length_append, List.length_singleton]; omega, rfl, by go_num, ?_, HL2⟩, by simp [intOf]; omega⟩
            have := (tunhide HI).step (tunhide HR) (tunhide HM)
            rw [List.drop_drop] at this
            exact this
          · have i2 : ¬ (k : Int) < 256 := by omega
            go_wp2_with fail
            refine ⟨⟨p + n, acc ++ [c], HB.2, by rw [List.length_append, List.length_singleton]; omega, rfl, by go_num, ?_, HL2⟩, by simp [intOf]; omega⟩
            have := (tunhide HI).step (tunhide HR) (tunhide HM)
            rw [List.drop_drop] at this
            exact this
        | false =>
          obtain ⟨rfl, rfl, HN⟩ := hf rfl
          clear hf ht
          by_cases hk2 : k < 256
          · have i2 : (k : Int) < 256 := by omega
            obtain ⟨c, hc⟩ : ∃ c : UInt8, c.toNat = k := ⟨UInt8.ofNat k, by rw [UInt8.toNat_ofNat']; omega⟩
            have hcv := fun W T => conv1 W hc T
            have HL3 := thide ((tunhide HL2).alloc (tunhide HL2).size (.cells #[.int .u8 (k : Int)] 5))
            have HCN := thide hc
            clear hc
            go_wp2_with fail
            refine (rshown ⟨#[c]⟩ _ (by show 1 ≤ 30000; omega)).mono ?_
            rintro e w3 ⟨rfl, k3⟩
            have HL4 := thide ((tunhide HL3).trans (k3.mono (tunhide HL3).size))
            clear k3 HL3
            rw [shs1]
            have hm := mk_size (shb c)
            have hm2 := shb_len c
            have HY := thide (fun (h1 : p + (shb c).length ≤ s.size) (h2 : s.extract p (p + (shb c).length) = ⟨(shb c).toArray⟩) => mt_yes h1 h2)
            have HNO := thide (fun (n : Nat) (h : mby (s.data.toList.drop p) = some (c, n)) => mt_no hp h)
            obtain ⟨m, hmm⟩ : ∃ m, (shb c).length = m := ⟨_, rfl⟩
            rw [hmm] at hm hm2 HY HNO
            clear hmm
            generalize ByteArray.mk (shb c).toArray = T at *
            have hstep : ¬ (p + m ≤ s.size ∧ s.extract p (p + m) = T) → ∀ (c' : UInt8) n, mby (s.data.toList.drop p) = some (c', n) → k + 1 ≤ c'.toNat := fun hn c' n h => by
              have h1 := tunhide HN c' n h
              rcases Nat.lt_or_ge k c'.toNat with q | q
              · exact q
              · have : c' = c := UInt8.toNat_inj.1 (by have := tunhide HCN; omega)
                subst this
                exact absurd (tunhide HNO n h).2 hn
            have HST := thide hstep
            clear hstep
            have t1 : (T.size : Int) = (m : Int) := by omega
            have m3 : m ≤ 3 := by omega
            have HMS := thide hm
            clear hm hm2
            by_cases h1 : p + m ≤ s.size
            · have j1 : (p : Int) + (m : Int) ≤ (s.size : Int) := by omega
              have j2 : (0 : Int) ≤ (p : Int) := by omega
              have j3 : (p : Int) ≤ (p : Int) + (m : Int) := by omega
              by_cases h2 : s.extract p (p + m) = T
              · have e2 := tlist_eq h2
                have HM := thide (tunhide HY h1 h2)
                have HL5 := thide ((tunhide HL4).alloc (tunhide HL4).size (.cells #[.int .u8 (k : Int)] 5))
                have HE := thide (show OO ++ ByteArray.mk #[c] = ByteArray.mk (acc ++ [c]).toArray by rw [← tunhide HOO]; exact mk_app acc [c])
                go_wp2_with fail
                exact ⟨⟨k + 1, true, by omega, by go_num, rfl, HL5, (fun h => by cases h), fun _ => ⟨c, m, by rw [tunhide HE], by go_num, HM⟩⟩, by simp [intOf]; omega⟩
              · have e2 := tlist_ne h2
                have HN3 := thide (tunhide HST (fun q => h2 q.2))
                go_wp2_with fail
                exact ⟨⟨k + 1, false, by omega, by go_num, rfl, HL4, fun _ => ⟨rfl, rfl, HN3⟩, fun h => by cases h⟩, by simp [intOf]; omega⟩
            · have j1 : ¬ (p : Int) + (m : Int) ≤ (s.size : Int) := by omega
              have HN3 := thide (tunhide HST (fun q => h1 q.1))
              go_wp2_with fail
              exact ⟨⟨k + 1, false, by omega, by go_num, rfl, HL4, fun _ => ⟨rfl, rfl, HN3⟩, fun h => by cases h⟩, by simp [intOf]; omega⟩
          · have i2 : ¬ (k : Int) < 256 := by omega
            have HN2 := thide (show o = none by
              rw [← tunhide HO]
              refine (tunhide HI).none_ (tunhide HR) ?_
              cases hm : mby (s.data.toList.drop p) with
              | none => rfl
              | some x =>
                have := tunhide HN x.1 x.2 hm
                have := x.1.toNat_lt
                omega)
            go_wp2_with fail
            exact bodyPost_ret (v := mnv none) (by simp [results, Tryz.results33, go_sem, mnv]) rfl ⟨by rw [tunhide HN2], HL2⟩
    · have i1 : ¬ (p : Int) < (s.size : Int) := by omega
      have HN2 := thide (show o = some acc by
        rw [← tunhide HO]
        have := tunhide HI
        rw [List.drop_of_length_le (by rw [len8]; omega)] at this
        exact this.fin)
      go_wp2_with fail
      exact bodyPost_ret (v := mnv (some acc)) (by simp [results, Tryz.results33, go_sem, mnv]) rfl ⟨by rw [tunhide HN2], HL⟩
end
/- The desk's New and Do, by their contracts. -/
section
open Go.RowKit
attribute [local go_sem ↓] Go.wp_at_zero Go.wp_at_succ

theorem results_tmp_cell {fn : Func} {p u : Tmp} {ty : TypeId} (h : fn.results = #[.tmp u, .cell p ty]) (tmps : Array Value) (P : Program) (w : World) :
    (results fn tmps).run P w = ((asAddr (tmps.getD p undef)).run P w).andThen fun a w1 => ((loadVar ty a).run P w1).andThen fun v w2 => .ok (.tuple #[tmps.getD u undef, v]) w2 := by
  simp only [results, h]
  simp [Sem.run_bind, Result.andThen]
theorem faload {w : World} {p : Nat} {c : Array Value} (hs : c.size = 2) (h : w.heap[p]? = some (.cells c 31 (0, 0))) : (loadVar 31 ⟨p, 0, none⟩).run Tryz.prog w = .ok (.agg c) w :=
  run_loadVar_row w p 31 31 c (0, 0) _ h Tryz.underlying31 rfl (by rw [hs]; exact Tryz.sizeFa)
def h00 : HSt := ⟨fun _ => [dv], 0, [], fun _ => none⟩
section
variable {w0 w : World} {r : List Thing} {d hb : Nat} {h : HSt}
set_option maxHeartbeats 1000000 in
theorem dnew (hz : Zoo w0 w r) : Calls Tryz.prog 7 #[] w fun e w' => ∃ d hb, e = .returned (.pointer (some ⟨d, 0, none⟩)) ∧ Hid (Zoo w0 w' (HalT hb h00 :: DskT d hb [] :: r)) := by
  have HZ := hide hz
  clear hz
  go_enter Tryz.func7, Tryz.ntmps7
  go_wp2_with (go_at_call 12; refine (h_new w).mono ?_; rintro e w1 ⟨hb, rfl, F, hh, hk⟩; have HZ1 : Hid (Zoo w0 w1 (HalT hb h00 :: r)) := (unhide HZ).cons hh hk; clear hh hk)
  go_ret
  refine ⟨w1.heap.size, hb, rfl, zoo_in ((unhide HZ1).cons (F := [w1.heap.size]) ⟨.pointer none, none, 0, .inl rfl, heap_alloc_new w1 _, ownU_nil _ _, rfl, Nat.le_refl _, by simp [ob_none], fun _ => rfl⟩ ((Kp.refl [] w1).alloc _))⟩
/-- What a Do leaves, and tells. -/
def dox (h : HSt) (ls : List (List UInt8)) : HSt × List UInt8 := if (lft ls).1 ≠ 0 then (h, []) else drun h ls
def DoEnd (ls : List (List UInt8)) (h : HSt) (d hb : Nat) (w0 : World) (r : List Thing) (e : Ending) (w' : World) : Prop := e = .returned (.tuple #[.string ⟨(dox h ls).2.toArray⟩, .agg #[.int .i64 (lft ls).1, .int .i64 (lft ls).2]]) ∧ (dox h ls).2.length ≤ 90000 ∧ Zoo w0 w' (HalT hb (dox h ls).1 :: DskT d hb [] :: r)
theorem take_snoc {α : Type} {l : List α} {k : Nat} {x : α} (h : l[k]? = some x) : l.take (k + 1) = l.take k ++ [x] := by rw [List.take_add_one, h]; rfl
set_option maxHeartbeats 4000000 in
theorem ddo (ls : List (List UInt8)) (n : Nat) (hn : n = ls.length) (a : Option Addr) (cap : Nat) (hw : ∀ (W : World) (l1 : List Thing), Zoo w0 W (l1 ++ r) → Wrd W a ls) (hl : ∀ l ∈ ls, l.length ≤ 10000) (hg : Gnd w0) (hz : Zoo w0 w (HalT hb h :: DskT d hb [] :: r)) :
    Calls Tryz.prog 9 #[.pointer (some ⟨d, 0, none⟩), .slice a n cap] w fun e w' => DoEnd ls h d hb w0 r e w' := by
  have HZ0 := hide (hz.box #[.int .i64 0, .int .i64 0] 31)
  have HW := hide hw
  have HG := hide hg
  have HN := hide hn
  have HL := hide hl
  clear hg hw hn hl hz
  go_enter Tryz.func9, Tryz.ntmps9
  go_wp2_with (go_at_call 14; refine (dchk ls n (unhide HN) a cap _ (unhide HW _ [_, _, _] (unhide HZ0))).mono ?_; rintro e w1 ⟨c, p, rfl, hcp, hk1⟩; have HZ1 := hide (((unhide HZ0).kp0 hk1).box #[.int .i64 c, .int .i64 p] 31); have HCP := hide hcp; clear hcp hk1; obtain rfl | hc0 := Classical.em (c = 0))
  · have hp0 : p = 0 := by
      have h1 := unhide HCP
      unfold lft at h1
      by_cases hb : 150 < ls.length
      · rw [if_pos hb] at h1; cases h1
      · rw [if_neg hb] at h1
        have := lfg_val (i := 0) (ls := ls) (by rw [h1])
        rw [this] at h1; cases h1; rfl
    subst hp0
    have hn150 : n ≤ 150 := by
      have h1 := unhide HCP
      rw [unhide HN]
      unfold lft at h1
      by_cases hb : 150 < ls.length
      · rw [if_pos hb] at h1; cases h1
      · omega
    have hdx : dox h ls = drun h ls := by unfold dox; rw [unhide HCP]; simp
    have HDX := hide hdx
    clear hdx HZ0
    generalize w1.alloc (.cells #[.int .i64 0, .int .i64 0] 31) = W2 at *
    generalize w1.heap.size = pF at *
    generalize w.heap.size = pA at *
    have HS : Hid (Zoo w0 W2 (HalT hb h :: DskT d hb [] :: BoxT pF #[.int .i64 0, .int .i64 0] 31 :: BoxT pA #[.int .i64 0, .int .i64 0] 31 :: r)) := zoo_22 (unhide HZ1)
    clear HZ1
    go_loopw [18] (fun t wr => ∃ (k : Nat) (h1 : HSt) (acc : List UInt8), k ≤ n ∧ t = .int .i64 k ∧ acc.length ≤ 600 * k ∧ Hid (drun h (ls.take k) = (h1, acc)) ∧ Hid (Zoo w0 wr (HalT hb h1 :: DskT d hb acc :: BoxT pF #[.int .i64 0, .int .i64 0] 31 :: BoxT pA #[.int .i64 0, .int .i64 0] 31 :: r))) (fun t _ => n - (intOf t).toNat)
    case atStart => exact ⟨0, h, [], Nat.zero_le _, rfl, Nat.zero_le _, rfl, HS⟩
    case round =>
      obtain ⟨k, h1, acc, hk, rfl, hal, HI, HZR⟩ := hrel
      by_cases hlt : k < n
      · have i0 : (0 : Int) ≤ (k : Int) := by omega
        have i1 : (k : Int) < (n : Int) := by omega
        obtain ⟨l, hl⟩ : ∃ l, ls[k]? = some l := ⟨_, List.getElem?_eq_getElem (by rw [← unhide HN]; exact hlt)⟩
        obtain ⟨g, o, rfl, hc⟩ := (unhide HW wr [_, _, _, _] (unhide HZR)) (by rw [← unhide HN]; omega)
        have c1 := hc k l hl
        have hdl := dln_len (hal_hinv (unhide HZR)) l
        have hrun : drun h (ls.take (k + 1)) = ((dln h1 l).1, acc ++ (dln h1 l).2) := by rw [take_snoc hl, drun_snoc, unhide HI]
        have HD := hide (doline l (unhide HL l (List.mem_of_getElem? hl)) (unhide HG) (unhide HZR) (by omega))
        have HR := hide hrun
        clear hrun hc hl
        go_wp2_with (go_at_call 15; refine (unhide HD).mono ?_; rintro e w5 ⟨rfl, HZ5⟩)
        refine ⟨⟨k + 1, (dln h1 l).1, acc ++ (dln h1 l).2, by omega, by go_num, by rw [List.length_append]; omega, HR, HZ5⟩, by simp [intOf]; omega⟩
      · have i1 : ¬ (k : Int) < (n : Int) := by omega
        have hI := unhide HI
        rw [List.take_of_length_le (by rw [← unhide HN]; omega)] at hI
        have hfin : dox h ls = (h1, acc) := (unhide HDX).trans hI
        have HF := hide hfin
        clear hI hfin HI HDX
        have HS1 := hide (z_string (l1 := [_]) (unhide HZR))
        go_wp2_with (first | (go_at_call 16; refine (unhide HS1).mono ?_; rintro e w5 ⟨rfl, HZ5⟩; have HR1 := hide (z_reset (l1 := [_]) (unhide HZ5))) | (go_at_call 17; refine (unhide HR1).mono ?_; rintro e w6 ⟨rfl, HZ6⟩) | (refine wpList_store_row rfl 31 _ _ rfl pA #[.int .i64 0, .int .i64 0] rfl rfl 31 _ (zoo_varm (unhide HZ6) (List.Mem.tail _ (List.Mem.tail _ (List.Mem.tail _ (List.Mem.head _))))) Tryz.sizeFa rfl (by simp [Value.oneCell']) ?_))
        have hz3 := zoo_setrow (c' := #[.int .i64 0, .int .i64 0]) (l1 := [_, _, _]) (unhide HZ6)
        have hld := faload rfl (zoo_varm hz3 (List.Mem.tail _ (List.Mem.tail _ (List.Mem.tail _ (List.Mem.head _)))))
        refine bodyPost_ret (v := .tuple #[.string ⟨acc.toArray⟩, .agg #[.int .i64 0, .int .i64 0]]) ?_ rfl ?_
        · rw [results_tmp_cell Tryz.results9]; simp [asAddr, Result.andThen, Act.put, hld]
        · unfold DoEnd
          rw [unhide HF, unhide HCP]
          exact ⟨rfl, by show acc.length ≤ 90000; omega, Zoo.drop_ (l1 := [_, _]) (Zoo.drop_ (l1 := [_, _]) hz3)⟩
  · have hdx : dox h ls = (h, []) := by unfold dox; rw [unhide HCP]; simp [hc0]
    have HDX := hide hdx
    clear hdx HZ0
    have hcb : (c != 0) = true := by simpa using hc0
    go_wp2_with fail
    generalize w1.alloc (.cells #[.int .i64 c, .int .i64 p] 31) = W2 at *
    generalize w1.heap.size = pF at *
    generalize w.heap.size = pA at *
    refine wp_region_held_drew (S := fun w' => w'.cell? ⟨pF, 0, none⟩ = some (.int .i64 c) ∧ w'.cell? ⟨pF, 1, none⟩ = some (.int .i64 p)) (by kernel_rfl) (And.intro (cell_of_block (zoo_varm ((unhide HZ1).kp0 (Kp.refl [] W2).drew) (List.Mem.head _)) rfl) (cell_of_block (zoo_varm ((unhide HZ1).kp0 (Kp.refl [] W2).drew) (List.Mem.head _)) rfl)) (fun hHeld => ?_)
    have HA0 := hide ((unhide HZ1).kp0 (Kp.refl [] W2).drew)
    generalize World.drew _ = WD at HA0 hHeld ⊢
    refine wpAnyH_tk (i := 0) (v := ?_) rfl (by kernel_rfl) (by kernel_rfl) (by kernel_rfl) (fun _ _ _ h => h) (Or.inl ⟨by rfl, ?_⟩) hHeld ?_
    rotate_left
    · intro w hSw
      try dsimp only at hSw
      go_simp
      try with_reducible rfl
    try simp only [Act.put, List.setIfInBounds_toArray, List.set_cons_zero, List.set_cons_succ]
    refine wpAnyH_tk (i := 1) (v := ?_) rfl (by kernel_rfl) (by kernel_rfl) (by kernel_rfl) (fun _ _ _ h => h) (Or.inl ⟨by rfl, ?_⟩) hHeld ?_
    rotate_left
    · intro w hSw
      try dsimp only at hSw
      go_simp
      try with_reducible rfl
    try simp only [Act.put, List.setIfInBounds_toArray, List.set_cons_zero, List.set_cons_succ]
    refine wpAnyH_only (i := 2) rfl (by kernel_rfl) (fun K hK => ?_)
    rw [if_pos (by rfl)]
    refine wp_store_row 31 _ _ rfl pA #[.int .i64 c, .int .i64 p] rfl rfl 31 _ (zoo_varm (unhide HA0) (List.Mem.tail _ (List.Mem.head _))) Tryz.sizeFa rfl (by simp [Value.oneCell']) ?_
    have HB := hide (zoo_setrow (c' := #[.int .i64 c, .int .i64 p]) (l1 := [_]) (unhide HA0))
    refine hK.out _ _ ((And.intro (cell_of_block (zoo_varm (unhide HB) (List.Mem.head _)) rfl) (cell_of_block (zoo_varm (unhide HB) (List.Mem.head _)) rfl))) (fun hHeld2 => ?_)
    clear hK K hHeld
    have hHeld := hHeld2
    clear hHeld2
    try simp only [Act.put]
    refine wpAnyH_done (by kernel_rfl) ?_ _
    clear hHeld
    go_wp2_with fail
    have hld := faload rfl (zoo_varm (unhide HB) (List.Mem.tail _ (List.Mem.head _)))
    refine bodyPost_ret (v := .tuple #[.string ⟨#[]⟩, .agg #[.int .i64 c, .int .i64 p]]) ?_ rfl ?_
    · rw [results_tmp_cell Tryz.results9]; simp [asAddr, Result.andThen, hld]
    · unfold DoEnd
      rw [unhide HDX, unhide HCP]
      exact ⟨rfl, Nat.zero_le _, Zoo.tail (Zoo.tail (unhide HB))⟩
end
end
end Go.Proofs.YtldkeaeohceckadGreatDoor
