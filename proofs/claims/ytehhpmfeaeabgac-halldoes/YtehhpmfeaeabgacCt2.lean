/- A court's Do: Get; List. -/
import Derived.Test.YtehhpmfeaeabgacCt1
import Derived.Test.YtehhpmfeaeabgacM7
namespace Go.Proofs.Ytehhpmfeaeabgac
open Go.RowKit
set_option maxRecDepth 20000
attribute [local go_sem ↓] Go.wp_at_zero Go.wp_at_succ

theorem val_set (a b x y : Value) : ((#[a, b] : Array Value).setIfInBounds 0 x).setIfInBounds 1 y = #[x, y] := rfl
section
variable {w0 w : World} {cb sb : Nat} {h : HSt} {st : Nat → Sd} {r : List Thing}
set_option maxHeartbeats 1000000 in
theorem cdo_get (x : HStep) (hx : x.d = 2) {j D : Nat} {d : Dp} (hj : x.s = (j : Int)) (h5 : j < 5) (hsd : st j = some (D, d)) (hs : Sts st h.seat) (hz : Cou w0 w cb sb h st r) (hrl : d.rs.length ≤ 2000) (hwl : d.ws.length ≤ 900) :
    Calls Try.prog 16 #[.pointer (some ⟨cb, 0, none⟩), .agg #[.int .i64 x.d, .int .i64 x.s, .int .i64 x.md, .int .i64 x.at_, .int .i64 x.key, .int .i64 x.to_, .int .i64 x.keep, .string x.b]] w fun e w' => GoEndC w0 cb r (hdo h x) (hev h x) e w' := by
  have HS := hide hs
  have HX := hide (hz.two (xcs x) 37 #[.int .i64 0, .int .i64 0, .bool false, .string ⟨#[]⟩, .slice none 0 0] 34)
  have hjs : x.s.toNat = j := by omega
  have hsj : h.seat j = some d := by rw [← hs j, hsd]; rfl
  have heq := (HKind.get (h := h) (x := x) d hx ⟨by omega, by omega⟩ (by rw [hjs]; exact hsj)).eq
  rw [heq.1, heq.2]
  clear heq hz hs hsj
  obtain ⟨v, hv⟩ : ∃ v, dg h.f h.n d.y d.ws x.key = v := ⟨_, rfl⟩
  have HV := hide hv
  rw [hv]
  clear hv
  obtain ⟨xd, xs, xm, xa, xk, xt, xp, xb⟩ := x
  dsimp only [xcs] at *
  subst hx hj
  have hsb : seatB (j : Int) = true := decide_eq_true (by omega)
  have i0 : (0 : Int) ≤ (j : Int) := by omega
  have i5 : (j : Int) < 5 := by omega
  go_enter Try.func16, Try.ntmps16
  go_wp2_with fail
  generalize (w.alloc (.cells #[.int .i64 2, .int .i64 (j : Int), .int .i64 xm, .int .i64 xa, .int .i64 xk, .int .i64 xt, .int .i64 xp, .string xb] 37)).alloc (.cells #[.int .i64 0, .int .i64 0, .bool false, .string ⟨#[]⟩, .slice none 0 0] 34) = W at HX ⊢
  generalize w.heap.size = q at HX ⊢
  generalize q + 1 = p at HX ⊢
  have hq := (unhide HX).var (List.Mem.tail _ (List.Mem.head _))
  have x0 : W.cell? ⟨q, 0, none⟩ = some (.int .i64 2) := cell_of_block hq rfl
  have x1 : W.cell? ⟨q, 1, none⟩ = some (.int .i64 (j : Int)) := cell_of_block hq rfl
  clear hq
  have s1 := (unhide HX).cs_ h5
  rw [hsd] at s1
  rw [show ad (some (D, d)) = some ⟨D, 0, none⟩ from rfl] at s1
  refine (isseat (j : Int) _).mono ?_
  rintro e w' ⟨rfl, hw'⟩
  subst w'
  rw [hsb]
  go_wp2_with fail
  go_quiet (fail)
  have HX2 := hide ((unhide HX).kp0 ((Kp.refl [] W).drewN nq))
  clear HX x0 x1 s1
  generalize W.drewN nq = W2 at HX2 ⊢
  have hq := (unhide HX2).var (List.Mem.tail _ (List.Mem.head _))
  have x0 : W2.cell? ⟨q, 0, none⟩ = some (.int .i64 2) := cell_of_block hq rfl
  have x1 : W2.cell? ⟨q, 1, none⟩ = some (.int .i64 (j : Int)) := cell_of_block hq rfl
  have x2 : W2.cell? ⟨q, 2, none⟩ = some (.int .i64 xm) := cell_of_block hq rfl
  have x3 : W2.cell? ⟨q, 3, none⟩ = some (.int .i64 xa) := cell_of_block hq rfl
  have x4 : W2.cell? ⟨q, 4, none⟩ = some (.int .i64 xk) := cell_of_block hq rfl
  have x5 : W2.cell? ⟨q, 5, none⟩ = some (.int .i64 xt) := cell_of_block hq rfl
  have x6 : W2.cell? ⟨q, 6, none⟩ = some (.int .i64 xp) := cell_of_block hq rfl
  have x7 : W2.cell? ⟨q, 7, none⟩ = some (.string xb) := cell_of_block hq rfl
  have ql := lt_of_block hq
  clear hq
  go_wp2_with fail
  have HXD := hide ((unhide HX2).kp0 (Kp.refl [] _).drew)
  clear x0 x1 x2 x3 x4 x5 x6 x7 ql HX2
  have c0 := (unhide HXD).c0
  have hq := (unhide HXD).var (p := q) (List.Mem.tail _ (List.Mem.head _))
  have x4 := cell_of_block (i := 4) (v := .int .i64 xk) hq rfl
  clear hq
  refine wp_region_held_drew (S := fun w' => w'.cell? ⟨cb, 0, none⟩ = some (.pointer (some ⟨sb, 0, none⟩)) ∧ w'.cell? ⟨q, 4, none⟩ = some (.int .i64 xk)) (by kernel_rfl) ⟨c0, x4⟩ (fun hHeld => ?_)
  clear c0 x4
  generalize World.drew _ = WD at HXD hHeld ⊢
  refine wpAnyH_tk (i := 0) (v := ?_) rfl (by kernel_rfl) (by kernel_rfl) (by kernel_rfl) (fun _ _ _ h => h) (Or.inl ⟨by rfl, ?_⟩) hHeld ?_
  rotate_left
  · intro w hSw
    try dsimp only at hSw
    go_simp
    try with_reducible rfl
  try simp only [Act.put, List.setIfInBounds_toArray, List.set_cons_zero, List.set_cons_succ]
  refine wpAnyH_tk (i := 1) (v := ?_) rfl (by kernel_rfl) (by kernel_rfl) (by kernel_rfl) (fun _ _ _ h => h) (Or.inl ⟨by rfl, ?_⟩) hHeld ?_
  rotate_left
  · intro w hSw
    try dsimp only at hSw
    go_simp
    try with_reducible rfl
  try simp only [Act.put, List.setIfInBounds_toArray, List.set_cons_zero, List.set_cons_succ]
  refine wpAnyH_tk (i := 2) (v := ?_) rfl (by kernel_rfl) (by kernel_rfl) (by kernel_rfl) (fun _ _ _ h => h) (Or.inl ⟨by rfl, ?_⟩) hHeld ?_
  rotate_left
  · intro w hSw
    try dsimp only at hSw
    go_simp
    try with_reducible rfl
  try simp only [Act.put, List.setIfInBounds_toArray, List.set_cons_zero, List.set_cons_succ]
  refine wpAnyH_tk (i := 3) (v := ?_) rfl (by kernel_rfl) (by kernel_rfl) (by kernel_rfl) (fun _ _ _ h => h) (Or.inl ⟨by rfl, ?_⟩) hHeld ?_
  rotate_left
  · intro w hSw
    try dsimp only at hSw
    go_simp
    try with_reducible rfl
  try simp only [Act.put, List.setIfInBounds_toArray, List.set_cons_zero, List.set_cons_succ]
  refine wpAnyH_tk (i := 4) (v := ?_) rfl (by kernel_rfl) (by kernel_rfl) (by kernel_rfl) (fun _ _ _ h => h) (Or.inl ⟨by rfl, ?_⟩) hHeld ?_
  rotate_left
  · intro w hSw
    try dsimp only at hSw
    go_simp
    try with_reducible rfl
  try simp only [Act.put, List.setIfInBounds_toArray, List.set_cons_zero, List.set_cons_succ]
  refine wpAnyH_tk (i := 5) (v := ?_) rfl (by kernel_rfl) (by kernel_rfl) (by kernel_rfl) (fun _ _ _ h => h) (Or.inl ⟨by rfl, ?_⟩) hHeld ?_
  rotate_left
  · intro w hSw
    try dsimp only at hSw
    go_simp
    try with_reducible rfl
  try simp only [Act.put, List.setIfInBounds_toArray, List.set_cons_zero, List.set_cons_succ]
  refine wpAnyH_tk (i := 6) (v := ?_) rfl (by kernel_rfl) (by kernel_rfl) (by kernel_rfl) (fun _ _ _ h => h) (Or.inl ⟨by rfl, ?_⟩) hHeld ?_
  rotate_left
  · intro w hSw
    try dsimp only at hSw
    go_simp
    try with_reducible rfl
  try simp only [Act.put, List.setIfInBounds_toArray, List.set_cons_zero, List.set_cons_succ]
  refine wpAnyH_two (i := 7) (j := 11) rfl rfl (by kernel_rfl) (fun K hK => ?_) (fun K hK => ?_)
  · go_simp
    refine (c_get xk h5 hsd hrl hwl (unhide HXD)).mono ?_
    rintro e w11 ⟨rfl, HC11⟩
    rw [unhide HV]
    have hq2 := (unhide HC11).var (p := q) (List.Mem.tail _ (List.Mem.head _))
    have y4 := cell_of_block (i := 4) (v := .int .i64 xk) hq2 rfl
    clear hq2
    go_wp2_with fail
    refine hK.out _ _ (⟨(unhide HC11).c0, y4⟩) (fun hHeld2 => ?_)
    clear hK K hHeld
    have hHeld := hHeld2
    clear hHeld2
    try simp only [Act.put, List.setIfInBounds_toArray, List.set_cons_zero, List.set_cons_succ]
    clear y4
    refine wpAnyH_tk (i := 8) (v := ?_) rfl (by kernel_rfl) (by kernel_rfl) (by kernel_rfl) (fun _ _ _ h => h) (Or.inl ⟨by rfl, ?_⟩) hHeld ?_
    rotate_left
    · intro w hSw
      try dsimp only at hSw
      go_simp
      try with_reducible rfl
    try simp only [Act.put, List.setIfInBounds_toArray, List.set_cons_zero, List.set_cons_succ]
    refine wpAnyH_tk (i := 9) (v := ?_) rfl (by kernel_rfl) (by kernel_rfl) (by kernel_rfl) (fun _ _ _ h => h) (Or.inl ⟨by rfl, ?_⟩) hHeld ?_
    rotate_left
    · intro w hSw
      try dsimp only at hSw
      go_simp
      try with_reducible rfl
    try simp only [Act.put, List.setIfInBounds_toArray, List.set_cons_zero, List.set_cons_succ]
    refine wpAnyH_tk (i := 10) (v := ?_) rfl (by kernel_rfl) (by kernel_rfl) (by kernel_rfl) (fun _ _ _ h => h) (Or.inl ⟨by rfl, ?_⟩) hHeld ?_
    rotate_left
    · intro w hSw
      try dsimp only at hSw
      go_simp
      try with_reducible rfl
    try simp only [Act.put, List.setIfInBounds_toArray, List.set_cons_zero, List.set_cons_succ]
    refine wpAnyH_only (i := 11) rfl (by kernel_rfl) (fun K hK => ?_)
    go_simp
    have HCA := hide ((unhide HC11).new #[.bool false, .string ⟨#[]⟩] 31)
    have hq2 := (unhide HCA).var (p := q) (List.Mem.tail _ (List.Mem.tail _ (List.Mem.head _)))
    have y4 := cell_of_block (i := 4) (v := .int .i64 xk) hq2 rfl
    have y0 := (unhide HCA).c0
    clear hq2
    refine hK.out _ _ (⟨y0, y4⟩) (fun hHeld2 => ?_)
    clear hK K hHeld
    have hHeld := hHeld2
    clear hHeld2
    try simp only [Act.put, List.setIfInBounds_toArray, List.set_cons_zero, List.set_cons_succ]
    clear y4 y0
    generalize hp3 : w11.heap.size = p3 at HCA ⊢
    clear hp3
    refine wpAnyH_only (i := 12) rfl (by kernel_rfl) (fun K hK => ?_)
    have hv3 := (unhide HCA).var (p := p3) (List.Mem.head _)
    have z0 := cell_of_block (i := 0) (v := .bool false) hv3 rfl
    have z1 := cell_of_block (i := 1) (v := .string ⟨#[]⟩) hv3 rfl
    have f0 := frozen_of_block 0 hv3
    have f1 := frozen_of_block 1 hv3
    clear hv3
    go_simp
    have HCE := hide (((unhide HCA).set0 0 (.bool v.t)).set0 1 (.string v.s))
    have hq2 := (unhide HCE).var (p := q) (List.Mem.tail _ (List.Mem.tail _ (List.Mem.head _)))
    have y4 := cell_of_block (i := 4) (v := .int .i64 xk) hq2 rfl
    have y0 := (unhide HCE).c0
    clear hq2 z0 z1 f0 f1
    refine hK.out _ _ (⟨y0, y4⟩) (fun hHeld2 => ?_)
    clear hK K hHeld
    have hHeld := hHeld2
    clear hHeld2
    try simp only [Act.put, List.setIfInBounds_toArray, List.set_cons_zero, List.set_cons_succ]
    clear y0 y4
    refine wpAnyH_tk (i := 13) (v := ?_) rfl (by kernel_rfl) (by kernel_rfl) (by kernel_rfl) (fun _ _ _ h => h) (Or.inl ⟨by rfl, ?_⟩) hHeld ?_
    rotate_left
    · intro w hSw
      try dsimp only at hSw
      go_simp
      try with_reducible rfl
    try simp only [Act.put, List.setIfInBounds_toArray, List.set_cons_zero, List.set_cons_succ]
    refine wpAnyH_done (by kernel_rfl) ?_ _
    clear hHeld
    rw [val_set] at HCE
    generalize World.setCell _ _ _ = W5 at HCE ⊢
    have hv3 := (unhide HCE).var (p := p3) (List.Mem.head _)
    have z0 := cell_of_block (i := 0) (v := .bool v.t) hv3 rfl
    have z1 := cell_of_block (i := 1) (v := .string v.s) hv3 rfl
    clear hv3
    obtain ⟨e0, e1, e2, e3, e4, g0, g1, g2, g3, g4⟩ := evF ((unhide HCE).var (p := p) (List.Mem.tail _ (List.Mem.head _)))
    go_wp2_with fail
    refine bodyPost_ret (v := .agg #[.int .i64 v.a, .int .i64 0, .bool v.t, .string v.s, .slice none 0 0]) (by simp [results, Try.results16, go_sem, e0, e1, e2, e3, e4]) rfl ?_
    exact ⟨sb, _, none, 0, rfl, by show Sts _ (upd h.seat ((j : Int).toNat) _); rw [hjs]; exact (unhide HS).put j (some (D, _)), slo_nil _ _, (((unhide HCE).tail).fin _ _ _ _ _).as rfl rfl rfl⟩
  · go_simp
    have HCA := hide ((unhide HXD).new #[.bool false, .string ⟨#[]⟩] 31)
    have hq2 := (unhide HCA).var (p := q) (List.Mem.tail _ (List.Mem.tail _ (List.Mem.head _)))
    have y4 := cell_of_block (i := 4) (v := .int .i64 xk) hq2 rfl
    have y0 := (unhide HCA).c0
    clear hq2
    refine hK.out _ _ (⟨y0, y4⟩) (fun hHeld2 => ?_)
    clear hK K hHeld
    have hHeld := hHeld2
    clear hHeld2
    try simp only [Act.put, List.setIfInBounds_toArray, List.set_cons_zero, List.set_cons_succ]
    clear y4 y0
    generalize hp3 : WD.heap.size = p3 at HCA ⊢
    clear hp3
    refine wpAnyH_only (i := 7) rfl (by kernel_rfl) (fun K hK => ?_)
    go_simp
    refine (c_get xk h5 hsd hrl hwl (unhide HCA)).mono ?_
    rintro e w11 ⟨rfl, HC11⟩
    rw [unhide HV]
    have hq2 := (unhide HC11).var (p := q) (List.Mem.tail _ (List.Mem.tail _ (List.Mem.head _)))
    have y4 := cell_of_block (i := 4) (v := .int .i64 xk) hq2 rfl
    clear hq2
    go_wp2_with fail
    refine hK.out _ _ (⟨(unhide HC11).c0, y4⟩) (fun hHeld2 => ?_)
    clear hK K hHeld
    have hHeld := hHeld2
    clear hHeld2
    try simp only [Act.put, List.setIfInBounds_toArray, List.set_cons_zero, List.set_cons_succ]
    clear y4
    refine wpAnyH_tk (i := 8) (v := ?_) rfl (by kernel_rfl) (by kernel_rfl) (by kernel_rfl) (fun _ _ _ h => h) (Or.inl ⟨by rfl, ?_⟩) hHeld ?_
    rotate_left
    · intro w hSw
      try dsimp only at hSw
      go_simp
      try with_reducible rfl
    try simp only [Act.put, List.setIfInBounds_toArray, List.set_cons_zero, List.set_cons_succ]
    refine wpAnyH_tk (i := 9) (v := ?_) rfl (by kernel_rfl) (by kernel_rfl) (by kernel_rfl) (fun _ _ _ h => h) (Or.inl ⟨by rfl, ?_⟩) hHeld ?_
    rotate_left
    · intro w hSw
      try dsimp only at hSw
      go_simp
      try with_reducible rfl
    try simp only [Act.put, List.setIfInBounds_toArray, List.set_cons_zero, List.set_cons_succ]
    refine wpAnyH_tk (i := 10) (v := ?_) rfl (by kernel_rfl) (by kernel_rfl) (by kernel_rfl) (fun _ _ _ h => h) (Or.inl ⟨by rfl, ?_⟩) hHeld ?_
    rotate_left
    · intro w hSw
      try dsimp only at hSw
      go_simp
      try with_reducible rfl
    try simp only [Act.put, List.setIfInBounds_toArray, List.set_cons_zero, List.set_cons_succ]
    refine wpAnyH_only (i := 12) rfl (by kernel_rfl) (fun K hK => ?_)
    have hv3 := (unhide HC11).var (p := p3) (List.Mem.head _)
    have z0 := cell_of_block (i := 0) (v := .bool false) hv3 rfl
    have z1 := cell_of_block (i := 1) (v := .string ⟨#[]⟩) hv3 rfl
    have f0 := frozen_of_block 0 hv3
    have f1 := frozen_of_block 1 hv3
    clear hv3
    go_simp
    have HCE := hide (((unhide HC11).set0 0 (.bool v.t)).set0 1 (.string v.s))
    have hq2 := (unhide HCE).var (p := q) (List.Mem.tail _ (List.Mem.tail _ (List.Mem.head _)))
    have y4 := cell_of_block (i := 4) (v := .int .i64 xk) hq2 rfl
    have y0 := (unhide HCE).c0
    clear hq2 z0 z1 f0 f1
    refine hK.out _ _ (⟨y0, y4⟩) (fun hHeld2 => ?_)
    clear hK K hHeld
    have hHeld := hHeld2
    clear hHeld2
    try simp only [Act.put, List.setIfInBounds_toArray, List.set_cons_zero, List.set_cons_succ]
    clear y0 y4
    refine wpAnyH_tk (i := 13) (v := ?_) rfl (by kernel_rfl) (by kernel_rfl) (by kernel_rfl) (fun _ _ _ h => h) (Or.inl ⟨by rfl, ?_⟩) hHeld ?_
    rotate_left
    · intro w hSw
      try dsimp only at hSw
      go_simp
      try with_reducible rfl
    try simp only [Act.put, List.setIfInBounds_toArray, List.set_cons_zero, List.set_cons_succ]
    refine wpAnyH_done (by kernel_rfl) ?_ _
    clear hHeld
    rw [val_set] at HCE
    generalize World.setCell _ _ _ = W5 at HCE ⊢
    have hv3 := (unhide HCE).var (p := p3) (List.Mem.head _)
    have z0 := cell_of_block (i := 0) (v := .bool v.t) hv3 rfl
    have z1 := cell_of_block (i := 1) (v := .string v.s) hv3 rfl
    clear hv3
    obtain ⟨e0, e1, e2, e3, e4, g0, g1, g2, g3, g4⟩ := evF ((unhide HCE).var (p := p) (List.Mem.tail _ (List.Mem.head _)))
    go_wp2_with fail
    refine bodyPost_ret (v := .agg #[.int .i64 v.a, .int .i64 0, .bool v.t, .string v.s, .slice none 0 0]) (by simp [results, Try.results16, go_sem, e0, e1, e2, e3, e4]) rfl ?_
    exact ⟨sb, _, none, 0, rfl, by show Sts _ (upd h.seat ((j : Int).toNat) _); rw [hjs]; exact (unhide HS).put j (some (D, _)), slo_nil _ _, (((unhide HCE).tail).fin _ _ _ _ _).as rfl rfl rfl⟩
set_option maxHeartbeats 1000000 in
theorem cdo_list (x : HStep) (hx : x.d = 5) {j D : Nat} {d : Dp} (hj : x.s = (j : Int)) (h5 : j < 5) (hsd : st j = some (D, d)) (hs : Sts st h.seat) (hz : Cou w0 w cb sb h st r) (hrl : d.rs.length ≤ 2000) (hwl : d.ws.length ≤ 900) :
    Calls Try.prog 16 #[.pointer (some ⟨cb, 0, none⟩), .agg #[.int .i64 x.d, .int .i64 x.s, .int .i64 x.md, .int .i64 x.at_, .int .i64 x.key, .int .i64 x.to_, .int .i64 x.keep, .string x.b]] w fun e w' => GoEndC w0 cb r (hdo h x) (hev h x) e w' := by
  have HS := hide hs
  have HX := hide (hz.two (xcs x) 37 #[.int .i64 0, .int .i64 0, .bool false, .string ⟨#[]⟩, .slice none 0 0] 34)
  have hjs : x.s.toNat = j := by omega
  have hsj : h.seat j = some d := by rw [← hs j, hsd]; rfl
  have heq := (HKind.list (h := h) (x := x) d hx ⟨by omega, by omega⟩ (by rw [hjs]; exact hsj)).eq
  rw [heq.1, heq.2]
  clear heq hz hs hsj
  obtain ⟨xd, xs, xm, xa, xk, xt, xp, xb⟩ := x
  dsimp only [xcs] at *
  subst hx hj
  have hsb : seatB (j : Int) = true := decide_eq_true (by omega)
  have i0 : (0 : Int) ≤ (j : Int) := by omega
  have i5 : (j : Int) < 5 := by omega
  go_enter Try.func16, Try.ntmps16
  go_wp2_with fail
  generalize (w.alloc (.cells #[.int .i64 5, .int .i64 (j : Int), .int .i64 xm, .int .i64 xa, .int .i64 xk, .int .i64 xt, .int .i64 xp, .string xb] 37)).alloc (.cells #[.int .i64 0, .int .i64 0, .bool false, .string ⟨#[]⟩, .slice none 0 0] 34) = W at HX ⊢
  generalize w.heap.size = q at HX ⊢
  generalize q + 1 = p at HX ⊢
  have hq := (unhide HX).var (List.Mem.tail _ (List.Mem.head _))
  have x0 : W.cell? ⟨q, 0, none⟩ = some (.int .i64 5) := cell_of_block hq rfl
  have x1 : W.cell? ⟨q, 1, none⟩ = some (.int .i64 (j : Int)) := cell_of_block hq rfl
  clear hq
  have s1 := (unhide HX).cs_ h5
  rw [hsd] at s1
  rw [show ad (some (D, d)) = some ⟨D, 0, none⟩ from rfl] at s1
  refine (isseat (j : Int) _).mono ?_
  rintro e w' ⟨rfl, hw'⟩
  subst w'
  rw [hsb]
  go_wp2_with fail
  go_quiet (fail)
  have HX2 := hide ((unhide HX).kp0 ((Kp.refl [] W).drewN nq))
  clear HX x0 x1 s1
  generalize W.drewN nq = W2 at HX2 ⊢
  have hq := (unhide HX2).var (List.Mem.tail _ (List.Mem.head _))
  have x0 : W2.cell? ⟨q, 0, none⟩ = some (.int .i64 5) := cell_of_block hq rfl
  have x1 : W2.cell? ⟨q, 1, none⟩ = some (.int .i64 (j : Int)) := cell_of_block hq rfl
  have x2 : W2.cell? ⟨q, 2, none⟩ = some (.int .i64 xm) := cell_of_block hq rfl
  have x3 : W2.cell? ⟨q, 3, none⟩ = some (.int .i64 xa) := cell_of_block hq rfl
  have x4 : W2.cell? ⟨q, 4, none⟩ = some (.int .i64 xk) := cell_of_block hq rfl
  have x5 : W2.cell? ⟨q, 5, none⟩ = some (.int .i64 xt) := cell_of_block hq rfl
  have x6 : W2.cell? ⟨q, 6, none⟩ = some (.int .i64 xp) := cell_of_block hq rfl
  have x7 : W2.cell? ⟨q, 7, none⟩ = some (.string xb) := cell_of_block hq rfl
  have ql := lt_of_block hq
  clear hq
  go_wp2_with fail
  have HXD := hide ((unhide HX2).kp0 (Kp.refl [] _).drew)
  clear x0 x1 x2 x3 x4 x5 x6 x7 ql HX2
  have c0 := (unhide HXD).c0
  have hq := (unhide HXD).var (p := q) (List.Mem.tail _ (List.Mem.head _))
  have x4 := cell_of_block (i := 4) (v := .int .i64 xk) hq rfl
  have x5 := cell_of_block (i := 5) (v := .int .i64 xt) hq rfl
  clear hq
  have hpl := lt_of_block ((unhide HXD).var (p := p) (List.Mem.head _))
  have HPL := hide hpl
  clear hpl
  refine wp_region_held_drew (S := fun w' => w'.cell? ⟨cb, 0, none⟩ = some (.pointer (some ⟨sb, 0, none⟩)) ∧ w'.cell? ⟨q, 4, none⟩ = some (.int .i64 xk) ∧ w'.cell? ⟨q, 5, none⟩ = some (.int .i64 xt)) (by kernel_rfl) ⟨c0, x4, x5⟩ (fun hHeld => ?_)
  clear c0 x4 x5
  generalize World.drew _ = WD at HXD HPL hHeld ⊢
  refine wpAnyH_tk (i := 0) (v := ?_) rfl (by kernel_rfl) (by kernel_rfl) (by kernel_rfl) (fun _ _ _ h => h) (Or.inl ⟨by rfl, ?_⟩) hHeld ?_
  rotate_left
  · intro w hSw
    try dsimp only at hSw
    go_simp
    try with_reducible rfl
  try simp only [Act.put, List.setIfInBounds_toArray, List.set_cons_zero, List.set_cons_succ]
  refine wpAnyH_tk (i := 1) (v := ?_) rfl (by kernel_rfl) (by kernel_rfl) (by kernel_rfl) (fun _ _ _ h => h) (Or.inl ⟨by rfl, ?_⟩) hHeld ?_
  rotate_left
  · intro w hSw
    try dsimp only at hSw
    go_simp
    try with_reducible rfl
  try simp only [Act.put, List.setIfInBounds_toArray, List.set_cons_zero, List.set_cons_succ]
  refine wpAnyH_tk (i := 2) (v := ?_) rfl (by kernel_rfl) (by kernel_rfl) (by kernel_rfl) (fun _ _ _ h => h) (Or.inl ⟨by rfl, ?_⟩) hHeld ?_
  rotate_left
  · intro w hSw
    try dsimp only at hSw
    go_simp
    try with_reducible rfl
  try simp only [Act.put, List.setIfInBounds_toArray, List.set_cons_zero, List.set_cons_succ]
  refine wpAnyH_tk (i := 3) (v := ?_) rfl (by kernel_rfl) (by kernel_rfl) (by kernel_rfl) (fun _ _ _ h => h) (Or.inl ⟨by rfl, ?_⟩) hHeld ?_
  rotate_left
  · intro w hSw
    try dsimp only at hSw
    go_simp
    try with_reducible rfl
  try simp only [Act.put, List.setIfInBounds_toArray, List.set_cons_zero, List.set_cons_succ]
  refine wpAnyH_tk (i := 4) (v := ?_) rfl (by kernel_rfl) (by kernel_rfl) (by kernel_rfl) (fun _ _ _ h => h) (Or.inl ⟨by rfl, ?_⟩) hHeld ?_
  rotate_left
  · intro w hSw
    try dsimp only at hSw
    go_simp
    try with_reducible rfl
  try simp only [Act.put, List.setIfInBounds_toArray, List.set_cons_zero, List.set_cons_succ]
  refine wpAnyH_tk (i := 5) (v := ?_) rfl (by kernel_rfl) (by kernel_rfl) (by kernel_rfl) (fun _ _ _ h => h) (Or.inl ⟨by rfl, ?_⟩) hHeld ?_
  rotate_left
  · intro w hSw
    try dsimp only at hSw
    go_simp
    try with_reducible rfl
  try simp only [Act.put, List.setIfInBounds_toArray, List.set_cons_zero, List.set_cons_succ]
  refine wpAnyH_tk (i := 6) (v := ?_) rfl (by kernel_rfl) (by kernel_rfl) (by kernel_rfl) (fun _ _ _ h => h) (Or.inl ⟨by rfl, ?_⟩) hHeld ?_
  rotate_left
  · intro w hSw
    try dsimp only at hSw
    go_simp
    try with_reducible rfl
  try simp only [Act.put, List.setIfInBounds_toArray, List.set_cons_zero, List.set_cons_succ]
  refine wpAnyH_tk (i := 7) (v := ?_) rfl (by kernel_rfl) (by kernel_rfl) (by kernel_rfl) (fun _ _ _ h => h) (Or.inl ⟨by rfl, ?_⟩) hHeld ?_
  rotate_left
  · intro w hSw
    try dsimp only at hSw
    go_simp
    try with_reducible rfl
  try simp only [Act.put, List.setIfInBounds_toArray, List.set_cons_zero, List.set_cons_succ]
  refine wpAnyH_tk (i := 8) (v := ?_) rfl (by kernel_rfl) (by kernel_rfl) (by kernel_rfl) (fun _ _ _ h => h) (Or.inl ⟨by rfl, ?_⟩) hHeld ?_
  rotate_left
  · intro w hSw
    try dsimp only at hSw
    go_simp
    try with_reducible rfl
  try simp only [Act.put, List.setIfInBounds_toArray, List.set_cons_zero, List.set_cons_succ]
  refine wpAnyH_only (i := 9) rfl (by kernel_rfl) (fun K hK => ?_)
  go_simp
  refine (c_list xk xt h5 hsd hrl hwl (unhide HXD)).mono ?_
  rintro e w11 ⟨a, cap, rfl, HSL, HFR, HY⟩
  have hq2 := (unhide HY).var (p := q) (List.Mem.tail _ (List.Mem.head _))
  have y4 := cell_of_block (i := 4) (v := .int .i64 xk) hq2 rfl
  have y5 := cell_of_block (i := 5) (v := .int .i64 xt) hq2 rfl
  clear hq2
  go_wp2_with fail
  refine hK.out _ _ (⟨(unhide HY).c0, y4, y5⟩) (fun hHeld2 => ?_)
  clear hK K hHeld
  have hHeld := hHeld2
  clear hHeld2
  try simp only [Act.put, List.setIfInBounds_toArray, List.set_cons_zero, List.set_cons_succ]
  clear y4 y5
  refine wpAnyH_tk (i := 10) (v := ?_) rfl (by kernel_rfl) (by kernel_rfl) (by kernel_rfl) (fun _ _ _ h => h) (Or.inl ⟨by rfl, ?_⟩) hHeld ?_
  rotate_left
  · intro w hSw
    try dsimp only at hSw
    go_simp
    try with_reducible rfl
  try simp only [Act.put, List.setIfInBounds_toArray, List.set_cons_zero, List.set_cons_succ]
  refine wpAnyH_tk (i := 11) (v := ?_) rfl (by kernel_rfl) (by kernel_rfl) (by kernel_rfl) (fun _ _ _ h => h) (Or.inl ⟨by rfl, ?_⟩) hHeld ?_
  rotate_left
  · intro w hSw
    try dsimp only at hSw
    go_simp
    try with_reducible rfl
  try simp only [Act.put, List.setIfInBounds_toArray, List.set_cons_zero, List.set_cons_succ]
  refine wpAnyH_tk (i := 12) (v := ?_) rfl (by kernel_rfl) (by kernel_rfl) (by kernel_rfl) (fun _ _ _ h => h) (Or.inl ⟨by rfl, ?_⟩) hHeld ?_
  rotate_left
  · intro w hSw
    try dsimp only at hSw
    go_simp
    try with_reducible rfl
  try simp only [Act.put, List.setIfInBounds_toArray, List.set_cons_zero, List.set_cons_succ]
  refine wpAnyH_tk (i := 13) (v := ?_) rfl (by kernel_rfl) (by kernel_rfl) (by kernel_rfl) (fun _ _ _ h => h) (Or.inl ⟨by rfl, ?_⟩) hHeld ?_
  rotate_left
  · intro w hSw
    try dsimp only at hSw
    go_simp
    try with_reducible rfl
  try simp only [Act.put, List.setIfInBounds_toArray, List.set_cons_zero, List.set_cons_succ]
  refine wpAnyH_tk (i := 14) (v := ?_) rfl (by kernel_rfl) (by kernel_rfl) (by kernel_rfl) (fun _ _ _ h => h) (Or.inl ⟨by rfl, ?_⟩) hHeld ?_
  rotate_left
  · intro w hSw
    try dsimp only at hSw
    go_simp
    try with_reducible rfl
  try simp only [Act.put, List.setIfInBounds_toArray, List.set_cons_zero, List.set_cons_succ]
  refine wpAnyH_done (by kernel_rfl) ?_ _
  clear hHeld
  obtain ⟨e0, e1, e2, e3, e4, g0, g1, g2, g3, g4⟩ := evF ((unhide HY).var (List.Mem.head _))
  go_wp2_with fail
  refine bodyPost_ret (v := .agg #[.int .i64 (dls h.f h.n d.y d.ws d.rs xk xt).2.1, .int .i64 0, .bool false, .string ⟨#[]⟩, .slice a (dls h.f h.n d.y d.ws d.rs xk xt).1.length cap]) (by simp [results, Try.results16, go_sem, e0, e1, e2, e3, e4]) rfl ?_
  exact ⟨sb, _, a, cap, rfl, by show Sts _ (upd h.seat ((j : Int).toNat) _); rw [hjs]; exact (unhide HS).put j (some (D, _)), slo_kp (unhide HSL) (ev5 _ _ _ _ _) (fun x hx e => by have := unhide HFR x hx; have := unhide HPL; rw [List.mem_singleton.1 e] at *; omega), ((unhide HY).fin _ _ _ _ _).as rfl rfl rfl⟩
end
end Go.Proofs.Ytehhpmfeaeabgac
