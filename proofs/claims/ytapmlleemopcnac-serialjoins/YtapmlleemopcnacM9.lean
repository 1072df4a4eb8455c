/- Hj, Hj2, Hk, Hn, Ba, Bb, Hbg, Hg, V4, Hl, Hv, Bc, Bd, Be: bound together for a claim. -/
import Derived.Test.YtapmlleemopcnacM8
import Derived.BigRegion
import Derived.Deep.MidRow
import Derived.Deep.AppendLies
import Derived.Deep.RegionLaw
/- A hall's end: where there is no deed; Commit, Abort, Tear. -/
namespace Go.Proofs.Ytapmlleemopcnac
open Go.RowKit
set_option maxRecDepth 20000
attribute [local go_sem ↓] Go.wp_at_zero Go.wp_at_succ

section
variable {w0 w : World} {hb vb tb gb : Nat} {h : HSt} {st : Nat → Sd} {r : List Thing}
set_option maxHeartbeats 1000000 in
theorem end_none (x : HStep) (hx : x.d = 6 ∨ x.d = 7 ∨ x.d = 10) (hf : ¬ fcode st x.s = 0) (hs : Sts st h.seat) (hz : Hall w0 w hb vb tb gb h st r) :
    Calls Try.prog 57 #[.pointer (some ⟨hb, 0, none⟩), .agg #[.int .i64 x.d, .int .i64 x.s, .int .i64 x.md, .int .i64 x.at_, .int .i64 x.key, .int .i64 x.to_, .int .i64 x.keep, .string x.b]] w fun e w' => GoEnd w0 hb vb gb r (hdo h x) (hev h x) e w' := by
  have heq := f_not hs (x := x) (by omega) hf
  rw [heq.1, heq.2]
  clear heq
  have HS := hide hs
  have HX := hide (hz.two (xcs x) 37 #[.int .i64 0, .int .i64 0, .bool false, .string ⟨#[]⟩, .slice none 0 0] 34)
  clear hz hs
  generalize hzz : fcode st x.s = z at hf ⊢
  have HZ0 := hide hzz
  have hzb : (z != 0) = true := by simpa using hf
  clear hzz hf
  obtain ⟨xd, xs, xm, xa, xk, xt, xp, xb⟩ := x
  dsimp only [xcs] at *
  go_enter Try.func57, Try.ntmps57
  go_wp2_with fail
  generalize (w.alloc (.cells #[.int .i64 xd, .int .i64 xs, .int .i64 xm, .int .i64 xa, .int .i64 xk, .int .i64 xt, .int .i64 xp, .string xb] 37)).alloc (.cells #[.int .i64 0, .int .i64 0, .bool false, .string ⟨#[]⟩, .slice none 0 0] 34) = W at HX ⊢
  generalize w.heap.size = q at HX ⊢
  generalize q + 1 = p at HX ⊢
  have hq := (unhide HX).var (List.Mem.tail _ (List.Mem.head _))
  have x1 : W.cell? ⟨q, 1, none⟩ = some (.int .i64 xs) := cell_of_block hq rfl
  clear hq
  refine (h_find xs (unhide HX)).mono ?_
  rintro e w' ⟨rfl, hw'⟩
  subst w'
  rw [unhide HZ0]
  generalize sp (dat st xs) = o
  have HE := hide ((unhide HX).new #[.int .i64 z, .int .i64 0, .bool false, .string ⟨#[]⟩, .slice none 0 0] 34)
  have pl := lt_of_block ((unhide HX).var (List.Mem.head _))
  obtain ⟨e0, e1, e2, e3, e4, g0, g1, g2, g3, g4⟩ := evF ((unhide HX).var (List.Mem.head _))
  go_wp2_with fail
  refine bodyPost_ret (v := .agg #[.int .i64 z, .int .i64 0, .bool false, .string ⟨#[]⟩, .slice none 0 0]) (by simp [results, Try.results57, go_sem, e0, e1, e2, e3, e4, pl]) rfl ?_
  exact ⟨tb, st, none, 0, rfl, unhide HS, (((unhide HX).fin _ _ _ _ _).new _ _).tail.ps⟩
set_option maxHeartbeats 1000000 in
theorem end_commit (x : HStep) (hx : x.d = 6) {j D : Nat} {d : Dp} (hj : x.s = (j : Int)) (h5 : j < 5) (hsd : st j = some (D, d)) (hs : Sts st h.seat) (hz : Hall w0 w hb vb tb gb h st r) (hi : HInv h) :
    Calls Try.prog 57 #[.pointer (some ⟨hb, 0, none⟩), .agg #[.int .i64 x.d, .int .i64 x.s, .int .i64 x.md, .int .i64 x.at_, .int .i64 x.key, .int .i64 x.to_, .int .i64 x.keep, .string x.b]] w fun e w' => GoEnd w0 hb vb gb r (hdo h x) (hev h x) e w' := by
  have HS := hide hs
  have HX := hide (hz.two (xcs x) 37 #[.int .i64 0, .int .i64 0, .bool false, .string ⟨#[]⟩, .slice none 0 0] 34)
  have hjs : x.s.toNat = j := by omega
  have i0 : (0 : Int) ≤ (j : Int) := by omega
  have i5 : (j : Int) < 5 := by omega
  have hsj : h.seat j = some d := by rw [← hs j, hsd]; rfl
  have heq := (HKind.commit (h := h) (x := x) d hx ⟨by omega, by omega⟩ (by rw [hjs]; exact hsj)).eq
  rw [heq.1, heq.2]
  clear heq hz hs hsj
  have hda : dat st (j : Int) = some (D, d) := by rw [dat_in h5, hsd]
  have hfc : fcode st (j : Int) = 0 := by unfold fcode; rw [if_pos ⟨i0, i5⟩, Int.toNat_natCast, hsd]; rfl
  have HI := hide hi
  have HW := hide (hi.ok j d (by rw [← unhide HS j, hsd]; rfl))
  clear hi
  obtain ⟨xd, xs, xm, xa, xk, xt, xp, xb⟩ := x
  dsimp only [xcs] at *
  subst hx hj
  go_enter Try.func57, Try.ntmps57
  go_wp2_with fail
  generalize (w.alloc (.cells #[.int .i64 6, .int .i64 (j : Int), .int .i64 xm, .int .i64 xa, .int .i64 xk, .int .i64 xt, .int .i64 xp, .string xb] 37)).alloc (.cells #[.int .i64 0, .int .i64 0, .bool false, .string ⟨#[]⟩, .slice none 0 0] 34) = W at HX ⊢
  generalize w.heap.size = q at HX ⊢
  generalize q + 1 = p at HX ⊢
  have hq := (unhide HX).var (List.Mem.tail _ (List.Mem.head _))
  have x0 : W.cell? ⟨q, 0, none⟩ = some (.int .i64 6) := cell_of_block hq rfl
  have x1 : W.cell? ⟨q, 1, none⟩ = some (.int .i64 (j : Int)) := cell_of_block hq rfl
  have x4 : W.cell? ⟨q, 4, none⟩ = some (.int .i64 xk) := cell_of_block hq rfl
  have x5 : W.cell? ⟨q, 5, none⟩ = some (.int .i64 xt) := cell_of_block hq rfl
  have x6 : W.cell? ⟨q, 6, none⟩ = some (.int .i64 xp) := cell_of_block hq rfl
  have x7 : W.cell? ⟨q, 7, none⟩ = some (.string xb) := cell_of_block hq rfl
  have ql := lt_of_block hq
  clear hq
  refine (h_find (j : Int) (unhide HX)).mono ?_
  rintro e w' ⟨rfl, hw'⟩
  subst w'
  rw [hda, hfc]
  rw [show sp (some (D, d)) = .pointer (some ⟨D, 0, none⟩) from rfl]
  have HE := hide ((unhide HX).new #[.int .i64 0, .int .i64 0, .bool false, .string ⟨#[]⟩, .slice none 0 0] 34)
  have pl := lt_of_block ((unhide HX).var (List.Mem.head _))
  have hl := (unhide HX).lt
  have vl := (unhide HX).vlt_
  have c0 := (unhide HX).c0
  have v0 := (unhide HX).v0
  obtain ⟨e0, e1, e2, e3, e4, g0, g1, g2, g3, g4⟩ := evF ((unhide HX).var (List.Mem.head _))
  go_wp2_with fail
  generalize W.alloc (.cells #[.int .i64 0, .int .i64 0, .bool false, .string ⟨#[]⟩, .slice none 0 0] 34) = W2 at HE ⊢
  generalize W.heap.size = pe at HE ⊢
  clear e0 e1 e2 e3 e4 g0 g1 g2 g3 g4 x0 x1 x4 x5 x6 x7 ql pl hl vl c0 v0
  have c2 := (unhide HE).cs_ h5
  have f2 := (unhide HE).fz (1 + j)
  have hq := (unhide HE).var (List.Mem.tail _ (List.Mem.tail _ (List.Mem.head _)))
  have x1 : W2.cell? ⟨q, 1, none⟩ = some (.int .i64 (j : Int)) := cell_of_block hq rfl
  clear hq
  have HL := hide ((unhide HE).leave h5)
  rw [hsd] at HL
  go_region
  have HL2 := hide (((unhide HL).kp0 (Kp.refl [] _).drew).perm (List.perm_middle (l₁ := [_, _, _])).symm)
  clear HL HE HX c2 f2 x1
  generalize World.drew _ = W3 at HL2 ⊢
  have hq := (unhide HL2).var (List.Mem.tail _ (List.Mem.tail _ (List.Mem.head _)))
  have x0 : W3.cell? ⟨q, 0, none⟩ = some (.int .i64 6) := cell_of_block hq rfl
  have x6 : W3.cell? ⟨q, 6, none⟩ = some (.int .i64 xp) := cell_of_block hq rfl
  clear hq
  have c0 := (unhide HL2).c0
  go_wp2_with fail
  refine (h_commit (unhide HI) (unhide HW) (List.Mem.tail _ (List.Mem.tail _ (List.Mem.tail _ (List.Mem.head _)))) (unhide HL2)).mono ?_
  rintro e w4 ⟨rfl, HY⟩
  clear x0 x6 c0 HL2
  have hep := (unhide HY).var (List.Mem.head _)
  have hpp := (unhide HY).var (List.Mem.tail _ (List.Mem.head _))
  obtain ⟨a0, a1, a2, a3, a4, b0, b1, b2, b3, b4⟩ := evF hep
  obtain ⟨e0, e1, e2, e3, e4, g0, g1, g2, g3, g4⟩ := evF hpp
  clear hep hpp
  have hne := (unhide HY).ne2
  go_wp2_with fail
  refine bodyPost_ret (v := .agg #[.int .i64 (vcode h.f h.cs d.md d.y d.rs d.ws), .int .i64 (vnum h.f h.n h.cs d.md d.y d.rs d.ws), .bool false, .string ⟨#[]⟩, .slice none 0 0]) (by simp [results, Try.results57, go_sem, e0, e1, e2, e3, e4]) rfl ?_
  exact ⟨tb, _, none, 0, rfl, by show Sts _ (upd h.seat ((j : Int).toNat) none); rw [hjs]; exact (unhide HS).put j none, (((((unhide HY).set0 1 _).set0 0 _).tail).fin _ _ _ _ _).tail.ps.as rfl rfl rfl⟩
set_option maxHeartbeats 1000000 in
theorem end_abort (x : HStep) (hx : x.d = 7) {j D : Nat} {d : Dp} (hj : x.s = (j : Int)) (h5 : j < 5) (hsd : st j = some (D, d)) (hs : Sts st h.seat) (hz : Hall w0 w hb vb tb gb h st r) (hi : HInv h) :
    Calls Try.prog 57 #[.pointer (some ⟨hb, 0, none⟩), .agg #[.int .i64 x.d, .int .i64 x.s, .int .i64 x.md, .int .i64 x.at_, .int .i64 x.key, .int .i64 x.to_, .int .i64 x.keep, .string x.b]] w fun e w' => GoEnd w0 hb vb gb r (hdo h x) (hev h x) e w' := by
  have HS := hide hs
  have HX := hide (hz.two (xcs x) 37 #[.int .i64 0, .int .i64 0, .bool false, .string ⟨#[]⟩, .slice none 0 0] 34)
  have hjs : x.s.toNat = j := by omega
  have i0 : (0 : Int) ≤ (j : Int) := by omega
  have i5 : (j : Int) < 5 := by omega
  have hsj : h.seat j = some d := by rw [← hs j, hsd]; rfl
  have heq := (HKind.abort (h := h) (x := x) d hx ⟨by omega, by omega⟩ (by rw [hjs]; exact hsj)).eq
  rw [heq.1, heq.2]
  clear heq hz hs hsj
  have hda : dat st (j : Int) = some (D, d) := by rw [dat_in h5, hsd]
  have hfc : fcode st (j : Int) = 0 := by unfold fcode; rw [if_pos ⟨i0, i5⟩, Int.toNat_natCast, hsd]; rfl
  have HI := hide hi
  have HW := hide (hi.ok j d (by rw [← unhide HS j, hsd]; rfl))
  clear hi
  obtain ⟨xd, xs, xm, xa, xk, xt, xp, xb⟩ := x
  dsimp only [xcs] at *
  subst hx hj
  go_enter Try.func57, Try.ntmps57
  go_wp2_with fail
  generalize (w.alloc (.cells #[.int .i64 7, .int .i64 (j : Int), .int .i64 xm, .int .i64 xa, .int .i64 xk, .int .i64 xt, .int .i64 xp, .string xb] 37)).alloc (.cells #[.int .i64 0, .int .i64 0, .bool false, .string ⟨#[]⟩, .slice none 0 0] 34) = W at HX ⊢
  generalize w.heap.size = q at HX ⊢
  generalize q + 1 = p at HX ⊢
  have hq := (unhide HX).var (List.Mem.tail _ (List.Mem.head _))
  have x0 : W.cell? ⟨q, 0, none⟩ = some (.int .i64 7) := cell_of_block hq rfl
  have x1 : W.cell? ⟨q, 1, none⟩ = some (.int .i64 (j : Int)) := cell_of_block hq rfl
  have x4 : W.cell? ⟨q, 4, none⟩ = some (.int .i64 xk) := cell_of_block hq rfl
  have x5 : W.cell? ⟨q, 5, none⟩ = some (.int .i64 xt) := cell_of_block hq rfl
  have x6 : W.cell? ⟨q, 6, none⟩ = some (.int .i64 xp) := cell_of_block hq rfl
  have x7 : W.cell? ⟨q, 7, none⟩ = some (.string xb) := cell_of_block hq rfl
  have ql := lt_of_block hq
  clear hq
  refine (h_find (j : Int) (unhide HX)).mono ?_
  rintro e w' ⟨rfl, hw'⟩
  subst w'
  rw [hda, hfc]
  rw [show sp (some (D, d)) = .pointer (some ⟨D, 0, none⟩) from rfl]
  have HE := hide ((unhide HX).new #[.int .i64 0, .int .i64 0, .bool false, .string ⟨#[]⟩, .slice none 0 0] 34)
  have pl := lt_of_block ((unhide HX).var (List.Mem.head _))
  have hl := (unhide HX).lt
  have vl := (unhide HX).vlt_
  have c0 := (unhide HX).c0
  have v0 := (unhide HX).v0
  obtain ⟨e0, e1, e2, e3, e4, g0, g1, g2, g3, g4⟩ := evF ((unhide HX).var (List.Mem.head _))
  go_wp2_with fail
  generalize W.alloc (.cells #[.int .i64 0, .int .i64 0, .bool false, .string ⟨#[]⟩, .slice none 0 0] 34) = W2 at HE ⊢
  generalize W.heap.size = pe at HE ⊢
  clear e0 e1 e2 e3 e4 g0 g1 g2 g3 g4 x0 x1 x4 x5 x6 x7 ql pl hl vl c0 v0
  have c2 := (unhide HE).cs_ h5
  have f2 := (unhide HE).fz (1 + j)
  have hq := (unhide HE).var (List.Mem.tail _ (List.Mem.tail _ (List.Mem.head _)))
  have x1 : W2.cell? ⟨q, 1, none⟩ = some (.int .i64 (j : Int)) := cell_of_block hq rfl
  clear hq
  have HL := hide ((unhide HE).leave h5)
  rw [hsd] at HL
  go_region
  have HL2 := hide (((unhide HL).kp0 (Kp.refl [] _).drew).perm (List.perm_middle (l₁ := [_, _, _])).symm)
  clear HL HE HX c2 f2 x1
  generalize World.drew _ = W3 at HL2 ⊢
  have hq := (unhide HL2).var (List.Mem.tail _ (List.Mem.tail _ (List.Mem.head _)))
  have x0 : W3.cell? ⟨q, 0, none⟩ = some (.int .i64 7) := cell_of_block hq rfl
  have x6 : W3.cell? ⟨q, 6, none⟩ = some (.int .i64 xp) := cell_of_block hq rfl
  clear hq
  have c0 := (unhide HL2).c0
  have HY := HL2
  have hep := (unhide HY).var (List.Mem.head _)
  have hpp := (unhide HY).var (List.Mem.tail _ (List.Mem.head _))
  obtain ⟨a0, a1, a2, a3, a4, b0, b1, b2, b3, b4⟩ := evF hep
  obtain ⟨e0, e1, e2, e3, e4, g0, g1, g2, g3, g4⟩ := evF hpp
  clear hep hpp
  have hne := (unhide HY).ne2
  go_wp2_with fail
  refine bodyPost_ret (v := .agg #[.int .i64 0, .int .i64 0, .bool false, .string ⟨#[]⟩, .slice none 0 0]) (by simp [results, Try.results57, go_sem, e0, e1, e2, e3, e4]) rfl ?_
  exact ⟨tb, _, none, 0, rfl, by show Sts _ (upd h.seat ((j : Int).toNat) none); rw [hjs]; exact (unhide HS).put j none, (((unhide HY).tail).fin _ _ _ _ _).tail.ps.as rfl rfl rfl⟩
end
end Go.Proofs.Ytapmlleemopcnac

/- A hall's end: Tear. -/
namespace Go.Proofs.Ytapmlleemopcnac
open Go.RowKit
set_option maxRecDepth 20000
attribute [local go_sem ↓] Go.wp_at_zero Go.wp_at_succ

theorem ev_set10 (a b c d e x y : Value) : ((#[a, b, c, d, e] : Array Value).setIfInBounds 1 x).setIfInBounds 0 y = #[y, x, c, d, e] := rfl
section
variable {w0 w : World} {hb vb tb gb : Nat} {h : HSt} {st : Nat → Sd} {r : List Thing}
set_option maxHeartbeats 1000000 in
theorem end_tear (x : HStep) (hx : x.d = 10) {j D : Nat} {d : Dp} (hj : x.s = (j : Int)) (h5 : j < 5) (hsd : st j = some (D, d)) (hs : Sts st h.seat) (hz : Hall w0 w hb vb tb gb h st r) (hi : HInv h) :
    Calls Try.prog 57 #[.pointer (some ⟨hb, 0, none⟩), .agg #[.int .i64 x.d, .int .i64 x.s, .int .i64 x.md, .int .i64 x.at_, .int .i64 x.key, .int .i64 x.to_, .int .i64 x.keep, .string x.b]] w fun e w' => GoEnd w0 hb vb gb r (hdo h x) (hev h x) e w' := by
  have HS := hide hs
  have HX := hide (hz.two (xcs x) 37 #[.int .i64 0, .int .i64 0, .bool false, .string ⟨#[]⟩, .slice none 0 0] 34)
  have hjs : x.s.toNat = j := by omega
  have i0 : (0 : Int) ≤ (j : Int) := by omega
  have i5 : (j : Int) < 5 := by omega
  have hsj : h.seat j = some d := by rw [← hs j, hsd]; rfl
  have heq := (HKind.tear (h := h) (x := x) d hx ⟨by omega, by omega⟩ (by rw [hjs]; exact hsj)).eq
  rw [heq.1, heq.2]
  clear heq hz hs hsj
  have hda : dat st (j : Int) = some (D, d) := by rw [dat_in h5, hsd]
  have hfc : fcode st (j : Int) = 0 := by unfold fcode; rw [if_pos ⟨i0, i5⟩, Int.toNat_natCast, hsd]; rfl
  have HI := hide hi
  have HW := hide (hi.ok j d (by rw [← unhide HS j, hsd]; rfl))
  clear hi
  obtain ⟨xd, xs, xm, xa, xk, xt, xp, xb⟩ := x
  dsimp only [xcs] at *
  subst hx hj
  go_enter Try.func57, Try.ntmps57
  go_wp2_with fail
  generalize (w.alloc (.cells #[.int .i64 10, .int .i64 (j : Int), .int .i64 xm, .int .i64 xa, .int .i64 xk, .int .i64 xt, .int .i64 xp, .string xb] 37)).alloc (.cells #[.int .i64 0, .int .i64 0, .bool false, .string ⟨#[]⟩, .slice none 0 0] 34) = W at HX ⊢
  generalize w.heap.size = q at HX ⊢
  generalize q + 1 = p at HX ⊢
  have hq := (unhide HX).var (List.Mem.tail _ (List.Mem.head _))
  have x0 : W.cell? ⟨q, 0, none⟩ = some (.int .i64 10) := cell_of_block hq rfl
  have x1 : W.cell? ⟨q, 1, none⟩ = some (.int .i64 (j : Int)) := cell_of_block hq rfl
  have x4 : W.cell? ⟨q, 4, none⟩ = some (.int .i64 xk) := cell_of_block hq rfl
  have x5 : W.cell? ⟨q, 5, none⟩ = some (.int .i64 xt) := cell_of_block hq rfl
  have x6 : W.cell? ⟨q, 6, none⟩ = some (.int .i64 xp) := cell_of_block hq rfl
  have x7 : W.cell? ⟨q, 7, none⟩ = some (.string xb) := cell_of_block hq rfl
  have ql := lt_of_block hq
  clear hq
  refine (h_find (j : Int) (unhide HX)).mono ?_
  rintro e w' ⟨rfl, hw'⟩
  subst w'
  rw [hda, hfc]
  rw [show sp (some (D, d)) = .pointer (some ⟨D, 0, none⟩) from rfl]
  have HE := hide ((unhide HX).new #[.int .i64 0, .int .i64 0, .bool false, .string ⟨#[]⟩, .slice none 0 0] 34)
  have pl := lt_of_block ((unhide HX).var (List.Mem.head _))
  have hl := (unhide HX).lt
  have vl := (unhide HX).vlt_
  have c0 := (unhide HX).c0
  have v0 := (unhide HX).v0
  obtain ⟨e0, e1, e2, e3, e4, g0, g1, g2, g3, g4⟩ := evF ((unhide HX).var (List.Mem.head _))
  go_wp2_with fail
  generalize W.alloc (.cells #[.int .i64 0, .int .i64 0, .bool false, .string ⟨#[]⟩, .slice none 0 0] 34) = W2 at HE ⊢
  generalize W.heap.size = pe at HE ⊢
  clear e0 e1 e2 e3 e4 g0 g1 g2 g3 g4 x0 x1 x4 x5 x6 x7 ql pl hl vl c0 v0
  have c2 := (unhide HE).cs_ h5
  have f2 := (unhide HE).fz (1 + j)
  have hq := (unhide HE).var (List.Mem.tail _ (List.Mem.tail _ (List.Mem.head _)))
  have x1 : W2.cell? ⟨q, 1, none⟩ = some (.int .i64 (j : Int)) := cell_of_block hq rfl
  clear hq
  have HL := hide ((unhide HE).leave h5)
  rw [hsd] at HL
  go_region
  have HL2 := hide (((unhide HL).kp0 (Kp.refl [] _).drew).perm (List.perm_middle (l₁ := [_, _, _])).symm)
  clear HL HE HX c2 f2 x1
  generalize World.drew _ = W3 at HL2 ⊢
  have hq := (unhide HL2).var (List.Mem.tail _ (List.Mem.tail _ (List.Mem.head _)))
  have x0 : W3.cell? ⟨q, 0, none⟩ = some (.int .i64 10) := cell_of_block hq rfl
  have x6 : W3.cell? ⟨q, 6, none⟩ = some (.int .i64 xp) := cell_of_block hq rfl
  clear hq
  have c0 := (unhide HL2).c0
  have HG := hide (fun W' (hk : Kp [] W3 W') => h_tear xp (unhide HI) (unhide HW) (List.Mem.tail _ (List.Mem.tail _ (List.Mem.tail _ (List.Mem.head _)))) ((unhide HL2).kp0 hk))
  go_wp2_with fail
  go_region_with (go_at_call 105; refine (unhide HG _ (Kp.refl [] W3).drew).mono ?_; rintro e w4 ⟨rfl, tb', HY⟩; (have hep := (unhide HY).var (List.Mem.head _)); (obtain ⟨a0, a1, a2, a3, a4, b0, b1, b2, b3, b4⟩ := evF hep); clear hep)
  all_goals
    have HY2 := hide (((unhide HY).set0 1 (.int .i64 (tnum h.f h.cs d.md d.y d.rs d.ws xp))).set0 0 (.int .i64 (vcode h.f h.cs d.md d.y d.rs d.ws)))
    clear a0 a1 a2 a3 a4 b0 b1 b2 b3 b4 HY HG x0 x6 c0
    rw [ev_set10] at HY2
    go_wp2_with fail
    refine (h_leaveAll (unhide HY2)).mono ?_
    rintro e w5 ⟨rfl, HY⟩
    clear HY2
    have hep := (unhide HY).var (List.Mem.head _)
    have hpp := (unhide HY).var (List.Mem.tail _ (List.Mem.head _))
    obtain ⟨a0, a1, a2, a3, a4, b0, b1, b2, b3, b4⟩ := evF hep
    obtain ⟨e0, e1, e2, e3, e4, g0, g1, g2, g3, g4⟩ := evF hpp
    clear hep hpp
    have hne := (unhide HY).ne2
    go_wp2_with fail
    refine bodyPost_ret (v := .agg #[.int .i64 (vcode h.f h.cs d.md d.y d.rs d.ws), .int .i64 (tnum h.f h.cs d.md d.y d.rs d.ws xp), .bool false, .string ⟨#[]⟩, .slice none 0 0]) (by simp [results, Try.results57, go_sem, e0, e1, e2, e3, e4]) rfl ?_
    exact ⟨tb', _, none, 0, rfl, fun _ => rfl, (((unhide HY).tail).fin _ _ _ _ _).tail.ps.as rfl rfl rfl⟩
end
end Go.Proofs.Ytapmlleemopcnac

/- A hall's Do: the kinds by themselves. -/
namespace Go.Proofs.Ytapmlleemopcnac
open Go.RowKit
set_option maxRecDepth 20000
attribute [local go_sem ↓] Go.wp_at_zero Go.wp_at_succ

section
variable {w0 w : World} {hb vb tb gb : Nat} {h : HSt} {st : Nat → Sd} {r : List Thing}
set_option maxHeartbeats 1000000 in
theorem do_kind (x : HStep) (hs : Sts st h.seat) (hz : Hall w0 w hb vb tb gb h st r) (hx : x.d < 1 ∨ 10 < x.d) :
    Calls Try.prog 18 #[.pointer (some ⟨hb, 0, none⟩), .agg #[.int .i64 x.d, .int .i64 x.s, .int .i64 x.md, .int .i64 x.at_, .int .i64 x.key, .int .i64 x.to_, .int .i64 x.keep, .string x.b]] w fun e w' => GoEnd w0 hb vb gb r (hdo h x) (hev h x) e w' := by
  have heq := (HKind.kind (h := h) (x := x) hx).eq
  rw [heq.1, heq.2]
  clear heq
  have HS := hide hs
  have HX := hide (hz.two (xcs x) 37 #[.int .i64 3, .int .i64 0, .bool false, .string ⟨#[]⟩, .slice none 0 0] 34)
  clear hz hs
  obtain ⟨xd, xs, xm, xa, xk, xt, xp, xb⟩ := x
  dsimp only [xcs] at *
  have k1 : (xd == 1) = false := beq_eq_false_iff_ne.2 (by omega)
  have k2 : (xd == 2) = false := beq_eq_false_iff_ne.2 (by omega)
  have k3 : (xd == 3) = false := beq_eq_false_iff_ne.2 (by omega)
  have k4 : (xd == 4) = false := beq_eq_false_iff_ne.2 (by omega)
  have k5 : (xd == 5) = false := beq_eq_false_iff_ne.2 (by omega)
  have k6 : (xd == 6) = false := beq_eq_false_iff_ne.2 (by omega)
  have k7 : (xd == 7) = false := beq_eq_false_iff_ne.2 (by omega)
  have k8 : (xd == 8) = false := beq_eq_false_iff_ne.2 (by omega)
  have k9 : (xd == 9) = false := beq_eq_false_iff_ne.2 (by omega)
  have k10 : (xd == 10) = false := beq_eq_false_iff_ne.2 (by omega)
  go_enter Try.func18, Try.ntmps18
  go_wp2_with fail
  refine bodyPost_ret (v := .agg #[.int .i64 3, .int .i64 0, .bool false, .string ⟨#[]⟩, .slice none 0 0]) (by simp [results, Try.results18, go_sem]) rfl ?_
  exact ⟨tb, st, none, 0, rfl, unhide HS, (unhide HX).tail.tail.ps⟩
set_option maxHeartbeats 1000000 in
theorem do_crash (x : HStep) (hs : Sts st h.seat) (hz : Hall w0 w hb vb tb gb h st r) (hx : x.d = 9) :
    Calls Try.prog 18 #[.pointer (some ⟨hb, 0, none⟩), .agg #[.int .i64 x.d, .int .i64 x.s, .int .i64 x.md, .int .i64 x.at_, .int .i64 x.key, .int .i64 x.to_, .int .i64 x.keep, .string x.b]] w fun e w' => GoEnd w0 hb vb gb r (hdo h x) (hev h x) e w' := by
  have heq := (HKind.crash (h := h) (x := x) hx).eq
  rw [heq.1, heq.2]
  clear heq
  have HS := hide hs
  have HX := hide (hz.two (xcs x) 37 #[.int .i64 0, .int .i64 0, .bool false, .string ⟨#[]⟩, .slice none 0 0] 34)
  have c0 := hz.c0
  have hl := hz.lt
  clear hz hs
  obtain ⟨xd, xs, xm, xa, xk, xt, xp, xb⟩ := x
  dsimp only [xcs] at *
  subst hx
  go_enter Try.func18, Try.ntmps18
  go_wp2_with fail
  generalize (w.alloc (.cells #[.int .i64 9, .int .i64 xs, .int .i64 xm, .int .i64 xa, .int .i64 xk, .int .i64 xt, .int .i64 xp, .string xb] 37)).alloc (.cells #[.int .i64 0, .int .i64 0, .bool false, .string ⟨#[]⟩, .slice none 0 0] 34) = W at HX ⊢
  generalize w.heap.size = q at HX ⊢
  generalize q + 1 = p at HX ⊢
  refine (h_crash (unhide HX)).mono ?_
  rintro e w1 ⟨rfl, tb', H1⟩
  clear HX
  go_wp2_with fail
  refine (h_leaveAll (unhide H1)).mono ?_
  rintro e w2 ⟨rfl, HY⟩
  clear H1
  obtain ⟨e0, e1, e2, e3, e4, g0, g1, g2, g3, g4⟩ := evF ((unhide HY).var (List.Mem.head _))
  go_wp2_with fail
  refine bodyPost_ret (v := .agg #[.int .i64 0, .int .i64 0, .bool false, .string ⟨#[]⟩, .slice none 0 0]) (by simp [results, Try.results18, go_sem, e0, e1, e2, e3, e4]) rfl ?_
  exact ⟨tb', _, none, 0, rfl, fun _ => rfl, ((unhide HY).fin _ _ _ _ _).ps.as rfl rfl rfl⟩
set_option maxHeartbeats 1000000 in
theorem do_begin (x : HStep) (hs : Sts st h.seat) (hz : Hall w0 w hb vb tb gb h st r) (hx : x.d = 1) :
    Calls Try.prog 18 #[.pointer (some ⟨hb, 0, none⟩), .agg #[.int .i64 x.d, .int .i64 x.s, .int .i64 x.md, .int .i64 x.at_, .int .i64 x.key, .int .i64 x.to_, .int .i64 x.keep, .string x.b]] w fun e w' => GoEnd w0 hb vb gb r (hdo h x) (hev h x) e w' := by
  have HS := hide hs
  have HX := hide (hz.two (xcs x) 37 #[.int .i64 0, .int .i64 0, .bool false, .string ⟨#[]⟩, .slice none 0 0] 34)
  clear hz hs
  have HB := hide (fun W (hz : Hall w0 W hb vb tb gb h st (BoxT (w.heap.size + 1) #[.int .i64 0, .int .i64 0, .bool false, .string ⟨#[]⟩, .slice none 0 0] 34 :: BoxT w.heap.size (xcs x) 37 :: r)) => h_begin x hx (unhide HS) hz)
  generalize hdo h x = h' at *
  generalize hev h x = v at *
  obtain ⟨xd, xs, xm, xa, xk, xt, xp, xb⟩ := x
  dsimp only [xcs] at *
  subst hx
  go_enter Try.func18, Try.ntmps18
  go_wp2_with fail
  have HB2 := hide (unhide HB _ (unhide HX))
  clear HB
  generalize (w.alloc (.cells #[.int .i64 1, .int .i64 xs, .int .i64 xm, .int .i64 xa, .int .i64 xk, .int .i64 xt, .int .i64 xp, .string xb] 37)).alloc (.cells #[.int .i64 0, .int .i64 0, .bool false, .string ⟨#[]⟩, .slice none 0 0] 34) = W at HX HB2 ⊢
  generalize w.heap.size = q at HX HB2 ⊢
  generalize q + 1 = p at HX HB2 ⊢
  refine (unhide HB2).mono ?_
  rintro e w1 ⟨st', rfl, hv, hs', HY⟩
  have HS' := hide hs'
  have HV := hide hv
  clear HX HB2 hs' hv
  obtain ⟨e0, e1, e2, e3, e4, g0, g1, g2, g3, g4⟩ := evF ((unhide HY).var (List.Mem.head _))
  go_wp2_with fail
  refine bodyPost_ret (v := .agg #[.int .i64 v.c, .int .i64 0, .bool false, .string ⟨#[]⟩, .slice none 0 0]) (by simp [results, Try.results18, go_sem, e0, e1, e2, e3, e4]) rfl ?_
  rw [unhide HV]
  exact ⟨tb, st', none, 0, rfl, unhide HS', ((unhide HY).fin _ _ _ _ _).ps⟩
set_option maxHeartbeats 1000000 in
theorem do_on2 (x : HStep) (hz : Hall w0 w hb vb tb gb h st r) (hx : x.d = 2) (hc : ∀ {w : World} {r : List Thing}, Hall w0 w hb vb tb gb h st r → Calls Try.prog 56 #[.pointer (some ⟨hb, 0, none⟩), .agg #[.int .i64 x.d, .int .i64 x.s, .int .i64 x.md, .int .i64 x.at_, .int .i64 x.key, .int .i64 x.to_, .int .i64 x.keep, .string x.b]] w fun e w' => GoEnd w0 hb vb gb r (hdo h x) (hev h x) e w') :
    Calls Try.prog 18 #[.pointer (some ⟨hb, 0, none⟩), .agg #[.int .i64 x.d, .int .i64 x.s, .int .i64 x.md, .int .i64 x.at_, .int .i64 x.key, .int .i64 x.to_, .int .i64 x.keep, .string x.b]] w fun e w' => GoEnd w0 hb vb gb r (hdo h x) (hev h x) e w' := by
  have HX := hide (hz.two (xcs x) 37 #[.int .i64 0, .int .i64 0, .bool false, .string ⟨#[]⟩, .slice none 0 0] 34)
  clear hz
  have HB := hide (hc (unhide HX))
  clear hc
  generalize hdo h x = h' at *
  generalize hev h x = v at *
  obtain ⟨xd, xs, xm, xa, xk, xt, xp, xb⟩ := x
  dsimp only [xcs] at *
  subst hx
  go_enter Try.func18, Try.ntmps18
  go_wp2_with fail
  generalize (w.alloc (.cells #[.int .i64 2, .int .i64 xs, .int .i64 xm, .int .i64 xa, .int .i64 xk, .int .i64 xt, .int .i64 xp, .string xb] 37)).alloc (.cells #[.int .i64 0, .int .i64 0, .bool false, .string ⟨#[]⟩, .slice none 0 0] 34) = W at HX HB ⊢
  generalize w.heap.size = q at HX HB ⊢
  generalize q + 1 = p at HX HB ⊢
  refine (unhide HB).mono ?_
  rintro e w1 ⟨tb', st', a, cap, rfl, hs', HY0⟩
  have HY := hide ((unhide HY0).perm (List.perm_middle (l₁ := [_, _])).symm)
  have HS' := hide hs'
  clear HX HB hs' HY0
  obtain ⟨e0, e1, e2, e3, e4, g0, g1, g2, g3, g4⟩ := evF ((unhide HY).var (List.Mem.head _))
  go_wp2_with fail
  refine bodyPost_ret (v := .agg #[.int .i64 v.c, .int .i64 v.n, .bool v.t, .string v.s, .slice a v.l.length cap]) (by simp [results, Try.results18, go_sem, e0, e1, e2, e3, e4]) rfl ?_
  exact ⟨tb', st', a, cap, rfl, unhide HS', (unhide HY).fin _ _ _ _ _⟩
set_option maxHeartbeats 1000000 in
theorem do_on3 (x : HStep) (hz : Hall w0 w hb vb tb gb h st r) (hx : x.d = 3) (hc : ∀ {w : World} {r : List Thing}, Hall w0 w hb vb tb gb h st r → Calls Try.prog 56 #[.pointer (some ⟨hb, 0, none⟩), .agg #[.int .i64 x.d, .int .i64 x.s, .int .i64 x.md, .int .i64 x.at_, .int .i64 x.key, .int .i64 x.to_, .int .i64 x.keep, .string x.b]] w fun e w' => GoEnd w0 hb vb gb r (hdo h x) (hev h x) e w') :
    Calls Try.prog 18 #[.pointer (some ⟨hb, 0, none⟩), .agg #[.int .i64 x.d, .int .i64 x.s, .int .i64 x.md, .int .i64 x.at_, .int .i64 x.key, .int .i64 x.to_, .int .i64 x.keep, .string x.b]] w fun e w' => GoEnd w0 hb vb gb r (hdo h x) (hev h x) e w' := by
  have HX := hide (hz.two (xcs x) 37 #[.int .i64 0, .int .i64 0, .bool false, .string ⟨#[]⟩, .slice none 0 0] 34)
  clear hz
  have HB := hide (hc (unhide HX))
  clear hc
  generalize hdo h x = h' at *
  generalize hev h x = v at *
  obtain ⟨xd, xs, xm, xa, xk, xt, xp, xb⟩ := x
  dsimp only [xcs] at *
  subst hx
  go_enter Try.func18, Try.ntmps18
  go_wp2_with fail
  generalize (w.alloc (.cells #[.int .i64 3, .int .i64 xs, .int .i64 xm, .int .i64 xa, .int .i64 xk, .int .i64 xt, .int .i64 xp, .string xb] 37)).alloc (.cells #[.int .i64 0, .int .i64 0, .bool false, .string ⟨#[]⟩, .slice none 0 0] 34) = W at HX HB ⊢
  generalize w.heap.size = q at HX HB ⊢
  generalize q + 1 = p at HX HB ⊢
  refine (unhide HB).mono ?_
  rintro e w1 ⟨tb', st', a, cap, rfl, hs', HY0⟩
  have HY := hide ((unhide HY0).perm (List.perm_middle (l₁ := [_, _])).symm)
  have HS' := hide hs'
  clear HX HB hs' HY0
  obtain ⟨e0, e1, e2, e3, e4, g0, g1, g2, g3, g4⟩ := evF ((unhide HY).var (List.Mem.head _))
  go_wp2_with fail
  refine bodyPost_ret (v := .agg #[.int .i64 v.c, .int .i64 v.n, .bool v.t, .string v.s, .slice a v.l.length cap]) (by simp [results, Try.results18, go_sem, e0, e1, e2, e3, e4]) rfl ?_
  exact ⟨tb', st', a, cap, rfl, unhide HS', (unhide HY).fin _ _ _ _ _⟩
set_option maxHeartbeats 1000000 in
theorem do_on4 (x : HStep) (hz : Hall w0 w hb vb tb gb h st r) (hx : x.d = 4) (hc : ∀ {w : World} {r : List Thing}, Hall w0 w hb vb tb gb h st r → Calls Try.prog 56 #[.pointer (some ⟨hb, 0, none⟩), .agg #[.int .i64 x.d, .int .i64 x.s, .int .i64 x.md, .int .i64 x.at_, .int .i64 x.key, .int .i64 x.to_, .int .i64 x.keep, .string x.b]] w fun e w' => GoEnd w0 hb vb gb r (hdo h x) (hev h x) e w') :
    Calls Try.prog 18 #[.pointer (some ⟨hb, 0, none⟩), .agg #[.int .i64 x.d, .int .i64 x.s, .int .i64 x.md, .int .i64 x.at_, .int .i64 x.key, .int .i64 x.to_, .int .i64 x.keep, .string x.b]] w fun e w' => GoEnd w0 hb vb gb r (hdo h x) (hev h x) e w' := by
  have HX := hide (hz.two (xcs x) 37 #[.int .i64 0, .int .i64 0, .bool false, .string ⟨#[]⟩, .slice none 0 0] 34)
  clear hz
  have HB := hide (hc (unhide HX))
  clear hc
  generalize hdo h x = h' at *
  generalize hev h x = v at *
  obtain ⟨xd, xs, xm, xa, xk, xt, xp, xb⟩ := x
  dsimp only [xcs] at *
  subst hx
  go_enter Try.func18, Try.ntmps18
  go_wp2_with fail
  generalize (w.alloc (.cells #[.int .i64 4, .int .i64 xs, .int .i64 xm, .int .i64 xa, .int .i64 xk, .int .i64 xt, .int .i64 xp, .string xb] 37)).alloc (.cells #[.int .i64 0, .int .i64 0, .bool false, .string ⟨#[]⟩, .slice none 0 0] 34) = W at HX HB ⊢
  generalize w.heap.size = q at HX HB ⊢
  generalize q + 1 = p at HX HB ⊢
  refine (unhide HB).mono ?_
  rintro e w1 ⟨tb', st', a, cap, rfl, hs', HY0⟩
  have HY := hide ((unhide HY0).perm (List.perm_middle (l₁ := [_, _])).symm)
  have HS' := hide hs'
  clear HX HB hs' HY0
  obtain ⟨e0, e1, e2, e3, e4, g0, g1, g2, g3, g4⟩ := evF ((unhide HY).var (List.Mem.head _))
  go_wp2_with fail
  refine bodyPost_ret (v := .agg #[.int .i64 v.c, .int .i64 v.n, .bool v.t, .string v.s, .slice a v.l.length cap]) (by simp [results, Try.results18, go_sem, e0, e1, e2, e3, e4]) rfl ?_
  exact ⟨tb', st', a, cap, rfl, unhide HS', (unhide HY).fin _ _ _ _ _⟩
set_option maxHeartbeats 1000000 in
theorem do_on5 (x : HStep) (hz : Hall w0 w hb vb tb gb h st r) (hx : x.d = 5) (hc : ∀ {w : World} {r : List Thing}, Hall w0 w hb vb tb gb h st r → Calls Try.prog 56 #[.pointer (some ⟨hb, 0, none⟩), .agg #[.int .i64 x.d, .int .i64 x.s, .int .i64 x.md, .int .i64 x.at_, .int .i64 x.key, .int .i64 x.to_, .int .i64 x.keep, .string x.b]] w fun e w' => GoEnd w0 hb vb gb r (hdo h x) (hev h x) e w') :
    Calls Try.prog 18 #[.pointer (some ⟨hb, 0, none⟩), .agg #[.int .i64 x.d, .int .i64 x.s, .int .i64 x.md, .int .i64 x.at_, .int .i64 x.key, .int .i64 x.to_, .int .i64 x.keep, .string x.b]] w fun e w' => GoEnd w0 hb vb gb r (hdo h x) (hev h x) e w' := by
  have HX := hide (hz.two (xcs x) 37 #[.int .i64 0, .int .i64 0, .bool false, .string ⟨#[]⟩, .slice none 0 0] 34)
  clear hz
  have HB := hide (hc (unhide HX))
  clear hc
  generalize hdo h x = h' at *
  generalize hev h x = v at *
  obtain ⟨xd, xs, xm, xa, xk, xt, xp, xb⟩ := x
  dsimp only [xcs] at *
  subst hx
  go_enter Try.func18, Try.ntmps18
  go_wp2_with fail
  generalize (w.alloc (.cells #[.int .i64 5, .int .i64 xs, .int .i64 xm, .int .i64 xa, .int .i64 xk, .int .i64 xt, .int .i64 xp, .string xb] 37)).alloc (.cells #[.int .i64 0, .int .i64 0, .bool false, .string ⟨#[]⟩, .slice none 0 0] 34) = W at HX HB ⊢
  generalize w.heap.size = q at HX HB ⊢
  generalize q + 1 = p at HX HB ⊢
  refine (unhide HB).mono ?_
  rintro e w1 ⟨tb', st', a, cap, rfl, hs', HY0⟩
  have HY := hide ((unhide HY0).perm (List.perm_middle (l₁ := [_, _])).symm)
  have HS' := hide hs'
  clear HX HB hs' HY0
  obtain ⟨e0, e1, e2, e3, e4, g0, g1, g2, g3, g4⟩ := evF ((unhide HY).var (List.Mem.head _))
  go_wp2_with fail
  refine bodyPost_ret (v := .agg #[.int .i64 v.c, .int .i64 v.n, .bool v.t, .string v.s, .slice a v.l.length cap]) (by simp [results, Try.results18, go_sem, e0, e1, e2, e3, e4]) rfl ?_
  exact ⟨tb', st', a, cap, rfl, unhide HS', (unhide HY).fin _ _ _ _ _⟩
set_option maxHeartbeats 1000000 in
theorem do_end6 (x : HStep) (hz : Hall w0 w hb vb tb gb h st r) (hx : x.d = 6) (hc : ∀ {w : World} {r : List Thing}, Hall w0 w hb vb tb gb h st r → Calls Try.prog 57 #[.pointer (some ⟨hb, 0, none⟩), .agg #[.int .i64 x.d, .int .i64 x.s, .int .i64 x.md, .int .i64 x.at_, .int .i64 x.key, .int .i64 x.to_, .int .i64 x.keep, .string x.b]] w fun e w' => GoEnd w0 hb vb gb r (hdo h x) (hev h x) e w') :
    Calls Try.prog 18 #[.pointer (some ⟨hb, 0, none⟩), .agg #[.int .i64 x.d, .int .i64 x.s, .int .i64 x.md, .int .i64 x.at_, .int .i64 x.key, .int .i64 x.to_, .int .i64 x.keep, .string x.b]] w fun e w' => GoEnd w0 hb vb gb r (hdo h x) (hev h x) e w' := by
  have HX := hide (hz.two (xcs x) 37 #[.int .i64 0, .int .i64 0, .bool false, .string ⟨#[]⟩, .slice none 0 0] 34)
  clear hz
  have HB := hide (hc (unhide HX))
  clear hc
  generalize hdo h x = h' at *
  generalize hev h x = v at *
  obtain ⟨xd, xs, xm, xa, xk, xt, xp, xb⟩ := x
  dsimp only [xcs] at *
  subst hx
  go_enter Try.func18, Try.ntmps18
  go_wp2_with fail
  generalize (w.alloc (.cells #[.int .i64 6, .int .i64 xs, .int .i64 xm, .int .i64 xa, .int .i64 xk, .int .i64 xt, .int .i64 xp, .string xb] 37)).alloc (.cells #[.int .i64 0, .int .i64 0, .bool false, .string ⟨#[]⟩, .slice none 0 0] 34) = W at HX HB ⊢
  generalize w.heap.size = q at HX HB ⊢
  generalize q + 1 = p at HX HB ⊢
  refine (unhide HB).mono ?_
  rintro e w1 ⟨tb', st', a, cap, rfl, hs', HY0⟩
  have HY := hide ((unhide HY0).perm (List.perm_middle (l₁ := [_, _])).symm)
  have HS' := hide hs'
  clear HX HB hs' HY0
  obtain ⟨e0, e1, e2, e3, e4, g0, g1, g2, g3, g4⟩ := evF ((unhide HY).var (List.Mem.head _))
  go_wp2_with fail
  refine bodyPost_ret (v := .agg #[.int .i64 v.c, .int .i64 v.n, .bool v.t, .string v.s, .slice a v.l.length cap]) (by simp [results, Try.results18, go_sem, e0, e1, e2, e3, e4]) rfl ?_
  exact ⟨tb', st', a, cap, rfl, unhide HS', (unhide HY).fin _ _ _ _ _⟩
set_option maxHeartbeats 1000000 in
theorem do_end7 (x : HStep) (hz : Hall w0 w hb vb tb gb h st r) (hx : x.d = 7) (hc : ∀ {w : World} {r : List Thing}, Hall w0 w hb vb tb gb h st r → Calls Try.prog 57 #[.pointer (some ⟨hb, 0, none⟩), .agg #[.int .i64 x.d, .int .i64 x.s, .int .i64 x.md, .int .i64 x.at_, .int .i64 x.key, .int .i64 x.to_, .int .i64 x.keep, .string x.b]] w fun e w' => GoEnd w0 hb vb gb r (hdo h x) (hev h x) e w') :
    Calls Try.prog 18 #[.pointer (some ⟨hb, 0, none⟩), .agg #[.int .i64 x.d, .int .i64 x.s, .int .i64 x.md, .int .i64 x.at_, .int .i64 x.key, .int .i64 x.to_, .int .i64 x.keep, .string x.b]] w fun e w' => GoEnd w0 hb vb gb r (hdo h x) (hev h x) e w' := by
  have HX := hide (hz.two (xcs x) 37 #[.int .i64 0, .int .i64 0, .bool false, .string ⟨#[]⟩, .slice none 0 0] 34)
  clear hz
  have HB := hide (hc (unhide HX))
  clear hc
  generalize hdo h x = h' at *
  generalize hev h x = v at *
  obtain ⟨xd, xs, xm, xa, xk, xt, xp, xb⟩ := x
  dsimp only [xcs] at *
  subst hx
  go_enter Try.func18, Try.ntmps18
  go_wp2_with fail
  generalize (w.alloc (.cells #[.int .i64 7, .int .i64 xs, .int .i64 xm, .int .i64 xa, .int .i64 xk, .int .i64 xt, .int .i64 xp, .string xb] 37)).alloc (.cells #[.int .i64 0, .int .i64 0, .bool false, .string ⟨#[]⟩, .slice none 0 0] 34) = W at HX HB ⊢
  generalize w.heap.size = q at HX HB ⊢
  generalize q + 1 = p at HX HB ⊢
  refine (unhide HB).mono ?_
  rintro e w1 ⟨tb', st', a, cap, rfl, hs', HY0⟩
  have HY := hide ((unhide HY0).perm (List.perm_middle (l₁ := [_, _])).symm)
  have HS' := hide hs'
  clear HX HB hs' HY0
  obtain ⟨e0, e1, e2, e3, e4, g0, g1, g2, g3, g4⟩ := evF ((unhide HY).var (List.Mem.head _))
  go_wp2_with fail
  refine bodyPost_ret (v := .agg #[.int .i64 v.c, .int .i64 v.n, .bool v.t, .string v.s, .slice a v.l.length cap]) (by simp [results, Try.results18, go_sem, e0, e1, e2, e3, e4]) rfl ?_
  exact ⟨tb', st', a, cap, rfl, unhide HS', (unhide HY).fin _ _ _ _ _⟩
set_option maxHeartbeats 1000000 in
theorem do_end10 (x : HStep) (hz : Hall w0 w hb vb tb gb h st r) (hx : x.d = 10) (hc : ∀ {w : World} {r : List Thing}, Hall w0 w hb vb tb gb h st r → Calls Try.prog 57 #[.pointer (some ⟨hb, 0, none⟩), .agg #[.int .i64 x.d, .int .i64 x.s, .int .i64 x.md, .int .i64 x.at_, .int .i64 x.key, .int .i64 x.to_, .int .i64 x.keep, .string x.b]] w fun e w' => GoEnd w0 hb vb gb r (hdo h x) (hev h x) e w') :
    Calls Try.prog 18 #[.pointer (some ⟨hb, 0, none⟩), .agg #[.int .i64 x.d, .int .i64 x.s, .int .i64 x.md, .int .i64 x.at_, .int .i64 x.key, .int .i64 x.to_, .int .i64 x.keep, .string x.b]] w fun e w' => GoEnd w0 hb vb gb r (hdo h x) (hev h x) e w' := by
  have HX := hide (hz.two (xcs x) 37 #[.int .i64 0, .int .i64 0, .bool false, .string ⟨#[]⟩, .slice none 0 0] 34)
  clear hz
  have HB := hide (hc (unhide HX))
  clear hc
  generalize hdo h x = h' at *
  generalize hev h x = v at *
  obtain ⟨xd, xs, xm, xa, xk, xt, xp, xb⟩ := x
  dsimp only [xcs] at *
  subst hx
  go_enter Try.func18, Try.ntmps18
  go_wp2_with fail
  generalize (w.alloc (.cells #[.int .i64 10, .int .i64 xs, .int .i64 xm, .int .i64 xa, .int .i64 xk, .int .i64 xt, .int .i64 xp, .string xb] 37)).alloc (.cells #[.int .i64 0, .int .i64 0, .bool false, .string ⟨#[]⟩, .slice none 0 0] 34) = W at HX HB ⊢
  generalize w.heap.size = q at HX HB ⊢
  generalize q + 1 = p at HX HB ⊢
  refine (unhide HB).mono ?_
  rintro e w1 ⟨tb', st', a, cap, rfl, hs', HY0⟩
  have HY := hide ((unhide HY0).perm (List.perm_middle (l₁ := [_, _])).symm)
  have HS' := hide hs'
  clear HX HB hs' HY0
  obtain ⟨e0, e1, e2, e3, e4, g0, g1, g2, g3, g4⟩ := evF ((unhide HY).var (List.Mem.head _))
  go_wp2_with fail
  refine bodyPost_ret (v := .agg #[.int .i64 v.c, .int .i64 v.n, .bool v.t, .string v.s, .slice a v.l.length cap]) (by simp [results, Try.results18, go_sem, e0, e1, e2, e3, e4]) rfl ?_
  exact ⟨tb', st', a, cap, rfl, unhide HS', (unhide HY).fin _ _ _ _ _⟩
end
end Go.Proofs.Ytapmlleemopcnac

/- A hall's Do: Clear; Do of whatever step. -/
namespace Go.Proofs.Ytapmlleemopcnac
open Go.RowKit
set_option maxRecDepth 20000
attribute [local go_sem ↓] Go.wp_at_zero Go.wp_at_succ

section
variable {w0 w : World} {hb vb tb gb : Nat} {h : HSt} {st : Nat → Sd} {r : List Thing}
set_option maxHeartbeats 1000000 in
theorem do_clear (x : HStep) (hs : Sts st h.seat) (hz : Hall w0 w hb vb tb gb h st r) (hx : x.d = 8) :
    Calls Try.prog 18 #[.pointer (some ⟨hb, 0, none⟩), .agg #[.int .i64 x.d, .int .i64 x.s, .int .i64 x.md, .int .i64 x.at_, .int .i64 x.key, .int .i64 x.to_, .int .i64 x.keep, .string x.b]] w fun e w' => GoEnd w0 hb vb gb r (hdo h x) (hev h x) e w' := by
  have heq := (HKind.clear (h := h) (x := x) hx).eq
  rw [heq.1, heq.2]
  clear heq
  have HS := hide hs
  have HX := hide (hz.two (xcs x) 37 #[.int .i64 0, .int .i64 0, .bool false, .string ⟨#[]⟩, .slice none 0 0] 34)
  have hl := hz.lt
  have vl := hz.vlt_
  clear hz hs
  have HLE := hide (fun W r (hz : Hall w0 W hb vb tb gb h st r) => h_least (unhide HS) hz)
  generalize least h.n h.seat 5 = y at *
  obtain ⟨xd, xs, xm, xa, xk, xt, xp, xb⟩ := x
  dsimp only [xcs] at *
  subst hx
  go_enter Try.func18, Try.ntmps18
  go_wp2_with fail
  generalize (w.alloc (.cells #[.int .i64 8, .int .i64 xs, .int .i64 xm, .int .i64 xa, .int .i64 xk, .int .i64 xt, .int .i64 xp, .string xb] 37)).alloc (.cells #[.int .i64 0, .int .i64 0, .bool false, .string ⟨#[]⟩, .slice none 0 0] 34) = W at HX ⊢
  generalize w.heap.size = q at HX ⊢
  generalize q + 1 = p at HX ⊢
  have HXD := hide ((unhide HX).kp0 (Kp.refl [] _).drew)
  clear HX
  have c0 := (unhide HXD).c0
  have v0 := (unhide HXD).v0
  refine wp_region_held_drew (S := fun w' => w'.cell? ⟨hb, 0, none⟩ = some (.pointer (some ⟨vb, 0, none⟩)) ∧ w'.cell? ⟨vb, 0, none⟩ = some (.pointer (some ⟨tb, 0, none⟩))) (by kernel_rfl) (⟨c0, v0⟩) (fun hHeld => ?_)
  refine wpAnyH_tk (i := 0) (v := ?_) rfl (by kernel_rfl) (by kernel_rfl) (by kernel_rfl) (fun _ _ _ h => h) (Or.inl ⟨by rfl, ?_⟩) hHeld ?_
  rotate_left
  · intro w hSw
    try dsimp only at hSw
    go_simp
    try with_reducible rfl
  try simp only [Act.put, List.setIfInBounds_toArray, List.set_cons_zero, List.set_cons_succ]
  refine wpAnyH_tk (i := 1) (v := ?_) rfl (by kernel_rfl) (by kernel_rfl) (by kernel_rfl) (fun _ _ _ h => h) (Or.inl ⟨by rfl, ?_⟩) hHeld ?_
  rotate_left
  · intro w hSw
    try dsimp only at hSw
    go_simp
    try with_reducible rfl
  try simp only [Act.put, List.setIfInBounds_toArray, List.set_cons_zero, List.set_cons_succ]
  refine wpAnyH_tk (i := 2) (v := ?_) rfl (by kernel_rfl) (by kernel_rfl) (by kernel_rfl) (fun _ _ _ h => h) (Or.inl ⟨by rfl, ?_⟩) hHeld ?_
  rotate_left
  · intro w hSw
    try dsimp only at hSw
    go_simp
    try with_reducible rfl
  try simp only [Act.put, List.setIfInBounds_toArray, List.set_cons_zero, List.set_cons_succ]
  refine wpAnyH_tk (i := 3) (v := ?_) rfl (by kernel_rfl) (by kernel_rfl) (by kernel_rfl) (fun _ _ _ h => h) (Or.inl ⟨by rfl, ?_⟩) hHeld ?_
  rotate_left
  · intro w hSw
    try dsimp only at hSw
    go_simp
    try with_reducible rfl
  try simp only [Act.put, List.setIfInBounds_toArray, List.set_cons_zero, List.set_cons_succ]
  refine wpAnyH_tk (i := 4) (v := ?_) rfl (by kernel_rfl) (by kernel_rfl) (by kernel_rfl) (fun _ _ _ h => h) (Or.inl ⟨by rfl, ?_⟩) hHeld ?_
  rotate_left
  · intro w hSw
    try dsimp only at hSw
    go_simp
    try with_reducible rfl
  try simp only [Act.put, List.setIfInBounds_toArray, List.set_cons_zero, List.set_cons_succ]
  refine wpAnyH_tk (i := 5) (v := ?_) rfl (by kernel_rfl) (by kernel_rfl) (by kernel_rfl) (fun _ _ _ h => h) (Or.inl ⟨by rfl, ?_⟩) hHeld ?_
  rotate_left
  · intro w hSw
    try dsimp only at hSw
    go_simp
    try with_reducible rfl
  try simp only [Act.put, List.setIfInBounds_toArray, List.set_cons_zero, List.set_cons_succ]
  refine wpAnyH_tk (i := 6) (v := ?_) rfl (by kernel_rfl) (by kernel_rfl) (by kernel_rfl) (fun _ _ _ h => h) (Or.inl ⟨by rfl, ?_⟩) hHeld ?_
  rotate_left
  · intro w hSw
    try dsimp only at hSw
    go_simp
    try with_reducible rfl
  try simp only [Act.put, List.setIfInBounds_toArray, List.set_cons_zero, List.set_cons_succ]
  refine wpAnyH_tk (i := 7) (v := ?_) rfl (by kernel_rfl) (by kernel_rfl) (by kernel_rfl) (fun _ _ _ h => h) (Or.inl ⟨by rfl, ?_⟩) hHeld ?_
  rotate_left
  · intro w hSw
    try dsimp only at hSw
    go_simp
    try with_reducible rfl
  try simp only [Act.put, List.setIfInBounds_toArray, List.set_cons_zero, List.set_cons_succ]
  refine wpAnyH_only (i := 8) rfl (by kernel_rfl) (fun K hK => ?_)
  go_simp
  refine (unhide HLE _ _ (unhide HXD)).mono ?_
  rintro e w' ⟨rfl, hw'⟩
  subst w'
  go_wp2_with fail
  refine hK.out _ _ (⟨c0, v0⟩) (fun hHeld2 => ?_)
  clear hK K hHeld
  have hHeld := hHeld2
  clear hHeld2
  try simp only [Act.put, List.setIfInBounds_toArray, List.set_cons_zero, List.set_cons_succ]
  refine wpAnyH_only (i := 9) rfl (by kernel_rfl) (fun K hK => ?_)
  go_simp
  refine (h_clear y (unhide HXD)).mono ?_
  rintro e w3 ⟨rfl, HY⟩
  go_wp2_with fail
  refine hK.out _ _ (⟨(unhide HY).c0, (unhide HY).v0⟩) (fun hHeld2 => ?_)
  clear hK K hHeld
  have hHeld := hHeld2
  clear hHeld2
  try simp only [Act.put, List.setIfInBounds_toArray, List.set_cons_zero, List.set_cons_succ]
  refine wpAnyH_tk (i := 10) (v := ?_) rfl (by kernel_rfl) (by kernel_rfl) (by kernel_rfl) (fun _ _ _ h => h) (Or.inl ⟨by rfl, ?_⟩) hHeld ?_
  rotate_left
  · intro w hSw
    try dsimp only at hSw
    go_simp
    try with_reducible rfl
  try simp only [Act.put, List.setIfInBounds_toArray, List.set_cons_zero, List.set_cons_succ]
  refine wpAnyH_only (i := 11) rfl (by kernel_rfl) (fun K hK => ?_)
  go_simp
  obtain ⟨e0, e1, e2, e3, e4, g0, g1, g2, g3, g4⟩ := evF ((unhide HY).var (List.Mem.head _))
  go_simp
  have HF := hide ((((((unhide HY).set0 0 (.int .i64 0)).set0 1 (.int .i64 (cln h.f y 8 : Nat))).set0 2 (.bool false)).set0 3 (.string ⟨#[]⟩)).set0 4 (.slice none 0 0))
  go_wp2_with fail
  refine hK.out _ _ (⟨(unhide HF).c0, (unhide HF).v0⟩) (fun hHeld2 => ?_)
  clear hK K hHeld
  have hHeld := hHeld2
  clear hHeld2
  try simp only [Act.put, List.setIfInBounds_toArray, List.set_cons_zero, List.set_cons_succ]
  refine wpAnyH_done (by kernel_rfl) ?_ _
  go_wp2_with fail
  refine bodyPost_ret (v := .agg #[.int .i64 0, .int .i64 (cln h.f y 8 : Nat), .bool false, .string ⟨#[]⟩, .slice none 0 0]) (by simp [results, Try.results18, go_sem, e0, e1, e2, e3, e4]) rfl ?_
  exact ⟨tb, st, none, 0, rfl, unhide HS, ((unhide HY).fin _ _ _ _ _).ps.as rfl rfl rfl⟩
theorem h_do (x : HStep) (hsz : x.b.size ≤ maxLen) (hs : Sts st h.seat) (hi : HInv h) (hz : Hall w0 w hb vb tb gb h st r) :
    Calls Try.prog 18 #[.pointer (some ⟨hb, 0, none⟩), .agg #[.int .i64 x.d, .int .i64 x.s, .int .i64 x.md, .int .i64 x.at_, .int .i64 x.key, .int .i64 x.to_, .int .i64 x.keep, .string x.b]] w fun e w' => GoEnd w0 hb vb gb r (hdo h x) (hev h x) e w' := by
  by_cases c0 : x.d < 1 ∨ 10 < x.d
  · exact do_kind x hs hz c0
  by_cases c1 : x.d = 1
  · exact do_begin x hs hz c1
  by_cases c8 : x.d = 8
  · exact do_clear x hs hz c8
  by_cases c9 : x.d = 9
  · exact do_crash x hs hz c9
  by_cases hf : fcode st x.s = 0
  · obtain ⟨j, D, d, hj, h5, hsd⟩ := f_yes hf
    by_cases c2 : x.d = 2
    · exact do_on2 x hz c2 (fun hz' => go_get x c2 hj h5 hsd hs hz')
    by_cases c3 : x.d = 3
    · exact do_on3 x hz c3 (fun hz' => go_put x c3 hj h5 hsd hs hz' hsz)
    by_cases c4 : x.d = 4
    · exact do_on4 x hz c4 (fun hz' => go_drop x c4 hj h5 hsd hs hz' hsz)
    by_cases c5 : x.d = 5
    · exact do_on5 x hz c5 (fun hz' => go_list x c5 hj h5 hsd hs hz')
    by_cases c6 : x.d = 6
    · exact do_end6 x hz c6 (fun hz' => end_commit x c6 hj h5 hsd hs hz' hi)
    by_cases c7 : x.d = 7
    · exact do_end7 x hz c7 (fun hz' => end_abort x c7 hj h5 hsd hs hz' hi)
    · exact do_end10 x hz (by omega) (fun hz' => end_tear x (by omega) hj h5 hsd hs hz' hi)
  · by_cases c2 : x.d = 2
    · exact do_on2 x hz c2 (fun hz' => go_none x (by omega) hf hs hz')
    by_cases c3 : x.d = 3
    · exact do_on3 x hz c3 (fun hz' => go_none x (by omega) hf hs hz')
    by_cases c4 : x.d = 4
    · exact do_on4 x hz c4 (fun hz' => go_none x (by omega) hf hs hz')
    by_cases c5 : x.d = 5
    · exact do_on5 x hz c5 (fun hz' => go_none x (by omega) hf hs hz')
    by_cases c6 : x.d = 6
    · exact do_end6 x hz c6 (fun hz' => end_none x (by omega) hf hs hz')
    by_cases c7 : x.d = 7
    · exact do_end7 x hz c7 (fun hz' => end_none x (by omega) hf hs hz')
    · exact do_end10 x hz (by omega) (fun hz' => end_none x (by omega) hf hs hz')
/-- Do of whatever step, of a hall at the head of a list of things. -/
theorem hal_do (x : HStep) (hsz : x.b.size ≤ maxLen) (hz : Zoo w0 w (HalT hb h :: r)) :
    Calls Try.prog 18 #[.pointer (some ⟨hb, 0, none⟩), .agg #[.int .i64 x.d, .int .i64 x.s, .int .i64 x.md, .int .i64 x.at_, .int .i64 x.key, .int .i64 x.to_, .int .i64 x.keep, .string x.b]] w fun e w' => ∃ a cap, e = .returned (.agg #[.int .i64 (hev h x).c, .int .i64 (hev h x).n, .bool (hev h x).t, .string (hev h x).s, .slice a (hev h x).l.length cap]) ∧ Hid (Zoo w0 w' (HalT hb (hdo h x) :: PsT a cap (hev h x).l :: r)) := by
  obtain ⟨vb, tb, gb, st, hs, hi, hz'⟩ := hal_open hz
  refine (h_do x hsz hs hi hz').mono ?_
  rintro e w' ⟨tb', st', a, cap, rfl, hs', HY⟩
  exact ⟨a, cap, rfl, hal_close hs' (hi.step x) (unhide HY)⟩
end
end Go.Proofs.Ytapmlleemopcnac

/- A book of deeds in memory, as one thing. -/
namespace Go.Proofs.Ytapmlleemopcnac
open Go.RowKit
set_option maxRecDepth 20000

theorem Try.info101 : (Try.prog.info? 101).map (fun i => (i.zero, i.size, i.bytes)) = some (some (.agg #[.int .i64 0, .int .i64 0, .int .i64 0, .bool false, .string ByteArray.empty, .slice none 0 0]), 6, 72) := by kernel_rfl
/-- An act, and where its list lies. -/
structure Ax where
  x : Ac
  a : Option Addr
  c : Nat
def axc (y : Ax) : List Value := [.int .i64 y.x.kd, .int .i64 y.x.key, .int .i64 y.x.to_, .bool y.x.t, .string y.x.s, .slice y.a y.x.l.length y.c]
def axcs (ys : List Ax) : List Value := ys.flatMap axc
theorem axcs_app (xs ys : List Ax) : axcs (xs ++ ys) = axcs xs ++ axcs ys := by simp [axcs]
theorem axcs_at : ∀ {ys : List Ax} {i j : Nat} {y : Ax} {v : Value}, ys[i]? = some y → j < 6 → (axc y)[j]? = some v → (axcs ys)[i * 6 + j]? = some v := by
  intro ys
  induction ys with
  | nil => intro i j y v h; simp at h
  | cons z r ih =>
    intro i j y v h hj hv
    have e : axcs (z :: r) = axc z ++ axcs r := rfl
    have hl : (axc z).length = 6 := rfl
    rw [e]
    cases i with
    | zero =>
      simp at h
      subst h
      rw [List.getElem?_append_left (by rw [hl]; omega), show 0 * 6 + j = j by omega]
      exact hv
    | succ i =>
      simp at h
      rw [List.getElem?_append_right (by rw [hl]; omega), hl, show (i + 1) * 6 + j - 6 = i * 6 + j by omega]
      exact ih h hj hv
/-- An act's list; a deed's acts, with their lists. -/
def axT (y : Ax) : Thing := KwT 79 3 y.a y.x.l.length y.c (vcells y.x.l)
def ActT (a : Option Addr) (c : Nat) (ys : List Ax) : Thing := ManyT (KwT 101 6 a ys.length c (axcs ys) :: ys.map axT)
/-- A deed that goes on. -/
structure Ob where
  b : Nat
  d : Dn
  ys : List Ax
  a : Option Addr
  c : Nat
def obc (o : Ob) : Array Value := #[.int .i64 o.d.n, .int .i64 o.d.at_, .int .i64 o.d.md, .slice o.a o.ys.length o.c]
def OpnT : Option Ob → Thing
  | none => ManyT []
  | some o => ManyT [BoxT o.b (obc o) 90, ActT o.a o.c o.ys]
def bp (o : Option Ob) : Value := .pointer (o.map fun x => ⟨x.b, 0, none⟩)
/-- A deed that was done. -/
structure Dy where
  x : Dx
  ys : List Ax
def dyT (y : Dy) : Thing := ActT y.x.a y.x.c y.ys
def bkc (st : Nat → Option Ob) (a : Option Addr) (n c : Nat) : Array Value := #[bp (st 0), bp (st 1), bp (st 2), bp (st 3), bp (st 4), .slice a n c]
def opns (st : Nat → Option Ob) : List Thing := [OpnT (st 0), OpnT (st 1), OpnT (st 2), OpnT (st 3), OpnT (st 4)]
/-- What is in memory is what the book is. -/
structure Bks5 (st : Nat → Option Ob) (ys : List Dy) (b : Bk) : Prop where
  op : ∀ s, (st s).map Ob.d = b.op s
  oa : ∀ s o, st s = some o → o.d.acts = o.ys.map Ax.x
  dn : ys.map (fun y => y.x.d) = b.dn
  da : ∀ y, y ∈ ys → y.x.d.acts = y.ys.map Ax.x
def bth (bb : Nat) (st : Nat → Option Ob) (a : Option Addr) (c : Nat) (ys : List Dy) : List Thing := BoxT bb (bkc st a ys.length c) 172 :: KwT 90 4 a ys.length c (dxcs (ys.map Dy.x)) :: (ys.map dyT ++ opns st)
def BkT (bb : Nat) (b : Bk) : Thing where
  holds B w F := ∃ st a c ys, Bks5 st ys b ∧ ZooF B w (bth bb st a c ys) F
  kp := fun ⟨st, a, c, ys, h1, h2⟩ hk hS => ⟨st, a, c, ys, h1, ZooF.kp hk h2 hS⟩
  lo := fun ⟨_, _, _, _, _, h⟩ => h.lo
  base := fun ⟨st, a, c, ys, h1, h2⟩ hC => ⟨st, a, c, ys, h1, ZooF.base hC h2⟩
/-- A book among things, its parts known. -/
def Book (w0 w : World) (bb : Nat) (st : Nat → Option Ob) (a : Option Addr) (c : Nat) (ys : List Dy) (r : List Thing) : Prop := Zoo w0 w (bth bb st a c ys ++ r)
section
variable {w0 w w' : World} {bb : Nat} {b : Bk} {st : Nat → Option Ob} {a : Option Addr} {c : Nat} {ys : List Dy} {r : List Thing}
theorem bk_open (hz : Zoo w0 w (BkT bb b :: r)) : ∃ st a c ys, Bks5 st ys b ∧ Book w0 w bb st a c ys r := by
  obtain ⟨X, ⟨F, Y, ⟨st, a, c, ys, h1, k⟩, h4, h5, rfl⟩, hk⟩ := hz
  exact ⟨st, a, c, ys, h1, F ++ Y, zoof_join k h4 h5, hk⟩
theorem bk_close (hs : Bks5 st ys b) (hz : Book w0 w bb st a c ys r) : Zoo w0 w (BkT bb b :: r) := by
  obtain ⟨X, h1, hk⟩ := hz
  obtain ⟨F, Y, k1, k2, k3, rfl⟩ := zoof_app (us := bth bb st a c ys) (vs := r) h1
  exact ⟨F ++ Y, ⟨F, Y, ⟨st, a, c, ys, hs, k1⟩, k2, k3, rfl⟩, hk⟩
theorem Book.kp0 (hz : Book w0 w bb st a c ys r) (hk : Kp [] w w') : Book w0 w' bb st a c ys r := Zoo.kp0 hz hk
theorem Book.box (hz : Book w0 w bb st a c ys r) : w.heap[bb]? = some (.cells (bkc st a ys.length c) 172 (0, 0)) := Zoo.var hz
theorem bkc_at (st : Nat → Option Ob) (a : Option Addr) (n c : Nat) {s : Nat} (hs : s < 5) : (bkc st a n c)[s]? = some (bp (st s)) := by
  rcases (show s = 0 ∨ s = 1 ∨ s = 2 ∨ s = 3 ∨ s = 4 by omega) with e | e | e | e | e <;> subst e <;> rfl
theorem Book.cs_ (hz : Book w0 w bb st a c ys r) {s : Nat} (hs : s < 5) : w.cell? ⟨bb, s, none⟩ = some (bp (st s)) := cell_of_block hz.box (bkc_at st a _ c hs)
theorem Book.c5 (hz : Book w0 w bb st a c ys r) : w.cell? ⟨bb, 5, none⟩ = some (.slice a ys.length c) := cell_of_block hz.box rfl
theorem Book.fz (hz : Book w0 w bb st a c ys r) (i : Nat) : w.frozen? ⟨bb, i, none⟩ = false := frozen_of_block i hz.box
theorem Book.lt (hz : Book w0 w bb st a c ys r) : bb < w.heap.size := lt_of_block hz.box
theorem opns_at (st : Nat → Option Ob) {s : Nat} (hs : s < 5) : ∃ l1 l2, opns st = l1 ++ OpnT (st s) :: l2 ∧ ∀ d, opns (upd st s d) = l1 ++ OpnT d :: l2 := by
  rcases (show s = 0 ∨ s = 1 ∨ s = 2 ∨ s = 3 ∨ s = 4 by omega) with e | e | e | e | e <;> subst e
  · exact ⟨[], [OpnT (st 1), OpnT (st 2), OpnT (st 3), OpnT (st 4)], rfl, fun d => by simp [opns, upd]⟩
  · exact ⟨[OpnT (st 0)], [OpnT (st 2), OpnT (st 3), OpnT (st 4)], rfl, fun d => by simp [opns, upd]⟩
  · exact ⟨[OpnT (st 0), OpnT (st 1)], [OpnT (st 3), OpnT (st 4)], rfl, fun d => by simp [opns, upd]⟩
  · exact ⟨[OpnT (st 0), OpnT (st 1), OpnT (st 2)], [OpnT (st 4)], rfl, fun d => by simp [opns, upd]⟩
  · exact ⟨[OpnT (st 0), OpnT (st 1), OpnT (st 2), OpnT (st 3)], [], rfl, fun d => by simp [opns, upd]⟩
theorem bkc_set (st : Nat → Option Ob) (a : Option Addr) (n c : Nat) {s : Nat} (hs : s < 5) (d : Option Ob) : (bkc st a n c).setIfInBounds s (bp d) = bkc (upd st s d) a n c := by
  rcases (show s = 0 ∨ s = 1 ∨ s = 2 ∨ s = 3 ∨ s = 4 by omega) with e | e | e | e | e <;> subst e <;> simp [bkc, upd]
/-- The book's parts, apart: its box, its row, the done deeds' acts, a seat's deed, the rest. -/
theorem Book.out (hz : Book w0 w bb st a c ys r) {s : Nat} (hs : s < 5) : ∃ l1 l2, (∀ d, opns (upd st s d) = l1 ++ OpnT d :: l2) ∧
    Zoo w0 w (OpnT (st s) :: BoxT bb (bkc st a ys.length c) 172 :: KwT 90 4 a ys.length c (dxcs (ys.map Dy.x)) :: (ys.map dyT ++ (l1 ++ (l2 ++ r)))) := by
  obtain ⟨l1, l2, e1, e2⟩ := opns_at st hs
  refine ⟨l1, l2, e2, ?_⟩
  have h1 : Zoo w0 w (bth bb st a c ys ++ r) := hz
  unfold bth at h1
  rw [e1] at h1
  refine h1.perm ?_
  have p := (List.perm_middle (l₁ := BoxT bb (bkc st a ys.length c) 172 :: KwT 90 4 a ys.length c (dxcs (ys.map Dy.x)) :: (ys.map dyT ++ l1)) (a := OpnT (st s)) (l₂ := l2 ++ r))
  simpa [List.append_assoc] using p
/-- And back: another deed at the seat, another row. -/
theorem Book.back {l1 l2 : List Thing} {s : Nat} {d : Option Ob} {a' : Option Addr} {c' : Nat} {ys' : List Dy} (h2 : ∀ d, opns (upd st s d) = l1 ++ OpnT d :: l2) (hz : Zoo w0 w (OpnT d :: BoxT bb (bkc (upd st s d) a' ys'.length c') 172 :: KwT 90 4 a' ys'.length c' (dxcs (ys'.map Dy.x)) :: (ys'.map dyT ++ (l1 ++ (l2 ++ r))))) : Book w0 w bb (upd st s d) a' c' ys' r := by
  unfold Book bth
  rw [h2]
  refine hz.perm ?_
  have p := (List.perm_middle (l₁ := BoxT bb (bkc (upd st s d) a' ys'.length c') 172 :: KwT 90 4 a' ys'.length c' (dxcs (ys'.map Dy.x)) :: (ys'.map dyT ++ l1)) (a := OpnT d) (l₂ := l2 ++ r)).symm
  simpa [List.append_assoc] using p
theorem opn_none (hz : Zoo w0 w r) : Zoo w0 w (OpnT none :: r) := many_close (os := []) hz
/-- A deed that goes on, opened: its box, its acts; and shut. -/
theorem opn_open {o : Ob} (hz : Zoo w0 w (OpnT (some o) :: r)) : Zoo w0 w (BoxT o.b (obc o) 90 :: ActT o.a o.c o.ys :: r) := many_open hz
theorem opn_close {o : Ob} (hz : Zoo w0 w (BoxT o.b (obc o) 90 :: ActT o.a o.c o.ys :: r)) : Zoo w0 w (OpnT (some o) :: r) := many_close (os := [_, _]) hz
theorem act_open {ac : Option Addr} {cc : Nat} {zs : List Ax} (hz : Zoo w0 w (ActT ac cc zs :: r)) : Zoo w0 w (KwT 101 6 ac zs.length cc (axcs zs) :: (zs.map axT ++ r)) := many_open hz
theorem act_close {ac : Option Addr} {cc : Nat} {zs : List Ax} (hz : Zoo w0 w (KwT 101 6 ac zs.length cc (axcs zs) :: (zs.map axT ++ r))) : Zoo w0 w (ActT ac cc zs :: r) := many_close (os := _ :: zs.map axT) hz
/-- One more act. -/
theorem act_more {ac ac' : Option Addr} {cc cc' : Nat} {zs : List Ax} {y : Ax} (hz : Zoo w0 w (axT y :: ActT ac cc zs :: r)) (h1 : KRow 101 6 w0.heap.size w' ac' (zs.length + 1) cc' (axcs zs ++ axc y)) (h2 : Kp (ob ac) w w') (h3 : ∀ x ∈ ob ac', x ∈ ob ac ∨ w.heap.size ≤ x) : Zoo w0 w' (ActT ac' cc' (zs ++ [y]) :: r) := by
  have k1 : Zoo w0 w (KwT 101 6 ac zs.length cc (axcs zs) :: (zs.map axT ++ axT y :: r)) := act_open (zoo_swap hz)
  have k2 := kw_app (l1 := []) k1 h1 h2 h3
  refine act_close ?_
  have e1 : (zs ++ [y]).length = zs.length + 1 := by simp
  have e2 : axcs (zs ++ [y]) = axcs zs ++ axc y := by rw [axcs_app]; simp [axcs]
  rw [e1, e2, List.map_append]
  simpa using k2
theorem act_row {ac : Option Addr} {cc : Nat} {zs : List Ax} {l1 : List Thing} (hz : Zoo w0 w (l1 ++ ActT ac cc zs :: r)) : KRow 101 6 w0.heap.size w ac zs.length cc (axcs zs) := by
  have h1 : Zoo w0 w (ActT ac cc zs :: (l1 ++ r)) := hz.perm List.perm_middle
  exact kw_row (l1 := []) (act_open h1)
/-- What is read of acts among things. -/
theorem act_in {os : List Thing} {ac : Option Addr} {cc : Nat} {zs : List Ax} (hz : Zoo w0 w os) (hm : ActT ac cc zs ∈ os) : ActsIn w ac (zs.map Ax.x) := by
  obtain ⟨l1, l2, rfl⟩ := List.append_of_mem hm
  have h1 : Zoo w0 w (ActT ac cc zs :: (l1 ++ l2)) := hz.perm List.perm_middle
  have h2 := act_open h1
  have hrow := kw_row (l1 := []) h2
  intro hp
  rw [List.length_map] at hp
  obtain ⟨y0, hy0⟩ : ∃ y, zs[0]? = some y := ⟨_, List.getElem?_eq_getElem hp⟩
  obtain ⟨g, e, _⟩ := hrow.cell (axcs_at (j := 0) hy0 (by omega) rfl)
  refine ⟨g, 0, e, fun i x hx => ?_⟩
  rw [List.getElem?_map] at hx
  cases hz2 : zs[i]? with
  | none => rw [hz2] at hx; cases hx
  | some y =>
    rw [hz2] at hx
    simp only [Option.map_some, Option.some.injEq] at hx
    subst hx
    have key : ∀ {j : Nat} {v : Value}, j < 6 → (axc y)[j]? = some v → w.cell? ⟨g, 0 + i * 6 + j, none⟩ = some v := fun {j v} hj hv => by
      obtain ⟨g', e', hc⟩ := hrow.cell (axcs_at hz2 hj hv)
      rw [e] at e'
      simp only [Option.some.injEq, Addr.mk.injEq, and_true] at e'
      rw [Nat.zero_add, e']
      exact hc
    have hm2 : axT y ∈ KwT 101 6 ac zs.length cc (axcs zs) :: (zs.map axT ++ (l1 ++ l2)) := List.mem_cons_of_mem _ (List.mem_append_left _ (List.mem_map_of_mem (List.mem_of_getElem? hz2)))
    obtain ⟨k1, k2, ek⟩ := List.append_of_mem hm2
    have h3 : Zoo w0 w (k1 ++ axT y :: k2) := by rw [← ek]; exact h2
    exact ⟨by simpa using key (j := 0) (by omega) rfl, key (j := 1) (by omega) rfl, key (j := 2) (by omega) rfl, key (j := 3) (by omega) rfl, key (j := 4) (by omega) rfl, y.a, y.c, key (j := 5) (by omega) rfl, slo_krow (kw_row h3)⟩
end
end Go.Proofs.Ytapmlleemopcnac

/- A book: New, find, leaveAll, begin, isDone, clone, by their contracts. -/
namespace Go.Proofs.Ytapmlleemopcnac
open Go.RowKit
set_option maxRecDepth 20000
attribute [local go_sem ↓] Go.wp_at_zero Go.wp_at_succ

theorem bks_new : Bks5 (fun _ => none) [] bk0 := ⟨fun _ => rfl, fun _ _ h => (by cases h), rfl, fun _ h => by simp at h⟩
theorem bk_new {w0 w : World} {r : List Thing} (hz : Zoo w0 w r) : Calls Try.prog 77 #[] w fun e w' => ∃ bb, e = .returned (.pointer (some ⟨bb, 0, none⟩)) ∧ Hid (Zoo w0 w' (BkT bb bk0 :: r)) := by
  have h1 := opn_none (opn_none (opn_none (opn_none (opn_none hz))))
  have h2 := (kw_nil 90 4 h1).box (bkc (fun _ => none) none 0 0) 172
  have HZ := hide (bk_close (b := bk0) (st := fun _ => none) (a := none) (c := 0) (ys := []) bks_new h2)
  clear h1 h2 hz
  go_enter Try.func77, Try.ntmps77
  go_wp2_with fail
  go_ret
  exact ⟨w.heap.size, rfl, unhide HZ⟩
section
variable {w0 w : World} {bb : Nat} {b : Bk} {st : Nat → Option Ob} {a : Option Addr} {c : Nat} {ys : List Dy} {r : List Thing}
def bst (st : Nat → Option Ob) (s : Int) : Option Ob := if 0 ≤ s ∧ s < 5 then st s.toNat else none
theorem bk_find (s : Int) (hz : Book w0 w bb st a c ys r) : Calls Try.prog 134 #[.pointer (some ⟨bb, 0, none⟩), .int .i64 s] w fun e w' => e = .returned (bp (bst st s)) ∧ w' = w := by
  by_cases hs : 0 ≤ s ∧ s < 5
  · obtain ⟨j, rfl, hj⟩ := seat_in hs
    have hsb : seatB (j : Int) = true := decide_eq_true hs
    have i0 : (0 : Int) ≤ (j : Int) := by omega
    have i5 : (j : Int) < 5 := by omega
    have c1 := hz.cs_ hj
    have e1 : bst st (j : Int) = st j := by unfold bst; rw [if_pos hs, Int.toNat_natCast]
    rw [e1]
    clear hz e1
    generalize bp (st j) = p at *
    go_enter Try.func134, Try.ntmps134
    go_wp2_with fail
    refine (hseat (j : Int) _).mono ?_
    rintro e w' ⟨rfl, hw'⟩
    subst w'
    rw [hsb]
    go_wp2_with fail
    go_ret
    exact ⟨rfl, rfl⟩
  · have hsb : seatB s = false := decide_eq_false hs
    have e1 : bst st s = none := by unfold bst; rw [if_neg hs]
    rw [e1]
    clear hz e1
    go_enter Try.func134, Try.ntmps134
    go_wp2_with fail
    refine (hseat s _).mono ?_
    rintro e w' ⟨rfl, hw'⟩
    subst w'
    rw [hsb]
    go_wp2_with fail
    go_ret
    exact ⟨rfl, rfl⟩
/-- Variables beside a book. -/
theorem Book.new (hz : Book w0 w bb st a c ys r) (cs : Array Value) (T : TypeId) : Book w0 (w.alloc (.cells cs T)) bb st a c ys (BoxT w.heap.size cs T :: r) := by
  have h1 := Zoo.box hz cs T
  exact h1.perm (List.perm_middle (l₁ := bth bb st a c ys)).symm
theorem Book.two (hz : Book w0 w bb st a c ys r) (cs : Array Value) (T : TypeId) (c2 : Array Value) (T2 : TypeId) : Book w0 ((w.alloc (.cells cs T)).alloc (.cells c2 T2)) bb st a c ys (BoxT (w.heap.size + 1) c2 T2 :: BoxT w.heap.size cs T :: r) := by
  have h1 := (hz.new cs T).new c2 T2
  rw [show (w.alloc (.cells cs T)).heap.size = w.heap.size + 1 by simp] at h1
  exact h1
theorem Book.var {p : Nat} {cs : Array Value} {T : TypeId} (hz : Book w0 w bb st a c ys r) (hm : BoxT p cs T ∈ r) : w.heap[p]? = some (.cells cs T (0, 0)) := zoo_varm hz (List.mem_append_right _ hm)
theorem Book.tail {o : Thing} (hz : Book w0 w bb st a c ys (o :: r)) : Book w0 w bb st a c ys r := Zoo.drop_ (l1 := bth bb st a c ys) hz
theorem Book.setAt {l1 l2 : List Thing} {p : Nat} {cs : Array Value} {T : TypeId} (hz : Book w0 w bb st a c ys (l1 ++ BoxT p cs T :: l2)) (i : Nat) (v : Value) : Book w0 (w.setCell ⟨p, i, none⟩ v) bb st a c ys (l1 ++ BoxT p (cs.setIfInBounds i v) T :: l2) := by
  have hz' : Zoo w0 w ((bth bb st a c ys ++ l1) ++ BoxT p cs T :: l2) := by
    have := hz
    unfold Book at this
    rw [← List.append_assoc] at this
    exact this
  obtain ⟨F, ⟨hbx, h2, h3⟩, k2⟩ := hz'.at_
  have := k2 (BoxT p (cs.setIfInBounds i v) T) (w.setCell ⟨p, i, none⟩ v) ⟨F, ⟨heap_setCell_at _ _ hbx, h2, h3⟩, by rw [h2]; exact (Kp.refl [p] w).setCell (.inl (by simp)) _, fun x hx => .inl hx⟩
  unfold Book
  rw [← List.append_assoc]
  exact this
/-- All deeds are let go. -/
theorem Book.leaveAll {w' : World} (hz : Book w0 w bb st a c ys r) (hb' : w'.heap[bb]? = some (.cells (bkc (fun _ => none) a ys.length c) 172 (0, 0))) (hk : Kp [bb] w w') : Book w0 w' bb (fun _ => none) a c ys r := by
  have h1 : Zoo w0 w ((BoxT bb (bkc st a ys.length c) 172 :: KwT 90 4 a ys.length c (dxcs (ys.map Dy.x)) :: ys.map dyT) ++ (opns st ++ r)) := by
    have := hz
    unfold Book bth at this
    simpa [List.append_assoc] using this
  have h2 : Zoo w0 w (opns st ++ ((BoxT bb (bkc st a ys.length c) 172 :: KwT 90 4 a ys.length c (dxcs (ys.map Dy.x)) :: ys.map dyT) ++ r)) := by
    refine h1.perm ?_
    rw [← List.append_assoc, ← List.append_assoc]
    exact List.Perm.append_right r List.perm_append_comm
  have h3 := (many_close h2).tail
  obtain ⟨F, ⟨hbx, e2, e3⟩, k2⟩ := zoo_at0 h3
  have h4 : Zoo w0 w' (BoxT bb (bkc (fun _ => none) a ys.length c) 172 :: ((KwT 90 4 a ys.length c (dxcs (ys.map Dy.x)) :: ys.map dyT) ++ r)) := k2 _ _ ⟨F, ⟨hb', e2, e3⟩, by rw [e2]; exact hk, fun x hx => .inl hx⟩
  have h5 := opn_none (opn_none (opn_none (opn_none (opn_none h4))))
  have h6 : Zoo w0 w' (opns (fun _ => none) ++ ((BoxT bb (bkc (fun _ => none) a ys.length c) 172 :: KwT 90 4 a ys.length c (dxcs (ys.map Dy.x)) :: ys.map dyT) ++ r)) := h5
  unfold Book bth
  refine h6.perm ?_
  rw [← List.append_assoc]
  refine List.Perm.append_right r ?_
  exact List.perm_append_comm
theorem bk_leaveAll (hz : Book w0 w bb st a c ys r) : Calls Try.prog 117 #[.pointer (some ⟨bb, 0, none⟩)] w fun e w' => e = .returned (.tuple #[]) ∧ Hid (Book w0 w' bb (fun _ => none) a c ys r) := by
  have hbx := hz.box
  have c1 := hz.cs_ (s := 0) (by omega)
  have c2 := hz.cs_ (s := 1) (by omega)
  have c3 := hz.cs_ (s := 2) (by omega)
  have c4 := hz.cs_ (s := 3) (by omega)
  have c5 := hz.cs_ (s := 4) (by omega)
  have f1 := hz.fz 0
  have f2 := hz.fz 1
  have f3 := hz.fz 2
  have f4 := hz.fz 3
  have f5 := hz.fz 4
  have HZ := hide hz
  clear hz
  go_enter Try.func117, Try.ntmps117
  go_wp2_with fail
  go_end0
  refine ⟨rfl, (unhide HZ).leaveAll ?_ ?_⟩
  · rw [heap_setCell_at _ _ (heap_setCell_at _ _ (heap_setCell_at _ _ (heap_setCell_at _ _ (heap_setCell_at _ _ hbx))))]
    rfl
  · exact (((((Kp.refl [bb] w).setCell (.inl (by simp)) _).setCell (.inl (by simp)) _).setCell (.inl (by simp)) _).setCell (.inl (by simp)) _).setCell (.inl (by simp)) _
theorem Bks5.leave (h : Bks5 st ys b) : Bks5 (fun _ => none) ys ⟨fun _ => none, b.dn⟩ := ⟨fun _ => rfl, fun _ _ h => (by cases h), h.dn, h.da⟩
theorem Bks5.sit (h : Bks5 st ys b) (s : Nat) (d : Option Ob) (hd : ∀ o, d = some o → o.d.acts = o.ys.map Ax.x) : Bks5 (upd st s d) ys ⟨upd b.op s (d.map Ob.d), b.dn⟩ := by
  refine ⟨fun k => ?_, fun k o ho => ?_, h.dn, h.da⟩
  · show (upd st s d k).map Ob.d = upd b.op s (d.map Ob.d) k
    unfold upd
    split
    · rfl
    · exact h.op k
  · unfold upd at ho
    split at ho
    · exact hd o ho
    · exact h.oa k o ho
end
/-- A list in new memory. -/
def ClEnd (l : List Ver) (w : World) (e : Ending) (w' : World) : Prop := ∃ a c, e = .returned (.slice a l.length c) ∧ KRow 79 3 w.heap.size w' a l.length c (vcells l) ∧ Kp [] w w'
theorem src_slo {w : World} {a : Option Addr} {l : List Ver} {c : Nat} (h : SlO w a l) : Src Try.prog 3 32 (.slice a l.length c) l.length (vcells l) w := by
  by_cases hp : 0 < l.length
  · obtain ⟨g, o, rfl, hs⟩ := h hp
    refine Src.ofSlice w Try.underlying32 ⟨g, o, none⟩ l.length c (vcells l) (by rw [vcells_length]) (fun j u hj => ?_) (vcells_one l)
    rw [addr_add]
    exact hs j u hj
  · have e : l = [] := List.eq_nil_of_length_eq_zero (by omega)
    subst e
    cases a with
    | none => exact Src.ofNil w Try.underlying32 c
    | some ad => exact Src.ofSlice w Try.underlying32 ad 0 c [] (by simp) (by simp) (by simp)
set_option maxHeartbeats 1000000 in
theorem clone118 (a : Option Addr) (c : Nat) (l : List Ver) (w : World) (h : SlO w a l) (hm : l.length ≤ 1000) :
    Calls Try.prog 118 #[.slice a l.length c] w fun e w' => ClEnd l w e w' := by
  have hu := Try.underlying32
  have HS := hide (src_slo (c := c) h)
  clear h
  obtain ⟨n, hn⟩ : ∃ n, l.length = n := ⟨_, rfl⟩
  have HN := hide hn
  rw [hn] at hm HS ⊢
  clear hn
  go_enter Try.func118, Try.ntmps118
  go_wp2_with (at_builtin; refine wpList_krow (by rfl) (.const (.slice none 0 0)) (.tmp 3) 32 (by rfl) hu Try.info79 rfl (by omega) (krow_nil 79 3 w.heap.size w) (Nat.le_refl _) (.slice a n c) (vcells l) n (by rfl) (by rfl) (unhide HS) (by omega) n (by omega) ?_; intro a2 cap2 w2 g1 g2 g3)
  go_ret
  refine ⟨a2, cap2, by rw [unhide HN]; rfl, ?_, unhide g2⟩
  rw [unhide HN]
  exact unhide g1
set_option maxHeartbeats 1000000 in
theorem isdone (x : HStep) (v : Ev) (la : Option Addr) (lc : Nat) (w : World) :
    Calls Try.prog 135 #[.agg (xcs x), .agg (ecl v la lc)] w fun e w' => e = .returned (.bool (isd x v)) ∧ Kp [] w w' := by
  have hk : Kp [] w ((w.alloc (.cells (xcs x) 37)).alloc (.cells (ecl v la lc) 34)) := ((Kp.refl [] w).alloc _).alloc _
  obtain ⟨xd, xs, xm, xa, xk, xt, xp, xb⟩ := x
  obtain ⟨vc, vn, vt, vs, vl⟩ := v
  unfold isd
  dsimp only [xcs, ecl] at *
  generalize vl.length = n at *
  by_cases h6 : xd = 6
  · subst h6
    rw [if_pos rfl]
    go_enter Try.func135, Try.ntmps135
    go_wp2_with fail
    go_ret
    exact ⟨by simp [Bool.beq_eq_decide_eq], hk⟩
  · rw [if_neg h6]
    by_cases h10 : xd = 10
    · subst h10
      rw [if_pos rfl]
      go_enter Try.func135, Try.ntmps135
      go_wp2_with fail
      go_ret
      exact ⟨by simp; rfl, hk⟩
    · rw [if_neg h10]
      go_enter Try.func135, Try.ntmps135
      go_wp2_with fail
      go_ret
      exact ⟨rfl, hk⟩
end Go.Proofs.Ytapmlleemopcnac

/- hallBegun answers true. -/
namespace Go.Proofs.Ytapmlleemopcnac
open Go.RowKit
set_option maxRecDepth 20000
attribute [local go_sem ↓] Go.wp_at_zero Go.wp_at_succ

theorem hal_drop {w0 w : World} {o P : Thing} {r : List Thing} (hz : Zoo w0 w (o :: P :: r)) : Zoo w0 w (o :: r) := Zoo.drop_ (l1 := [o]) hz
theorem hal_var {w0 w : World} {o P : Thing} {r : List Thing} (hz : Zoo w0 w (o :: P :: r)) (c : Array Value) (T : TypeId) : Zoo w0 (w.alloc (.cells c T)) (o :: BoxT w.heap.size c T :: r) := zoo_swap ((hal_drop hz).box c T)
def hs0 : HSt := ⟨fun _ => [dv], 0, [], fun _ => none⟩
def hx1 : HStep := ⟨1, 0, 1, 0, 0, 0, 0, ⟨#[]⟩⟩
def hs1 : HSt := hdo hs0 hx1
def hx2 : HStep := ⟨1, 1, 2, 0, 0, 0, 0, ⟨#[]⟩⟩
def hs2 : HSt := hdo hs1 hx2
def hx3 : HStep := ⟨3, 0, 0, 0, 1, 0, 0, ⟨#[120]⟩⟩
def hs3 : HSt := hdo hs2 hx3
def hx4 : HStep := ⟨2, 1, 0, 0, 1, 0, 0, ⟨#[]⟩⟩
def hs4 : HSt := hdo hs3 hx4
def hx5 : HStep := ⟨6, 0, 0, 0, 0, 0, 0, ⟨#[]⟩⟩
def hs5 : HSt := hdo hs4 hx5
def hx6 : HStep := ⟨3, 1, 0, 0, 2, 0, 0, ⟨#[121]⟩⟩
def hs6 : HSt := hdo hs5 hx6
def hx7 : HStep := ⟨6, 1, 0, 0, 0, 0, 0, ⟨#[]⟩⟩
def hs7 : HSt := hdo hs6 hx7
theorem hv1 : hev hs0 hx1 = ⟨0, 0, false, ⟨#[]⟩, []⟩ := by rfl
theorem hv2 : hev hs1 hx2 = ⟨0, 0, false, ⟨#[]⟩, []⟩ := by rfl
theorem hv3 : hev hs2 hx3 = ⟨0, 0, false, ⟨#[]⟩, []⟩ := by rfl
theorem hv4 : hev hs3 hx4 = ⟨0, 0, false, ⟨#[]⟩, []⟩ := by rfl
theorem hv5 : hev hs4 hx5 = ⟨0, 1, false, ⟨#[]⟩, []⟩ := by rfl
theorem hv6 : hev hs5 hx6 = ⟨0, 0, false, ⟨#[]⟩, []⟩ := by rfl
theorem hv7 : hev hs6 hx7 = ⟨11, 0, false, ⟨#[]⟩, []⟩ := by rfl
theorem hs7_n : hs7.n = 1 := by rfl
theorem hs7_s : hs7.seat 1 = none := by rfl
set_option maxHeartbeats 2000000 in
theorem hbegun (w : World) : Calls Try.prog 13 #[] w fun e w' => e = .returned (.bool true) ∧ Kp [] w w' := by
  go_enter Try.func13, Try.ntmps13
  go_wp2_with fail
  refine (h_new w).mono ?_
  rintro e w1 ⟨hb, rfl, F, hh, hk⟩
  have HZ0 : Hid (Zoo w w1 [HalT hb hs0]) := (zoo_nil (Kp.refl [] w)).cons hh hk
  clear hh hk
  go_wp2_with fail
  refine (hal_do hx1 (by unfold maxLen; decide) (unhide HZ0)).mono ?_
  rintro e v1 ⟨a1, cap1, rfl, HY1⟩
  rw [hv1]
  rw [hv1] at HY1
  rw [show hdo hs0 hx1 = hs1 from rfl] at HY1
  dsimp only [List.length_nil]
  clear HZ0
  have HZ1 := hide (hal_var (unhide HY1) #[.int .i64 0, .int .i64 0, .bool false, .string ⟨#[]⟩, .slice a1 0 cap1] 34)
  clear HY1
  go_wp2_with fail
  generalize v1.alloc (.cells #[.int .i64 0, .int .i64 0, .bool false, .string ⟨#[]⟩, .slice a1 0 cap1] 34) = W1 at HZ1 ⊢
  generalize v1.heap.size = pa at HZ1 ⊢
  refine (hal_do hx2 (by unfold maxLen; decide) (unhide HZ1)).mono ?_
  rintro e v2 ⟨a2, cap2, rfl, HY2⟩
  rw [hv2]
  rw [hv2] at HY2
  rw [show hdo hs1 hx2 = hs2 from rfl] at HY2
  dsimp only [List.length_nil]
  clear HZ1
  have HZ2 := hide (hal_var (unhide HY2) #[.int .i64 0, .int .i64 0, .bool false, .string ⟨#[]⟩, .slice a2 0 cap2] 34)
  clear HY2
  go_wp2_with fail
  generalize v2.alloc (.cells #[.int .i64 0, .int .i64 0, .bool false, .string ⟨#[]⟩, .slice a2 0 cap2] 34) = W2 at HZ2 ⊢
  generalize v2.heap.size = pb at HZ2 ⊢
  refine (hal_do hx3 (by unfold maxLen; decide) (unhide HZ2)).mono ?_
  rintro e v3 ⟨a3, cap3, rfl, HY3⟩
  rw [hv3]
  rw [hv3] at HY3
  rw [show hdo hs2 hx3 = hs3 from rfl] at HY3
  dsimp only [List.length_nil]
  clear HZ2
  have HZ3 := hide (hal_drop (unhide HY3))
  clear HY3
  go_wp2_with fail
  refine (hal_do hx4 (by unfold maxLen; decide) (unhide HZ3)).mono ?_
  rintro e v4 ⟨a4, cap4, rfl, HY4⟩
  rw [hv4]
  rw [hv4] at HY4
  rw [show hdo hs3 hx4 = hs4 from rfl] at HY4
  dsimp only [List.length_nil]
  clear HZ3
  have HZ4 := hide (hal_var (unhide HY4) #[.int .i64 0, .int .i64 0, .bool false, .string ⟨#[]⟩, .slice a4 0 cap4] 34)
  clear HY4
  go_wp2_with fail
  generalize v4.alloc (.cells #[.int .i64 0, .int .i64 0, .bool false, .string ⟨#[]⟩, .slice a4 0 cap4] 34) = W4 at HZ4 ⊢
  generalize v4.heap.size = pc at HZ4 ⊢
  refine (hal_do hx5 (by unfold maxLen; decide) (unhide HZ4)).mono ?_
  rintro e v5 ⟨a5, cap5, rfl, HY5⟩
  rw [hv5]
  rw [hv5] at HY5
  rw [show hdo hs4 hx5 = hs5 from rfl] at HY5
  dsimp only [List.length_nil]
  clear HZ4
  have HZ5 := hide (hal_var (unhide HY5) #[.int .i64 0, .int .i64 1, .bool false, .string ⟨#[]⟩, .slice a5 0 cap5] 34)
  clear HY5
  go_wp2_with fail
  generalize v5.alloc (.cells #[.int .i64 0, .int .i64 1, .bool false, .string ⟨#[]⟩, .slice a5 0 cap5] 34) = W5 at HZ5 ⊢
  generalize v5.heap.size = pd at HZ5 ⊢
  refine (hal_do hx6 (by unfold maxLen; decide) (unhide HZ5)).mono ?_
  rintro e v6 ⟨a6, cap6, rfl, HY6⟩
  rw [hv6]
  rw [hv6] at HY6
  rw [show hdo hs5 hx6 = hs6 from rfl] at HY6
  dsimp only [List.length_nil]
  clear HZ5
  have HZ6 := hide (hal_drop (unhide HY6))
  clear HY6
  go_wp2_with fail
  refine (hal_do hx7 (by unfold maxLen; decide) (unhide HZ6)).mono ?_
  rintro e v7 ⟨a7, cap7, rfl, HY7⟩
  rw [hv7]
  rw [hv7] at HY7
  rw [show hdo hs6 hx7 = hs7 from rfl] at HY7
  dsimp only [List.length_nil]
  clear HZ6
  obtain ⟨vb, tb, gb, st, hs, -, hl⟩ := hal_open (unhide HY7)
  have HL := hide hl
  have HS := hide hs
  clear hl hs HY7
  have c0 := (unhide HL).c0
  have v0 := (unhide HL).v0
  have hl := (unhide HL).lt
  have vl := (unhide HL).vlt_
  have hpd := (unhide HL).var (List.Mem.tail _ (List.Mem.head _))
  have pd1 : v7.cell? ⟨pd, 1, none⟩ = some (.int .i64 1) := cell_of_block hpd rfl
  have pdl := lt_of_block hpd
  clear hpd
  have hpc := (unhide HL).var (List.Mem.tail _ (List.Mem.tail _ (List.Mem.head _)))
  have pc0 : v7.cell? ⟨pc, 0, none⟩ = some (.int .i64 0) := cell_of_block hpc rfl
  have pc2 : v7.cell? ⟨pc, 2, none⟩ = some (.bool false) := cell_of_block hpc rfl
  have pcl := lt_of_block hpc
  clear hpc
  have hpb := (unhide HL).var (List.Mem.tail _ (List.Mem.tail _ (List.Mem.tail _ (List.Mem.head _))))
  have pb0 : v7.cell? ⟨pb, 0, none⟩ = some (.int .i64 0) := cell_of_block hpb rfl
  have pbl := lt_of_block hpb
  clear hpb
  have hpa := (unhide HL).var (List.Mem.tail _ (List.Mem.tail _ (List.Mem.tail _ (List.Mem.tail _ (List.Mem.head _)))))
  have pa0 : v7.cell? ⟨pa, 0, none⟩ = some (.int .i64 0) := cell_of_block hpa rfl
  have pal := lt_of_block hpa
  clear hpa
  have HX := hide ((unhide HL).tail.new #[.int .i64 11, .int .i64 0, .bool false, .string ⟨#[]⟩, .slice a7 0 cap7] 34)
  have hd1 : dat st 1 = none := by have q := unhide HS 1; rw [hs7_s] at q; have e : dat st 1 = st 1 := dat_in (j := 1) (by omega); rw [e]; cases hq : st 1 with | none => rfl | some y => rw [hq] at q; cases q
  go_wp2_with fail
  go_wp2_with fail
  generalize v7.alloc (.cells #[.int .i64 11, .int .i64 0, .bool false, .string ⟨#[]⟩, .slice a7 0 cap7] 34) = W7 at HX ⊢
  generalize v7.heap.size = pf at HX ⊢
  clear c0 v0 hl vl
  have c0 := (unhide HX).c0
  have v0 := (unhide HX).v0
  refine (h_busy 1 (unhide HX)).mono ?_
  rintro e w' ⟨rfl, hw'⟩
  subst w'
  rw [hd1, show Option.isSome (none : Sd) = false from rfl]
  go_wp2_with fail
  refine (h_deed 1 (unhide HX)).mono ?_
  rintro e w' ⟨rfl, hw'⟩
  subst w'
  rw [hd1, show sp none = .pointer none from rfl]
  go_wp2_with fail
  refine (h_last (unhide HX)).mono ?_
  rintro e w' ⟨rfl, hw'⟩
  subst w'
  rw [hs7_n]
  go_wp2_with fail
  refine (hseat 4 _).mono ?_
  rintro e w' ⟨rfl, hw'⟩
  subst w'
  rw [show seatB 4 = true from rfl]
  go_wp2_with fail
  go_ret
  exact ⟨rfl, Zoo.kp (unhide HX)⟩
theorem ev_code (a b c d e : Value) (w : World) : (Instr.field 34 (.agg #[a, b, c, d, e]) 0).run Try.prog w = .ok a w := by kernel_rfl
theorem shk_last' {h : HSt} (hi : HInv h) : ShK h.f h.n h.n 8 := ⟨Nat.le_refl _, fun j hj => tr_known hi.inv (fmx_le hi.inv 8 (Nat.le_refl _)).2 (Int.le_refl _) (by omega), fun h => by omega⟩
end Go.Proofs.Ytapmlleemopcnac

/- Steps of a hall that are handed in; greatSteps, by its contract. -/
namespace Go.Proofs.Ytapmlleemopcnac
open Go.RowKit
set_option maxRecDepth 20000
attribute [local go_sem ↓] Go.wp_at_zero Go.wp_at_succ

structure StH1 (w : World) (b o : Nat) (st : HStep) : Prop where
  c0 : w.cell? ⟨b, o, none⟩ = some (.int .i64 st.d)
  c1 : w.cell? ⟨b, o + 1, none⟩ = some (.int .i64 st.s)
  c2 : w.cell? ⟨b, o + 2, none⟩ = some (.int .i64 st.md)
  c3 : w.cell? ⟨b, o + 3, none⟩ = some (.int .i64 st.at_)
  c4 : w.cell? ⟨b, o + 4, none⟩ = some (.int .i64 st.key)
  c5 : w.cell? ⟨b, o + 5, none⟩ = some (.int .i64 st.to_)
  c6 : w.cell? ⟨b, o + 6, none⟩ = some (.int .i64 st.keep)
  c7 : w.cell? ⟨b, o + 7, none⟩ = some (.string st.b)
  str : st.b.size ≤ maxLen
/-- The steps lie in block b from o on, n of them. -/
def StH (w : World) (b o n : Nat) (st : Nat → HStep) : Prop := ∀ i, i < n → StH1 w b (o + i * 8) (st i)
def HSts (w : World) (a : Option Addr) (n : Nat) (st : Nat → HStep) : Prop := n ≤ maxLen ∧ (0 < n → ∃ b o, a = some ⟨b, o, none⟩ ∧ StH w b o n st)
theorem StH1.kp0 {w w' : World} {b o : Nat} {st : HStep} (h : StH1 w b o st) (hk : Kp [] w w') : StH1 w' b o st :=
  ⟨hk.cell (by simp) h.c0, hk.cell (by simp) h.c1, hk.cell (by simp) h.c2, hk.cell (by simp) h.c3, hk.cell (by simp) h.c4, hk.cell (by simp) h.c5, hk.cell (by simp) h.c6, hk.cell (by simp) h.c7, h.str⟩
theorem HSts.kp0 {w w' : World} {a : Option Addr} {n : Nat} {st : Nat → HStep} (h : HSts w a n st) (hk : Kp [] w w') : HSts w' a n st := ⟨h.1, fun hp => by
  obtain ⟨b, o, e, hs⟩ := h.2 hp
  exact ⟨b, o, e, fun i hi => (hs i hi).kp0 hk⟩⟩

def GsEnd (n : Nat) (w : World) (e : Ending) (w' : World) : Prop := ∃ q : Bool, e = .returned (.bool q) ∧ (q = false → n ≤ 200) ∧ w' = w
theorem gsEnd_mk {n : Nat} {w : World} (q : Bool) (h : q = false → n ≤ 200) : GsEnd n w (.returned (.bool q)) w := ⟨q, rfl, h, rfl⟩

set_option maxHeartbeats 1000000 in
theorem gsteps (a : Option Addr) (n c : Nat) (st : Nat → HStep) (w : World) (h : HSts w a n st) :
    Calls Try.prog 14 #[.slice a n c] w fun e w' => GsEnd n w e w' := by
  obtain ⟨hm, h⟩ := h
  unfold maxLen at hm
  have HP := hide h
  clear h
  go_enter Try.func14, Try.ntmps14
  go_wp2_with fail
  go_loop [3] (fun i => ∃ k : Nat, k ≤ n ∧ k ≤ 300 ∧ i = .int .i64 k) (fun i => n - (intOf i).toNat)
  case atStart => exact ⟨0, Nat.zero_le _, by omega, rfl⟩
  case round =>
    obtain ⟨k, hk, hk2, rfl⟩ := hrel
    by_cases hlt : k < n
    · have i1 : (k : Int) < (n : Int) := by omega
      by_cases hlt2 : k < 300
      · obtain ⟨b, o, rfl, hs⟩ := (unhide HP) (by omega)
        have h1 := hs k hlt
        have q7 := h1.c7
        have hsz := h1.str
        unfold maxLen at hsz
        have i0 : (0 : Int) ≤ (k : Int) := by omega
        have i2 : (k : Int) < 300 := by omega
        clear hs h1
        generalize (st k).b = s at *
        by_cases hs : 100 < s.size
        · have hs' : (100 : Int) < (s.size : Int) := by omega
          go_wp2_with fail
          go_ret
          exact gsEnd_mk _ (fun h => by simp at h)
        · have hs' : ¬ (100 : Int) < (s.size : Int) := by omega
          go_wp2_with fail
          exact ⟨⟨k + 1, by omega, by omega, by go_num⟩, by simp [intOf]; omega⟩
      · have i2 : ¬ (k : Int) < 300 := by omega
        have i3 : (200 : Int) < (n : Int) := by omega
        go_wp2_with fail
        go_ret
        exact gsEnd_mk _ (fun h => by simp at h)
    · have i1 : ¬ (k : Int) < (n : Int) := by omega
      by_cases h200 : 200 < n
      · have i3 : (200 : Int) < (n : Int) := by omega
        go_wp2_with fail
        go_ret
        exact gsEnd_mk _ (fun h => by simp at h)
      · have i3 : ¬ (200 : Int) < (n : Int) := by omega
        go_wp2_with fail
        go_ret
        exact gsEnd_mk _ (fun h => by omega)
end Go.Proofs.Ytapmlleemopcnac

/- Rows of all keys' values: append onto them, and one of them read; beside a vault. -/
namespace Go.Proofs.Ytapmlleemopcnac
open Go.RowKit
set_option maxRecDepth 20000

def wcs (us : List (Nat → Ver)) : List Value := us.flatMap fun u => (wagg u).toList
theorem wagg_len (u : Nat → Ver) : (wagg u).toList.length = 16 := rfl
theorem wcs_append (us : List (Nat → Ver)) (u : Nat → Ver) : wcs (us ++ [u]) = wcs us ++ (wagg u).toList := by simp [wcs]
theorem wcs_cons (us : List (Nat → Ver)) (u : Nat → Ver) : wcs (u :: us) = (wagg u).toList ++ wcs us := by simp [wcs]
theorem wcs_len (us : List (Nat → Ver)) : (wcs us).length = us.length * 16 := by
  induction us with
  | nil => rfl
  | cons x r ih => rw [wcs_cons, List.length_append, wagg_len, ih, List.length_cons]; omega
theorem wcs_at {us : List (Nat → Ver)} {u : Nat → Ver} {j : Nat} (hj : j < 16) : ∀ {i : Nat}, us[i]? = some u → (wcs us)[i * 16 + j]? = (wagg u).toList[j]? := by
  induction us with
  | nil => intro i h; simp at h
  | cons x r ih =>
    intro i h
    rw [wcs_cons]
    cases i with
    | zero =>
      simp only [List.getElem?_cons_zero, Option.some.injEq] at h
      subst h
      rw [List.getElem?_append_left (by rw [wagg_len]; omega)]
      simp
    | succ i =>
      rw [List.getElem?_cons_succ] at h
      rw [List.getElem?_append_right (by rw [wagg_len]; omega), wagg_len, ← ih h]
      congr 1
      omega
/-- A row of all keys' values that a call owns. -/
def WsT (a : Option Addr) (cap : Nat) (us : List (Nat → Ver)) : Thing where
  holds B w F := w.ownsRow B 72 16 (.slice a us.length cap) us.length (wcs us) ∧ F = ob a
  kp := fun ⟨h1, h2⟩ hk hS => ⟨own_kp h1 hk (fun g hg => hS g (by rw [h2]; cases a with | none => simp [Value.ownBlock] at hg | some ad => simp [Value.ownBlock] at hg; simp [ob, hg])), h2⟩
  lo := fun ⟨h1, h2⟩ x hx => by
    subst h2
    rcases h1.2 with ⟨e, _⟩ | ⟨g, cap', cur, e, hB, hg, _⟩
    · simp only [Value.slice.injEq] at e; rw [e.1] at hx; simp [ob] at hx
    · simp only [Value.slice.injEq] at e; rw [e.1] at hx; simp [ob] at hx; have := lt_of_block hg; omega
  base := fun ⟨h1, h2⟩ hC => ⟨own_base h1 hC, h2⟩
theorem Try.info72 : (Try.prog.info? 72).map (fun i => (i.zero, i.size, i.bytes)) = some (some (.agg #[.bool false, .string ByteArray.empty, .bool false, .string ByteArray.empty, .bool false, .string ByteArray.empty, .bool false, .string ByteArray.empty, .bool false, .string ByteArray.empty, .bool false, .string ByteArray.empty, .bool false, .string ByteArray.empty, .bool false, .string ByteArray.empty]), 16, 192) := by kernel_rfl
section
variable {w0 w W w2 : World} {V : Thing} {r : List Thing} {a : Option Addr} {cap : Nat} {us : List (Nat → Ver)}
theorem ws_nil (hz : Zoo w0 w (V :: r)) : Zoo w0 w (V :: WsT none 0 [] :: r) := Zoo.put_ (l1 := [V]) hz (F := []) ⟨World.ownsRow_nil _ _ _ _, rfl⟩ (Kp.refl _ _)
theorem ws_own (hz : Zoo w0 w (V :: WsT a cap us :: r)) : w.ownsRow w0.heap.size 72 16 (.slice a us.length cap) us.length (wcs us) := by
  obtain ⟨F, h1, _⟩ := zoo_at1 hz
  exact h1.1
theorem ws_app {g2 cap2 : Nat} {u : Nat → Ver} (hz : Zoo w0 W (V :: WsT a cap us :: r)) (hown : w2.ownsRow w0.heap.size 72 16 (.slice (some ⟨g2, 0, none⟩) (us.length + 1) cap2) (us.length + 1) (wcs us ++ (wagg u).toList)) (hgrow : W.grownBy w2 (Value.slice a us.length cap).ownBlock) (hat : (Value.slice a us.length cap).ownBlock = some g2 ∨ g2 = W.heap.size) :
    Zoo w0 w2 (V :: WsT (some ⟨g2, 0, none⟩) cap2 (us ++ [u]) :: r) := by
  obtain ⟨F, ⟨h1, h2⟩, k2⟩ := zoo_at1 hz
  refine k2 _ _ ⟨[g2], ⟨by rw [wcs_append]; simpa using hown, rfl⟩, (Kp.refl F W).grown hgrow (fun g hg => .inl ?_), fun x hx => ?_⟩
  · rw [h2]
    cases a with
    | none => simp [Value.ownBlock] at hg
    | some ad => simp [Value.ownBlock] at hg; simp [ob, hg]
  · have e : x = g2 := by simpa using hx
    subst e
    rcases hat with e | e
    · left
      rw [h2]
      cases a with
      | none => simp [Value.ownBlock] at e
      | some ad => simp [Value.ownBlock] at e; simp [ob, e]
    · right; omega
theorem ws_range {i : Nat} {u : Nat → Ver} (hz : Zoo w0 w (V :: WsT a cap us :: r)) (hi : us[i]? = some u) : ∃ g, a = some ⟨g, 0, none⟩ ∧ w.rangeAt g (i * 16) (wagg u).toList := by
  obtain ⟨F, ⟨h1, h2⟩, _⟩ := zoo_at1 hz
  have hil := (List.getElem?_eq_some_iff.1 hi).1
  rcases h1.2 with ⟨e, e0⟩ | ⟨g, cap', cur, e, hB, hg, _, _, _, htk⟩
  · omega
  · simp only [Value.slice.injEq] at e
    refine ⟨g, e.1, fun j v hv => ?_⟩
    have hj : j < 16 := by have := (List.getElem?_eq_some_iff.1 hv).1; rw [wagg_len] at this; exact this
    refine cell_of_block hg ?_
    have h3 := wcs_at hj hi
    rw [hv, ← htk, List.getElem?_take, if_pos (by omega)] at h3
    simpa using h3
theorem ws_var {p : Nat} {u : Nat → Ver} (h : w.heap[p]? = some (.cells (wagg u) 72 (0, 0))) : w.rangeAt p 0 (wagg u).toList := fun j v hv => by
  rw [Nat.zero_add]
  exact cell_of_block h (by simpa using hv)
end
/-- All keys' values, loaded; told in full. -/
theorem wpList_load66x {ops : Array Oper} {rest : List Oper} {o : Oper} {a : Act} {w : World} {Q : Exit → Act → World → Prop} (hw : Region.wanted o (yielded ops a.tmps) = true) (x : Operand) (ho : o.op = .load 72 x)
    (g : Nat) (hx : a.eval x = .pointer (some ⟨g, 0, none⟩)) (v : Nat → Ver) (hg : w.heap[g]? = some (.cells (wagg v) 72 (0, 0))) (h : wpList Try.prog ops Q rest (a.put o.dst (.agg #[.bool (v 0).t, .string (v 0).s, .bool (v 1).t, .string (v 1).s, .bool (v 2).t, .string (v 2).s, .bool (v 3).t, .string (v 3).s, .bool (v 4).t, .string (v 4).s, .bool (v 5).t, .string (v 5).s, .bool (v 6).t, .string (v 6).s, .bool (v 7).t, .string (v 7).s])) w) : wpList Try.prog ops Q (o :: rest) a w :=
  wpList_load66 hw x ho g hx v hg h
theorem yields_mid {ops : Array Oper} {S : World → Prop} {op : Oper} {a : Act} (hw : Region.wanted op (yielded ops a.tmps) = true) (x : Operand) (ho : op.op = .load 72 x) (b o : Nat) (hx : a.eval x = .pointer (some ⟨b, o, none⟩)) (u : Nat → Ver) (hS : ∀ w, S w → w.rangeAt b o (wagg u).toList) : YieldsIf Try.prog ops S op (.agg (wagg u)) a := by
  have h := yieldsIf_load_mid (P := Try.prog) hw 72 x ho b o hx (wagg u).toList _ hS Try.underlying72 rfl Try.size72
  rw [Array.toArray_toList] at h
  exact h
/-- What is told of the commits that are known. -/
def wss (f : Nat → List Ver) (n m : Nat) (k : Nat) : List (Nat → Ver) := (List.range k).map fun i => shw f n ((m + i : Nat) : Int) 8
theorem wss_len (f : Nat → List Ver) (n m k : Nat) : (wss f n m k).length = k := by simp [wss]
theorem wss_succ (f : Nat → List Ver) (n m k : Nat) : wss f n m (k + 1) = wss f n m k ++ [shw f n ((m + k : Nat) : Int) 8] := by simp [wss, List.range_succ]
theorem wss_at {f : Nat → List Ver} {n m k i : Nat} (h : i < k) : (wss f n m k)[i]? = some (shw f n ((m + i : Nat) : Int) 8) := by simp [wss, h]
end Go.Proofs.Ytapmlleemopcnac

/- A hall's log; five answers in a variable. -/
namespace Go.Proofs.Ytapmlleemopcnac
open Go.RowKit
set_option maxRecDepth 20000
attribute [local go_sem ↓] Go.wp_at_zero Go.wp_at_succ

section
variable {w0 w : World} {hb vb tb gb : Nat} {h : HSt} {st : Nat → Sd} {r : List Thing}
theorem h_log {bs : List UInt8} (hb0 : lb h.cs ++ [] = bs) (hz : Hall w0 w hb vb tb gb h st r) : Calls Try.prog 35 #[.pointer (some ⟨vb, 0, none⟩)] w fun e w' => BtEnd bs w e w' := by
  obtain ⟨F, ⟨Ft, Fg, k⟩, _⟩ := zoo_at0 hz.vlt
  subst hb0
  exact vlog w k
end
/-- Five answers. -/
def bl (f : Nat → Bool) : Array Value := #[.bool (f 0), .bool (f 1), .bool (f 2), .bool (f 3), .bool (f 4)]
theorem bl_at (f : Nat → Bool) {k : Nat} (hk : k < 5) : (bl f)[k]? = some (.bool (f k)) := by
  rcases (show k = 0 ∨ k = 1 ∨ k = 2 ∨ k = 3 ∨ k = 4 by omega) with e | e | e | e | e <;> subst e <;> rfl
theorem bl_set (f : Nat → Bool) {k : Nat} (hk : k < 5) (b : Bool) : (bl f).setIfInBounds k (.bool b) = bl (upd f k b) := by
  rcases (show k = 0 ∨ k = 1 ∨ k = 2 ∨ k = 3 ∨ k = 4 by omega) with e | e | e | e | e <;> subst e <;> rfl
/-- The first k seats: whether each has a deed. -/
def fb (st : Nat → Sd) (k : Nat) : Nat → Bool := fun s => decide (s < k) && (st s).isSome
theorem fb_zero (st : Nat → Sd) : bl (fb st 0) = #[.bool false, .bool false, .bool false, .bool false, .bool false] := by simp [bl, fb]
theorem fb_succ (st : Nat → Sd) (k : Nat) : upd (fb st k) k (st k).isSome = fb st (k + 1) := by
  funext s
  simp only [upd, fb]
  by_cases e : s = k
  · subst e; simp
  · rw [if_neg e]
    by_cases e2 : s < k
    · simp [e2, show s < k + 1 by omega]
    · simp [e2, show ¬ s < k + 1 by omega]
theorem fb_at (st : Nat → Sd) {s : Nat} (hs : s < 5) : fb st 5 s = (st s).isSome := by simp [fb, hs]
theorem Sts.some {st : Nat → Sd} {seat : Nat → Option Dp} (h : Sts st seat) (s : Nat) : (st s).isSome = (seat s).isSome := by
  rw [← h s]
  cases st s <;> rfl
end Go.Proofs.Ytapmlleemopcnac

/- Plain words for HallClears: what is asked of what is forgotten. -/
namespace Go.Proofs.Ytapmlleemopcnac
open Go.RowKit
set_option maxRecDepth 20000
attribute [local go_sem ↓] Go.wp_at_zero Go.wp_at_succ

theorem tr_a_known {h : HSt} (hi : HInv h) {s : Nat} {d : Dp} (hs : h.seat s = some d) (k : Int) : (dg h.f h.n d.y d.ws k).a = 0 ∨ (dg h.f h.n d.y d.ws k).a = 1 := by
  cases q : keyB k with
  | false => right; unfold dg; rw [q]; simp
  | true =>
    left
    simp only [keyB, decide_eq_true_eq] at q
    obtain ⟨j, rfl⟩ : ∃ j : Nat, k = (j : Int) := ⟨k.toNat, by omega⟩
    rw [dg_see hi hs (by omega)]
theorem dls_code {h : HSt} (hi : HInv h) {s : Nat} {d : Dp} (hs : h.seat s = some d) (a b : Int) : (dls h.f h.n d.y d.ws d.rs a b).2.1 = 0 ∨ (dls h.f h.n d.y d.ws d.rs a b).2.1 = 1 := by
  unfold dls
  split
  · rename_i hk
    left
    simp only [keyB, decide_eq_true_eq] at hk
    obtain ⟨p, rfl⟩ : ∃ p : Nat, a = (p : Int) := ⟨a.toNat, by omega⟩
    obtain ⟨t, rfl⟩ : ∃ t : Nat, b = (t : Int) := ⟨b.toNat, by omega⟩
    rw [Int.toNat_natCast, show ((t : Int) + 1 - (p : Int)).toNat = t + 1 - p by omega]
    by_cases hpt : p ≤ t + 1
    · exact (dgo_wl (v := hsee h d) (p := p) (t := t) (by omega) (fun k hk => dg_see hi hs hk) (t + 1 - p) p [] d.rs (Nat.le_refl _) (by omega) (wl_lo (Int.le_refl _)).symm).2
    · rw [show t + 1 - p = 0 by omega]; rfl
  · right; rfl
theorem dpc_ne {md k : Int} {t : Bool} {s : ByteArray} : dpc md k t s ≠ 12 := by
  unfold dpc chk
  repeat' split
  all_goals omega
theorem vcode_ne {f : Nat → List Ver} {cs : List (List Ver)} {md y : Int} {rs : List Int} {ws : List Ver} (hw : WOk ws) : vcode f cs md y rs ws ≠ 12 := by
  have hp := hw.pf
  unfold vcode dm lcode
  rw [if_pos hp]
  repeat' split
  all_goals omega
/-- Behind ErrOld nothing is other. -/
theorem hdo_old {h : HSt} (hi : HInv h) (x : HStep) (hc : (hev h x).c = 12) : hdo h x = h := by
  have hk := hkind h x
  generalize hdo h x = h2 at *
  generalize hev h x = e at *
  cases hk with
  | kind c => rfl
  | clear c => exact absurd hc (by simp [evn])
  | crash c => exact absurd hc (by simp [ev0])
  | range c1 c2 => rfl
  | began c1 c2 c3 c4 => exact absurd hc (by simp [evc])
  | beganNot c1 c2 c3 c4 => rfl
  | none_ c1 c2 c3 => rfl
  | there d0 c1 c2 c3 => rfl
  | get d c1 c2 c3 =>
    dsimp only at hc
    rcases tr_a_known hi c3 x.key with q | q <;> omega
  | put d c1 c2 c3 => exact absurd hc dpc_ne
  | drop d c1 c2 c3 => exact absurd hc dpc_ne
  | list d c1 c2 c3 =>
    dsimp only at hc
    rcases dls_code hi c3 x.key x.to_ with q | q <;> omega
  | commit d c1 c2 c3 => exact absurd hc (vcode_ne (hi.ok _ _ c3))
  | tear d c1 c2 c3 => exact absurd hc (vcode_ne (hi.ok _ _ c3))
  | abort d c1 c2 c3 => exact absurd hc (by simp [ev0])
/-- How long a list is that is told. -/
theorem dgo_len8 {f : Nat → List Ver} {n : Nat} {y : Int} {ws : List Ver} : ∀ (m k : Nat) (acc : List Ver) (rs : List Int), (dgo f n y ws k m acc rs).1.length ≤ acc.length + m := by
  intro m
  induction m with
  | zero => intro k acc rs; simp [dgo]
  | succ m ih =>
    intro k acc rs
    simp only [dgo]
    split
    · split
      · have := ih (k + 1) (acc ++ [⟨k, (dg f n y ws k).t, (dg f n y ws k).s⟩]) (dr f n y rs ws k)
        simp at this
        omega
      · have := ih (k + 1) acc (dr f n y rs ws k)
        omega
    · simp
theorem hev_len (h : HSt) (x : HStep) : (hev h x).l.length ≤ 8 := by
  have hk := hkind h x
  generalize hdo h x = h2 at *
  generalize hev h x = e at *
  cases hk with
  | list d c1 c2 c3 =>
    show (dls h.f h.n d.y d.ws d.rs x.key x.to_).1.length ≤ 8
    unfold dls
    split
    · rename_i q
      simp only [keyB, decide_eq_true_eq] at q
      have := dgo_len8 (f := h.f) (n := h.n) (y := d.y) (ws := d.ws) (x.to_ + 1 - x.key).toNat x.key.toNat [] d.rs
      simp at this
      omega
    · simp
  | _ => simp [evc, evn, ev0]

theorem lt_of_cell {w : World} {b o : Nat} {v : Value} (h : w.cell? ⟨b, o, none⟩ = some v) : b < w.heap.size := by
  rcases Nat.lt_or_ge b w.heap.size with q | q
  · exact q
  · have : w.heap[b]? = none := Array.getElem?_eq_none q
    simp [World.cell?, this] at h
section
variable {w0 w : World} {hb : Nat} {h : HSt} {os : List Thing}
/-- What is seen of a hall among things. -/
theorem hal_view (hz : Zoo w0 w os) (hm : HalT hb h ∈ os) : ∃ vb tb, w.cell? ⟨hb, 0, none⟩ = some (.pointer (some ⟨vb, 0, none⟩)) ∧ w.cell? ⟨vb, 0, none⟩ = some (.pointer (some ⟨tb, 0, none⟩)) ∧
    Hid (∀ W, Kp [] w W → Calls Try.prog 20 #[.pointer (some ⟨tb, 0, none⟩)] W fun e w' => e = .returned (.int .i64 h.n) ∧ w' = W) ∧
    Hid (∀ W bs, Kp [] w W → lb h.cs ++ [] = bs → Calls Try.prog 35 #[.pointer (some ⟨vb, 0, none⟩)] W fun e w' => BtEnd bs W e w') := by
  obtain ⟨l1, l2, rfl⟩ := List.append_of_mem hm
  obtain ⟨vb, tb, gb, st, _, _, hl⟩ := hal_open (hz.perm List.perm_middle)
  exact ⟨vb, tb, hl.c0, hl.v0, fun W hk => h_last (hl.kp0 hk), fun W bs hk hb => h_log hb (hl.kp0 hk)⟩
theorem ps_slo {a : Option Addr} {cap : Nat} {l : List Ver} (hz : Zoo w0 w os) (hm : PsT a cap l ∈ os) : SlO w a l := by
  obtain ⟨F, h1, _⟩ := zoo_mem hz hm
  exact slo_own h1 rfl
end
set_option maxHeartbeats 1000000 in
/-- SameEvent of two events that are the same. -/
theorem sameev (v : Ev) (a a' : Option Addr) (cap cap' : Nat) (w : World) (h : SlO w a v.l) (h' : SlO w a' v.l) (hm : v.l.length ≤ 1000) :
    Calls Try.prog 17 #[.agg #[.int .i64 v.c, .int .i64 v.n, .bool v.t, .string v.s, .slice a v.l.length cap], .agg #[.int .i64 v.c, .int .i64 v.n, .bool v.t, .string v.s, .slice a' v.l.length cap']] w fun e w' => e = .returned (.bool true) ∧ Kp [] w w' := by
  have HC := hide (fun W (hk : Kp [] w W) => same39 a a' cap cap' W (h.kp0 hk) (h'.kp0 hk) hm)
  clear h h' hm
  generalize v.l.length = n at *
  obtain ⟨c, m, t, s, l⟩ := v
  dsimp only at *
  go_enter Try.func17, Try.ntmps17
  go_wp2_with fail
  refine (unhide HC _ (((Kp.refl [] w).alloc _).alloc _)).mono ?_
  rintro e w' ⟨rfl, q, rfl⟩
  go_wp2_with fail
  go_ret
  exact ⟨rfl, (((Kp.refl [] w).alloc _).alloc _).drewN _⟩
end Go.Proofs.Ytapmlleemopcnac

/- A book: a deed begins, by its contract. -/
namespace Go.Proofs.Ytapmlleemopcnac
open Go.RowKit
set_option maxRecDepth 20000
attribute [local go_sem ↓] Go.wp_at_zero Go.wp_at_succ

section
variable {w0 w : World} {bb : Nat} {b : Bk} {st : Nat → Option Ob} {a : Option Addr} {c : Nat} {ys : List Dy} {r : List Thing}
def ob0 (g : Nat) (at_ md : Int) : Ob := ⟨g, ⟨0, at_, md, []⟩, [], none, 0⟩
/-- A new deed at a seat: it was made, then it is set. -/
theorem Book.join (hz : Book w0 w bb st a c ys r) {s : Nat} (hs : s < 5) (at_ md : Int) :
    Book w0 ((w.alloc (.cells #[.int .i64 0, .int .i64 at_, .int .i64 md, .slice none 0 0] 90)).setCell ⟨bb, s, none⟩ (.pointer (some ⟨w.heap.size, 0, none⟩))) bb (upd st s (some (ob0 w.heap.size at_ md))) a c ys r := by
  obtain ⟨l1, l2, e2, hz1⟩ := hz.out hs
  have h1 := hz1.tail
  have h2 := kw_nil 101 6 h1
  have h3 : Zoo w0 w (ActT none 0 [] :: _) := act_close (zs := []) h2
  have h4 := h3.box (obc (ob0 w.heap.size at_ md)) 90
  have h5 := opn_close (o := ob0 w.heap.size at_ md) h4
  refine Book.back (d := some (ob0 w.heap.size at_ md)) e2 ?_
  change Zoo w0 (w.alloc (.cells #[.int .i64 0, .int .i64 at_, .int .i64 md, .slice none 0 0] 90)) _ at h5
  obtain ⟨F, ⟨hbx, q2, q3⟩, k2⟩ := zoo_at1 h5
  refine k2 _ _ ⟨F, ⟨?_, q2, q3⟩, ?_, fun x hx => .inl hx⟩
  · rw [heap_setCell_at _ _ hbx]
    have := bkc_set st a ys.length c hs (some (ob0 w.heap.size at_ md))
    rw [← this]
    rfl
  · rw [q2]
    exact (Kp.refl [bb] _).setCell (.inl (by simp)) _
set_option maxHeartbeats 1000000 in
theorem bk_begin (x : HStep) (v : Ev) (la : Option Addr) (lc : Nat) (last : Int) (hx : x.d = 1) (hz : Zoo w0 w (BkT bb b :: r)) :
    Calls Try.prog 114 #[.pointer (some ⟨bb, 0, none⟩), .agg (xcs x), .agg (ecl v la lc), .int .i64 last] w fun e w' => e = .returned (.tuple #[]) ∧ Hid (Zoo w0 w' (BkT bb (bnote b x v last) :: r)) := by
  obtain ⟨st, a, c, ys, hb5, hbk⟩ := bk_open hz
  have HB5 := hide hb5
  have HBK := hide (hbk.two (xcs x) 37 (ecl v la lc) 34)
  have HN := hide (show bnote b x v last = if v.c = 0 ∧ 0 ≤ x.s ∧ x.s < 5 then ⟨upd b.op x.s.toNat (some ⟨0, if x.md = 3 then x.at_ else last, x.md, []⟩), b.dn⟩ else b by unfold bnote; rw [if_pos hx])
  clear hz hb5 hbk
  obtain ⟨xd, xs, xm, xa, xk, xt, xp, xb⟩ := x
  obtain ⟨vc, vn, vt, vs, vl⟩ := v
  dsimp only [xcs, ecl] at *
  subst hx
  generalize vl.length = n at *
  by_cases hc : vc = 0
  · subst hc
    by_cases hs : 0 ≤ xs ∧ xs < 5
    · obtain ⟨j, rfl, hj⟩ := seat_in hs
      have hsb : seatB (j : Int) = true := decide_eq_true hs
      have i0 : (0 : Int) ≤ (j : Int) := by omega
      have i5 : (j : Int) < 5 := by omega
      have fin : ∀ at_, (if xm = 3 then xa else last) = at_ → ∀ W {o1 o2 : Thing}, Book w0 W bb st a c ys (o1 :: o2 :: r) → Zoo w0 ((W.alloc (.cells #[.int .i64 0, .int .i64 at_, .int .i64 xm, .slice none 0 0] 90)).setCell ⟨bb, j, none⟩ (.pointer (some ⟨W.heap.size, 0, none⟩))) (BkT bb (bnote b ⟨1, j, xm, xa, xk, xt, xp, xb⟩ ⟨0, vn, vt, vs, vl⟩ last) :: r) := fun at_ hat W o1 o2 hW => by
        refine bk_close ?_ (hW.tail.tail.join hj at_ xm)
        have h1 := (unhide HB5).sit j (some (ob0 W.heap.size at_ xm)) (fun o ho => by cases ho; rfl)
        rw [unhide HN, if_pos ⟨rfl, hs⟩, hat]
        exact h1
      have HF := hide fin
      clear fin
      by_cases h3 : xm = 3
      · skip
        subst h3
        go_enter Try.func114, Try.ntmps114
        go_wp2_with fail
        generalize (w.alloc (.cells #[.int .i64 1, .int .i64 (j : Int), .int .i64 3, .int .i64 xa, .int .i64 xk, .int .i64 xt, .int .i64 xp, .string xb] 37)).alloc (.cells #[.int .i64 0, .int .i64 vn, .bool vt, .string vs, .slice la n lc] 34) = W at HBK ⊢
        generalize w.heap.size + 1 = q6 at HBK ⊢
        generalize w.heap.size = q5 at HBK ⊢
        refine (hseat (j : Int) _).mono ?_
        rintro e w' ⟨rfl, hw'⟩
        subst w'
        rw [hsb]
        have hx := (unhide HBK).var (List.Mem.tail _ (List.Mem.head _))
        have hv := (unhide HBK).var (List.Mem.head _)
        have x1 : W.cell? ⟨q5, 1, none⟩ = some (.int .i64 (j : Int)) := cell_of_block hx rfl
        have x2 : W.cell? ⟨q5, 2, none⟩ = some (.int .i64 3) := cell_of_block hx rfl
        have x3 : W.cell? ⟨q5, 3, none⟩ = some (.int .i64 xa) := cell_of_block hx rfl
        clear hx hv
        have c1 := (unhide HBK).cs_ hj
        have f1 := (unhide HBK).fz j
        have hbl := (unhide HBK).lt
        have hbn : bb ≠ W.heap.size := by omega
        have hq5 := lt_of_cell x1
        have hq5n : q5 ≠ W.heap.size := by omega
        generalize hbp : bp (st j) = p1 at *
        clear hbp
        go_wp2_with fail
        go_region
        go_wp2_with fail
        go_end0
        refine ⟨rfl, ?_⟩
        have z := unhide HF xa (by simp) W (unhide HBK)
        rw [World.setCell_alloc_past _ bb j _ hbl] at z
        exact z.kp0 (Kp.refl [] _).drew
      · skip
        skip
        go_enter Try.func114, Try.ntmps114
        go_wp2_with fail
        generalize (w.alloc (.cells #[.int .i64 1, .int .i64 (j : Int), .int .i64 xm, .int .i64 xa, .int .i64 xk, .int .i64 xt, .int .i64 xp, .string xb] 37)).alloc (.cells #[.int .i64 0, .int .i64 vn, .bool vt, .string vs, .slice la n lc] 34) = W at HBK ⊢
        generalize w.heap.size + 1 = q6 at HBK ⊢
        generalize w.heap.size = q5 at HBK ⊢
        refine (hseat (j : Int) _).mono ?_
        rintro e w' ⟨rfl, hw'⟩
        subst w'
        rw [hsb]
        have hx := (unhide HBK).var (List.Mem.tail _ (List.Mem.head _))
        have hv := (unhide HBK).var (List.Mem.head _)
        have x1 : W.cell? ⟨q5, 1, none⟩ = some (.int .i64 (j : Int)) := cell_of_block hx rfl
        have x2 : W.cell? ⟨q5, 2, none⟩ = some (.int .i64 xm) := cell_of_block hx rfl
        have x3 : W.cell? ⟨q5, 3, none⟩ = some (.int .i64 xa) := cell_of_block hx rfl
        clear hx hv
        have c1 := (unhide HBK).cs_ hj
        have f1 := (unhide HBK).fz j
        have hbl := (unhide HBK).lt
        have hbn : bb ≠ W.heap.size := by omega
        have hq5 := lt_of_cell x1
        have hq5n : q5 ≠ W.heap.size := by omega
        generalize hbp : bp (st j) = p1 at *
        clear hbp
        go_wp2_with fail
        go_region
        go_wp2_with fail
        go_end0
        refine ⟨rfl, ?_⟩
        have z := unhide HF last (by simp [h3]) W (unhide HBK)
        rw [World.setCell_alloc_past _ bb j _ hbl] at z
        exact z.kp0 (Kp.refl [] _).drew
    · have hsb : seatB xs = false := decide_eq_false hs
      have hbn : bnote b ⟨1, xs, xm, xa, xk, xt, xp, xb⟩ ⟨0, vn, vt, vs, vl⟩ last = b := by rw [unhide HN, if_neg (fun q => hs q.2)]
      rw [hbn]
      have HB := hide (fun W {o1 o2 : Thing} (h : Book w0 W bb st a c ys (o1 :: o2 :: r)) => bk_close (unhide HB5) h.tail.tail)
      clear hbn
      go_enter Try.func114, Try.ntmps114
      go_wp2_with fail
      refine (hseat xs _).mono ?_
      rintro e w' ⟨rfl, hw'⟩
      subst w'
      rw [hsb]
      go_wp2_with fail
      refine bodyPost_ret (v := .tuple #[]) (by simp [results, Try.results114, go_sem]) rfl ?_
      exact ⟨rfl, unhide HB _ (unhide HBK)⟩
  · have hbn : bnote b ⟨1, xs, xm, xa, xk, xt, xp, xb⟩ ⟨vc, vn, vt, vs, vl⟩ last = b := by rw [unhide HN, if_neg (fun q => hc q.1)]
    rw [hbn]
    have HB := hide (fun W {o1 o2 : Thing} (h : Book w0 W bb st a c ys (o1 :: o2 :: r)) => bk_close (unhide HB5) h.tail.tail)
    clear hbn
    go_enter Try.func114, Try.ntmps114
    go_wp2_with fail
    refine bodyPost_ret (v := .tuple #[]) (by simp [results, Try.results114, go_sem]) rfl ?_
    exact ⟨rfl, unhide HB _ (unhide HBK)⟩
end
end Go.Proofs.Ytapmlleemopcnac

/- A book: a deed goes on, by its contract. -/
namespace Go.Proofs.Ytapmlleemopcnac
open Go.RowKit
set_option maxRecDepth 20000
attribute [local go_sem ↓] Go.wp_at_zero Go.wp_at_succ

theorem step_krow {ops : Array Oper} {o : Oper} {ac : Act} {w : World} {K : Act → World → Prop} {Q : Exit → Act → World → Prop} {E : Prop} (hw : Region.wanted o (yielded ops ac.tmps) = true) (s x : Operand) (t : TypeId)
    (ho : o.op = .call { callee := .builtin .append, args := #[s, x], argTypes := #[t, t] }) {e : TypeId} {k by_ : Nat} {z : Value} (hu : Try.prog.underlying t = some (.slice e)) (hi : (Try.prog.info? e).map (fun i => (i.zero, i.size, i.bytes)) = some (some z, k, by_)) (hz : z.cells.size = k) (hby : by_ ≤ 1000)
    {B : Nat} {a : Option Addr} {n cap : Nat} {xs : List Value} (h : KRow e k B w a n cap xs) (hB : B ≤ w.heap.size) (xv : Value) (news : List Value) (m : Nat)
    (hs : ac.eval s = .slice a n cap) (hx : ac.eval x = xv) (hsrc : Src Try.prog k t xv m news w) (hm : n + m ≤ 100000) (N : Nat) (hN : n + m = N)
    (kk : ∀ a' cap' w', Hid (KRow e k B w' a' N cap' (xs ++ news)) → Hid (Kp (ob a) w w') → Hid (∀ x ∈ ob a', x ∈ ob a ∨ w.heap.size ≤ x) → K (ac.put o.dst (.slice a' N cap')) w') :
    if Region.wanted o (yielded ops ac.tmps) = true then Oper.wp Try.prog o ac w K Q else E := by
  subst hN
  obtain ⟨a', cap', w', hr, h1, h2, h3⟩ := krow_app hu hi hz hby h hB o.type xv news m hsrc hm
  rw [if_pos hw]
  unfold Oper.wp execOp
  simp only [ho, resolve, invoke, builtin, Sem.run_bind, Sem.run_pure, Result.andThen_ok, List.map_toArray, List.map_cons, List.map_nil, hs, hx, hr]
  exact kk a' cap' w' h1 h2 h3
section
variable {w0 w W w' : World} {bb : Nat} {b : Bk} {st : Nat → Option Ob} {a : Option Addr} {c : Nat} {ys : List Dy} {r : List Thing}
theorem Book.put {o A : Thing} (h : Zoo w0 w (o :: (bth bb st a c ys ++ (A :: r)))) : Book w0 w bb st a c ys (A :: o :: r) := by
  have p1 := (List.perm_middle (l₁ := bth bb st a c ys ++ [A]) (a := o) (l₂ := r)).symm
  simp only [List.append_assoc, List.cons_append, List.nil_append] at p1
  exact h.perm p1
theorem Book.nil {A : Thing} (h : Book w0 w bb st a c ys (A :: r)) : Book w0 w bb st a c ys (A :: KwT 79 3 none 0 0 [] :: r) := Book.put (kw_nil 79 3 h)
theorem Book.cons {A o : Thing} {F : List Nat} {w' : World} (h : Book w0 w bb st a c ys (A :: r)) (ho : o.holds w.heap.size w' F) (hk : Kp [] w w') : Book w0 w' bb st a c ys (A :: o :: r) := Book.put (Zoo.cons h ho hk)
/-- A seat's deed apart, the act that comes beside it; what is then. -/
structure Gon (w0 W : World) (bb : Nat) (st : Nat → Option Ob) (a : Option Addr) (c : Nat) (ys : List Dy) (r : List Thing) (j : Nat) (o : Ob) (y : Ax) (q : Nat) (l1 l2 : List Thing) : Prop where
  e2 : ∀ d, opns (upd st j d) = l1 ++ OpnT d :: l2
  zoo : Zoo w0 W (axT y :: ActT o.a o.c o.ys :: BoxT o.b (obc o) 90 :: BoxT q (axc y).toArray 101 :: BoxT bb (bkc st a ys.length c) 172 :: KwT 90 4 a ys.length c (dxcs (ys.map Dy.x)) :: (ys.map dyT ++ (l1 ++ (l2 ++ r))))
theorem zoo_r2 {A B C D E : Thing} (h : Zoo w0 w (A :: B :: C :: D :: E :: r)) : Zoo w0 w (A :: B :: D :: C :: E :: r) := h.perm (List.Perm.cons _ (List.Perm.cons _ (List.Perm.swap _ _ _)))
theorem Gon.mk_ {q : Nat} {y : Ax} (hz : Book w0 W bb st a c ys (BoxT q (axc y).toArray 101 :: axT y :: r)) {j : Nat} (hj : j < 5) {o : Ob} (ho : st j = some o) : ∃ l1 l2, Gon w0 W bb st a c ys r j o y q l1 l2 := by
  obtain ⟨l1, l2, e2, h1⟩ := hz.out hj
  rw [ho] at h1
  have h2 := opn_open h1
  refine ⟨l1, l2, e2, ?_⟩
  have p : (BoxT o.b (obc o) 90 :: ActT o.a o.c o.ys :: BoxT bb (bkc st a ys.length c) 172 :: KwT 90 4 a ys.length c (dxcs (ys.map Dy.x)) :: (ys.map dyT ++ (l1 ++ (l2 ++ (BoxT q (axc y).toArray 101 :: axT y :: r))))).Perm
      (axT y :: ActT o.a o.c o.ys :: BoxT o.b (obc o) 90 :: BoxT q (axc y).toArray 101 :: BoxT bb (bkc st a ys.length c) 172 :: KwT 90 4 a ys.length c (dxcs (ys.map Dy.x)) :: (ys.map dyT ++ (l1 ++ (l2 ++ r)))) := by
    have p1 := List.perm_middle (l₁ := BoxT o.b (obc o) 90 :: ActT o.a o.c o.ys :: BoxT bb (bkc st a ys.length c) 172 :: KwT 90 4 a ys.length c (dxcs (ys.map Dy.x)) :: (ys.map dyT ++ (l1 ++ l2))) (a := BoxT q (axc y).toArray 101) (l₂ := axT y :: r)
    have p2 := List.perm_middle (l₁ := BoxT q (axc y).toArray 101 :: BoxT o.b (obc o) 90 :: ActT o.a o.c o.ys :: BoxT bb (bkc st a ys.length c) 172 :: KwT 90 4 a ys.length c (dxcs (ys.map Dy.x)) :: (ys.map dyT ++ (l1 ++ l2))) (a := axT y) (l₂ := r)
    have p3 : (axT y :: BoxT q (axc y).toArray 101 :: BoxT o.b (obc o) 90 :: ActT o.a o.c o.ys :: (BoxT bb (bkc st a ys.length c) 172 :: KwT 90 4 a ys.length c (dxcs (ys.map Dy.x)) :: (ys.map dyT ++ (l1 ++ (l2 ++ r))))).Perm (axT y :: ActT o.a o.c o.ys :: BoxT o.b (obc o) 90 :: BoxT q (axc y).toArray 101 :: (BoxT bb (bkc st a ys.length c) 172 :: KwT 90 4 a ys.length c (dxcs (ys.map Dy.x)) :: (ys.map dyT ++ (l1 ++ (l2 ++ r))))) :=
      List.Perm.cons _ ((List.Perm.swap _ _ _).trans ((List.Perm.cons _ (List.Perm.swap _ _ _)).trans (List.Perm.swap _ _ _)))
    simp only [List.append_assoc, List.cons_append] at p1 p2
    exact (p1.trans p2).trans p3
  exact h2.perm p
theorem Gon.fin {j q : Nat} {o : Ob} {y : Ax} {l1 l2 : List Thing} {a2 : Option Addr} {c2 : Nat} (h : Gon w0 W bb st a c ys r j o y q l1 l2) (hj : j < 5) (ho : st j = some o) {W2 : World} (hz : Zoo w0 W2 (ActT a2 c2 (o.ys ++ [y]) :: BoxT o.b (obc o) 90 :: BoxT q (axc y).toArray 101 :: BoxT bb (bkc st a ys.length c) 172 :: KwT 90 4 a ys.length c (dxcs (ys.map Dy.x)) :: (ys.map dyT ++ (l1 ++ (l2 ++ r))))) :
    Book w0 (W2.setCell ⟨o.b, 3, none⟩ (.slice a2 (o.ys.length + 1) c2)) bb (upd st j (some ⟨o.b, ⟨o.d.n, o.d.at_, o.d.md, o.d.acts ++ [y.x]⟩, o.ys ++ [y], a2, c2⟩)) a c ys r := by
  obtain ⟨F, ⟨hbx, q2, q3⟩, k2⟩ := zoo_at1 hz
  have h1 : Zoo w0 (W2.setCell ⟨o.b, 3, none⟩ (.slice a2 (o.ys.length + 1) c2)) (ActT a2 c2 (o.ys ++ [y]) :: BoxT o.b (obc ⟨o.b, ⟨o.d.n, o.d.at_, o.d.md, o.d.acts ++ [y.x]⟩, o.ys ++ [y], a2, c2⟩) 90 :: BoxT q (axc y).toArray 101 :: BoxT bb (bkc st a ys.length c) 172 :: KwT 90 4 a ys.length c (dxcs (ys.map Dy.x)) :: (ys.map dyT ++ (l1 ++ (l2 ++ r)))) := by
    refine k2 _ _ ⟨F, ⟨?_, q2, q3⟩, ?_, fun x hx => .inl hx⟩
    · rw [heap_setCell_at _ _ hbx]
      simp [obc]
    · rw [q2]
      exact (Kp.refl [o.b] _).setCell (.inl (by simp)) _
  have h2 := opn_close (o := ⟨o.b, ⟨o.d.n, o.d.at_, o.d.md, o.d.acts ++ [y.x]⟩, o.ys ++ [y], a2, c2⟩) (zoo_swap h1)
  have h3 := zoo_drop1 h2
  refine Book.back (d := some ⟨o.b, ⟨o.d.n, o.d.at_, o.d.md, o.d.acts ++ [y.x]⟩, o.ys ++ [y], a2, c2⟩) h.e2 ?_
  have e1 : bkc (upd st j (some ⟨o.b, ⟨o.d.n, o.d.at_, o.d.md, o.d.acts ++ [y.x]⟩, o.ys ++ [y], a2, c2⟩)) a ys.length c = bkc st a ys.length c := by
    rcases (show j = 0 ∨ j = 1 ∨ j = 2 ∨ j = 3 ∨ j = 4 by omega) with e | e | e | e | e <;> subst e <;> simp [bkc, upd, ho, bp]
  rw [e1]
  exact h3
end
end Go.Proofs.Ytapmlleemopcnac

/- A book: a deed goes on, by its contract: whatever step. -/
namespace Go.Proofs.Ytapmlleemopcnac
open Go.RowKit
set_option maxRecDepth 20000
attribute [local go_sem ↓] Go.wp_at_zero Go.wp_at_succ

set_option maxHeartbeats 2000000 in
theorem bk_goOn {w0 w : World} {bb : Nat} {b : Bk} {r : List Thing} (x : HStep) (v : Ev) (la : Option Addr) (lc : Nat) (last : Int) (hx : 2 ≤ x.d ∧ x.d ≤ 5) (hls : SlO w la v.l) (hll : v.l.length ≤ 1000) (hb : ∀ s o, b.op s = some o → o.acts.length ≤ 1000) (hz : Zoo w0 w (BkT bb b :: r)) :
    Calls Try.prog 115 #[.pointer (some ⟨bb, 0, none⟩), .agg (xcs x), .agg (ecl v la lc)] w fun e w' => e = .returned (.tuple #[]) ∧ Hid (Zoo w0 w' (BkT bb (bnote b x v last) :: r)) := by
  have hu := Try.underlying88
  obtain ⟨st, a, c, ys, hb5, hbk⟩ := bk_open hz
  have HB5 := hide hb5
  have HBK := hide (hbk.two (xcs x) 37 (ecl v la lc) 34)
  have HLS := hide (hls.kp0 (((Kp.refl [] w).alloc (.cells (xcs x) 37)).alloc (.cells (ecl v la lc) 34)))
  have hop : bat5 b x.s = (bst st x.s).map Ob.d := by
    unfold bat5 bst
    split
    · exact (hb5.op _).symm
    · rfl
  have HN0 := hide (show bnote b x v last = match bat5 b x.s with | none => b | some d => if v.c = 0 then ⟨upd b.op x.s.toNat (some { d with acts := d.acts ++ [nact x v] }), b.dn⟩ else b by unfold bnote; rw [if_neg (by omega), if_pos hx]; rfl)
  rw [hop] at HN0
  have hbop := hb5.op
  have hoa := hb5.oa
  clear hz hb5 hbk hls hop
  obtain ⟨xd, xs, xm, xa, xk, xt, xp, xb⟩ := x
  obtain ⟨vc, vn, vt, vs, vl⟩ := v
  dsimp only [xcs, ecl] at *
  obtain ⟨ln, hln⟩ : ∃ ln, vl.length = ln := ⟨_, rfl⟩
  rw [hln] at HBK HLS ⊢
  have HLL := hide hln
  clear hln
  cases hbst : bst st xs with
  | none =>
    have hbn : bnote b ⟨xd, xs, xm, xa, xk, xt, xp, xb⟩ ⟨vc, vn, vt, vs, vl⟩ last = b := by rw [unhide HN0, hbst]; rfl
    rw [hbn]
    have HB := hide (fun W {o1 o2 : Thing} (h : Book w0 W bb st a c ys (o1 :: o2 :: r)) => bk_close (unhide HB5) h.tail.tail)
    clear hbn hbop hoa
    go_enter Try.func115, Try.ntmps115
    go_wp2_with fail
    refine (bk_find xs (unhide HBK)).mono ?_
    rintro e w' ⟨rfl, hw'⟩
    subst w'
    rw [hbst]
    dsimp only [bp, Option.map_none]
    go_wp2_with fail
    refine bodyPost_ret (v := .tuple #[]) (by simp [results, Try.results115, go_sem]) rfl ?_
    exact ⟨rfl, unhide HB _ (unhide HBK)⟩
  | some o =>
    rw [hbst] at HN0
    dsimp only [Option.map_some] at HN0
    by_cases hc : vc = 0
    · subst hc
      have hs : 0 ≤ xs ∧ xs < 5 := by
        unfold bst at hbst
        split at hbst
        · assumption
        · cases hbst
      obtain ⟨j, hjx, hj⟩ := seat_in hs
      have hjs : xs.toNat = j := by omega
      have hst : st j = some o := by unfold bst at hbst; rw [if_pos hs, hjs] at hbst; exact hbst
      have hlen : o.ys.length ≤ 1000 := by
        have h1 := hbop j
        rw [hst] at h1
        have h2 := hb j _ h1.symm
        rw [hoa j o hst, List.length_map] at h2
        exact h2
      clear hbop hoa hb hs hjx
      by_cases hk2 : xd = 2
      · skip
        subst hk2
        have HBN := hide (show bnote b ⟨2, xs, xm, xa, xk, xt, xp, xb⟩ ⟨0, vn, vt, vs, vl⟩ last = ⟨upd b.op j (some ⟨o.d.n, o.d.at_, o.d.md, o.d.acts ++ [⟨2, xk, 0, vt, vs, []⟩]⟩), b.dn⟩ by rw [unhide HN0, if_pos rfl, hjs]; rfl)
        go_enter Try.func115, Try.ntmps115
        go_wp2_with fail
        generalize (w.alloc (.cells #[.int .i64 2, .int .i64 xs, .int .i64 xm, .int .i64 xa, .int .i64 xk, .int .i64 xt, .int .i64 xp, .string xb] 37)).alloc (.cells #[.int .i64 0, .int .i64 vn, .bool vt, .string vs, .slice la ln lc] 34) = W at HBK HLS ⊢
        generalize w.heap.size + 1 = q5 at HBK ⊢
        generalize w.heap.size = q4 at HBK ⊢
        refine (bk_find xs (unhide HBK)).mono ?_
        rintro e w' ⟨rfl, hw'⟩
        subst w'
        rw [hbst]
        dsimp only [bp, Option.map_some]
        have hx := (unhide HBK).var (List.Mem.tail _ (List.Mem.head _))
        have hv := (unhide HBK).var (List.Mem.head _)
        have x0 : W.cell? ⟨q4, 0, none⟩ = some (.int .i64 2) := cell_of_block hx rfl
        have x1 : W.cell? ⟨q4, 1, none⟩ = some (.int .i64 xs) := cell_of_block hx rfl
        have x4 : W.cell? ⟨q4, 4, none⟩ = some (.int .i64 xk) := cell_of_block hx rfl
        have x5 : W.cell? ⟨q4, 5, none⟩ = some (.int .i64 xt) := cell_of_block hx rfl
        have x7 : W.cell? ⟨q4, 7, none⟩ = some (.string xb) := cell_of_block hx rfl
        have v0 : W.cell? ⟨q5, 0, none⟩ = some (.int .i64 0) := cell_of_block hv rfl
        have v2 : W.cell? ⟨q5, 2, none⟩ = some (.bool vt) := cell_of_block hv rfl
        have v3 : W.cell? ⟨q5, 3, none⟩ = some (.string vs) := cell_of_block hv rfl
        have v4 : W.cell? ⟨q5, 4, none⟩ = some (.slice la ln lc) := cell_of_block hv rfl
        have hq4 := lt_of_block hx
        have hq5 := lt_of_block hv
        have n4 : q4 ≠ W.heap.size := by omega
        have n5 : q5 ≠ W.heap.size := by omega
        clear hx hv
        have HB1 := hide ((unhide HBK).new #[.int .i64 2, .int .i64 xk, .int .i64 0, .bool vt, .string vs, .slice none 0 0] 101).nil
        go_wp2_with fail
        generalize W.alloc (.cells #[.int .i64 2, .int .i64 xk, .int .i64 0, .bool vt, .string vs, .slice none 0 0] 101) = W1 at HB1 ⊢
        generalize W.heap.size = q7 at HB1 ⊢
        clear n4 n5 hq4 hq5 x0 x1 x4 x5 x7 v0 v2 v3 v4 HLS
        obtain ⟨l1, l2, hg⟩ := Gon.mk_ (y := ⟨⟨2, xk, 0, vt, vs, []⟩, none, 0⟩) (unhide HB1) hj hst
        have HG := hide hg
        have hrow := act_row (l1 := [axT ⟨⟨2, xk, 0, vt, vs, []⟩, none, 0⟩]) hg.zoo
        have HROW := hide hrow
        have hobx := zoo_varm hg.zoo (List.Mem.tail _ (List.Mem.tail _ (List.Mem.head _)))
        have hq7 := zoo_varm hg.zoo (List.Mem.tail _ (List.Mem.tail _ (List.Mem.tail _ (List.Mem.head _))))
        have o3 : W1.cell? ⟨o.b, 3, none⟩ = some (.slice o.a o.ys.length o.c) := cell_of_block hobx rfl
        have fo3 := frozen_of_block 3 hobx
        have hol := lt_of_block hobx
        have hq7l := lt_of_block hq7
        have hBw := Zoo.base hg.zoo
        have ya0 : W1.cell? ⟨q7, 0, none⟩ = some (.int .i64 2) := cell_of_block hq7 rfl
        have ya1 : W1.cell? ⟨q7, 1, none⟩ = some (.int .i64 xk) := cell_of_block hq7 rfl
        have ya2 : W1.cell? ⟨q7, 2, none⟩ = some (.int .i64 0) := cell_of_block hq7 rfl
        have ya3 : W1.cell? ⟨q7, 3, none⟩ = some (.bool vt) := cell_of_block hq7 rfl
        have ya4 : W1.cell? ⟨q7, 4, none⟩ = some (.string vs) := cell_of_block hq7 rfl
        have ya5 : W1.cell? ⟨q7, 5, none⟩ = some (.slice none 0 0) := cell_of_block hq7 rfl
        clear hg hrow hobx hq7 HB1 HBK
        obtain ⟨n, hn⟩ : ∃ n, o.ys.length = n := ⟨_, rfl⟩
        rw [hn] at o3
        have HROW2 : Hid (KRow 101 6 w0.heap.size W1 o.a n o.c (axcs o.ys)) := by rw [← hn]; exact unhide HROW
        have HN := hide hn
        have hn1000 : n ≤ 1000 := by rw [← hn]; exact hlen
        clear hn HROW hlen
        have far := fun (W2 : World) (a2 : Option Addr) (c2 : Nat) (g1 : Hid (KRow 101 6 w0.heap.size W2 a2 (n + 1) c2 (axcs o.ys ++ [.int .i64 2, .int .i64 xk, .int .i64 0, .bool vt, .string vs, .slice none 0 0]))) (g2 : Hid (Kp (ob o.a) (W1.alloc (.cells #[.int .i64 2, .int .i64 xk, .int .i64 0, .bool vt, .string vs, .slice none 0 0] 101)).drew W2)) (g3 : Hid (∀ x ∈ ob a2, x ∈ ob o.a ∨ (W1.alloc (.cells #[.int .i64 2, .int .i64 xk, .int .i64 0, .bool vt, .string vs, .slice none 0 0] 101)).drew.heap.size ≤ x)) => act_more (y := ⟨⟨2, xk, 0, vt, vs, []⟩, none, 0⟩) (ac := o.a) (cc := o.c) (zs := o.ys) (((unhide HG).zoo).kp0 (((Kp.refl [] W1).alloc (.cells #[.int .i64 2, .int .i64 xk, .int .i64 0, .bool vt, .string vs, .slice none 0 0] 101)).drew)) (by rw [unhide HN]; exact unhide g1) (unhide g2) (unhide g3)
        have FAR := hide far
        clear far
        go_wp2_with fail
        go_region_law (refine step_krow (by rfl) (.tmp 50) (.tmp 52) 88 (by rfl) hu Try.info101 rfl (by omega) ((unhide HROW2).kp0 (((Kp.refl [] W1).alloc _).drew)) (by simp; omega) (.slice (some ⟨W1.heap.size, 0, none⟩) 1 1) [.int .i64 2, .int .i64 xk, .int .i64 0, .bool vt, .string vs, .slice none 0 0] 1 (by rfl) (by rfl) (src_built (cs := #[.int .i64 2, .int .i64 xk, .int .i64 0, .bool vt, .string vs, .slice none 0 0]) (T := 101) (fr := (0, 0)) hu (heap_alloc_new W1 _) rfl (by simp [Value.oneCell'])) (by omega) (n + 1) rfl ?_; intro a2 c2 w2 g1 g2 g3; have HZ2 := hide (unhide FAR w2 a2 c2 g1 g2 g3); have hob2 := zoo_varm (unhide HZ2) (List.Mem.tail _ (List.Mem.head _)); have r0 : w2.cell? ⟨o.b, 3, none⟩ = some (.slice o.a o.ys.length o.c) := cell_of_block hob2 rfl; have r1 := frozen_of_block 3 hob2; clear g1 g2 g3 hob2)
        all_goals
          go_wp2_with fail
          go_end0
          refine ⟨rfl, ?_⟩
          have z := (unhide HG).fin hj hst (unhide HZ2)
          rw [unhide HN] at z
          refine bk_close ?_ (z.tail.tail)
          have s1 := (unhide HB5).sit j (some ⟨o.b, ⟨o.d.n, o.d.at_, o.d.md, o.d.acts ++ [⟨2, xk, 0, vt, vs, []⟩]⟩, o.ys ++ [⟨⟨2, xk, 0, vt, vs, []⟩, none, 0⟩], a2, c2⟩) (fun z hz => by cases hz; simp [(unhide HB5).oa j o hst])
          rw [unhide HBN]
          exact s1
      by_cases hk3 : xd = 3
      · skip
        subst hk3
        have HBN := hide (show bnote b ⟨3, xs, xm, xa, xk, xt, xp, xb⟩ ⟨0, vn, vt, vs, vl⟩ last = ⟨upd b.op j (some ⟨o.d.n, o.d.at_, o.d.md, o.d.acts ++ [⟨3, xk, 0, true, xb, []⟩]⟩), b.dn⟩ by rw [unhide HN0, if_pos rfl, hjs]; rfl)
        go_enter Try.func115, Try.ntmps115
        go_wp2_with fail
        generalize (w.alloc (.cells #[.int .i64 3, .int .i64 xs, .int .i64 xm, .int .i64 xa, .int .i64 xk, .int .i64 xt, .int .i64 xp, .string xb] 37)).alloc (.cells #[.int .i64 0, .int .i64 vn, .bool vt, .string vs, .slice la ln lc] 34) = W at HBK HLS ⊢
        generalize w.heap.size + 1 = q5 at HBK ⊢
        generalize w.heap.size = q4 at HBK ⊢
        refine (bk_find xs (unhide HBK)).mono ?_
        rintro e w' ⟨rfl, hw'⟩
        subst w'
        rw [hbst]
        dsimp only [bp, Option.map_some]
        have hx := (unhide HBK).var (List.Mem.tail _ (List.Mem.head _))
        have hv := (unhide HBK).var (List.Mem.head _)
        have x0 : W.cell? ⟨q4, 0, none⟩ = some (.int .i64 3) := cell_of_block hx rfl
        have x1 : W.cell? ⟨q4, 1, none⟩ = some (.int .i64 xs) := cell_of_block hx rfl
        have x4 : W.cell? ⟨q4, 4, none⟩ = some (.int .i64 xk) := cell_of_block hx rfl
        have x5 : W.cell? ⟨q4, 5, none⟩ = some (.int .i64 xt) := cell_of_block hx rfl
        have x7 : W.cell? ⟨q4, 7, none⟩ = some (.string xb) := cell_of_block hx rfl
        have v0 : W.cell? ⟨q5, 0, none⟩ = some (.int .i64 0) := cell_of_block hv rfl
        have v2 : W.cell? ⟨q5, 2, none⟩ = some (.bool vt) := cell_of_block hv rfl
        have v3 : W.cell? ⟨q5, 3, none⟩ = some (.string vs) := cell_of_block hv rfl
        have v4 : W.cell? ⟨q5, 4, none⟩ = some (.slice la ln lc) := cell_of_block hv rfl
        have hq4 := lt_of_block hx
        have hq5 := lt_of_block hv
        have n4 : q4 ≠ W.heap.size := by omega
        have n5 : q5 ≠ W.heap.size := by omega
        clear hx hv
        have HB1 := hide ((unhide HBK).new #[.int .i64 3, .int .i64 xk, .int .i64 0, .bool true, .string xb, .slice none 0 0] 101).nil
        go_wp2_with fail
        generalize W.alloc (.cells #[.int .i64 3, .int .i64 xk, .int .i64 0, .bool true, .string xb, .slice none 0 0] 101) = W1 at HB1 ⊢
        generalize W.heap.size = q7 at HB1 ⊢
        clear n4 n5 hq4 hq5 x0 x1 x4 x5 x7 v0 v2 v3 v4 HLS
        obtain ⟨l1, l2, hg⟩ := Gon.mk_ (y := ⟨⟨3, xk, 0, true, xb, []⟩, none, 0⟩) (unhide HB1) hj hst
        have HG := hide hg
        have hrow := act_row (l1 := [axT ⟨⟨3, xk, 0, true, xb, []⟩, none, 0⟩]) hg.zoo
        have HROW := hide hrow
        have hobx := zoo_varm hg.zoo (List.Mem.tail _ (List.Mem.tail _ (List.Mem.head _)))
        have hq7 := zoo_varm hg.zoo (List.Mem.tail _ (List.Mem.tail _ (List.Mem.tail _ (List.Mem.head _))))
        have o3 : W1.cell? ⟨o.b, 3, none⟩ = some (.slice o.a o.ys.length o.c) := cell_of_block hobx rfl
        have fo3 := frozen_of_block 3 hobx
        have hol := lt_of_block hobx
        have hq7l := lt_of_block hq7
        have hBw := Zoo.base hg.zoo
        have ya0 : W1.cell? ⟨q7, 0, none⟩ = some (.int .i64 3) := cell_of_block hq7 rfl
        have ya1 : W1.cell? ⟨q7, 1, none⟩ = some (.int .i64 xk) := cell_of_block hq7 rfl
        have ya2 : W1.cell? ⟨q7, 2, none⟩ = some (.int .i64 0) := cell_of_block hq7 rfl
        have ya3 : W1.cell? ⟨q7, 3, none⟩ = some (.bool true) := cell_of_block hq7 rfl
        have ya4 : W1.cell? ⟨q7, 4, none⟩ = some (.string xb) := cell_of_block hq7 rfl
        have ya5 : W1.cell? ⟨q7, 5, none⟩ = some (.slice none 0 0) := cell_of_block hq7 rfl
        clear hg hrow hobx hq7 HB1 HBK
        obtain ⟨n, hn⟩ : ∃ n, o.ys.length = n := ⟨_, rfl⟩
        rw [hn] at o3
        have HROW2 : Hid (KRow 101 6 w0.heap.size W1 o.a n o.c (axcs o.ys)) := by rw [← hn]; exact unhide HROW
        have HN := hide hn
        have hn1000 : n ≤ 1000 := by rw [← hn]; exact hlen
        clear hn HROW hlen
        have far := fun (W2 : World) (a2 : Option Addr) (c2 : Nat) (g1 : Hid (KRow 101 6 w0.heap.size W2 a2 (n + 1) c2 (axcs o.ys ++ [.int .i64 3, .int .i64 xk, .int .i64 0, .bool true, .string xb, .slice none 0 0]))) (g2 : Hid (Kp (ob o.a) (W1.alloc (.cells #[.int .i64 3, .int .i64 xk, .int .i64 0, .bool true, .string xb, .slice none 0 0] 101)).drew W2)) (g3 : Hid (∀ x ∈ ob a2, x ∈ ob o.a ∨ (W1.alloc (.cells #[.int .i64 3, .int .i64 xk, .int .i64 0, .bool true, .string xb, .slice none 0 0] 101)).drew.heap.size ≤ x)) => act_more (y := ⟨⟨3, xk, 0, true, xb, []⟩, none, 0⟩) (ac := o.a) (cc := o.c) (zs := o.ys) (((unhide HG).zoo).kp0 (((Kp.refl [] W1).alloc (.cells #[.int .i64 3, .int .i64 xk, .int .i64 0, .bool true, .string xb, .slice none 0 0] 101)).drew)) (by rw [unhide HN]; exact unhide g1) (unhide g2) (unhide g3)
        have FAR := hide far
        clear far
        go_wp2_with fail
        go_region_law (refine step_krow (by rfl) (.tmp 50) (.tmp 52) 88 (by rfl) hu Try.info101 rfl (by omega) ((unhide HROW2).kp0 (((Kp.refl [] W1).alloc _).drew)) (by simp; omega) (.slice (some ⟨W1.heap.size, 0, none⟩) 1 1) [.int .i64 3, .int .i64 xk, .int .i64 0, .bool true, .string xb, .slice none 0 0] 1 (by rfl) (by rfl) (src_built (cs := #[.int .i64 3, .int .i64 xk, .int .i64 0, .bool true, .string xb, .slice none 0 0]) (T := 101) (fr := (0, 0)) hu (heap_alloc_new W1 _) rfl (by simp [Value.oneCell'])) (by omega) (n + 1) rfl ?_; intro a2 c2 w2 g1 g2 g3; have HZ2 := hide (unhide FAR w2 a2 c2 g1 g2 g3); have hob2 := zoo_varm (unhide HZ2) (List.Mem.tail _ (List.Mem.head _)); have r0 : w2.cell? ⟨o.b, 3, none⟩ = some (.slice o.a o.ys.length o.c) := cell_of_block hob2 rfl; have r1 := frozen_of_block 3 hob2; clear g1 g2 g3 hob2)
        all_goals
          go_wp2_with fail
          go_end0
          refine ⟨rfl, ?_⟩
          have z := (unhide HG).fin hj hst (unhide HZ2)
          rw [unhide HN] at z
          refine bk_close ?_ (z.tail.tail)
          have s1 := (unhide HB5).sit j (some ⟨o.b, ⟨o.d.n, o.d.at_, o.d.md, o.d.acts ++ [⟨3, xk, 0, true, xb, []⟩]⟩, o.ys ++ [⟨⟨3, xk, 0, true, xb, []⟩, none, 0⟩], a2, c2⟩) (fun z hz => by cases hz; simp [(unhide HB5).oa j o hst])
          rw [unhide HBN]
          exact s1
      by_cases hk4 : xd = 4
      · skip
        subst hk4
        have HBN := hide (show bnote b ⟨4, xs, xm, xa, xk, xt, xp, xb⟩ ⟨0, vn, vt, vs, vl⟩ last = ⟨upd b.op j (some ⟨o.d.n, o.d.at_, o.d.md, o.d.acts ++ [⟨4, xk, 0, false, ⟨#[]⟩, []⟩]⟩), b.dn⟩ by rw [unhide HN0, if_pos rfl, hjs]; rfl)
        go_enter Try.func115, Try.ntmps115
        go_wp2_with fail
        generalize (w.alloc (.cells #[.int .i64 4, .int .i64 xs, .int .i64 xm, .int .i64 xa, .int .i64 xk, .int .i64 xt, .int .i64 xp, .string xb] 37)).alloc (.cells #[.int .i64 0, .int .i64 vn, .bool vt, .string vs, .slice la ln lc] 34) = W at HBK HLS ⊢
        generalize w.heap.size + 1 = q5 at HBK ⊢
        generalize w.heap.size = q4 at HBK ⊢
        refine (bk_find xs (unhide HBK)).mono ?_
        rintro e w' ⟨rfl, hw'⟩
        subst w'
        rw [hbst]
        dsimp only [bp, Option.map_some]
        have hx := (unhide HBK).var (List.Mem.tail _ (List.Mem.head _))
        have hv := (unhide HBK).var (List.Mem.head _)
        have x0 : W.cell? ⟨q4, 0, none⟩ = some (.int .i64 4) := cell_of_block hx rfl
        have x1 : W.cell? ⟨q4, 1, none⟩ = some (.int .i64 xs) := cell_of_block hx rfl
        have x4 : W.cell? ⟨q4, 4, none⟩ = some (.int .i64 xk) := cell_of_block hx rfl
        have x5 : W.cell? ⟨q4, 5, none⟩ = some (.int .i64 xt) := cell_of_block hx rfl
        have x7 : W.cell? ⟨q4, 7, none⟩ = some (.string xb) := cell_of_block hx rfl
        have v0 : W.cell? ⟨q5, 0, none⟩ = some (.int .i64 0) := cell_of_block hv rfl
        have v2 : W.cell? ⟨q5, 2, none⟩ = some (.bool vt) := cell_of_block hv rfl
        have v3 : W.cell? ⟨q5, 3, none⟩ = some (.string vs) := cell_of_block hv rfl
        have v4 : W.cell? ⟨q5, 4, none⟩ = some (.slice la ln lc) := cell_of_block hv rfl
        have hq4 := lt_of_block hx
        have hq5 := lt_of_block hv
        have n4 : q4 ≠ W.heap.size := by omega
        have n5 : q5 ≠ W.heap.size := by omega
        clear hx hv
        have HB1 := hide ((unhide HBK).new #[.int .i64 4, .int .i64 xk, .int .i64 0, .bool false, .string ⟨#[]⟩, .slice none 0 0] 101).nil
        go_wp2_with fail
        generalize W.alloc (.cells #[.int .i64 4, .int .i64 xk, .int .i64 0, .bool false, .string ⟨#[]⟩, .slice none 0 0] 101) = W1 at HB1 ⊢
        generalize W.heap.size = q7 at HB1 ⊢
        clear n4 n5 hq4 hq5 x0 x1 x4 x5 x7 v0 v2 v3 v4 HLS
        obtain ⟨l1, l2, hg⟩ := Gon.mk_ (y := ⟨⟨4, xk, 0, false, ⟨#[]⟩, []⟩, none, 0⟩) (unhide HB1) hj hst
        have HG := hide hg
        have hrow := act_row (l1 := [axT ⟨⟨4, xk, 0, false, ⟨#[]⟩, []⟩, none, 0⟩]) hg.zoo
        have HROW := hide hrow
        have hobx := zoo_varm hg.zoo (List.Mem.tail _ (List.Mem.tail _ (List.Mem.head _)))
        have hq7 := zoo_varm hg.zoo (List.Mem.tail _ (List.Mem.tail _ (List.Mem.tail _ (List.Mem.head _))))
        have o3 : W1.cell? ⟨o.b, 3, none⟩ = some (.slice o.a o.ys.length o.c) := cell_of_block hobx rfl
        have fo3 := frozen_of_block 3 hobx
        have hol := lt_of_block hobx
        have hq7l := lt_of_block hq7
        have hBw := Zoo.base hg.zoo
        have ya0 : W1.cell? ⟨q7, 0, none⟩ = some (.int .i64 4) := cell_of_block hq7 rfl
        have ya1 : W1.cell? ⟨q7, 1, none⟩ = some (.int .i64 xk) := cell_of_block hq7 rfl
        have ya2 : W1.cell? ⟨q7, 2, none⟩ = some (.int .i64 0) := cell_of_block hq7 rfl
        have ya3 : W1.cell? ⟨q7, 3, none⟩ = some (.bool false) := cell_of_block hq7 rfl
        have ya4 : W1.cell? ⟨q7, 4, none⟩ = some (.string ⟨#[]⟩) := cell_of_block hq7 rfl
        have ya5 : W1.cell? ⟨q7, 5, none⟩ = some (.slice none 0 0) := cell_of_block hq7 rfl
        clear hg hrow hobx hq7 HB1 HBK
        obtain ⟨n, hn⟩ : ∃ n, o.ys.length = n := ⟨_, rfl⟩
        rw [hn] at o3
        have HROW2 : Hid (KRow 101 6 w0.heap.size W1 o.a n o.c (axcs o.ys)) := by rw [← hn]; exact unhide HROW
        have HN := hide hn
        have hn1000 : n ≤ 1000 := by rw [← hn]; exact hlen
        clear hn HROW hlen
        have far := fun (W2 : World) (a2 : Option Addr) (c2 : Nat) (g1 : Hid (KRow 101 6 w0.heap.size W2 a2 (n + 1) c2 (axcs o.ys ++ [.int .i64 4, .int .i64 xk, .int .i64 0, .bool false, .string ⟨#[]⟩, .slice none 0 0]))) (g2 : Hid (Kp (ob o.a) (W1.alloc (.cells #[.int .i64 4, .int .i64 xk, .int .i64 0, .bool false, .string ⟨#[]⟩, .slice none 0 0] 101)).drew W2)) (g3 : Hid (∀ x ∈ ob a2, x ∈ ob o.a ∨ (W1.alloc (.cells #[.int .i64 4, .int .i64 xk, .int .i64 0, .bool false, .string ⟨#[]⟩, .slice none 0 0] 101)).drew.heap.size ≤ x)) => act_more (y := ⟨⟨4, xk, 0, false, ⟨#[]⟩, []⟩, none, 0⟩) (ac := o.a) (cc := o.c) (zs := o.ys) (((unhide HG).zoo).kp0 (((Kp.refl [] W1).alloc (.cells #[.int .i64 4, .int .i64 xk, .int .i64 0, .bool false, .string ⟨#[]⟩, .slice none 0 0] 101)).drew)) (by rw [unhide HN]; exact unhide g1) (unhide g2) (unhide g3)
        have FAR := hide far
        clear far
        go_wp2_with fail
        go_region_law (refine step_krow (by rfl) (.tmp 50) (.tmp 52) 88 (by rfl) hu Try.info101 rfl (by omega) ((unhide HROW2).kp0 (((Kp.refl [] W1).alloc _).drew)) (by simp; omega) (.slice (some ⟨W1.heap.size, 0, none⟩) 1 1) [.int .i64 4, .int .i64 xk, .int .i64 0, .bool false, .string ⟨#[]⟩, .slice none 0 0] 1 (by rfl) (by rfl) (src_built (cs := #[.int .i64 4, .int .i64 xk, .int .i64 0, .bool false, .string ⟨#[]⟩, .slice none 0 0]) (T := 101) (fr := (0, 0)) hu (heap_alloc_new W1 _) rfl (by simp [Value.oneCell'])) (by omega) (n + 1) rfl ?_; intro a2 c2 w2 g1 g2 g3; have HZ2 := hide (unhide FAR w2 a2 c2 g1 g2 g3); have hob2 := zoo_varm (unhide HZ2) (List.Mem.tail _ (List.Mem.head _)); have r0 : w2.cell? ⟨o.b, 3, none⟩ = some (.slice o.a o.ys.length o.c) := cell_of_block hob2 rfl; have r1 := frozen_of_block 3 hob2; clear g1 g2 g3 hob2)
        all_goals
          go_wp2_with fail
          go_end0
          refine ⟨rfl, ?_⟩
          have z := (unhide HG).fin hj hst (unhide HZ2)
          rw [unhide HN] at z
          refine bk_close ?_ (z.tail.tail)
          have s1 := (unhide HB5).sit j (some ⟨o.b, ⟨o.d.n, o.d.at_, o.d.md, o.d.acts ++ [⟨4, xk, 0, false, ⟨#[]⟩, []⟩]⟩, o.ys ++ [⟨⟨4, xk, 0, false, ⟨#[]⟩, []⟩, none, 0⟩], a2, c2⟩) (fun z hz => by cases hz; simp [(unhide HB5).oa j o hst])
          rw [unhide HBN]
          exact s1
      · have hk5 : xd = 5 := by omega
        subst hk5
        have HBN := hide (show bnote b ⟨5, xs, xm, xa, xk, xt, xp, xb⟩ ⟨0, vn, vt, vs, vl⟩ last = ⟨upd b.op j (some ⟨o.d.n, o.d.at_, o.d.md, o.d.acts ++ [⟨5, xk, xt, false, ⟨#[]⟩, vl⟩]⟩), b.dn⟩ by rw [unhide HN0, if_pos rfl, hjs]; rfl)
        go_enter Try.func115, Try.ntmps115
        go_wp2_with fail
        generalize (w.alloc (.cells #[.int .i64 5, .int .i64 xs, .int .i64 xm, .int .i64 xa, .int .i64 xk, .int .i64 xt, .int .i64 xp, .string xb] 37)).alloc (.cells #[.int .i64 0, .int .i64 vn, .bool vt, .string vs, .slice la ln lc] 34) = W at HBK HLS ⊢
        generalize w.heap.size + 1 = q5 at HBK ⊢
        generalize w.heap.size = q4 at HBK ⊢
        refine (bk_find xs (unhide HBK)).mono ?_
        rintro e w' ⟨rfl, hw'⟩
        subst w'
        rw [hbst]
        dsimp only [bp, Option.map_some]
        have hx := (unhide HBK).var (List.Mem.tail _ (List.Mem.head _))
        have hv := (unhide HBK).var (List.Mem.head _)
        have x0 : W.cell? ⟨q4, 0, none⟩ = some (.int .i64 5) := cell_of_block hx rfl
        have x1 : W.cell? ⟨q4, 1, none⟩ = some (.int .i64 xs) := cell_of_block hx rfl
        have x4 : W.cell? ⟨q4, 4, none⟩ = some (.int .i64 xk) := cell_of_block hx rfl
        have x5 : W.cell? ⟨q4, 5, none⟩ = some (.int .i64 xt) := cell_of_block hx rfl
        have x7 : W.cell? ⟨q4, 7, none⟩ = some (.string xb) := cell_of_block hx rfl
        have v0 : W.cell? ⟨q5, 0, none⟩ = some (.int .i64 0) := cell_of_block hv rfl
        have v2 : W.cell? ⟨q5, 2, none⟩ = some (.bool vt) := cell_of_block hv rfl
        have v3 : W.cell? ⟨q5, 3, none⟩ = some (.string vs) := cell_of_block hv rfl
        have v4 : W.cell? ⟨q5, 4, none⟩ = some (.slice la ln lc) := cell_of_block hv rfl
        have hq4 := lt_of_block hx
        have hq5 := lt_of_block hv
        have n4 : q4 ≠ W.heap.size := by omega
        have n5 : q5 ≠ W.heap.size := by omega
        clear hx hv
        have HB0 := hide ((unhide HBK).new #[.int .i64 5, .int .i64 xk, .int .i64 0, .bool false, .string ⟨#[]⟩, .slice none 0 0] 101)
        have HLS0 := hide ((unhide HLS).kp0 ((Kp.refl [] W).alloc (.cells #[.int .i64 5, .int .i64 xk, .int .i64 0, .bool false, .string ⟨#[]⟩, .slice none 0 0] 101)))
        go_wp2_with fail
        generalize W.alloc (.cells #[.int .i64 5, .int .i64 xk, .int .i64 0, .bool false, .string ⟨#[]⟩, .slice none 0 0] 101) = W0 at HB0 HLS0 ⊢
        generalize W.heap.size = q7 at HB0 n4 n5 ⊢
        clear hq4 hq5 x0 x1 x4 x5 x7 v0 v2 v3 v4 HLS
        have HBD := hide ((unhide HB0).kp0 (Kp.refl [] _).drew)
        have hx := (unhide HBD).var (List.Mem.tail _ (List.Mem.tail _ (List.Mem.head _)))
        have hv := (unhide HBD).var (List.Mem.tail _ (List.Mem.head _))
        have hy := (unhide HBD).var (List.Mem.head _)
        have HSS := hide (show W0.drew.cell? ⟨q4, 5, none⟩ = some (.int .i64 xt) ∧ W0.drew.cell? ⟨q5, 4, none⟩ = some (.slice la ln lc) from ⟨cell_of_block hx rfl, cell_of_block hv rfl⟩)
        clear hx hv hy
        refine wp_region_held_drew (S := fun w' => w'.cell? ⟨q4, 5, none⟩ = some (.int .i64 xt) ∧ w'.cell? ⟨q5, 4, none⟩ = some (.slice la ln lc)) (by kernel_rfl) (unhide HSS) (fun hHeld => ?_)
        refine wpAnyH_tk (i := 0) (v := ?_) rfl (by kernel_rfl) (by kernel_rfl) (by kernel_rfl) (fun _ _ _ h => h) (Or.inl ⟨by rfl, ?_⟩) hHeld ?_
        rotate_left
        · intro w hSw
          try dsimp only at hSw
          go_simp
          try with_reducible rfl
        try simp only [Act.put, List.setIfInBounds_toArray, List.set_cons_zero, List.set_cons_succ]
        refine wpAnyH_tk (i := 1) (v := ?_) rfl (by kernel_rfl) (by kernel_rfl) (by kernel_rfl) (fun _ _ _ h => h) (Or.inl ⟨by rfl, ?_⟩) hHeld ?_
        rotate_left
        · intro w hSw
          try dsimp only at hSw
          go_simp
          try with_reducible rfl
        try simp only [Act.put, List.setIfInBounds_toArray, List.set_cons_zero, List.set_cons_succ]
        refine wpAnyH_tk (i := 2) (v := ?_) rfl (by kernel_rfl) (by kernel_rfl) (by kernel_rfl) (fun _ _ _ h => h) (Or.inl ⟨by rfl, ?_⟩) hHeld ?_
        rotate_left
        · intro w hSw
          try dsimp only at hSw
          go_simp
          try with_reducible rfl
        try simp only [Act.put, List.setIfInBounds_toArray, List.set_cons_zero, List.set_cons_succ]
        refine wpAnyH_tk (i := 3) (v := ?_) rfl (by kernel_rfl) (by kernel_rfl) (by kernel_rfl) (fun _ _ _ h => h) (Or.inl ⟨by rfl, ?_⟩) hHeld ?_
        rotate_left
        · intro w hSw
          try dsimp only at hSw
          go_simp
          try with_reducible rfl
        try simp only [Act.put, List.setIfInBounds_toArray, List.set_cons_zero, List.set_cons_succ]
        refine wpAnyH_tk (i := 5) (v := ?_) rfl (by kernel_rfl) (by kernel_rfl) (by kernel_rfl) (fun _ _ _ h => h) (Or.inl ⟨by rfl, ?_⟩) hHeld ?_
        rotate_left
        · intro w hSw
          try dsimp only at hSw
          go_simp
          try with_reducible rfl
        try simp only [Act.put, List.setIfInBounds_toArray, List.set_cons_zero, List.set_cons_succ]
        refine wpAnyH_only (i := 4) rfl (by kernel_rfl) (fun K hK => ?_)
        go_simp
        rw [← unhide HLL]
        refine (clone118 la lc vl _ ((unhide HLS0).kp0 (Kp.refl [] _).drew) hll).mono ?_
        rintro e w3 ⟨a3, c3, rfl, hr3, hk3⟩
        have HB3 := hide ((unhide HBD).cons (o := KwT 79 3 a3 vl.length c3 (vcells vl)) (F := ob a3) ⟨hr3, rfl⟩ hk3)
        have HK3 := hide hk3
        clear hr3 hk3
        rw [unhide HLL]
        go_wp2_with fail
        refine hK.out _ _ (⟨(unhide HK3).cell (by simp) (unhide HSS).1, (unhide HK3).cell (by simp) (unhide HSS).2⟩) (fun hHeld2 => ?_)
        clear hK K hHeld
        have hHeld := hHeld2
        clear hHeld2
        try simp only [Act.put, List.setIfInBounds_toArray, List.set_cons_zero, List.set_cons_succ]
        have hy := (unhide HB3).var (List.Mem.head _)
        have y2 : w3.cell? ⟨q7, 2, none⟩ = some (.int .i64 0) := cell_of_block hy rfl
        have y5 : w3.cell? ⟨q7, 5, none⟩ = some (.slice none 0 0) := cell_of_block hy rfl
        have fy := fun i => frozen_of_block i hy
        clear hy
        refine wpAnyH_only (i := 6) rfl (by kernel_rfl) (fun K hK => ?_)
        go_simp
        have HB4 := hide (Book.setAt (l1 := []) (unhide HB3) 2 (.int .i64 xt))
        have SS4 : (w3.setCell ⟨q7, 2, none⟩ (.int .i64 xt)).cell? ⟨q4, 5, none⟩ = some (.int .i64 xt) ∧ (w3.setCell ⟨q7, 2, none⟩ (.int .i64 xt)).cell? ⟨q5, 4, none⟩ = some (.slice la ln lc) := ⟨cell_of_block ((unhide HB4).var (List.Mem.tail _ (List.Mem.tail _ (List.Mem.tail _ (List.Mem.head _))))) rfl, cell_of_block ((unhide HB4).var (List.Mem.tail _ (List.Mem.tail _ (List.Mem.head _)))) rfl⟩
        refine hK.out _ _ (SS4) (fun hHeld2 => ?_)
        clear hK K hHeld
        have hHeld := hHeld2
        clear hHeld2
        try simp only [Act.put, List.setIfInBounds_toArray, List.set_cons_zero, List.set_cons_succ]
        have hy4 := (unhide HB4).var (List.Mem.head _)
        have z5 : (w3.setCell ⟨q7, 2, none⟩ (.int .i64 xt)).cell? ⟨q7, 5, none⟩ = some (.slice none 0 0) := cell_of_block hy4 rfl
        have fz5 := frozen_of_block 5 hy4
        clear hy4
        generalize w3.setCell ⟨q7, 2, none⟩ (.int .i64 xt) = w4 at *
        refine wpAnyH_tk (i := 7) (v := ?_) rfl (by kernel_rfl) (by kernel_rfl) (by kernel_rfl) (fun _ _ _ h => h) (Or.inl ⟨by rfl, ?_⟩) hHeld ?_
        rotate_left
        · intro w hSw
          try dsimp only at hSw
          go_simp
          try with_reducible rfl
        try simp only [Act.put, List.setIfInBounds_toArray, List.set_cons_zero, List.set_cons_succ]
        refine wpAnyH_only (i := 8) rfl (by kernel_rfl) (fun K hK => ?_)
        go_simp
        have HB5a := hide (Book.setAt (l1 := []) (unhide HB4) 5 (.slice a3 ln c3))
        have SS5 : (w4.setCell ⟨q7, 5, none⟩ (.slice a3 ln c3)).cell? ⟨q4, 5, none⟩ = some (.int .i64 xt) ∧ (w4.setCell ⟨q7, 5, none⟩ (.slice a3 ln c3)).cell? ⟨q5, 4, none⟩ = some (.slice la ln lc) := ⟨cell_of_block ((unhide HB5a).var (List.Mem.tail _ (List.Mem.tail _ (List.Mem.tail _ (List.Mem.head _))))) rfl, cell_of_block ((unhide HB5a).var (List.Mem.tail _ (List.Mem.tail _ (List.Mem.head _)))) rfl⟩
        refine hK.out _ _ (SS5) (fun hHeld2 => ?_)
        clear hK K hHeld
        have hHeld := hHeld2
        clear hHeld2
        try simp only [Act.put, List.setIfInBounds_toArray, List.set_cons_zero, List.set_cons_succ]
        refine wpAnyH_done (by kernel_rfl) ?_ _
        clear hHeld SS4 SS5 y2 y5 fy z5 fz5 HSS HB0 HBD HB3 HB4 HK3 HLS0
        have HB1 : Hid (Book w0 (w4.setCell ⟨q7, 5, none⟩ (.slice a3 ln c3)) bb st a c ys (BoxT q7 (axc ⟨⟨5, xk, xt, false, ⟨#[]⟩, vl⟩, a3, c3⟩).toArray 101 :: axT ⟨⟨5, xk, xt, false, ⟨#[]⟩, vl⟩, a3, c3⟩ :: BoxT q5 #[.int .i64 0, .int .i64 vn, .bool vt, .string vs, .slice la ln lc] 34 :: BoxT q4 #[.int .i64 5, .int .i64 xs, .int .i64 xm, .int .i64 xa, .int .i64 xk, .int .i64 xt, .int .i64 xp, .string xb] 37 :: r)) := by
          have z := unhide HB5a
          rw [← unhide HLL] at z ⊢
          exact z
        clear HB5a
        generalize w4.setCell ⟨q7, 5, none⟩ (.slice a3 ln c3) = W1 at HB1 ⊢
        go_wp2_with fail
        obtain ⟨l1, l2, hg⟩ := Gon.mk_ (y := ⟨⟨5, xk, xt, false, ⟨#[]⟩, vl⟩, a3, c3⟩) (unhide HB1) hj hst
        have HG := hide hg
        have hrow := act_row (l1 := [axT ⟨⟨5, xk, xt, false, ⟨#[]⟩, vl⟩, a3, c3⟩]) hg.zoo
        have HROW := hide hrow
        have hobx := zoo_varm hg.zoo (List.Mem.tail _ (List.Mem.tail _ (List.Mem.head _)))
        have hq7 := zoo_varm hg.zoo (List.Mem.tail _ (List.Mem.tail _ (List.Mem.tail _ (List.Mem.head _))))
        have o3 : W1.cell? ⟨o.b, 3, none⟩ = some (.slice o.a o.ys.length o.c) := cell_of_block hobx rfl
        have fo3 := frozen_of_block 3 hobx
        have hol := lt_of_block hobx
        have hq7l := lt_of_block hq7
        have hBw := Zoo.base hg.zoo
        have ya0 : W1.cell? ⟨q7, 0, none⟩ = some (.int .i64 5) := cell_of_block hq7 rfl
        have ya1 : W1.cell? ⟨q7, 1, none⟩ = some (.int .i64 xk) := cell_of_block hq7 rfl
        have ya2 : W1.cell? ⟨q7, 2, none⟩ = some (.int .i64 xt) := cell_of_block hq7 rfl
        have ya3 : W1.cell? ⟨q7, 3, none⟩ = some (.bool false) := cell_of_block hq7 rfl
        have ya4 : W1.cell? ⟨q7, 4, none⟩ = some (.string ⟨#[]⟩) := cell_of_block hq7 rfl
        have ya5 : W1.cell? ⟨q7, 5, none⟩ = some (.slice a3 ln c3) := by rw [← unhide HLL]; exact cell_of_block hq7 rfl
        clear hg hrow hobx hq7 HB1 HBK
        obtain ⟨n, hn⟩ : ∃ n, o.ys.length = n := ⟨_, rfl⟩
        rw [hn] at o3
        have HROW2 : Hid (KRow 101 6 w0.heap.size W1 o.a n o.c (axcs o.ys)) := by rw [← hn]; exact unhide HROW
        have HN := hide hn
        have hn1000 : n ≤ 1000 := by rw [← hn]; exact hlen
        clear hn HROW hlen
        have far := fun (W2 : World) (a2 : Option Addr) (c2 : Nat) (g1 : Hid (KRow 101 6 w0.heap.size W2 a2 (n + 1) c2 (axcs o.ys ++ [.int .i64 5, .int .i64 xk, .int .i64 xt, .bool false, .string ⟨#[]⟩, .slice a3 ln c3]))) (g2 : Hid (Kp (ob o.a) (W1.alloc (.cells #[.int .i64 5, .int .i64 xk, .int .i64 xt, .bool false, .string ⟨#[]⟩, .slice a3 ln c3] 101)).drew W2)) (g3 : Hid (∀ x ∈ ob a2, x ∈ ob o.a ∨ (W1.alloc (.cells #[.int .i64 5, .int .i64 xk, .int .i64 xt, .bool false, .string ⟨#[]⟩, .slice a3 ln c3] 101)).drew.heap.size ≤ x)) => act_more (y := ⟨⟨5, xk, xt, false, ⟨#[]⟩, vl⟩, a3, c3⟩) (ac := o.a) (cc := o.c) (zs := o.ys) (((unhide HG).zoo).kp0 (((Kp.refl [] W1).alloc (.cells #[.int .i64 5, .int .i64 xk, .int .i64 xt, .bool false, .string ⟨#[]⟩, .slice a3 ln c3] 101)).drew)) (by rw [unhide HN]; have z := unhide g1; rw [← unhide HLL] at z; exact z) (unhide g2) (unhide g3)
        have FAR := hide far
        clear far
        go_wp2_with fail
        go_region_law (refine step_krow (by rfl) (.tmp 50) (.tmp 52) 88 (by rfl) hu Try.info101 rfl (by omega) ((unhide HROW2).kp0 (((Kp.refl [] W1).alloc _).drew)) (by simp; omega) (.slice (some ⟨W1.heap.size, 0, none⟩) 1 1) [.int .i64 5, .int .i64 xk, .int .i64 xt, .bool false, .string ⟨#[]⟩, .slice a3 ln c3] 1 (by rfl) (by rfl) (src_built (cs := #[.int .i64 5, .int .i64 xk, .int .i64 xt, .bool false, .string ⟨#[]⟩, .slice a3 ln c3]) (T := 101) (fr := (0, 0)) hu (heap_alloc_new W1 _) rfl (by simp [Value.oneCell'])) (by omega) (n + 1) rfl ?_; intro a2 c2 w2 g1 g2 g3; have HZ2 := hide (unhide FAR w2 a2 c2 g1 g2 g3); have hob2 := zoo_varm (unhide HZ2) (List.Mem.tail _ (List.Mem.head _)); have r0 : w2.cell? ⟨o.b, 3, none⟩ = some (.slice o.a o.ys.length o.c) := cell_of_block hob2 rfl; have r1 := frozen_of_block 3 hob2; clear g1 g2 g3 hob2)
        all_goals
          go_wp2_with fail
          go_end0
          refine ⟨rfl, ?_⟩
          have z := (unhide HG).fin hj hst (unhide HZ2)
          rw [unhide HN] at z
          refine bk_close ?_ (z.tail.tail)
          have s1 := (unhide HB5).sit j (some ⟨o.b, ⟨o.d.n, o.d.at_, o.d.md, o.d.acts ++ [⟨5, xk, xt, false, ⟨#[]⟩, vl⟩]⟩, o.ys ++ [⟨⟨5, xk, xt, false, ⟨#[]⟩, vl⟩, a3, c3⟩], a2, c2⟩) (fun z hz => by cases hz; simp [(unhide HB5).oa j o hst])
          rw [unhide HBN]
          exact s1
    · have hbn : bnote b ⟨xd, xs, xm, xa, xk, xt, xp, xb⟩ ⟨vc, vn, vt, vs, vl⟩ last = b := by rw [unhide HN0, if_neg hc]
      rw [hbn]
      have HB := hide (fun W {o1 o2 : Thing} (h : Book w0 W bb st a c ys (o1 :: o2 :: r)) => bk_close (unhide HB5) h.tail.tail)
      clear hbn hbop hoa
      go_enter Try.func115, Try.ntmps115
      go_wp2_with fail
      refine (bk_find xs (unhide HBK)).mono ?_
      rintro e w' ⟨rfl, hw'⟩
      subst w'
      rw [hbst]
      dsimp only [bp, Option.map_some]
      go_wp2_with fail
      refine bodyPost_ret (v := .tuple #[]) (by simp [results, Try.results115, go_sem]) rfl ?_
      exact ⟨rfl, unhide HB _ (unhide HBK)⟩
end Go.Proofs.Ytapmlleemopcnac
