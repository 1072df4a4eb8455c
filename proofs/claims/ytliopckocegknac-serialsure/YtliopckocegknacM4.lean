/- Hi2, Hi3, Hi4, Hj, Hj2, Hk, Hn, Ba, Bb, Hbg, V4, Hl, Hv, Bc, Bd, Be, Bf, Bg, Sr, Bh, Bi, Bj, Bk, Ry: bound together for a claim. -/
import Derived.Test.YtliopckocegknacM3
import Derived.BigRegion
import Derived.Deep.MidRow
import Derived.Deep.AppendLies
import Derived.Deep.RegionLaw
import Derived.BigQuiet
/- A hall's goOn: Put and Drop. -/
namespace Go.Proofs.Ytliopckocegknac
open Go.RowKit
set_option maxRecDepth 20000
attribute [local go_sem ↓] Go.wp_at_zero Go.wp_at_succ

section
variable {w0 w : World} {hb vb tb gb : Nat} {h : HSt} {st : Nat → Sd} {r : List Thing}
set_option maxHeartbeats 1000000 in
theorem go_put (x : HStep) (hx : x.d = 3) {j D : Nat} {d : Dp} (hj : x.s = (j : Int)) (h5 : j < 5) (hsd : st j = some (D, d)) (hs : Sts st h.seat) (hz : Hall w0 w hb vb tb gb h st r) (hsz : x.b.size ≤ maxLen) :
    Calls Try.prog 64 #[.pointer (some ⟨hb, 0, none⟩), .agg #[.int .i64 x.d, .int .i64 x.s, .int .i64 x.md, .int .i64 x.at_, .int .i64 x.key, .int .i64 x.to_, .int .i64 x.keep, .string x.b]] w fun e w' => GoEnd w0 hb vb gb r (hdo h x) (hev h x) e w' := by
  have HS := hide hs
  have HX := hide (hz.two (xcs x) 37 #[.int .i64 0, .int .i64 0, .bool false, .string ⟨#[]⟩, .slice none 0 0] 34)
  have hjs : x.s.toNat = j := by omega
  have i0 : (0 : Int) ≤ (j : Int) := by omega
  have i5 : (j : Int) < 5 := by omega
  have hsj : h.seat j = some d := by rw [← hs j, hsd]; rfl
  have heq := (HKind.put (h := h) (x := x) d hx ⟨by omega, by omega⟩ (by rw [hjs]; exact hsj)).eq
  rw [heq.1, heq.2]
  clear heq hz hs hsj
  have hda : dat st (j : Int) = some (D, d) := by rw [dat_in h5, hsd]
  have hfc : fcode st (j : Int) = 0 := by unfold fcode; rw [if_pos ⟨i0, i5⟩, Int.toNat_natCast, hsd]; rfl
  obtain ⟨xd, xs, xm, xa, xk, xt, xp, xb⟩ := x
  dsimp only [xcs] at *
  subst hx hj
  go_enter Try.func64, Try.ntmps64
  go_wp2_with fail
  generalize (w.alloc (.cells #[.int .i64 3, .int .i64 (j : Int), .int .i64 xm, .int .i64 xa, .int .i64 xk, .int .i64 xt, .int .i64 xp, .string xb] 37)).alloc (.cells #[.int .i64 0, .int .i64 0, .bool false, .string ⟨#[]⟩, .slice none 0 0] 34) = W at HX ⊢
  generalize w.heap.size = q at HX ⊢
  generalize q + 1 = p at HX ⊢
  have hq := (unhide HX).var (List.Mem.tail _ (List.Mem.head _))
  have x0 : W.cell? ⟨q, 0, none⟩ = some (.int .i64 3) := cell_of_block hq rfl
  have x1 : W.cell? ⟨q, 1, none⟩ = some (.int .i64 (j : Int)) := cell_of_block hq rfl
  have x4 : W.cell? ⟨q, 4, none⟩ = some (.int .i64 xk) := cell_of_block hq rfl
  have x5 : W.cell? ⟨q, 5, none⟩ = some (.int .i64 xt) := cell_of_block hq rfl
  have x6 : W.cell? ⟨q, 6, none⟩ = some (.int .i64 xp) := cell_of_block hq rfl
  have x7 : W.cell? ⟨q, 7, none⟩ = some (.string xb) := cell_of_block hq rfl
  have ql := lt_of_block hq
  clear hq
  refine (h_find (j : Int) (unhide HX)).mono ?_
  rintro e w' ⟨rfl, hw'⟩
  subst w'
  rw [hda, hfc]
  rw [show sp (some (D, d)) = .pointer (some ⟨D, 0, none⟩) from rfl]
  have HE := hide ((unhide HX).new #[.int .i64 0, .int .i64 0, .bool false, .string ⟨#[]⟩, .slice none 0 0] 34)
  have pl := lt_of_block ((unhide HX).var (List.Mem.head _))
  have hl := (unhide HX).lt
  have vl := (unhide HX).vlt_
  have c0 := (unhide HX).c0
  have v0 := (unhide HX).v0
  obtain ⟨e0, e1, e2, e3, e4, g0, g1, g2, g3, g4⟩ := evF ((unhide HX).var (List.Mem.head _))
  go_wp2_with fail
  generalize W.alloc (.cells #[.int .i64 0, .int .i64 0, .bool false, .string ⟨#[]⟩, .slice none 0 0] 34) = W2 at HE ⊢
  generalize W.heap.size = pe at HE ⊢
  clear e0 e1 e2 e3 e4 g0 g1 g2 g3 g4 x0 x1 x4 x5 x6 x7 ql pl hl vl c0 v0
  refine (h_put xk true xb hsz h5 hsd (unhide HE)).mono ?_
  rintro e w3 ⟨rfl, HY⟩
  have hep := (unhide HY).var (List.Mem.head _)
  have hpp := (unhide HY).var (List.Mem.tail _ (List.Mem.head _))
  obtain ⟨a0, a1, a2, a3, a4, b0, b1, b2, b3, b4⟩ := evF hep
  obtain ⟨e0, e1, e2, e3, e4, g0, g1, g2, g3, g4⟩ := evF hpp
  have pl := lt_of_block hpp
  have el := lt_of_block hep
  clear hep hpp HE
  have hne := (unhide HY).ne2
  go_wp2_with fail
  refine bodyPost_ret (v := .agg #[.int .i64 (dpc d.md xk true xb), .int .i64 0, .bool false, .string ⟨#[]⟩, .slice none 0 0]) (by simp [results, Try.results64, go_sem, e0, e1, e2, e3, e4]) rfl ?_
  exact ⟨tb, _, none, 0, rfl, by show Sts _ (upd h.seat ((j : Int).toNat) _); rw [hjs]; exact (unhide HS).put j (some (D, _)), ((((unhide HY).set0 0 _).tail).fin _ _ _ _ _).ps.as rfl rfl rfl⟩
set_option maxHeartbeats 1000000 in
theorem go_drop (x : HStep) (hx : x.d = 4) {j D : Nat} {d : Dp} (hj : x.s = (j : Int)) (h5 : j < 5) (hsd : st j = some (D, d)) (hs : Sts st h.seat) (hz : Hall w0 w hb vb tb gb h st r) (hsz : x.b.size ≤ maxLen) :
    Calls Try.prog 64 #[.pointer (some ⟨hb, 0, none⟩), .agg #[.int .i64 x.d, .int .i64 x.s, .int .i64 x.md, .int .i64 x.at_, .int .i64 x.key, .int .i64 x.to_, .int .i64 x.keep, .string x.b]] w fun e w' => GoEnd w0 hb vb gb r (hdo h x) (hev h x) e w' := by
  have HS := hide hs
  have HX := hide (hz.two (xcs x) 37 #[.int .i64 0, .int .i64 0, .bool false, .string ⟨#[]⟩, .slice none 0 0] 34)
  have hjs : x.s.toNat = j := by omega
  have i0 : (0 : Int) ≤ (j : Int) := by omega
  have i5 : (j : Int) < 5 := by omega
  have hsj : h.seat j = some d := by rw [← hs j, hsd]; rfl
  have heq := (HKind.drop (h := h) (x := x) d hx ⟨by omega, by omega⟩ (by rw [hjs]; exact hsj)).eq
  rw [heq.1, heq.2]
  clear heq hz hs hsj
  have hda : dat st (j : Int) = some (D, d) := by rw [dat_in h5, hsd]
  have hfc : fcode st (j : Int) = 0 := by unfold fcode; rw [if_pos ⟨i0, i5⟩, Int.toNat_natCast, hsd]; rfl
  obtain ⟨xd, xs, xm, xa, xk, xt, xp, xb⟩ := x
  dsimp only [xcs] at *
  subst hx hj
  go_enter Try.func64, Try.ntmps64
  go_wp2_with fail
  generalize (w.alloc (.cells #[.int .i64 4, .int .i64 (j : Int), .int .i64 xm, .int .i64 xa, .int .i64 xk, .int .i64 xt, .int .i64 xp, .string xb] 37)).alloc (.cells #[.int .i64 0, .int .i64 0, .bool false, .string ⟨#[]⟩, .slice none 0 0] 34) = W at HX ⊢
  generalize w.heap.size = q at HX ⊢
  generalize q + 1 = p at HX ⊢
  have hq := (unhide HX).var (List.Mem.tail _ (List.Mem.head _))
  have x0 : W.cell? ⟨q, 0, none⟩ = some (.int .i64 4) := cell_of_block hq rfl
  have x1 : W.cell? ⟨q, 1, none⟩ = some (.int .i64 (j : Int)) := cell_of_block hq rfl
  have x4 : W.cell? ⟨q, 4, none⟩ = some (.int .i64 xk) := cell_of_block hq rfl
  have x5 : W.cell? ⟨q, 5, none⟩ = some (.int .i64 xt) := cell_of_block hq rfl
  have x6 : W.cell? ⟨q, 6, none⟩ = some (.int .i64 xp) := cell_of_block hq rfl
  have x7 : W.cell? ⟨q, 7, none⟩ = some (.string xb) := cell_of_block hq rfl
  have ql := lt_of_block hq
  clear hq
  refine (h_find (j : Int) (unhide HX)).mono ?_
  rintro e w' ⟨rfl, hw'⟩
  subst w'
  rw [hda, hfc]
  rw [show sp (some (D, d)) = .pointer (some ⟨D, 0, none⟩) from rfl]
  have HE := hide ((unhide HX).new #[.int .i64 0, .int .i64 0, .bool false, .string ⟨#[]⟩, .slice none 0 0] 34)
  have pl := lt_of_block ((unhide HX).var (List.Mem.head _))
  have hl := (unhide HX).lt
  have vl := (unhide HX).vlt_
  have c0 := (unhide HX).c0
  have v0 := (unhide HX).v0
  obtain ⟨e0, e1, e2, e3, e4, g0, g1, g2, g3, g4⟩ := evF ((unhide HX).var (List.Mem.head _))
  go_wp2_with fail
  generalize W.alloc (.cells #[.int .i64 0, .int .i64 0, .bool false, .string ⟨#[]⟩, .slice none 0 0] 34) = W2 at HE ⊢
  generalize W.heap.size = pe at HE ⊢
  clear e0 e1 e2 e3 e4 g0 g1 g2 g3 g4 x0 x1 x4 x5 x6 x7 ql pl hl vl c0 v0
  refine (h_put xk false ⟨#[]⟩ (Nat.zero_le _) h5 hsd (unhide HE)).mono ?_
  rintro e w3 ⟨rfl, HY⟩
  have hep := (unhide HY).var (List.Mem.head _)
  have hpp := (unhide HY).var (List.Mem.tail _ (List.Mem.head _))
  obtain ⟨a0, a1, a2, a3, a4, b0, b1, b2, b3, b4⟩ := evF hep
  obtain ⟨e0, e1, e2, e3, e4, g0, g1, g2, g3, g4⟩ := evF hpp
  have pl := lt_of_block hpp
  have el := lt_of_block hep
  clear hep hpp HE
  have hne := (unhide HY).ne2
  go_wp2_with fail
  refine bodyPost_ret (v := .agg #[.int .i64 (dpc d.md xk false ⟨#[]⟩), .int .i64 0, .bool false, .string ⟨#[]⟩, .slice none 0 0]) (by simp [results, Try.results64, go_sem, e0, e1, e2, e3, e4]) rfl ?_
  exact ⟨tb, _, none, 0, rfl, by show Sts _ (upd h.seat ((j : Int).toNat) _); rw [hjs]; exact (unhide HS).put j (some (D, _)), ((((unhide HY).set0 0 _).tail).fin _ _ _ _ _).ps.as rfl rfl rfl⟩
end
end Go.Proofs.Ytliopckocegknac

/- A hall's goOn: Get. -/
namespace Go.Proofs.Ytliopckocegknac
open Go.RowKit
set_option maxRecDepth 20000
attribute [local go_sem ↓] Go.wp_at_zero Go.wp_at_succ

section
variable {w0 w : World} {hb vb tb gb : Nat} {h : HSt} {st : Nat → Sd} {r : List Thing}
set_option maxHeartbeats 1000000 in
theorem go_get (x : HStep) (hx : x.d = 2) {j D : Nat} {d : Dp} (hj : x.s = (j : Int)) (h5 : j < 5) (hsd : st j = some (D, d)) (hs : Sts st h.seat) (hz : Hall w0 w hb vb tb gb h st r) :
    Calls Try.prog 64 #[.pointer (some ⟨hb, 0, none⟩), .agg #[.int .i64 x.d, .int .i64 x.s, .int .i64 x.md, .int .i64 x.at_, .int .i64 x.key, .int .i64 x.to_, .int .i64 x.keep, .string x.b]] w fun e w' => GoEnd w0 hb vb gb r (hdo h x) (hev h x) e w' := by
  have HS := hide hs
  have HX := hide (hz.two (xcs x) 37 #[.int .i64 0, .int .i64 0, .bool false, .string ⟨#[]⟩, .slice none 0 0] 34)
  have hjs : x.s.toNat = j := by omega
  have i0 : (0 : Int) ≤ (j : Int) := by omega
  have i5 : (j : Int) < 5 := by omega
  have hsj : h.seat j = some d := by rw [← hs j, hsd]; rfl
  have heq := (HKind.get (h := h) (x := x) d hx ⟨by omega, by omega⟩ (by rw [hjs]; exact hsj)).eq
  rw [heq.1, heq.2]
  clear heq hz hs hsj
  have hda : dat st (j : Int) = some (D, d) := by rw [dat_in h5, hsd]
  have hfc : fcode st (j : Int) = 0 := by unfold fcode; rw [if_pos ⟨i0, i5⟩, Int.toNat_natCast, hsd]; rfl
  obtain ⟨xd, xs, xm, xa, xk, xt, xp, xb⟩ := x
  dsimp only [xcs] at *
  subst hx hj
  go_enter Try.func64, Try.ntmps64
  go_wp2_with fail
  generalize (w.alloc (.cells #[.int .i64 2, .int .i64 (j : Int), .int .i64 xm, .int .i64 xa, .int .i64 xk, .int .i64 xt, .int .i64 xp, .string xb] 37)).alloc (.cells #[.int .i64 0, .int .i64 0, .bool false, .string ⟨#[]⟩, .slice none 0 0] 34) = W at HX ⊢
  generalize w.heap.size = q at HX ⊢
  generalize q + 1 = p at HX ⊢
  have hq := (unhide HX).var (List.Mem.tail _ (List.Mem.head _))
  have x0 : W.cell? ⟨q, 0, none⟩ = some (.int .i64 2) := cell_of_block hq rfl
  have x1 : W.cell? ⟨q, 1, none⟩ = some (.int .i64 (j : Int)) := cell_of_block hq rfl
  have x4 : W.cell? ⟨q, 4, none⟩ = some (.int .i64 xk) := cell_of_block hq rfl
  have x5 : W.cell? ⟨q, 5, none⟩ = some (.int .i64 xt) := cell_of_block hq rfl
  have x6 : W.cell? ⟨q, 6, none⟩ = some (.int .i64 xp) := cell_of_block hq rfl
  have x7 : W.cell? ⟨q, 7, none⟩ = some (.string xb) := cell_of_block hq rfl
  have ql := lt_of_block hq
  clear hq
  refine (h_find (j : Int) (unhide HX)).mono ?_
  rintro e w' ⟨rfl, hw'⟩
  subst w'
  rw [hda, hfc]
  rw [show sp (some (D, d)) = .pointer (some ⟨D, 0, none⟩) from rfl]
  have HE := hide ((unhide HX).new #[.int .i64 0, .int .i64 0, .bool false, .string ⟨#[]⟩, .slice none 0 0] 34)
  have pl := lt_of_block ((unhide HX).var (List.Mem.head _))
  have hl := (unhide HX).lt
  have vl := (unhide HX).vlt_
  have c0 := (unhide HX).c0
  have v0 := (unhide HX).v0
  obtain ⟨e0, e1, e2, e3, e4, g0, g1, g2, g3, g4⟩ := evF ((unhide HX).var (List.Mem.head _))
  go_wp2_with fail
  generalize W.alloc (.cells #[.int .i64 0, .int .i64 0, .bool false, .string ⟨#[]⟩, .slice none 0 0] 34) = W2 at HE ⊢
  generalize W.heap.size = pe at HE ⊢
  clear e0 e1 e2 e3 e4 g0 g1 g2 g3 g4 x0 x1 x4 x5 x6 x7 ql pl hl vl c0 v0
  have c0 := (unhide HE).c0
  have v0 := (unhide HE).v0
  have hq := (unhide HE).var (List.Mem.tail _ (List.Mem.tail _ (List.Mem.head _)))
  have x4 : W2.cell? ⟨q, 4, none⟩ = some (.int .i64 xk) := cell_of_block hq rfl
  clear hq
  have HG := hide (fun W' (hk : Kp [] W2 W') => h_get xk h5 hsd ((unhide HE).kp0 hk))
  go_region_with (go_at_call 113; refine (unhide HG _ (Kp.refl [] W2).drew).mono ?_; rintro e w3 ⟨rfl, HY⟩; (have hep := (unhide HY).var (List.Mem.head _)); (obtain ⟨a0, a1, a2, a3, a4, b0, b1, b2, b3, b4⟩ := evF hep); clear hep)
  all_goals
    have hpp := (unhide HY).var (List.Mem.tail _ (List.Mem.head _))
    obtain ⟨e0, e1, e2, e3, e4, g0, g1, g2, g3, g4⟩ := evF hpp
    have pl := lt_of_block hpp
    clear hpp
    have hne := (unhide HY).ne2
    go_wp2_with fail
    refine bodyPost_ret (v := .agg #[.int .i64 (dg h.f h.n d.y d.ws xk).a, .int .i64 0, .bool (dg h.f h.n d.y d.ws xk).t, .string (dg h.f h.n d.y d.ws xk).s, .slice none 0 0]) (by simp [results, Try.results64, go_sem, e0, e1, e2, e3, e4]) rfl ?_
    exact ⟨tb, _, none, 0, rfl, by show Sts _ (upd h.seat ((j : Int).toNat) _); rw [hjs]; exact (unhide HS).put j (some (D, _)), ((((((unhide HY).set0 2 _).set0 3 _).set0 0 _).tail).fin _ _ _ _ _).ps.as rfl rfl rfl⟩
end
end Go.Proofs.Ytliopckocegknac

/- A hall's goOn: List. -/
namespace Go.Proofs.Ytliopckocegknac
open Go.RowKit
set_option maxRecDepth 20000
attribute [local go_sem ↓] Go.wp_at_zero Go.wp_at_succ

section
variable {w0 w : World} {hb vb tb gb : Nat} {h : HSt} {st : Nat → Sd} {r : List Thing}
set_option maxHeartbeats 1000000 in
theorem go_list (x : HStep) (hx : x.d = 5) {j D : Nat} {d : Dp} (hj : x.s = (j : Int)) (h5 : j < 5) (hsd : st j = some (D, d)) (hs : Sts st h.seat) (hz : Hall w0 w hb vb tb gb h st r) :
    Calls Try.prog 64 #[.pointer (some ⟨hb, 0, none⟩), .agg #[.int .i64 x.d, .int .i64 x.s, .int .i64 x.md, .int .i64 x.at_, .int .i64 x.key, .int .i64 x.to_, .int .i64 x.keep, .string x.b]] w fun e w' => GoEnd w0 hb vb gb r (hdo h x) (hev h x) e w' := by
  have HS := hide hs
  have HX := hide (hz.two (xcs x) 37 #[.int .i64 0, .int .i64 0, .bool false, .string ⟨#[]⟩, .slice none 0 0] 34)
  have hjs : x.s.toNat = j := by omega
  have i0 : (0 : Int) ≤ (j : Int) := by omega
  have i5 : (j : Int) < 5 := by omega
  have hsj : h.seat j = some d := by rw [← hs j, hsd]; rfl
  have heq := (HKind.list (h := h) (x := x) d hx ⟨by omega, by omega⟩ (by rw [hjs]; exact hsj)).eq
  rw [heq.1, heq.2]
  clear heq hz hs hsj
  have hda : dat st (j : Int) = some (D, d) := by rw [dat_in h5, hsd]
  have hfc : fcode st (j : Int) = 0 := by unfold fcode; rw [if_pos ⟨i0, i5⟩, Int.toNat_natCast, hsd]; rfl
  obtain ⟨xd, xs, xm, xa, xk, xt, xp, xb⟩ := x
  dsimp only [xcs] at *
  subst hx hj
  go_enter Try.func64, Try.ntmps64
  go_wp2_with fail
  generalize (w.alloc (.cells #[.int .i64 5, .int .i64 (j : Int), .int .i64 xm, .int .i64 xa, .int .i64 xk, .int .i64 xt, .int .i64 xp, .string xb] 37)).alloc (.cells #[.int .i64 0, .int .i64 0, .bool false, .string ⟨#[]⟩, .slice none 0 0] 34) = W at HX ⊢
  generalize w.heap.size = q at HX ⊢
  generalize q + 1 = p at HX ⊢
  have hq := (unhide HX).var (List.Mem.tail _ (List.Mem.head _))
  have x0 : W.cell? ⟨q, 0, none⟩ = some (.int .i64 5) := cell_of_block hq rfl
  have x1 : W.cell? ⟨q, 1, none⟩ = some (.int .i64 (j : Int)) := cell_of_block hq rfl
  have x4 : W.cell? ⟨q, 4, none⟩ = some (.int .i64 xk) := cell_of_block hq rfl
  have x5 : W.cell? ⟨q, 5, none⟩ = some (.int .i64 xt) := cell_of_block hq rfl
  have x6 : W.cell? ⟨q, 6, none⟩ = some (.int .i64 xp) := cell_of_block hq rfl
  have x7 : W.cell? ⟨q, 7, none⟩ = some (.string xb) := cell_of_block hq rfl
  have ql := lt_of_block hq
  clear hq
  refine (h_find (j : Int) (unhide HX)).mono ?_
  rintro e w' ⟨rfl, hw'⟩
  subst w'
  rw [hda, hfc]
  rw [show sp (some (D, d)) = .pointer (some ⟨D, 0, none⟩) from rfl]
  have HE := hide ((unhide HX).new #[.int .i64 0, .int .i64 0, .bool false, .string ⟨#[]⟩, .slice none 0 0] 34)
  have pl := lt_of_block ((unhide HX).var (List.Mem.head _))
  have hl := (unhide HX).lt
  have vl := (unhide HX).vlt_
  have c0 := (unhide HX).c0
  have v0 := (unhide HX).v0
  obtain ⟨e0, e1, e2, e3, e4, g0, g1, g2, g3, g4⟩ := evF ((unhide HX).var (List.Mem.head _))
  go_wp2_with fail
  generalize W.alloc (.cells #[.int .i64 0, .int .i64 0, .bool false, .string ⟨#[]⟩, .slice none 0 0] 34) = W2 at HE ⊢
  generalize W.heap.size = pe at HE ⊢
  clear e0 e1 e2 e3 e4 g0 g1 g2 g3 g4 x0 x1 x4 x5 x6 x7 ql pl hl vl c0 v0
  have c0 := (unhide HE).c0
  have v0 := (unhide HE).v0
  have hq := (unhide HE).var (List.Mem.tail _ (List.Mem.tail _ (List.Mem.head _)))
  have x4 : W2.cell? ⟨q, 4, none⟩ = some (.int .i64 xk) := cell_of_block hq rfl
  have x5 : W2.cell? ⟨q, 5, none⟩ = some (.int .i64 xt) := cell_of_block hq rfl
  clear hq
  have HG := hide (fun W' (hk : Kp [] W2 W') => h_list xk xt h5 hsd ((unhide HE).kp0 hk))
  go_region_with (go_at_call 115; refine (unhide HG _ (Kp.refl [] W2).drew).mono ?_; rintro e w3 ⟨a, cap, rfl, HY0⟩; (have HY := hide ((unhide HY0).perm (List.perm_middle (l₁ := [_, _, _])).symm)); clear HY0; (have hep := (unhide HY).var (List.Mem.head _)); (obtain ⟨a0, a1, a2, a3, a4, b0, b1, b2, b3, b4⟩ := evF hep); clear hep)
  all_goals
    have hpp := (unhide HY).var (List.Mem.tail _ (List.Mem.head _))
    obtain ⟨e0, e1, e2, e3, e4, g0, g1, g2, g3, g4⟩ := evF hpp
    have pl := lt_of_block hpp
    clear hpp
    have hne := (unhide HY).ne2
    go_wp2_with fail
    refine bodyPost_ret (v := .agg #[.int .i64 (dls h.f h.n d.y d.ws d.rs xk xt).2.1, .int .i64 0, .bool false, .string ⟨#[]⟩, .slice a (dls h.f h.n d.y d.ws d.rs xk xt).1.length cap]) (by simp [results, Try.results64, go_sem, e0, e1, e2, e3, e4]) rfl ?_
    exact ⟨tb, _, a, cap, rfl, by show Sts _ (upd h.seat ((j : Int).toNat) _); rw [hjs]; exact (unhide HS).put j (some (D, _)), (((((unhide HY).set0 4 _).set0 0 _).tail).fin _ _ _ _ _).as rfl rfl rfl⟩
end
end Go.Proofs.Ytliopckocegknac

/- A hall's end: where there is no deed; Commit, Abort, Tear. -/
namespace Go.Proofs.Ytliopckocegknac
open Go.RowKit
set_option maxRecDepth 20000
attribute [local go_sem ↓] Go.wp_at_zero Go.wp_at_succ

section
variable {w0 w : World} {hb vb tb gb : Nat} {h : HSt} {st : Nat → Sd} {r : List Thing}
set_option maxHeartbeats 1000000 in
theorem end_none (x : HStep) (hx : x.d = 6 ∨ x.d = 7 ∨ x.d = 10) (hf : ¬ fcode st x.s = 0) (hs : Sts st h.seat) (hz : Hall w0 w hb vb tb gb h st r) :
    Calls Try.prog 65 #[.pointer (some ⟨hb, 0, none⟩), .agg #[.int .i64 x.d, .int .i64 x.s, .int .i64 x.md, .int .i64 x.at_, .int .i64 x.key, .int .i64 x.to_, .int .i64 x.keep, .string x.b]] w fun e w' => GoEnd w0 hb vb gb r (hdo h x) (hev h x) e w' := by
  have heq := f_not hs (x := x) (by omega) hf
  rw [heq.1, heq.2]
  clear heq
  have HS := hide hs
  have HX := hide (hz.two (xcs x) 37 #[.int .i64 0, .int .i64 0, .bool false, .string ⟨#[]⟩, .slice none 0 0] 34)
  clear hz hs
  generalize hzz : fcode st x.s = z at hf ⊢
  have HZ0 := hide hzz
  have hzb : (z != 0) = true := by simpa using hf
  clear hzz hf
  obtain ⟨xd, xs, xm, xa, xk, xt, xp, xb⟩ := x
  dsimp only [xcs] at *
  go_enter Try.func65, Try.ntmps65
  go_wp2_with fail
  generalize (w.alloc (.cells #[.int .i64 xd, .int .i64 xs, .int .i64 xm, .int .i64 xa, .int .i64 xk, .int .i64 xt, .int .i64 xp, .string xb] 37)).alloc (.cells #[.int .i64 0, .int .i64 0, .bool false, .string ⟨#[]⟩, .slice none 0 0] 34) = W at HX ⊢
  generalize w.heap.size = q at HX ⊢
  generalize q + 1 = p at HX ⊢
  have hq := (unhide HX).var (List.Mem.tail _ (List.Mem.head _))
  have x1 : W.cell? ⟨q, 1, none⟩ = some (.int .i64 xs) := cell_of_block hq rfl
  clear hq
  refine (h_find xs (unhide HX)).mono ?_
  rintro e w' ⟨rfl, hw'⟩
  subst w'
  rw [unhide HZ0]
  generalize sp (dat st xs) = o
  have HE := hide ((unhide HX).new #[.int .i64 z, .int .i64 0, .bool false, .string ⟨#[]⟩, .slice none 0 0] 34)
  have pl := lt_of_block ((unhide HX).var (List.Mem.head _))
  obtain ⟨e0, e1, e2, e3, e4, g0, g1, g2, g3, g4⟩ := evF ((unhide HX).var (List.Mem.head _))
  go_wp2_with fail
  refine bodyPost_ret (v := .agg #[.int .i64 z, .int .i64 0, .bool false, .string ⟨#[]⟩, .slice none 0 0]) (by simp [results, Try.results65, go_sem, e0, e1, e2, e3, e4, pl]) rfl ?_
  exact ⟨tb, st, none, 0, rfl, unhide HS, (((unhide HX).fin _ _ _ _ _).new _ _).tail.ps⟩
set_option maxHeartbeats 1000000 in
theorem end_commit (x : HStep) (hx : x.d = 6) {j D : Nat} {d : Dp} (hj : x.s = (j : Int)) (h5 : j < 5) (hsd : st j = some (D, d)) (hs : Sts st h.seat) (hz : Hall w0 w hb vb tb gb h st r) (hi : HInv h) :
    Calls Try.prog 65 #[.pointer (some ⟨hb, 0, none⟩), .agg #[.int .i64 x.d, .int .i64 x.s, .int .i64 x.md, .int .i64 x.at_, .int .i64 x.key, .int .i64 x.to_, .int .i64 x.keep, .string x.b]] w fun e w' => GoEnd w0 hb vb gb r (hdo h x) (hev h x) e w' := by
  have HS := hide hs
  have HX := hide (hz.two (xcs x) 37 #[.int .i64 0, .int .i64 0, .bool false, .string ⟨#[]⟩, .slice none 0 0] 34)
  have hjs : x.s.toNat = j := by omega
  have i0 : (0 : Int) ≤ (j : Int) := by omega
  have i5 : (j : Int) < 5 := by omega
  have hsj : h.seat j = some d := by rw [← hs j, hsd]; rfl
  have heq := (HKind.commit (h := h) (x := x) d hx ⟨by omega, by omega⟩ (by rw [hjs]; exact hsj)).eq
  rw [heq.1, heq.2]
  clear heq hz hs hsj
  have hda : dat st (j : Int) = some (D, d) := by rw [dat_in h5, hsd]
  have hfc : fcode st (j : Int) = 0 := by unfold fcode; rw [if_pos ⟨i0, i5⟩, Int.toNat_natCast, hsd]; rfl
  have HI := hide hi
  have HW := hide (hi.ok j d (by rw [← unhide HS j, hsd]; rfl))
  clear hi
  obtain ⟨xd, xs, xm, xa, xk, xt, xp, xb⟩ := x
  dsimp only [xcs] at *
  subst hx hj
  go_enter Try.func65, Try.ntmps65
  go_wp2_with fail
  generalize (w.alloc (.cells #[.int .i64 6, .int .i64 (j : Int), .int .i64 xm, .int .i64 xa, .int .i64 xk, .int .i64 xt, .int .i64 xp, .string xb] 37)).alloc (.cells #[.int .i64 0, .int .i64 0, .bool false, .string ⟨#[]⟩, .slice none 0 0] 34) = W at HX ⊢
  generalize w.heap.size = q at HX ⊢
  generalize q + 1 = p at HX ⊢
  have hq := (unhide HX).var (List.Mem.tail _ (List.Mem.head _))
  have x0 : W.cell? ⟨q, 0, none⟩ = some (.int .i64 6) := cell_of_block hq rfl
  have x1 : W.cell? ⟨q, 1, none⟩ = some (.int .i64 (j : Int)) := cell_of_block hq rfl
  have x4 : W.cell? ⟨q, 4, none⟩ = some (.int .i64 xk) := cell_of_block hq rfl
  have x5 : W.cell? ⟨q, 5, none⟩ = some (.int .i64 xt) := cell_of_block hq rfl
  have x6 : W.cell? ⟨q, 6, none⟩ = some (.int .i64 xp) := cell_of_block hq rfl
  have x7 : W.cell? ⟨q, 7, none⟩ = some (.string xb) := cell_of_block hq rfl
  have ql := lt_of_block hq
  clear hq
  refine (h_find (j : Int) (unhide HX)).mono ?_
  rintro e w' ⟨rfl, hw'⟩
  subst w'
  rw [hda, hfc]
  rw [show sp (some (D, d)) = .pointer (some ⟨D, 0, none⟩) from rfl]
  have HE := hide ((unhide HX).new #[.int .i64 0, .int .i64 0, .bool false, .string ⟨#[]⟩, .slice none 0 0] 34)
  have pl := lt_of_block ((unhide HX).var (List.Mem.head _))
  have hl := (unhide HX).lt
  have vl := (unhide HX).vlt_
  have c0 := (unhide HX).c0
  have v0 := (unhide HX).v0
  obtain ⟨e0, e1, e2, e3, e4, g0, g1, g2, g3, g4⟩ := evF ((unhide HX).var (List.Mem.head _))
  go_wp2_with fail
  generalize W.alloc (.cells #[.int .i64 0, .int .i64 0, .bool false, .string ⟨#[]⟩, .slice none 0 0] 34) = W2 at HE ⊢
  generalize W.heap.size = pe at HE ⊢
  clear e0 e1 e2 e3 e4 g0 g1 g2 g3 g4 x0 x1 x4 x5 x6 x7 ql pl hl vl c0 v0
  have c2 := (unhide HE).cs_ h5
  have f2 := (unhide HE).fz (1 + j)
  have hq := (unhide HE).var (List.Mem.tail _ (List.Mem.tail _ (List.Mem.head _)))
  have x1 : W2.cell? ⟨q, 1, none⟩ = some (.int .i64 (j : Int)) := cell_of_block hq rfl
  clear hq
  have HL := hide ((unhide HE).leave h5)
  rw [hsd] at HL
  go_region
  have HL2 := hide (((unhide HL).kp0 (Kp.refl [] _).drew).perm (List.perm_middle (l₁ := [_, _, _])).symm)
  clear HL HE HX c2 f2 x1
  generalize World.drew _ = W3 at HL2 ⊢
  have hq := (unhide HL2).var (List.Mem.tail _ (List.Mem.tail _ (List.Mem.head _)))
  have x0 : W3.cell? ⟨q, 0, none⟩ = some (.int .i64 6) := cell_of_block hq rfl
  have x6 : W3.cell? ⟨q, 6, none⟩ = some (.int .i64 xp) := cell_of_block hq rfl
  clear hq
  have c0 := (unhide HL2).c0
  go_wp2_with fail
  refine (h_commit (unhide HI) (unhide HW) (List.Mem.tail _ (List.Mem.tail _ (List.Mem.tail _ (List.Mem.head _)))) (unhide HL2)).mono ?_
  rintro e w4 ⟨rfl, HY⟩
  clear x0 x6 c0 HL2
  have hep := (unhide HY).var (List.Mem.head _)
  have hpp := (unhide HY).var (List.Mem.tail _ (List.Mem.head _))
  obtain ⟨a0, a1, a2, a3, a4, b0, b1, b2, b3, b4⟩ := evF hep
  obtain ⟨e0, e1, e2, e3, e4, g0, g1, g2, g3, g4⟩ := evF hpp
  clear hep hpp
  have hne := (unhide HY).ne2
  go_wp2_with fail
  refine bodyPost_ret (v := .agg #[.int .i64 (vcode h.f h.cs d.md d.y d.rs d.ws), .int .i64 (vnum h.f h.n h.cs d.md d.y d.rs d.ws), .bool false, .string ⟨#[]⟩, .slice none 0 0]) (by simp [results, Try.results65, go_sem, e0, e1, e2, e3, e4]) rfl ?_
  exact ⟨tb, _, none, 0, rfl, by show Sts _ (upd h.seat ((j : Int).toNat) none); rw [hjs]; exact (unhide HS).put j none, (((((unhide HY).set0 1 _).set0 0 _).tail).fin _ _ _ _ _).tail.ps.as rfl rfl rfl⟩
set_option maxHeartbeats 1000000 in
theorem end_abort (x : HStep) (hx : x.d = 7) {j D : Nat} {d : Dp} (hj : x.s = (j : Int)) (h5 : j < 5) (hsd : st j = some (D, d)) (hs : Sts st h.seat) (hz : Hall w0 w hb vb tb gb h st r) (hi : HInv h) :
    Calls Try.prog 65 #[.pointer (some ⟨hb, 0, none⟩), .agg #[.int .i64 x.d, .int .i64 x.s, .int .i64 x.md, .int .i64 x.at_, .int .i64 x.key, .int .i64 x.to_, .int .i64 x.keep, .string x.b]] w fun e w' => GoEnd w0 hb vb gb r (hdo h x) (hev h x) e w' := by
  have HS := hide hs
  have HX := hide (hz.two (xcs x) 37 #[.int .i64 0, .int .i64 0, .bool false, .string ⟨#[]⟩, .slice none 0 0] 34)
  have hjs : x.s.toNat = j := by omega
  have i0 : (0 : Int) ≤ (j : Int) := by omega
  have i5 : (j : Int) < 5 := by omega
  have hsj : h.seat j = some d := by rw [← hs j, hsd]; rfl
  have heq := (HKind.abort (h := h) (x := x) d hx ⟨by omega, by omega⟩ (by rw [hjs]; exact hsj)).eq
  rw [heq.1, heq.2]
  clear heq hz hs hsj
  have hda : dat st (j : Int) = some (D, d) := by rw [dat_in h5, hsd]
  have hfc : fcode st (j : Int) = 0 := by unfold fcode; rw [if_pos ⟨i0, i5⟩, Int.toNat_natCast, hsd]; rfl
  have HI := hide hi
  have HW := hide (hi.ok j d (by rw [← unhide HS j, hsd]; rfl))
  clear hi
  obtain ⟨xd, xs, xm, xa, xk, xt, xp, xb⟩ := x
  dsimp only [xcs] at *
  subst hx hj
  go_enter Try.func65, Try.ntmps65
  go_wp2_with fail
  generalize (w.alloc (.cells #[.int .i64 7, .int .i64 (j : Int), .int .i64 xm, .int .i64 xa, .int .i64 xk, .int .i64 xt, .int .i64 xp, .string xb] 37)).alloc (.cells #[.int .i64 0, .int .i64 0, .bool false, .string ⟨#[]⟩, .slice none 0 0] 34) = W at HX ⊢
  generalize w.heap.size = q at HX ⊢
  generalize q + 1 = p at HX ⊢
  have hq := (unhide HX).var (List.Mem.tail _ (List.Mem.head _))
  have x0 : W.cell? ⟨q, 0, none⟩ = some (.int .i64 7) := cell_of_block hq rfl
  have x1 : W.cell? ⟨q, 1, none⟩ = some (.int .i64 (j : Int)) := cell_of_block hq rfl
  have x4 : W.cell? ⟨q, 4, none⟩ = some (.int .i64 xk) := cell_of_block hq rfl
  have x5 : W.cell? ⟨q, 5, none⟩ = some (.int .i64 xt) := cell_of_block hq rfl
  have x6 : W.cell? ⟨q, 6, none⟩ = some (.int .i64 xp) := cell_of_block hq rfl
  have x7 : W.cell? ⟨q, 7, none⟩ = some (.string xb) := cell_of_block hq rfl
  have ql := lt_of_block hq
  clear hq
  refine (h_find (j : Int) (unhide HX)).mono ?_
  rintro e w' ⟨rfl, hw'⟩
  subst w'
  rw [hda, hfc]
  rw [show sp (some (D, d)) = .pointer (some ⟨D, 0, none⟩) from rfl]
  have HE := hide ((unhide HX).new #[.int .i64 0, .int .i64 0, .bool false, .string ⟨#[]⟩, .slice none 0 0] 34)
  have pl := lt_of_block ((unhide HX).var (List.Mem.head _))
  have hl := (unhide HX).lt
  have vl := (unhide HX).vlt_
  have c0 := (unhide HX).c0
  have v0 := (unhide HX).v0
  obtain ⟨e0, e1, e2, e3, e4, g0, g1, g2, g3, g4⟩ := evF ((unhide HX).var (List.Mem.head _))
  go_wp2_with fail
  generalize W.alloc (.cells #[.int .i64 0, .int .i64 0, .bool false, .string ⟨#[]⟩, .slice none 0 0] 34) = W2 at HE ⊢
  generalize W.heap.size = pe at HE ⊢
  clear e0 e1 e2 e3 e4 g0 g1 g2 g3 g4 x0 x1 x4 x5 x6 x7 ql pl hl vl c0 v0
  have c2 := (unhide HE).cs_ h5
  have f2 := (unhide HE).fz (1 + j)
  have hq := (unhide HE).var (List.Mem.tail _ (List.Mem.tail _ (List.Mem.head _)))
  have x1 : W2.cell? ⟨q, 1, none⟩ = some (.int .i64 (j : Int)) := cell_of_block hq rfl
  clear hq
  have HL := hide ((unhide HE).leave h5)
  rw [hsd] at HL
  go_region
  have HL2 := hide (((unhide HL).kp0 (Kp.refl [] _).drew).perm (List.perm_middle (l₁ := [_, _, _])).symm)
  clear HL HE HX c2 f2 x1
  generalize World.drew _ = W3 at HL2 ⊢
  have hq := (unhide HL2).var (List.Mem.tail _ (List.Mem.tail _ (List.Mem.head _)))
  have x0 : W3.cell? ⟨q, 0, none⟩ = some (.int .i64 7) := cell_of_block hq rfl
  have x6 : W3.cell? ⟨q, 6, none⟩ = some (.int .i64 xp) := cell_of_block hq rfl
  clear hq
  have c0 := (unhide HL2).c0
  have HY := HL2
  have hep := (unhide HY).var (List.Mem.head _)
  have hpp := (unhide HY).var (List.Mem.tail _ (List.Mem.head _))
  obtain ⟨a0, a1, a2, a3, a4, b0, b1, b2, b3, b4⟩ := evF hep
  obtain ⟨e0, e1, e2, e3, e4, g0, g1, g2, g3, g4⟩ := evF hpp
  clear hep hpp
  have hne := (unhide HY).ne2
  go_wp2_with fail
  refine bodyPost_ret (v := .agg #[.int .i64 0, .int .i64 0, .bool false, .string ⟨#[]⟩, .slice none 0 0]) (by simp [results, Try.results65, go_sem, e0, e1, e2, e3, e4]) rfl ?_
  exact ⟨tb, _, none, 0, rfl, by show Sts _ (upd h.seat ((j : Int).toNat) none); rw [hjs]; exact (unhide HS).put j none, (((unhide HY).tail).fin _ _ _ _ _).tail.ps.as rfl rfl rfl⟩
end
end Go.Proofs.Ytliopckocegknac

/- A hall's end: Tear. -/
namespace Go.Proofs.Ytliopckocegknac
open Go.RowKit
set_option maxRecDepth 20000
attribute [local go_sem ↓] Go.wp_at_zero Go.wp_at_succ

theorem ev_set10 (a b c d e x y : Value) : ((#[a, b, c, d, e] : Array Value).setIfInBounds 1 x).setIfInBounds 0 y = #[y, x, c, d, e] := rfl
section
variable {w0 w : World} {hb vb tb gb : Nat} {h : HSt} {st : Nat → Sd} {r : List Thing}
set_option maxHeartbeats 1000000 in
theorem end_tear (x : HStep) (hx : x.d = 10) {j D : Nat} {d : Dp} (hj : x.s = (j : Int)) (h5 : j < 5) (hsd : st j = some (D, d)) (hs : Sts st h.seat) (hz : Hall w0 w hb vb tb gb h st r) (hi : HInv h) :
    Calls Try.prog 65 #[.pointer (some ⟨hb, 0, none⟩), .agg #[.int .i64 x.d, .int .i64 x.s, .int .i64 x.md, .int .i64 x.at_, .int .i64 x.key, .int .i64 x.to_, .int .i64 x.keep, .string x.b]] w fun e w' => GoEnd w0 hb vb gb r (hdo h x) (hev h x) e w' := by
  have HS := hide hs
  have HX := hide (hz.two (xcs x) 37 #[.int .i64 0, .int .i64 0, .bool false, .string ⟨#[]⟩, .slice none 0 0] 34)
  have hjs : x.s.toNat = j := by omega
  have i0 : (0 : Int) ≤ (j : Int) := by omega
  have i5 : (j : Int) < 5 := by omega
  have hsj : h.seat j = some d := by rw [← hs j, hsd]; rfl
  have heq := (HKind.tear (h := h) (x := x) d hx ⟨by omega, by omega⟩ (by rw [hjs]; exact hsj)).eq
  rw [heq.1, heq.2]
  clear heq hz hs hsj
  have hda : dat st (j : Int) = some (D, d) := by rw [dat_in h5, hsd]
  have hfc : fcode st (j : Int) = 0 := by unfold fcode; rw [if_pos ⟨i0, i5⟩, Int.toNat_natCast, hsd]; rfl
  have HI := hide hi
  have HW := hide (hi.ok j d (by rw [← unhide HS j, hsd]; rfl))
  clear hi
  obtain ⟨xd, xs, xm, xa, xk, xt, xp, xb⟩ := x
  dsimp only [xcs] at *
  subst hx hj
  go_enter Try.func65, Try.ntmps65
  go_wp2_with fail
  generalize (w.alloc (.cells #[.int .i64 10, .int .i64 (j : Int), .int .i64 xm, .int .i64 xa, .int .i64 xk, .int .i64 xt, .int .i64 xp, .string xb] 37)).alloc (.cells #[.int .i64 0, .int .i64 0, .bool false, .string ⟨#[]⟩, .slice none 0 0] 34) = W at HX ⊢
  generalize w.heap.size = q at HX ⊢
  generalize q + 1 = p at HX ⊢
  have hq := (unhide HX).var (List.Mem.tail _ (List.Mem.head _))
  have x0 : W.cell? ⟨q, 0, none⟩ = some (.int .i64 10) := cell_of_block hq rfl
  have x1 : W.cell? ⟨q, 1, none⟩ = some (.int .i64 (j : Int)) := cell_of_block hq rfl
  have x4 : W.cell? ⟨q, 4, none⟩ = some (.int .i64 xk) := cell_of_block hq rfl
  have x5 : W.cell? ⟨q, 5, none⟩ = some (.int .i64 xt) := cell_of_block hq rfl
  have x6 : W.cell? ⟨q, 6, none⟩ = some (.int .i64 xp) := cell_of_block hq rfl
  have x7 : W.cell? ⟨q, 7, none⟩ = some (.string xb) := cell_of_block hq rfl
  have ql := lt_of_block hq
  clear hq
  refine (h_find (j : Int) (unhide HX)).mono ?_
  rintro e w' ⟨rfl, hw'⟩
  subst w'
  rw [hda, hfc]
  rw [show sp (some (D, d)) = .pointer (some ⟨D, 0, none⟩) from rfl]
  have HE := hide ((unhide HX).new #[.int .i64 0, .int .i64 0, .bool false, .string ⟨#[]⟩, .slice none 0 0] 34)
  have pl := lt_of_block ((unhide HX).var (List.Mem.head _))
  have hl := (unhide HX).lt
  have vl := (unhide HX).vlt_
  have c0 := (unhide HX).c0
  have v0 := (unhide HX).v0
  obtain ⟨e0, e1, e2, e3, e4, g0, g1, g2, g3, g4⟩ := evF ((unhide HX).var (List.Mem.head _))
  go_wp2_with fail
  generalize W.alloc (.cells #[.int .i64 0, .int .i64 0, .bool false, .string ⟨#[]⟩, .slice none 0 0] 34) = W2 at HE ⊢
  generalize W.heap.size = pe at HE ⊢
  clear e0 e1 e2 e3 e4 g0 g1 g2 g3 g4 x0 x1 x4 x5 x6 x7 ql pl hl vl c0 v0
  have c2 := (unhide HE).cs_ h5
  have f2 := (unhide HE).fz (1 + j)
  have hq := (unhide HE).var (List.Mem.tail _ (List.Mem.tail _ (List.Mem.head _)))
  have x1 : W2.cell? ⟨q, 1, none⟩ = some (.int .i64 (j : Int)) := cell_of_block hq rfl
  clear hq
  have HL := hide ((unhide HE).leave h5)
  rw [hsd] at HL
  go_region
  have HL2 := hide (((unhide HL).kp0 (Kp.refl [] _).drew).perm (List.perm_middle (l₁ := [_, _, _])).symm)
  clear HL HE HX c2 f2 x1
  generalize World.drew _ = W3 at HL2 ⊢
  have hq := (unhide HL2).var (List.Mem.tail _ (List.Mem.tail _ (List.Mem.head _)))
  have x0 : W3.cell? ⟨q, 0, none⟩ = some (.int .i64 10) := cell_of_block hq rfl
  have x6 : W3.cell? ⟨q, 6, none⟩ = some (.int .i64 xp) := cell_of_block hq rfl
  clear hq
  have c0 := (unhide HL2).c0
  have HG := hide (fun W' (hk : Kp [] W3 W') => h_tear xp (unhide HI) (unhide HW) (List.Mem.tail _ (List.Mem.tail _ (List.Mem.tail _ (List.Mem.head _)))) ((unhide HL2).kp0 hk))
  go_wp2_with fail
  go_region_with (go_at_call 117; refine (unhide HG _ (Kp.refl [] W3).drew).mono ?_; rintro e w4 ⟨rfl, tb', HY⟩; (have hep := (unhide HY).var (List.Mem.head _)); (obtain ⟨a0, a1, a2, a3, a4, b0, b1, b2, b3, b4⟩ := evF hep); clear hep)
  all_goals
    have HY2 := hide (((unhide HY).set0 1 (.int .i64 (tnum h.f h.cs d.md d.y d.rs d.ws xp))).set0 0 (.int .i64 (vcode h.f h.cs d.md d.y d.rs d.ws)))
    clear a0 a1 a2 a3 a4 b0 b1 b2 b3 b4 HY HG x0 x6 c0
    rw [ev_set10] at HY2
    go_wp2_with fail
    refine (h_leaveAll (unhide HY2)).mono ?_
    rintro e w5 ⟨rfl, HY⟩
    clear HY2
    have hep := (unhide HY).var (List.Mem.head _)
    have hpp := (unhide HY).var (List.Mem.tail _ (List.Mem.head _))
    obtain ⟨a0, a1, a2, a3, a4, b0, b1, b2, b3, b4⟩ := evF hep
    obtain ⟨e0, e1, e2, e3, e4, g0, g1, g2, g3, g4⟩ := evF hpp
    clear hep hpp
    have hne := (unhide HY).ne2
    go_wp2_with fail
    refine bodyPost_ret (v := .agg #[.int .i64 (vcode h.f h.cs d.md d.y d.rs d.ws), .int .i64 (tnum h.f h.cs d.md d.y d.rs d.ws xp), .bool false, .string ⟨#[]⟩, .slice none 0 0]) (by simp [results, Try.results65, go_sem, e0, e1, e2, e3, e4]) rfl ?_
    exact ⟨tb', _, none, 0, rfl, fun _ => rfl, (((unhide HY).tail).fin _ _ _ _ _).tail.ps.as rfl rfl rfl⟩
end
end Go.Proofs.Ytliopckocegknac

/- A hall's Do: the kinds by themselves. -/
namespace Go.Proofs.Ytliopckocegknac
open Go.RowKit
set_option maxRecDepth 20000
attribute [local go_sem ↓] Go.wp_at_zero Go.wp_at_succ

section
variable {w0 w : World} {hb vb tb gb : Nat} {h : HSt} {st : Nat → Sd} {r : List Thing}
set_option maxHeartbeats 1000000 in
theorem do_kind (x : HStep) (hs : Sts st h.seat) (hz : Hall w0 w hb vb tb gb h st r) (hx : x.d < 1 ∨ 10 < x.d) :
    Calls Try.prog 19 #[.pointer (some ⟨hb, 0, none⟩), .agg #[.int .i64 x.d, .int .i64 x.s, .int .i64 x.md, .int .i64 x.at_, .int .i64 x.key, .int .i64 x.to_, .int .i64 x.keep, .string x.b]] w fun e w' => GoEnd w0 hb vb gb r (hdo h x) (hev h x) e w' := by
  have heq := (HKind.kind (h := h) (x := x) hx).eq
  rw [heq.1, heq.2]
  clear heq
  have HS := hide hs
  have HX := hide (hz.two (xcs x) 37 #[.int .i64 3, .int .i64 0, .bool false, .string ⟨#[]⟩, .slice none 0 0] 34)
  clear hz hs
  obtain ⟨xd, xs, xm, xa, xk, xt, xp, xb⟩ := x
  dsimp only [xcs] at *
  have k1 : (xd == 1) = false := beq_eq_false_iff_ne.2 (by omega)
  have k2 : (xd == 2) = false := beq_eq_false_iff_ne.2 (by omega)
  have k3 : (xd == 3) = false := beq_eq_false_iff_ne.2 (by omega)
  have k4 : (xd == 4) = false := beq_eq_false_iff_ne.2 (by omega)
  have k5 : (xd == 5) = false := beq_eq_false_iff_ne.2 (by omega)
  have k6 : (xd == 6) = false := beq_eq_false_iff_ne.2 (by omega)
  have k7 : (xd == 7) = false := beq_eq_false_iff_ne.2 (by omega)
  have k8 : (xd == 8) = false := beq_eq_false_iff_ne.2 (by omega)
  have k9 : (xd == 9) = false := beq_eq_false_iff_ne.2 (by omega)
  have k10 : (xd == 10) = false := beq_eq_false_iff_ne.2 (by omega)
  go_enter Try.func19, Try.ntmps19
  go_wp2_with fail
  refine bodyPost_ret (v := .agg #[.int .i64 3, .int .i64 0, .bool false, .string ⟨#[]⟩, .slice none 0 0]) (by simp [results, Try.results19, go_sem]) rfl ?_
  exact ⟨tb, st, none, 0, rfl, unhide HS, (unhide HX).tail.tail.ps⟩
set_option maxHeartbeats 1000000 in
theorem do_crash (x : HStep) (hs : Sts st h.seat) (hz : Hall w0 w hb vb tb gb h st r) (hx : x.d = 9) :
    Calls Try.prog 19 #[.pointer (some ⟨hb, 0, none⟩), .agg #[.int .i64 x.d, .int .i64 x.s, .int .i64 x.md, .int .i64 x.at_, .int .i64 x.key, .int .i64 x.to_, .int .i64 x.keep, .string x.b]] w fun e w' => GoEnd w0 hb vb gb r (hdo h x) (hev h x) e w' := by
  have heq := (HKind.crash (h := h) (x := x) hx).eq
  rw [heq.1, heq.2]
  clear heq
  have HS := hide hs
  have HX := hide (hz.two (xcs x) 37 #[.int .i64 0, .int .i64 0, .bool false, .string ⟨#[]⟩, .slice none 0 0] 34)
  have c0 := hz.c0
  have hl := hz.lt
  clear hz hs
  obtain ⟨xd, xs, xm, xa, xk, xt, xp, xb⟩ := x
  dsimp only [xcs] at *
  subst hx
  go_enter Try.func19, Try.ntmps19
  go_wp2_with fail
  generalize (w.alloc (.cells #[.int .i64 9, .int .i64 xs, .int .i64 xm, .int .i64 xa, .int .i64 xk, .int .i64 xt, .int .i64 xp, .string xb] 37)).alloc (.cells #[.int .i64 0, .int .i64 0, .bool false, .string ⟨#[]⟩, .slice none 0 0] 34) = W at HX ⊢
  generalize w.heap.size = q at HX ⊢
  generalize q + 1 = p at HX ⊢
  refine (h_crash (unhide HX)).mono ?_
  rintro e w1 ⟨rfl, tb', H1⟩
  clear HX
  go_wp2_with fail
  refine (h_leaveAll (unhide H1)).mono ?_
  rintro e w2 ⟨rfl, HY⟩
  clear H1
  obtain ⟨e0, e1, e2, e3, e4, g0, g1, g2, g3, g4⟩ := evF ((unhide HY).var (List.Mem.head _))
  go_wp2_with fail
  refine bodyPost_ret (v := .agg #[.int .i64 0, .int .i64 0, .bool false, .string ⟨#[]⟩, .slice none 0 0]) (by simp [results, Try.results19, go_sem, e0, e1, e2, e3, e4]) rfl ?_
  exact ⟨tb', _, none, 0, rfl, fun _ => rfl, ((unhide HY).fin _ _ _ _ _).ps.as rfl rfl rfl⟩
set_option maxHeartbeats 1000000 in
theorem do_begin (x : HStep) (hs : Sts st h.seat) (hz : Hall w0 w hb vb tb gb h st r) (hx : x.d = 1) :
    Calls Try.prog 19 #[.pointer (some ⟨hb, 0, none⟩), .agg #[.int .i64 x.d, .int .i64 x.s, .int .i64 x.md, .int .i64 x.at_, .int .i64 x.key, .int .i64 x.to_, .int .i64 x.keep, .string x.b]] w fun e w' => GoEnd w0 hb vb gb r (hdo h x) (hev h x) e w' := by
  have HS := hide hs
  have HX := hide (hz.two (xcs x) 37 #[.int .i64 0, .int .i64 0, .bool false, .string ⟨#[]⟩, .slice none 0 0] 34)
  clear hz hs
  have HB := hide (fun W (hz : Hall w0 W hb vb tb gb h st (BoxT (w.heap.size + 1) #[.int .i64 0, .int .i64 0, .bool false, .string ⟨#[]⟩, .slice none 0 0] 34 :: BoxT w.heap.size (xcs x) 37 :: r)) => h_begin x hx (unhide HS) hz)
  generalize hdo h x = h' at *
  generalize hev h x = v at *
  obtain ⟨xd, xs, xm, xa, xk, xt, xp, xb⟩ := x
  dsimp only [xcs] at *
  subst hx
  go_enter Try.func19, Try.ntmps19
  go_wp2_with fail
  have HB2 := hide (unhide HB _ (unhide HX))
  clear HB
  generalize (w.alloc (.cells #[.int .i64 1, .int .i64 xs, .int .i64 xm, .int .i64 xa, .int .i64 xk, .int .i64 xt, .int .i64 xp, .string xb] 37)).alloc (.cells #[.int .i64 0, .int .i64 0, .bool false, .string ⟨#[]⟩, .slice none 0 0] 34) = W at HX HB2 ⊢
  generalize w.heap.size = q at HX HB2 ⊢
  generalize q + 1 = p at HX HB2 ⊢
  refine (unhide HB2).mono ?_
  rintro e w1 ⟨st', rfl, hv, hs', HY⟩
  have HS' := hide hs'
  have HV := hide hv
  clear HX HB2 hs' hv
  obtain ⟨e0, e1, e2, e3, e4, g0, g1, g2, g3, g4⟩ := evF ((unhide HY).var (List.Mem.head _))
  go_wp2_with fail
  refine bodyPost_ret (v := .agg #[.int .i64 v.c, .int .i64 0, .bool false, .string ⟨#[]⟩, .slice none 0 0]) (by simp [results, Try.results19, go_sem, e0, e1, e2, e3, e4]) rfl ?_
  rw [unhide HV]
  exact ⟨tb, st', none, 0, rfl, unhide HS', ((unhide HY).fin _ _ _ _ _).ps⟩
set_option maxHeartbeats 1000000 in
theorem do_on2 (x : HStep) (hz : Hall w0 w hb vb tb gb h st r) (hx : x.d = 2) (hc : ∀ {w : World} {r : List Thing}, Hall w0 w hb vb tb gb h st r → Calls Try.prog 64 #[.pointer (some ⟨hb, 0, none⟩), .agg #[.int .i64 x.d, .int .i64 x.s, .int .i64 x.md, .int .i64 x.at_, .int .i64 x.key, .int .i64 x.to_, .int .i64 x.keep, .string x.b]] w fun e w' => GoEnd w0 hb vb gb r (hdo h x) (hev h x) e w') :
    Calls Try.prog 19 #[.pointer (some ⟨hb, 0, none⟩), .agg #[.int .i64 x.d, .int .i64 x.s, .int .i64 x.md, .int .i64 x.at_, .int .i64 x.key, .int .i64 x.to_, .int .i64 x.keep, .string x.b]] w fun e w' => GoEnd w0 hb vb gb r (hdo h x) (hev h x) e w' := by
  have HX := hide (hz.two (xcs x) 37 #[.int .i64 0, .int .i64 0, .bool false, .string ⟨#[]⟩, .slice none 0 0] 34)
  clear hz
  have HB := hide (hc (unhide HX))
  clear hc
  generalize hdo h x = h' at *
  generalize hev h x = v at *
  obtain ⟨xd, xs, xm, xa, xk, xt, xp, xb⟩ := x
  dsimp only [xcs] at *
  subst hx
  go_enter Try.func19, Try.ntmps19
  go_wp2_with fail
  generalize (w.alloc (.cells #[.int .i64 2, .int .i64 xs, .int .i64 xm, .int .i64 xa, .int .i64 xk, .int .i64 xt, .int .i64 xp, .string xb] 37)).alloc (.cells #[.int .i64 0, .int .i64 0, .bool false, .string ⟨#[]⟩, .slice none 0 0] 34) = W at HX HB ⊢
  generalize w.heap.size = q at HX HB ⊢
  generalize q + 1 = p at HX HB ⊢
  refine (unhide HB).mono ?_
  rintro e w1 ⟨tb', st', a, cap, rfl, hs', HY0⟩
  have HY := hide ((unhide HY0).perm (List.perm_middle (l₁ := [_, _])).symm)
  have HS' := hide hs'
  clear HX HB hs' HY0
  obtain ⟨e0, e1, e2, e3, e4, g0, g1, g2, g3, g4⟩ := evF ((unhide HY).var (List.Mem.head _))
  go_wp2_with fail
  refine bodyPost_ret (v := .agg #[.int .i64 v.c, .int .i64 v.n, .bool v.t, .string v.s, .slice a v.l.length cap]) (by simp [results, Try.results19, go_sem, e0, e1, e2, e3, e4]) rfl ?_
  exact ⟨tb', st', a, cap, rfl, unhide HS', (unhide HY).fin _ _ _ _ _⟩
set_option maxHeartbeats 1000000 in
theorem do_on3 (x : HStep) (hz : Hall w0 w hb vb tb gb h st r) (hx : x.d = 3) (hc : ∀ {w : World} {r : List Thing}, Hall w0 w hb vb tb gb h st r → Calls Try.prog 64 #[.pointer (some ⟨hb, 0, none⟩), .agg #[.int .i64 x.d, .int .i64 x.s, .int .i64 x.md, .int .i64 x.at_, .int .i64 x.key, .int .i64 x.to_, .int .i64 x.keep, .string x.b]] w fun e w' => GoEnd w0 hb vb gb r (hdo h x) (hev h x) e w') :
    Calls Try.prog 19 #[.pointer (some ⟨hb, 0, none⟩), .agg #[.int .i64 x.d, .int .i64 x.s, .int .i64 x.md, .int .i64 x.at_, .int .i64 x.key, .int .i64 x.to_, .int .i64 x.keep, .string x.b]] w fun e w' => GoEnd w0 hb vb gb r (hdo h x) (hev h x) e w' := by
  have HX := hide (hz.two (xcs x) 37 #[.int .i64 0, .int .i64 0, .bool false, .string ⟨#[]⟩, .slice none 0 0] 34)
  clear hz
  have HB := hide (hc (unhide HX))
  clear hc
  generalize hdo h x = h' at *
  generalize hev h x = v at *
  obtain ⟨xd, xs, xm, xa, xk, xt, xp, xb⟩ := x
  dsimp only [xcs] at *
  subst hx
  go_enter Try.func19, Try.ntmps19
  go_wp2_with fail
  generalize (w.alloc (.cells #[.int .i64 3, .int .i64 xs, .int .i64 xm, .int .i64 xa, .int .i64 xk, .int .i64 xt, .int .i64 xp, .string xb] 37)).alloc (.cells #[.int .i64 0, .int .i64 0, .bool false, .string ⟨#[]⟩, .slice none 0 0] 34) = W at HX HB ⊢
  generalize w.heap.size = q at HX HB ⊢
  generalize q + 1 = p at HX HB ⊢
  refine (unhide HB).mono ?_
  rintro e w1 ⟨tb', st', a, cap, rfl, hs', HY0⟩
  have HY := hide ((unhide HY0).perm (List.perm_middle (l₁ := [_, _])).symm)
  have HS' := hide hs'
  clear HX HB hs' HY0
  obtain ⟨e0, e1, e2, e3, e4, g0, g1, g2, g3, g4⟩ := evF ((unhide HY).var (List.Mem.head _))
  go_wp2_with fail
  refine bodyPost_ret (v := .agg #[.int .i64 v.c, .int .i64 v.n, .bool v.t, .string v.s, .slice a v.l.length cap]) (by simp [results, Try.results19, go_sem, e0, e1, e2, e3, e4]) rfl ?_
  exact ⟨tb', st', a, cap, rfl, unhide HS', (unhide HY).fin _ _ _ _ _⟩
set_option maxHeartbeats 1000000 in
theorem do_on4 (x : HStep) (hz : Hall w0 w hb vb tb gb h st r) (hx : x.d = 4) (hc : ∀ {w : World} {r : List Thing}, Hall w0 w hb vb tb gb h st r → Calls Try.prog 64 #[.pointer (some ⟨hb, 0, none⟩), .agg #[.int .i64 x.d, .int .i64 x.s, .int .i64 x.md, .int .i64 x.at_, .int .i64 x.key, .int .i64 x.to_, .int .i64 x.keep, .string x.b]] w fun e w' => GoEnd w0 hb vb gb r (hdo h x) (hev h x) e w') :
    Calls Try.prog 19 #[.pointer (some ⟨hb, 0, none⟩), .agg #[.int .i64 x.d, .int .i64 x.s, .int .i64 x.md, .int .i64 x.at_, .int .i64 x.key, .int .i64 x.to_, .int .i64 x.keep, .string x.b]] w fun e w' => GoEnd w0 hb vb gb r (hdo h x) (hev h x) e w' := by
  have HX := hide (hz.two (xcs x) 37 #[.int .i64 0, .int .i64 0, .bool false, .string ⟨#[]⟩, .slice none 0 0] 34)
  clear hz
  have HB := hide (hc (unhide HX))
  clear hc
  generalize hdo h x = h' at *
  generalize hev h x = v at *
  obtain ⟨xd, xs, xm, xa, xk, xt, xp, xb⟩ := x
  dsimp only [xcs] at *
  subst hx
  go_enter Try.func19, Try.ntmps19
  go_wp2_with fail
  generalize (w.alloc (.cells #[.int .i64 4, .int .i64 xs, .int .i64 xm, .int .i64 xa, .int .i64 xk, .int .i64 xt, .int .i64 xp, .string xb] 37)).alloc (.cells #[.int .i64 0, .int .i64 0, .bool false, .string ⟨#[]⟩, .slice none 0 0] 34) = W at HX HB ⊢
  generalize w.heap.size = q at HX HB ⊢
  generalize q + 1 = p at HX HB ⊢
  refine (unhide HB).mono ?_
  rintro e w1 ⟨tb', st', a, cap, rfl, hs', HY0⟩
  have HY := hide ((unhide HY0).perm (List.perm_middle (l₁ := [_, _])).symm)
  have HS' := hide hs'
  clear HX HB hs' HY0
  obtain ⟨e0, e1, e2, e3, e4, g0, g1, g2, g3, g4⟩ := evF ((unhide HY).var (List.Mem.head _))
  go_wp2_with fail
  refine bodyPost_ret (v := .agg #[.int .i64 v.c, .int .i64 v.n, .bool v.t, .string v.s, .slice a v.l.length cap]) (by simp [results, Try.results19, go_sem, e0, e1, e2, e3, e4]) rfl ?_
  exact ⟨tb', st', a, cap, rfl, unhide HS', (unhide HY).fin _ _ _ _ _⟩
set_option maxHeartbeats 1000000 in
theorem do_on5 (x : HStep) (hz : Hall w0 w hb vb tb gb h st r) (hx : x.d = 5) (hc : ∀ {w : World} {r : List Thing}, Hall w0 w hb vb tb gb h st r → Calls Try.prog 64 #[.pointer (some ⟨hb, 0, none⟩), .agg #[.int .i64 x.d, .int .i64 x.s, .int .i64 x.md, .int .i64 x.at_, .int .i64 x.key, .int .i64 x.to_, .int .i64 x.keep, .string x.b]] w fun e w' => GoEnd w0 hb vb gb r (hdo h x) (hev h x) e w') :
    Calls Try.prog 19 #[.pointer (some ⟨hb, 0, none⟩), .agg #[.int .i64 x.d, .int .i64 x.s, .int .i64 x.md, .int .i64 x.at_, .int .i64 x.key, .int .i64 x.to_, .int .i64 x.keep, .string x.b]] w fun e w' => GoEnd w0 hb vb gb r (hdo h x) (hev h x) e w' := by
  have HX := hide (hz.two (xcs x) 37 #[.int .i64 0, .int .i64 0, .bool false, .string ⟨#[]⟩, .slice none 0 0] 34)
  clear hz
  have HB := hide (hc (unhide HX))
  clear hc
  generalize hdo h x = h' at *
  generalize hev h x = v at *
  obtain ⟨xd, xs, xm, xa, xk, xt, xp, xb⟩ := x
  dsimp only [xcs] at *
  subst hx
  go_enter Try.func19, Try.ntmps19
  go_wp2_with fail
  generalize (w.alloc (.cells #[.int .i64 5, .int .i64 xs, .int .i64 xm, .int .i64 xa, .int .i64 xk, .int .i64 xt, .int .i64 xp, .string xb] 37)).alloc (.cells #[.int .i64 0, .int .i64 0, .bool false, .string ⟨#[]⟩, .slice none 0 0] 34) = W at HX HB ⊢
  generalize w.heap.size = q at HX HB ⊢
  generalize q + 1 = p at HX HB ⊢
  refine (unhide HB).mono ?_
  rintro e w1 ⟨tb', st', a, cap, rfl, hs', HY0⟩
  have HY := hide ((unhide HY0).perm (List.perm_middle (l₁ := [_, _])).symm)
  have HS' := hide hs'
  clear HX HB hs' HY0
  obtain ⟨e0, e1, e2, e3, e4, g0, g1, g2, g3, g4⟩ := evF ((unhide HY).var (List.Mem.head _))
  go_wp2_with fail
  refine bodyPost_ret (v := .agg #[.int .i64 v.c, .int .i64 v.n, .bool v.t, .string v.s, .slice a v.l.length cap]) (by simp [results, Try.results19, go_sem, e0, e1, e2, e3, e4]) rfl ?_
  exact ⟨tb', st', a, cap, rfl, unhide HS', (unhide HY).fin _ _ _ _ _⟩
set_option maxHeartbeats 1000000 in
theorem do_end6 (x : HStep) (hz : Hall w0 w hb vb tb gb h st r) (hx : x.d = 6) (hc : ∀ {w : World} {r : List Thing}, Hall w0 w hb vb tb gb h st r → Calls Try.prog 65 #[.pointer (some ⟨hb, 0, none⟩), .agg #[.int .i64 x.d, .int .i64 x.s, .int .i64 x.md, .int .i64 x.at_, .int .i64 x.key, .int .i64 x.to_, .int .i64 x.keep, .string x.b]] w fun e w' => GoEnd w0 hb vb gb r (hdo h x) (hev h x) e w') :
    Calls Try.prog 19 #[.pointer (some ⟨hb, 0, none⟩), .agg #[.int .i64 x.d, .int .i64 x.s, .int .i64 x.md, .int .i64 x.at_, .int .i64 x.key, .int .i64 x.to_, .int .i64 x.keep, .string x.b]] w fun e w' => GoEnd w0 hb vb gb r (hdo h x) (hev h x) e w' := by
  have HX := hide (hz.two (xcs x) 37 #[.int .i64 0, .int .i64 0, .bool false, .string ⟨#[]⟩, .slice none 0 0] 34)
  clear hz
  have HB := hide (hc (unhide HX))
  clear hc
  generalize hdo h x = h' at *
  generalize hev h x = v at *
  obtain ⟨xd, xs, xm, xa, xk, xt, xp, xb⟩ := x
  dsimp only [xcs] at *
  subst hx
  go_enter Try.func19, Try.ntmps19
  go_wp2_with fail
  generalize (w.alloc (.cells #[.int .i64 6, .int .i64 xs, .int .i64 xm, .int .i64 xa, .int .i64 xk, .int .i64 xt, .int .i64 xp, .string xb] 37)).alloc (.cells #[.int .i64 0, .int .i64 0, .bool false, .string ⟨#[]⟩, .slice none 0 0] 34) = W at HX HB ⊢
  generalize w.heap.size = q at HX HB ⊢
  generalize q + 1 = p at HX HB ⊢
  refine (unhide HB).mono ?_
  rintro e w1 ⟨tb', st', a, cap, rfl, hs', HY0⟩
  have HY := hide ((unhide HY0).perm (List.perm_middle (l₁ := [_, _])).symm)
  have HS' := hide hs'
  clear HX HB hs' HY0
  obtain ⟨e0, e1, e2, e3, e4, g0, g1, g2, g3, g4⟩ := evF ((unhide HY).var (List.Mem.head _))
  go_wp2_with fail
  refine bodyPost_ret (v := .agg #[.int .i64 v.c, .int .i64 v.n, .bool v.t, .string v.s, .slice a v.l.length cap]) (by simp [results, Try.results19, go_sem, e0, e1, e2, e3, e4]) rfl ?_
  exact ⟨tb', st', a, cap, rfl, unhide HS', (unhide HY).fin _ _ _ _ _⟩
set_option maxHeartbeats 1000000 in
theorem do_end7 (x : HStep) (hz : Hall w0 w hb vb tb gb h st r) (hx : x.d = 7) (hc : ∀ {w : World} {r : List Thing}, Hall w0 w hb vb tb gb h st r → Calls Try.prog 65 #[.pointer (some ⟨hb, 0, none⟩), .agg #[.int .i64 x.d, .int .i64 x.s, .int .i64 x.md, .int .i64 x.at_, .int .i64 x.key, .int .i64 x.to_, .int .i64 x.keep, .string x.b]] w fun e w' => GoEnd w0 hb vb gb r (hdo h x) (hev h x) e w') :
    Calls Try.prog 19 #[.pointer (some ⟨hb, 0, none⟩), .agg #[.int .i64 x.d, .int .i64 x.s, .int .i64 x.md, .int .i64 x.at_, .int .i64 x.key, .int .i64 x.to_, .int .i64 x.keep, .string x.b]] w fun e w' => GoEnd w0 hb vb gb r (hdo h x) (hev h x) e w' := by
  have HX := hide (hz.two (xcs x) 37 #[.int .i64 0, .int .i64 0, .bool false, .string ⟨#[]⟩, .slice none 0 0] 34)
  clear hz
  have HB := hide (hc (unhide HX))
  clear hc
  generalize hdo h x = h' at *
  generalize hev h x = v at *
  obtain ⟨xd, xs, xm, xa, xk, xt, xp, xb⟩ := x
  dsimp only [xcs] at *
  subst hx
  go_enter Try.func19, Try.ntmps19
  go_wp2_with fail
  generalize (w.alloc (.cells #[.int .i64 7, .int .i64 xs, .int .i64 xm, .int .i64 xa, .int .i64 xk, .int .i64 xt, .int .i64 xp, .string xb] 37)).alloc (.cells #[.int .i64 0, .int .i64 0, .bool false, .string ⟨#[]⟩, .slice none 0 0] 34) = W at HX HB ⊢
  generalize w.heap.size = q at HX HB ⊢
  generalize q + 1 = p at HX HB ⊢
  refine (unhide HB).mono ?_
  rintro e w1 ⟨tb', st', a, cap, rfl, hs', HY0⟩
  have HY := hide ((unhide HY0).perm (List.perm_middle (l₁ := [_, _])).symm)
  have HS' := hide hs'
  clear HX HB hs' HY0
  obtain ⟨e0, e1, e2, e3, e4, g0, g1, g2, g3, g4⟩ := evF ((unhide HY).var (List.Mem.head _))
  go_wp2_with fail
  refine bodyPost_ret (v := .agg #[.int .i64 v.c, .int .i64 v.n, .bool v.t, .string v.s, .slice a v.l.length cap]) (by simp [results, Try.results19, go_sem, e0, e1, e2, e3, e4]) rfl ?_
  exact ⟨tb', st', a, cap, rfl, unhide HS', (unhide HY).fin _ _ _ _ _⟩
set_option maxHeartbeats 1000000 in
theorem do_end10 (x : HStep) (hz : Hall w0 w hb vb tb gb h st r) (hx : x.d = 10) (hc : ∀ {w : World} {r : List Thing}, Hall w0 w hb vb tb gb h st r → Calls Try.prog 65 #[.pointer (some ⟨hb, 0, none⟩), .agg #[.int .i64 x.d, .int .i64 x.s, .int .i64 x.md, .int .i64 x.at_, .int .i64 x.key, .int .i64 x.to_, .int .i64 x.keep, .string x.b]] w fun e w' => GoEnd w0 hb vb gb r (hdo h x) (hev h x) e w') :
    Calls Try.prog 19 #[.pointer (some ⟨hb, 0, none⟩), .agg #[.int .i64 x.d, .int .i64 x.s, .int .i64 x.md, .int .i64 x.at_, .int .i64 x.key, .int .i64 x.to_, .int .i64 x.keep, .string x.b]] w fun e w' => GoEnd w0 hb vb gb r (hdo h x) (hev h x) e w' := by
  have HX := hide (hz.two (xcs x) 37 #[.int .i64 0, .int .i64 0, .bool false, .string ⟨#[]⟩, .slice none 0 0] 34)
  clear hz
  have HB := hide (hc (unhide HX))
  clear hc
  generalize hdo h x = h' at *
  generalize hev h x = v at *
  obtain ⟨xd, xs, xm, xa, xk, xt, xp, xb⟩ := x
  dsimp only [xcs] at *
  subst hx
  go_enter Try.func19, Try.ntmps19
  go_wp2_with fail
  generalize (w.alloc (.cells #[.int .i64 10, .int .i64 xs, .int .i64 xm, .int .i64 xa, .int .i64 xk, .int .i64 xt, .int .i64 xp, .string xb] 37)).alloc (.cells #[.int .i64 0, .int .i64 0, .bool false, .string ⟨#[]⟩, .slice none 0 0] 34) = W at HX HB ⊢
  generalize w.heap.size = q at HX HB ⊢
  generalize q + 1 = p at HX HB ⊢
  refine (unhide HB).mono ?_
  rintro e w1 ⟨tb', st', a, cap, rfl, hs', HY0⟩
  have HY := hide ((unhide HY0).perm (List.perm_middle (l₁ := [_, _])).symm)
  have HS' := hide hs'
  clear HX HB hs' HY0
  obtain ⟨e0, e1, e2, e3, e4, g0, g1, g2, g3, g4⟩ := evF ((unhide HY).var (List.Mem.head _))
  go_wp2_with fail
  refine bodyPost_ret (v := .agg #[.int .i64 v.c, .int .i64 v.n, .bool v.t, .string v.s, .slice a v.l.length cap]) (by simp [results, Try.results19, go_sem, e0, e1, e2, e3, e4]) rfl ?_
  exact ⟨tb', st', a, cap, rfl, unhide HS', (unhide HY).fin _ _ _ _ _⟩
end
end Go.Proofs.Ytliopckocegknac

/- A hall's Do: Clear; Do of whatever step. -/
namespace Go.Proofs.Ytliopckocegknac
open Go.RowKit
set_option maxRecDepth 20000
attribute [local go_sem ↓] Go.wp_at_zero Go.wp_at_succ

section
variable {w0 w : World} {hb vb tb gb : Nat} {h : HSt} {st : Nat → Sd} {r : List Thing}
set_option maxHeartbeats 1000000 in
theorem do_clear (x : HStep) (hs : Sts st h.seat) (hz : Hall w0 w hb vb tb gb h st r) (hx : x.d = 8) :
    Calls Try.prog 19 #[.pointer (some ⟨hb, 0, none⟩), .agg #[.int .i64 x.d, .int .i64 x.s, .int .i64 x.md, .int .i64 x.at_, .int .i64 x.key, .int .i64 x.to_, .int .i64 x.keep, .string x.b]] w fun e w' => GoEnd w0 hb vb gb r (hdo h x) (hev h x) e w' := by
  have heq := (HKind.clear (h := h) (x := x) hx).eq
  rw [heq.1, heq.2]
  clear heq
  have HS := hide hs
  have HX := hide (hz.two (xcs x) 37 #[.int .i64 0, .int .i64 0, .bool false, .string ⟨#[]⟩, .slice none 0 0] 34)
  have hl := hz.lt
  have vl := hz.vlt_
  clear hz hs
  have HLE := hide (fun W r (hz : Hall w0 W hb vb tb gb h st r) => h_least (unhide HS) hz)
  generalize least h.n h.seat 5 = y at *
  obtain ⟨xd, xs, xm, xa, xk, xt, xp, xb⟩ := x
  dsimp only [xcs] at *
  subst hx
  go_enter Try.func19, Try.ntmps19
  go_wp2_with fail
  generalize (w.alloc (.cells #[.int .i64 8, .int .i64 xs, .int .i64 xm, .int .i64 xa, .int .i64 xk, .int .i64 xt, .int .i64 xp, .string xb] 37)).alloc (.cells #[.int .i64 0, .int .i64 0, .bool false, .string ⟨#[]⟩, .slice none 0 0] 34) = W at HX ⊢
  generalize w.heap.size = q at HX ⊢
  generalize q + 1 = p at HX ⊢
  have HXD := hide ((unhide HX).kp0 (Kp.refl [] _).drew)
  clear HX
  have c0 := (unhide HXD).c0
  have v0 := (unhide HXD).v0
  refine wp_region_held_drew (S := fun w' => w'.cell? ⟨hb, 0, none⟩ = some (.pointer (some ⟨vb, 0, none⟩)) ∧ w'.cell? ⟨vb, 0, none⟩ = some (.pointer (some ⟨tb, 0, none⟩))) (by kernel_rfl) (⟨c0, v0⟩) (fun hHeld => ?_)
  refine wpAnyH_tk (i := 0) (v := ?_) rfl (by kernel_rfl) (by kernel_rfl) (by kernel_rfl) (fun _ _ _ h => h) (Or.inl ⟨by rfl, ?_⟩) hHeld ?_
  rotate_left
  · intro w hSw
    try dsimp only at hSw
    go_simp
    try with_reducible rfl
  try simp only [Act.put, List.setIfInBounds_toArray, List.set_cons_zero, List.set_cons_succ]
  refine wpAnyH_tk (i := 1) (v := ?_) rfl (by kernel_rfl) (by kernel_rfl) (by kernel_rfl) (fun _ _ _ h => h) (Or.inl ⟨by rfl, ?_⟩) hHeld ?_
  rotate_left
  · intro w hSw
    try dsimp only at hSw
    go_simp
    try with_reducible rfl
  try simp only [Act.put, List.setIfInBounds_toArray, List.set_cons_zero, List.set_cons_succ]
  refine wpAnyH_tk (i := 2) (v := ?_) rfl (by kernel_rfl) (by kernel_rfl) (by kernel_rfl) (fun _ _ _ h => h) (Or.inl ⟨by rfl, ?_⟩) hHeld ?_
  rotate_left
  · intro w hSw
    try dsimp only at hSw
    go_simp
    try with_reducible rfl
  try simp only [Act.put, List.setIfInBounds_toArray, List.set_cons_zero, List.set_cons_succ]
  refine wpAnyH_tk (i := 3) (v := ?_) rfl (by kernel_rfl) (by kernel_rfl) (by kernel_rfl) (fun _ _ _ h => h) (Or.inl ⟨by rfl, ?_⟩) hHeld ?_
  rotate_left
  · intro w hSw
    try dsimp only at hSw
    go_simp
    try with_reducible rfl
  try simp only [Act.put, List.setIfInBounds_toArray, List.set_cons_zero, List.set_cons_succ]
  refine wpAnyH_tk (i := 4) (v := ?_) rfl (by kernel_rfl) (by kernel_rfl) (by kernel_rfl) (fun _ _ _ h => h) (Or.inl ⟨by rfl, ?_⟩) hHeld ?_
  rotate_left
  · intro w hSw
    try dsimp only at hSw
    go_simp
    try with_reducible rfl
  try simp only [Act.put, List.setIfInBounds_toArray, List.set_cons_zero, List.set_cons_succ]
  refine wpAnyH_tk (i := 5) (v := ?_) rfl (by kernel_rfl) (by kernel_rfl) (by kernel_rfl) (fun _ _ _ h => h) (Or.inl ⟨by rfl, ?_⟩) hHeld ?_
  rotate_left
  · intro w hSw
    try dsimp only at hSw
    go_simp
    try with_reducible rfl
  try simp only [Act.put, List.setIfInBounds_toArray, List.set_cons_zero, List.set_cons_succ]
  refine wpAnyH_tk (i := 6) (v := ?_) rfl (by kernel_rfl) (by kernel_rfl) (by kernel_rfl) (fun _ _ _ h => h) (Or.inl ⟨by rfl, ?_⟩) hHeld ?_
  rotate_left
  · intro w hSw
    try dsimp only at hSw
    go_simp
    try with_reducible rfl
  try simp only [Act.put, List.setIfInBounds_toArray, List.set_cons_zero, List.set_cons_succ]
  refine wpAnyH_tk (i := 7) (v := ?_) rfl (by kernel_rfl) (by kernel_rfl) (by kernel_rfl) (fun _ _ _ h => h) (Or.inl ⟨by rfl, ?_⟩) hHeld ?_
  rotate_left
  · intro w hSw
    try dsimp only at hSw
    go_simp
    try with_reducible rfl
  try simp only [Act.put, List.setIfInBounds_toArray, List.set_cons_zero, List.set_cons_succ]
  refine wpAnyH_only (i := 8) rfl (by kernel_rfl) (fun K hK => ?_)
  go_simp
  refine (unhide HLE _ _ (unhide HXD)).mono ?_
  rintro e w' ⟨rfl, hw'⟩
  subst w'
  go_wp2_with fail
  refine hK.out _ _ (⟨c0, v0⟩) (fun hHeld2 => ?_)
  clear hK K hHeld
  have hHeld := hHeld2
  clear hHeld2
  try simp only [Act.put, List.setIfInBounds_toArray, List.set_cons_zero, List.set_cons_succ]
  refine wpAnyH_only (i := 9) rfl (by kernel_rfl) (fun K hK => ?_)
  go_simp
  refine (h_clear y (unhide HXD)).mono ?_
  rintro e w3 ⟨rfl, HY⟩
  go_wp2_with fail
  refine hK.out _ _ (⟨(unhide HY).c0, (unhide HY).v0⟩) (fun hHeld2 => ?_)
  clear hK K hHeld
  have hHeld := hHeld2
  clear hHeld2
  try simp only [Act.put, List.setIfInBounds_toArray, List.set_cons_zero, List.set_cons_succ]
  refine wpAnyH_tk (i := 10) (v := ?_) rfl (by kernel_rfl) (by kernel_rfl) (by kernel_rfl) (fun _ _ _ h => h) (Or.inl ⟨by rfl, ?_⟩) hHeld ?_
  rotate_left
  · intro w hSw
    try dsimp only at hSw
    go_simp
    try with_reducible rfl
  try simp only [Act.put, List.setIfInBounds_toArray, List.set_cons_zero, List.set_cons_succ]
  refine wpAnyH_only (i := 11) rfl (by kernel_rfl) (fun K hK => ?_)
  go_simp
  obtain ⟨e0, e1, e2, e3, e4, g0, g1, g2, g3, g4⟩ := evF ((unhide HY).var (List.Mem.head _))
  go_simp
  have HF := hide ((((((unhide HY).set0 0 (.int .i64 0)).set0 1 (.int .i64 (cln h.f y 8 : Nat))).set0 2 (.bool false)).set0 3 (.string ⟨#[]⟩)).set0 4 (.slice none 0 0))
  go_wp2_with fail
  refine hK.out _ _ (⟨(unhide HF).c0, (unhide HF).v0⟩) (fun hHeld2 => ?_)
  clear hK K hHeld
  have hHeld := hHeld2
  clear hHeld2
  try simp only [Act.put, List.setIfInBounds_toArray, List.set_cons_zero, List.set_cons_succ]
  refine wpAnyH_done (by kernel_rfl) ?_ _
  go_wp2_with fail
  refine bodyPost_ret (v := .agg #[.int .i64 0, .int .i64 (cln h.f y 8 : Nat), .bool false, .string ⟨#[]⟩, .slice none 0 0]) (by simp [results, Try.results19, go_sem, e0, e1, e2, e3, e4]) rfl ?_
  exact ⟨tb, st, none, 0, rfl, unhide HS, ((unhide HY).fin _ _ _ _ _).ps.as rfl rfl rfl⟩
theorem h_do (x : HStep) (hsz : x.b.size ≤ maxLen) (hs : Sts st h.seat) (hi : HInv h) (hz : Hall w0 w hb vb tb gb h st r) :
    Calls Try.prog 19 #[.pointer (some ⟨hb, 0, none⟩), .agg #[.int .i64 x.d, .int .i64 x.s, .int .i64 x.md, .int .i64 x.at_, .int .i64 x.key, .int .i64 x.to_, .int .i64 x.keep, .string x.b]] w fun e w' => GoEnd w0 hb vb gb r (hdo h x) (hev h x) e w' := by
  by_cases c0 : x.d < 1 ∨ 10 < x.d
  · exact do_kind x hs hz c0
  by_cases c1 : x.d = 1
  · exact do_begin x hs hz c1
  by_cases c8 : x.d = 8
  · exact do_clear x hs hz c8
  by_cases c9 : x.d = 9
  · exact do_crash x hs hz c9
  by_cases hf : fcode st x.s = 0
  · obtain ⟨j, D, d, hj, h5, hsd⟩ := f_yes hf
    by_cases c2 : x.d = 2
    · exact do_on2 x hz c2 (fun hz' => go_get x c2 hj h5 hsd hs hz')
    by_cases c3 : x.d = 3
    · exact do_on3 x hz c3 (fun hz' => go_put x c3 hj h5 hsd hs hz' hsz)
    by_cases c4 : x.d = 4
    · exact do_on4 x hz c4 (fun hz' => go_drop x c4 hj h5 hsd hs hz' hsz)
    by_cases c5 : x.d = 5
    · exact do_on5 x hz c5 (fun hz' => go_list x c5 hj h5 hsd hs hz')
    by_cases c6 : x.d = 6
    · exact do_end6 x hz c6 (fun hz' => end_commit x c6 hj h5 hsd hs hz' hi)
    by_cases c7 : x.d = 7
    · exact do_end7 x hz c7 (fun hz' => end_abort x c7 hj h5 hsd hs hz' hi)
    · exact do_end10 x hz (by omega) (fun hz' => end_tear x (by omega) hj h5 hsd hs hz' hi)
  · by_cases c2 : x.d = 2
    · exact do_on2 x hz c2 (fun hz' => go_none x (by omega) hf hs hz')
    by_cases c3 : x.d = 3
    · exact do_on3 x hz c3 (fun hz' => go_none x (by omega) hf hs hz')
    by_cases c4 : x.d = 4
    · exact do_on4 x hz c4 (fun hz' => go_none x (by omega) hf hs hz')
    by_cases c5 : x.d = 5
    · exact do_on5 x hz c5 (fun hz' => go_none x (by omega) hf hs hz')
    by_cases c6 : x.d = 6
    · exact do_end6 x hz c6 (fun hz' => end_none x (by omega) hf hs hz')
    by_cases c7 : x.d = 7
    · exact do_end7 x hz c7 (fun hz' => end_none x (by omega) hf hs hz')
    · exact do_end10 x hz (by omega) (fun hz' => end_none x (by omega) hf hs hz')
/-- Do of whatever step, of a hall at the head of a list of things. -/
theorem hal_do (x : HStep) (hsz : x.b.size ≤ maxLen) (hz : Zoo w0 w (HalT hb h :: r)) :
    Calls Try.prog 19 #[.pointer (some ⟨hb, 0, none⟩), .agg #[.int .i64 x.d, .int .i64 x.s, .int .i64 x.md, .int .i64 x.at_, .int .i64 x.key, .int .i64 x.to_, .int .i64 x.keep, .string x.b]] w fun e w' => ∃ a cap, e = .returned (.agg #[.int .i64 (hev h x).c, .int .i64 (hev h x).n, .bool (hev h x).t, .string (hev h x).s, .slice a (hev h x).l.length cap]) ∧ Hid (Zoo w0 w' (HalT hb (hdo h x) :: PsT a cap (hev h x).l :: r)) := by
  obtain ⟨vb, tb, gb, st, hs, hi, hz'⟩ := hal_open hz
  refine (h_do x hsz hs hi hz').mono ?_
  rintro e w' ⟨tb', st', a, cap, rfl, hs', HY⟩
  exact ⟨a, cap, rfl, hal_close hs' (hi.step x) (unhide HY)⟩
end
end Go.Proofs.Ytliopckocegknac

/- A book of deeds in memory, as one thing. -/
namespace Go.Proofs.Ytliopckocegknac
open Go.RowKit
set_option maxRecDepth 20000

theorem Try.info101 : (Try.prog.info? 101).map (fun i => (i.zero, i.size, i.bytes)) = some (some (.agg #[.int .i64 0, .int .i64 0, .int .i64 0, .bool false, .string ByteArray.empty, .slice none 0 0]), 6, 72) := by kernel_rfl
/-- An act, and where its list lies. -/
structure Ax where
  x : Ac
  a : Option Addr
  c : Nat
def axc (y : Ax) : List Value := [.int .i64 y.x.kd, .int .i64 y.x.key, .int .i64 y.x.to_, .bool y.x.t, .string y.x.s, .slice y.a y.x.l.length y.c]
def axcs (ys : List Ax) : List Value := ys.flatMap axc
theorem axcs_app (xs ys : List Ax) : axcs (xs ++ ys) = axcs xs ++ axcs ys := by simp [axcs]
theorem axcs_at : ∀ {ys : List Ax} {i j : Nat} {y : Ax} {v : Value}, ys[i]? = some y → j < 6 → (axc y)[j]? = some v → (axcs ys)[i * 6 + j]? = some v := by
  intro ys
  induction ys with
  | nil => intro i j y v h; simp at h
  | cons z r ih =>
    intro i j y v h hj hv
    have e : axcs (z :: r) = axc z ++ axcs r := rfl
    have hl : (axc z).length = 6 := rfl
    rw [e]
    cases i with
    | zero =>
      simp at h
      subst h
      rw [List.getElem?_append_left (by rw [hl]; omega), show 0 * 6 + j = j by omega]
      exact hv
    | succ i =>
      simp at h
      rw [List.getElem?_append_right (by rw [hl]; omega), hl, show (i + 1) * 6 + j - 6 = i * 6 + j by omega]
      exact ih h hj hv
/-- An act's list; a deed's acts, with their lists. -/
def axT (y : Ax) : Thing := KwT 79 3 y.a y.x.l.length y.c (vcells y.x.l)
def ActT (a : Option Addr) (c : Nat) (ys : List Ax) : Thing := ManyT (KwT 101 6 a ys.length c (axcs ys) :: ys.map axT)
/-- A deed that goes on. -/
structure Ob where
  b : Nat
  d : Dn
  ys : List Ax
  a : Option Addr
  c : Nat
def obc (o : Ob) : Array Value := #[.int .i64 o.d.n, .int .i64 o.d.at_, .int .i64 o.d.md, .slice o.a o.ys.length o.c]
def OpnT : Option Ob → Thing
  | none => ManyT []
  | some o => ManyT [BoxT o.b (obc o) 90, ActT o.a o.c o.ys]
def bp (o : Option Ob) : Value := .pointer (o.map fun x => ⟨x.b, 0, none⟩)
/-- A deed that was done. -/
structure Dy where
  x : Dx
  ys : List Ax
def dyT (y : Dy) : Thing := ActT y.x.a y.x.c y.ys
def bkc (st : Nat → Option Ob) (a : Option Addr) (n c : Nat) : Array Value := #[bp (st 0), bp (st 1), bp (st 2), bp (st 3), bp (st 4), .slice a n c]
def opns (st : Nat → Option Ob) : List Thing := [OpnT (st 0), OpnT (st 1), OpnT (st 2), OpnT (st 3), OpnT (st 4)]
/-- What is in memory is what the book is. -/
structure Bks5 (st : Nat → Option Ob) (ys : List Dy) (b : Bk) : Prop where
  op : ∀ s, (st s).map Ob.d = b.op s
  oa : ∀ s o, st s = some o → o.d.acts = o.ys.map Ax.x
  dn : ys.map (fun y => y.x.d) = b.dn
  da : ∀ y, y ∈ ys → y.x.d.acts = y.ys.map Ax.x
def bth (bb : Nat) (st : Nat → Option Ob) (a : Option Addr) (c : Nat) (ys : List Dy) : List Thing := BoxT bb (bkc st a ys.length c) 187 :: KwT 90 4 a ys.length c (dxcs (ys.map Dy.x)) :: (ys.map dyT ++ opns st)
def BkT (bb : Nat) (b : Bk) : Thing where
  holds B w F := ∃ st a c ys, Bks5 st ys b ∧ ZooF B w (bth bb st a c ys) F
  kp := fun ⟨st, a, c, ys, h1, h2⟩ hk hS => ⟨st, a, c, ys, h1, ZooF.kp hk h2 hS⟩
  lo := fun ⟨_, _, _, _, _, h⟩ => h.lo
  base := fun ⟨st, a, c, ys, h1, h2⟩ hC => ⟨st, a, c, ys, h1, ZooF.base hC h2⟩
/-- A book among things, its parts known. -/
def Book (w0 w : World) (bb : Nat) (st : Nat → Option Ob) (a : Option Addr) (c : Nat) (ys : List Dy) (r : List Thing) : Prop := Zoo w0 w (bth bb st a c ys ++ r)
section
variable {w0 w w' : World} {bb : Nat} {b : Bk} {st : Nat → Option Ob} {a : Option Addr} {c : Nat} {ys : List Dy} {r : List Thing}
theorem bk_open (hz : Zoo w0 w (BkT bb b :: r)) : ∃ st a c ys, Bks5 st ys b ∧ Book w0 w bb st a c ys r := by
  obtain ⟨X, ⟨F, Y, ⟨st, a, c, ys, h1, k⟩, h4, h5, rfl⟩, hk⟩ := hz
  exact ⟨st, a, c, ys, h1, F ++ Y, zoof_join k h4 h5, hk⟩
theorem bk_close (hs : Bks5 st ys b) (hz : Book w0 w bb st a c ys r) : Zoo w0 w (BkT bb b :: r) := by
  obtain ⟨X, h1, hk⟩ := hz
  obtain ⟨F, Y, k1, k2, k3, rfl⟩ := zoof_app (us := bth bb st a c ys) (vs := r) h1
  exact ⟨F ++ Y, ⟨F, Y, ⟨st, a, c, ys, hs, k1⟩, k2, k3, rfl⟩, hk⟩
theorem Book.kp0 (hz : Book w0 w bb st a c ys r) (hk : Kp [] w w') : Book w0 w' bb st a c ys r := Zoo.kp0 hz hk
theorem Book.box (hz : Book w0 w bb st a c ys r) : w.heap[bb]? = some (.cells (bkc st a ys.length c) 187 (0, 0)) := Zoo.var hz
theorem bkc_at (st : Nat → Option Ob) (a : Option Addr) (n c : Nat) {s : Nat} (hs : s < 5) : (bkc st a n c)[s]? = some (bp (st s)) := by
  rcases (show s = 0 ∨ s = 1 ∨ s = 2 ∨ s = 3 ∨ s = 4 by omega) with e | e | e | e | e <;> subst e <;> rfl
theorem Book.cs_ (hz : Book w0 w bb st a c ys r) {s : Nat} (hs : s < 5) : w.cell? ⟨bb, s, none⟩ = some (bp (st s)) := cell_of_block hz.box (bkc_at st a _ c hs)
theorem Book.c5 (hz : Book w0 w bb st a c ys r) : w.cell? ⟨bb, 5, none⟩ = some (.slice a ys.length c) := cell_of_block hz.box rfl
theorem Book.fz (hz : Book w0 w bb st a c ys r) (i : Nat) : w.frozen? ⟨bb, i, none⟩ = false := frozen_of_block i hz.box
theorem Book.lt (hz : Book w0 w bb st a c ys r) : bb < w.heap.size := lt_of_block hz.box
theorem opns_at (st : Nat → Option Ob) {s : Nat} (hs : s < 5) : ∃ l1 l2, opns st = l1 ++ OpnT (st s) :: l2 ∧ ∀ d, opns (upd st s d) = l1 ++ OpnT d :: l2 := by
  rcases (show s = 0 ∨ s = 1 ∨ s = 2 ∨ s = 3 ∨ s = 4 by omega) with e | e | e | e | e <;> subst e
  · exact ⟨[], [OpnT (st 1), OpnT (st 2), OpnT (st 3), OpnT (st 4)], rfl, fun d => by simp [opns, upd]⟩
  · exact ⟨[OpnT (st 0)], [OpnT (st 2), OpnT (st 3), OpnT (st 4)], rfl, fun d => by simp [opns, upd]⟩
  · exact ⟨[OpnT (st 0), OpnT (st 1)], [OpnT (st 3), OpnT (st 4)], rfl, fun d => by simp [opns, upd]⟩
  · exact ⟨[OpnT (st 0), OpnT (st 1), OpnT (st 2)], [OpnT (st 4)], rfl, fun d => by simp [opns, upd]⟩
  · exact ⟨[OpnT (st 0), OpnT (st 1), OpnT (st 2), OpnT (st 3)], [], rfl, fun d => by simp [opns, upd]⟩
theorem bkc_set (st : Nat → Option Ob) (a : Option Addr) (n c : Nat) {s : Nat} (hs : s < 5) (d : Option Ob) : (bkc st a n c).setIfInBounds s (bp d) = bkc (upd st s d) a n c := by
  rcases (show s = 0 ∨ s = 1 ∨ s = 2 ∨ s = 3 ∨ s = 4 by omega) with e | e | e | e | e <;> subst e <;> simp [bkc, upd]
/-- The book's parts, apart: its box, its row, the done deeds' acts, a seat's deed, the rest. -/
theorem Book.out (hz : Book w0 w bb st a c ys r) {s : Nat} (hs : s < 5) : ∃ l1 l2, (∀ d, opns (upd st s d) = l1 ++ OpnT d :: l2) ∧
    Zoo w0 w (OpnT (st s) :: BoxT bb (bkc st a ys.length c) 187 :: KwT 90 4 a ys.length c (dxcs (ys.map Dy.x)) :: (ys.map dyT ++ (l1 ++ (l2 ++ r)))) := by
  obtain ⟨l1, l2, e1, e2⟩ := opns_at st hs
  refine ⟨l1, l2, e2, ?_⟩
  have h1 : Zoo w0 w (bth bb st a c ys ++ r) := hz
  unfold bth at h1
  rw [e1] at h1
  refine h1.perm ?_
  have p := (List.perm_middle (l₁ := BoxT bb (bkc st a ys.length c) 187 :: KwT 90 4 a ys.length c (dxcs (ys.map Dy.x)) :: (ys.map dyT ++ l1)) (a := OpnT (st s)) (l₂ := l2 ++ r))
  simpa [List.append_assoc] using p
/-- And back: another deed at the seat, another row. -/
theorem Book.back {l1 l2 : List Thing} {s : Nat} {d : Option Ob} {a' : Option Addr} {c' : Nat} {ys' : List Dy} (h2 : ∀ d, opns (upd st s d) = l1 ++ OpnT d :: l2) (hz : Zoo w0 w (OpnT d :: BoxT bb (bkc (upd st s d) a' ys'.length c') 187 :: KwT 90 4 a' ys'.length c' (dxcs (ys'.map Dy.x)) :: (ys'.map dyT ++ (l1 ++ (l2 ++ r))))) : Book w0 w bb (upd st s d) a' c' ys' r := by
  unfold Book bth
  rw [h2]
  refine hz.perm ?_
  have p := (List.perm_middle (l₁ := BoxT bb (bkc (upd st s d) a' ys'.length c') 187 :: KwT 90 4 a' ys'.length c' (dxcs (ys'.map Dy.x)) :: (ys'.map dyT ++ l1)) (a := OpnT d) (l₂ := l2 ++ r)).symm
  simpa [List.append_assoc] using p
theorem opn_none (hz : Zoo w0 w r) : Zoo w0 w (OpnT none :: r) := many_close (os := []) hz
/-- A deed that goes on, opened: its box, its acts; and shut. -/
theorem opn_open {o : Ob} (hz : Zoo w0 w (OpnT (some o) :: r)) : Zoo w0 w (BoxT o.b (obc o) 90 :: ActT o.a o.c o.ys :: r) := many_open hz
theorem opn_close {o : Ob} (hz : Zoo w0 w (BoxT o.b (obc o) 90 :: ActT o.a o.c o.ys :: r)) : Zoo w0 w (OpnT (some o) :: r) := many_close (os := [_, _]) hz
theorem act_open {ac : Option Addr} {cc : Nat} {zs : List Ax} (hz : Zoo w0 w (ActT ac cc zs :: r)) : Zoo w0 w (KwT 101 6 ac zs.length cc (axcs zs) :: (zs.map axT ++ r)) := many_open hz
theorem act_close {ac : Option Addr} {cc : Nat} {zs : List Ax} (hz : Zoo w0 w (KwT 101 6 ac zs.length cc (axcs zs) :: (zs.map axT ++ r))) : Zoo w0 w (ActT ac cc zs :: r) := many_close (os := _ :: zs.map axT) hz
/-- One more act. -/
theorem act_more {ac ac' : Option Addr} {cc cc' : Nat} {zs : List Ax} {y : Ax} (hz : Zoo w0 w (axT y :: ActT ac cc zs :: r)) (h1 : KRow 101 6 w0.heap.size w' ac' (zs.length + 1) cc' (axcs zs ++ axc y)) (h2 : Kp (ob ac) w w') (h3 : ∀ x ∈ ob ac', x ∈ ob ac ∨ w.heap.size ≤ x) : Zoo w0 w' (ActT ac' cc' (zs ++ [y]) :: r) := by
  have k1 : Zoo w0 w (KwT 101 6 ac zs.length cc (axcs zs) :: (zs.map axT ++ axT y :: r)) := act_open (zoo_swap hz)
  have k2 := kw_app (l1 := []) k1 h1 h2 h3
  refine act_close ?_
  have e1 : (zs ++ [y]).length = zs.length + 1 := by simp
  have e2 : axcs (zs ++ [y]) = axcs zs ++ axc y := by rw [axcs_app]; simp [axcs]
  rw [e1, e2, List.map_append]
  simpa using k2
theorem act_row {ac : Option Addr} {cc : Nat} {zs : List Ax} {l1 : List Thing} (hz : Zoo w0 w (l1 ++ ActT ac cc zs :: r)) : KRow 101 6 w0.heap.size w ac zs.length cc (axcs zs) := by
  have h1 : Zoo w0 w (ActT ac cc zs :: (l1 ++ r)) := hz.perm List.perm_middle
  exact kw_row (l1 := []) (act_open h1)
/-- What is read of acts among things. -/
theorem act_in {os : List Thing} {ac : Option Addr} {cc : Nat} {zs : List Ax} (hz : Zoo w0 w os) (hm : ActT ac cc zs ∈ os) : ActsIn w ac (zs.map Ax.x) := by
  obtain ⟨l1, l2, rfl⟩ := List.append_of_mem hm
  have h1 : Zoo w0 w (ActT ac cc zs :: (l1 ++ l2)) := hz.perm List.perm_middle
  have h2 := act_open h1
  have hrow := kw_row (l1 := []) h2
  intro hp
  rw [List.length_map] at hp
  obtain ⟨y0, hy0⟩ : ∃ y, zs[0]? = some y := ⟨_, List.getElem?_eq_getElem hp⟩
  obtain ⟨g, e, _⟩ := hrow.cell (axcs_at (j := 0) hy0 (by omega) rfl)
  refine ⟨g, 0, e, fun i x hx => ?_⟩
  rw [List.getElem?_map] at hx
  cases hz2 : zs[i]? with
  | none => rw [hz2] at hx; cases hx
  | some y =>
    rw [hz2] at hx
    simp only [Option.map_some, Option.some.injEq] at hx
    subst hx
    have key : ∀ {j : Nat} {v : Value}, j < 6 → (axc y)[j]? = some v → w.cell? ⟨g, 0 + i * 6 + j, none⟩ = some v := fun {j v} hj hv => by
      obtain ⟨g', e', hc⟩ := hrow.cell (axcs_at hz2 hj hv)
      rw [e] at e'
      simp only [Option.some.injEq, Addr.mk.injEq, and_true] at e'
      rw [Nat.zero_add, e']
      exact hc
    have hm2 : axT y ∈ KwT 101 6 ac zs.length cc (axcs zs) :: (zs.map axT ++ (l1 ++ l2)) := List.mem_cons_of_mem _ (List.mem_append_left _ (List.mem_map_of_mem (List.mem_of_getElem? hz2)))
    obtain ⟨k1, k2, ek⟩ := List.append_of_mem hm2
    have h3 : Zoo w0 w (k1 ++ axT y :: k2) := by rw [← ek]; exact h2
    exact ⟨by simpa using key (j := 0) (by omega) rfl, key (j := 1) (by omega) rfl, key (j := 2) (by omega) rfl, key (j := 3) (by omega) rfl, key (j := 4) (by omega) rfl, y.a, y.c, key (j := 5) (by omega) rfl, slo_krow (kw_row h3)⟩
end
end Go.Proofs.Ytliopckocegknac

/- A book: New, find, leaveAll, begin, isDone, clone, by their contracts. -/
namespace Go.Proofs.Ytliopckocegknac
open Go.RowKit
set_option maxRecDepth 20000
attribute [local go_sem ↓] Go.wp_at_zero Go.wp_at_succ

theorem bks_new : Bks5 (fun _ => none) [] bk0 := ⟨fun _ => rfl, fun _ _ h => (by cases h), rfl, fun _ h => by simp at h⟩
theorem bk_new {w0 w : World} {r : List Thing} (hz : Zoo w0 w r) : Calls Try.prog 85 #[] w fun e w' => ∃ bb, e = .returned (.pointer (some ⟨bb, 0, none⟩)) ∧ Hid (Zoo w0 w' (BkT bb bk0 :: r)) := by
  have h1 := opn_none (opn_none (opn_none (opn_none (opn_none hz))))
  have h2 := (kw_nil 90 4 h1).box (bkc (fun _ => none) none 0 0) 187
  have HZ := hide (bk_close (b := bk0) (st := fun _ => none) (a := none) (c := 0) (ys := []) bks_new h2)
  clear h1 h2 hz
  go_enter Try.func85, Try.ntmps85
  go_wp2_with fail
  go_ret
  exact ⟨w.heap.size, rfl, unhide HZ⟩
section
variable {w0 w : World} {bb : Nat} {b : Bk} {st : Nat → Option Ob} {a : Option Addr} {c : Nat} {ys : List Dy} {r : List Thing}
def bst (st : Nat → Option Ob) (s : Int) : Option Ob := if 0 ≤ s ∧ s < 5 then st s.toNat else none
theorem bk_find (s : Int) (hz : Book w0 w bb st a c ys r) : Calls Try.prog 149 #[.pointer (some ⟨bb, 0, none⟩), .int .i64 s] w fun e w' => e = .returned (bp (bst st s)) ∧ w' = w := by
  by_cases hs : 0 ≤ s ∧ s < 5
  · obtain ⟨j, rfl, hj⟩ := seat_in hs
    have hsb : seatB (j : Int) = true := decide_eq_true hs
    have i0 : (0 : Int) ≤ (j : Int) := by omega
    have i5 : (j : Int) < 5 := by omega
    have c1 := hz.cs_ hj
    have e1 : bst st (j : Int) = st j := by unfold bst; rw [if_pos hs, Int.toNat_natCast]
    rw [e1]
    clear hz e1
    generalize bp (st j) = p at *
    go_enter Try.func149, Try.ntmps149
    go_wp2_with fail
    refine (hseat (j : Int) _).mono ?_
    rintro e w' ⟨rfl, hw'⟩
    subst w'
    rw [hsb]
    go_wp2_with fail
    go_ret
    exact ⟨rfl, rfl⟩
  · have hsb : seatB s = false := decide_eq_false hs
    have e1 : bst st s = none := by unfold bst; rw [if_neg hs]
    rw [e1]
    clear hz e1
    go_enter Try.func149, Try.ntmps149
    go_wp2_with fail
    refine (hseat s _).mono ?_
    rintro e w' ⟨rfl, hw'⟩
    subst w'
    rw [hsb]
    go_wp2_with fail
    go_ret
    exact ⟨rfl, rfl⟩
/-- Variables beside a book. -/
theorem Book.new (hz : Book w0 w bb st a c ys r) (cs : Array Value) (T : TypeId) : Book w0 (w.alloc (.cells cs T)) bb st a c ys (BoxT w.heap.size cs T :: r) := by
  have h1 := Zoo.box hz cs T
  exact h1.perm (List.perm_middle (l₁ := bth bb st a c ys)).symm
theorem Book.two (hz : Book w0 w bb st a c ys r) (cs : Array Value) (T : TypeId) (c2 : Array Value) (T2 : TypeId) : Book w0 ((w.alloc (.cells cs T)).alloc (.cells c2 T2)) bb st a c ys (BoxT (w.heap.size + 1) c2 T2 :: BoxT w.heap.size cs T :: r) := by
  have h1 := (hz.new cs T).new c2 T2
  rw [show (w.alloc (.cells cs T)).heap.size = w.heap.size + 1 by simp] at h1
  exact h1
theorem Book.var {p : Nat} {cs : Array Value} {T : TypeId} (hz : Book w0 w bb st a c ys r) (hm : BoxT p cs T ∈ r) : w.heap[p]? = some (.cells cs T (0, 0)) := zoo_varm hz (List.mem_append_right _ hm)
theorem Book.tail {o : Thing} (hz : Book w0 w bb st a c ys (o :: r)) : Book w0 w bb st a c ys r := Zoo.drop_ (l1 := bth bb st a c ys) hz
theorem Book.setAt {l1 l2 : List Thing} {p : Nat} {cs : Array Value} {T : TypeId} (hz : Book w0 w bb st a c ys (l1 ++ BoxT p cs T :: l2)) (i : Nat) (v : Value) : Book w0 (w.setCell ⟨p, i, none⟩ v) bb st a c ys (l1 ++ BoxT p (cs.setIfInBounds i v) T :: l2) := by
  have hz' : Zoo w0 w ((bth bb st a c ys ++ l1) ++ BoxT p cs T :: l2) := by
    have := hz
    unfold Book at this
    rw [← List.append_assoc] at this
    exact this
  obtain ⟨F, ⟨hbx, h2, h3⟩, k2⟩ := hz'.at_
  have := k2 (BoxT p (cs.setIfInBounds i v) T) (w.setCell ⟨p, i, none⟩ v) ⟨F, ⟨heap_setCell_at _ _ hbx, h2, h3⟩, by rw [h2]; exact (Kp.refl [p] w).setCell (.inl (by simp)) _, fun x hx => .inl hx⟩
  unfold Book
  rw [← List.append_assoc]
  exact this
/-- All deeds are let go. -/
theorem Book.leaveAll {w' : World} (hz : Book w0 w bb st a c ys r) (hb' : w'.heap[bb]? = some (.cells (bkc (fun _ => none) a ys.length c) 187 (0, 0))) (hk : Kp [bb] w w') : Book w0 w' bb (fun _ => none) a c ys r := by
  have h1 : Zoo w0 w ((BoxT bb (bkc st a ys.length c) 187 :: KwT 90 4 a ys.length c (dxcs (ys.map Dy.x)) :: ys.map dyT) ++ (opns st ++ r)) := by
    have := hz
    unfold Book bth at this
    simpa [List.append_assoc] using this
  have h2 : Zoo w0 w (opns st ++ ((BoxT bb (bkc st a ys.length c) 187 :: KwT 90 4 a ys.length c (dxcs (ys.map Dy.x)) :: ys.map dyT) ++ r)) := by
    refine h1.perm ?_
    rw [← List.append_assoc, ← List.append_assoc]
    exact List.Perm.append_right r List.perm_append_comm
  have h3 := (many_close h2).tail
  obtain ⟨F, ⟨hbx, e2, e3⟩, k2⟩ := zoo_at0 h3
  have h4 : Zoo w0 w' (BoxT bb (bkc (fun _ => none) a ys.length c) 187 :: ((KwT 90 4 a ys.length c (dxcs (ys.map Dy.x)) :: ys.map dyT) ++ r)) := k2 _ _ ⟨F, ⟨hb', e2, e3⟩, by rw [e2]; exact hk, fun x hx => .inl hx⟩
  have h5 := opn_none (opn_none (opn_none (opn_none (opn_none h4))))
  have h6 : Zoo w0 w' (opns (fun _ => none) ++ ((BoxT bb (bkc (fun _ => none) a ys.length c) 187 :: KwT 90 4 a ys.length c (dxcs (ys.map Dy.x)) :: ys.map dyT) ++ r)) := h5
  unfold Book bth
  refine h6.perm ?_
  rw [← List.append_assoc]
  refine List.Perm.append_right r ?_
  exact List.perm_append_comm
theorem bk_leaveAll (hz : Book w0 w bb st a c ys r) : Calls Try.prog 129 #[.pointer (some ⟨bb, 0, none⟩)] w fun e w' => e = .returned (.tuple #[]) ∧ Hid (Book w0 w' bb (fun _ => none) a c ys r) := by
  have hbx := hz.box
  have c1 := hz.cs_ (s := 0) (by omega)
  have c2 := hz.cs_ (s := 1) (by omega)
  have c3 := hz.cs_ (s := 2) (by omega)
  have c4 := hz.cs_ (s := 3) (by omega)
  have c5 := hz.cs_ (s := 4) (by omega)
  have f1 := hz.fz 0
  have f2 := hz.fz 1
  have f3 := hz.fz 2
  have f4 := hz.fz 3
  have f5 := hz.fz 4
  have HZ := hide hz
  clear hz
  go_enter Try.func129, Try.ntmps129
  go_wp2_with fail
  go_end0
  refine ⟨rfl, (unhide HZ).leaveAll ?_ ?_⟩
  · rw [heap_setCell_at _ _ (heap_setCell_at _ _ (heap_setCell_at _ _ (heap_setCell_at _ _ (heap_setCell_at _ _ hbx))))]
    rfl
  · exact (((((Kp.refl [bb] w).setCell (.inl (by simp)) _).setCell (.inl (by simp)) _).setCell (.inl (by simp)) _).setCell (.inl (by simp)) _).setCell (.inl (by simp)) _
theorem Bks5.leave (h : Bks5 st ys b) : Bks5 (fun _ => none) ys ⟨fun _ => none, b.dn⟩ := ⟨fun _ => rfl, fun _ _ h => (by cases h), h.dn, h.da⟩
theorem Bks5.sit (h : Bks5 st ys b) (s : Nat) (d : Option Ob) (hd : ∀ o, d = some o → o.d.acts = o.ys.map Ax.x) : Bks5 (upd st s d) ys ⟨upd b.op s (d.map Ob.d), b.dn⟩ := by
  refine ⟨fun k => ?_, fun k o ho => ?_, h.dn, h.da⟩
  · show (upd st s d k).map Ob.d = upd b.op s (d.map Ob.d) k
    unfold upd
    split
    · rfl
    · exact h.op k
  · unfold upd at ho
    split at ho
    · exact hd o ho
    · exact h.oa k o ho
end
/-- A list in new memory. -/
def ClEnd (l : List Ver) (w : World) (e : Ending) (w' : World) : Prop := ∃ a c, e = .returned (.slice a l.length c) ∧ KRow 79 3 w.heap.size w' a l.length c (vcells l) ∧ Kp [] w w'
theorem src_slo {w : World} {a : Option Addr} {l : List Ver} {c : Nat} (h : SlO w a l) : Src Try.prog 3 32 (.slice a l.length c) l.length (vcells l) w := by
  by_cases hp : 0 < l.length
  · obtain ⟨g, o, rfl, hs⟩ := h hp
    refine Src.ofSlice w Try.underlying32 ⟨g, o, none⟩ l.length c (vcells l) (by rw [vcells_length]) (fun j u hj => ?_) (vcells_one l)
    rw [addr_add]
    exact hs j u hj
  · have e : l = [] := List.eq_nil_of_length_eq_zero (by omega)
    subst e
    cases a with
    | none => exact Src.ofNil w Try.underlying32 c
    | some ad => exact Src.ofSlice w Try.underlying32 ad 0 c [] (by simp) (by simp) (by simp)
set_option maxHeartbeats 1000000 in
theorem clone118 (a : Option Addr) (c : Nat) (l : List Ver) (w : World) (h : SlO w a l) (hm : l.length ≤ 1000) :
    Calls Try.prog 130 #[.slice a l.length c] w fun e w' => ClEnd l w e w' := by
  have hu := Try.underlying32
  have HS := hide (src_slo (c := c) h)
  clear h
  obtain ⟨n, hn⟩ : ∃ n, l.length = n := ⟨_, rfl⟩
  have HN := hide hn
  rw [hn] at hm HS ⊢
  clear hn
  go_enter Try.func130, Try.ntmps130
  go_wp2_with (at_builtin; refine wpList_krow (by rfl) (.const (.slice none 0 0)) (.tmp 3) 32 (by rfl) hu Try.info79 rfl (by omega) (krow_nil 79 3 w.heap.size w) (Nat.le_refl _) (.slice a n c) (vcells l) n (by rfl) (by rfl) (unhide HS) (by omega) n (by omega) ?_; intro a2 cap2 w2 g1 g2 g3)
  go_ret
  refine ⟨a2, cap2, by rw [unhide HN]; rfl, ?_, unhide g2⟩
  rw [unhide HN]
  exact unhide g1
set_option maxHeartbeats 1000000 in
theorem isdone (x : HStep) (v : Ev) (la : Option Addr) (lc : Nat) (w : World) :
    Calls Try.prog 150 #[.agg (xcs x), .agg (ecl v la lc)] w fun e w' => e = .returned (.bool (isd x v)) ∧ Kp [] w w' := by
  have hk : Kp [] w ((w.alloc (.cells (xcs x) 37)).alloc (.cells (ecl v la lc) 34)) := ((Kp.refl [] w).alloc _).alloc _
  obtain ⟨xd, xs, xm, xa, xk, xt, xp, xb⟩ := x
  obtain ⟨vc, vn, vt, vs, vl⟩ := v
  unfold isd
  dsimp only [xcs, ecl] at *
  generalize vl.length = n at *
  by_cases h6 : xd = 6
  · subst h6
    rw [if_pos rfl]
    go_enter Try.func150, Try.ntmps150
    go_wp2_with fail
    go_ret
    exact ⟨by simp [Bool.beq_eq_decide_eq], hk⟩
  · rw [if_neg h6]
    by_cases h10 : xd = 10
    · subst h10
      rw [if_pos rfl]
      go_enter Try.func150, Try.ntmps150
      go_wp2_with fail
      go_ret
      exact ⟨by simp; rfl, hk⟩
    · rw [if_neg h10]
      go_enter Try.func150, Try.ntmps150
      go_wp2_with fail
      go_ret
      exact ⟨rfl, hk⟩
end Go.Proofs.Ytliopckocegknac

/- hallBegun answers true. -/
namespace Go.Proofs.Ytliopckocegknac
open Go.RowKit
set_option maxRecDepth 20000
attribute [local go_sem ↓] Go.wp_at_zero Go.wp_at_succ

def hs0 : HSt := ⟨fun _ => [dv], 0, [], fun _ => none⟩
def hx1 : HStep := ⟨1, 0, 1, 0, 0, 0, 0, ⟨#[]⟩⟩
def hs1 : HSt := hdo hs0 hx1
def hx2 : HStep := ⟨1, 1, 2, 0, 0, 0, 0, ⟨#[]⟩⟩
def hs2 : HSt := hdo hs1 hx2
def hx3 : HStep := ⟨3, 0, 0, 0, 1, 0, 0, ⟨#[120]⟩⟩
def hs3 : HSt := hdo hs2 hx3
def hx4 : HStep := ⟨2, 1, 0, 0, 1, 0, 0, ⟨#[]⟩⟩
def hs4 : HSt := hdo hs3 hx4
def hx5 : HStep := ⟨6, 0, 0, 0, 0, 0, 0, ⟨#[]⟩⟩
def hs5 : HSt := hdo hs4 hx5
theorem hv2 : hev hs1 hx2 = ⟨0, 0, false, ⟨#[]⟩, []⟩ := by rfl
end Go.Proofs.Ytliopckocegknac

/- Rows of all keys' values: append onto them, and one of them read; beside a vault. -/
namespace Go.Proofs.Ytliopckocegknac
open Go.RowKit
set_option maxRecDepth 20000

section
variable {w0 w W w2 : World} {V : Thing} {r : List Thing} {a : Option Addr} {cap : Nat} {us : List (Nat → Ver)}
end
theorem yields_mid {ops : Array Oper} {S : World → Prop} {op : Oper} {a : Act} (hw : Region.wanted op (yielded ops a.tmps) = true) (x : Operand) (ho : op.op = .load 72 x) (b o : Nat) (hx : a.eval x = .pointer (some ⟨b, o, none⟩)) (u : Nat → Ver) (hS : ∀ w, S w → w.rangeAt b o (wagg u).toList) : YieldsIf Try.prog ops S op (.agg (wagg u)) a := by
  have h := yieldsIf_load_mid (P := Try.prog) hw 72 x ho b o hx (wagg u).toList _ hS Try.underlying72 rfl Try.size72
  rw [Array.toArray_toList] at h
  exact h
end Go.Proofs.Ytliopckocegknac

/- A hall's log; five answers in a variable. -/
namespace Go.Proofs.Ytliopckocegknac
open Go.RowKit
set_option maxRecDepth 20000
attribute [local go_sem ↓] Go.wp_at_zero Go.wp_at_succ

section
variable {w0 w : World} {hb vb tb gb : Nat} {h : HSt} {st : Nat → Sd} {r : List Thing}
end
theorem Sts.some {st : Nat → Sd} {seat : Nat → Option Dp} (h : Sts st seat) (s : Nat) : (st s).isSome = (seat s).isSome := by
  rw [← h s]
  cases st s <;> rfl
end Go.Proofs.Ytliopckocegknac

/- Plain words for HallClears: what is asked of what is forgotten. -/
namespace Go.Proofs.Ytliopckocegknac
open Go.RowKit
set_option maxRecDepth 20000
attribute [local go_sem ↓] Go.wp_at_zero Go.wp_at_succ

/-- How long a list is that is told. -/
theorem dgo_len8 {f : Nat → List Ver} {n : Nat} {y : Int} {ws : List Ver} : ∀ (m k : Nat) (acc : List Ver) (rs : List Int), (dgo f n y ws k m acc rs).1.length ≤ acc.length + m := by
  intro m
  induction m with
  | zero => intro k acc rs; simp [dgo]
  | succ m ih =>
    intro k acc rs
    simp only [dgo]
    split
    · split
      · have := ih (k + 1) (acc ++ [⟨k, (dg f n y ws k).t, (dg f n y ws k).s⟩]) (dr f n y rs ws k)
        simp at this
        omega
      · have := ih (k + 1) acc (dr f n y rs ws k)
        omega
    · simp
theorem hev_len (h : HSt) (x : HStep) : (hev h x).l.length ≤ 8 := by
  have hk := hkind h x
  generalize hdo h x = h2 at *
  generalize hev h x = e at *
  cases hk with
  | list d c1 c2 c3 =>
    show (dls h.f h.n d.y d.ws d.rs x.key x.to_).1.length ≤ 8
    unfold dls
    split
    · rename_i q
      simp only [keyB, decide_eq_true_eq] at q
      have := dgo_len8 (f := h.f) (n := h.n) (y := d.y) (ws := d.ws) (x.to_ + 1 - x.key).toNat x.key.toNat [] d.rs
      simp at this
      omega
    · simp
  | _ => simp [evc, evn, ev0]

theorem lt_of_cell {w : World} {b o : Nat} {v : Value} (h : w.cell? ⟨b, o, none⟩ = some v) : b < w.heap.size := by
  rcases Nat.lt_or_ge b w.heap.size with q | q
  · exact q
  · have : w.heap[b]? = none := Array.getElem?_eq_none q
    simp [World.cell?, this] at h
section
variable {w0 w : World} {hb : Nat} {h : HSt} {os : List Thing}
theorem ps_slo {a : Option Addr} {cap : Nat} {l : List Ver} (hz : Zoo w0 w os) (hm : PsT a cap l ∈ os) : SlO w a l := by
  obtain ⟨F, h1, _⟩ := zoo_mem hz hm
  exact slo_own h1 rfl
end
end Go.Proofs.Ytliopckocegknac

/- A book: a deed begins, by its contract. -/
namespace Go.Proofs.Ytliopckocegknac
open Go.RowKit
set_option maxRecDepth 20000
attribute [local go_sem ↓] Go.wp_at_zero Go.wp_at_succ

section
variable {w0 w : World} {bb : Nat} {b : Bk} {st : Nat → Option Ob} {a : Option Addr} {c : Nat} {ys : List Dy} {r : List Thing}
def ob0 (g : Nat) (at_ md : Int) : Ob := ⟨g, ⟨0, at_, md, []⟩, [], none, 0⟩
/-- A new deed at a seat: it was made, then it is set. -/
theorem Book.join (hz : Book w0 w bb st a c ys r) {s : Nat} (hs : s < 5) (at_ md : Int) :
    Book w0 ((w.alloc (.cells #[.int .i64 0, .int .i64 at_, .int .i64 md, .slice none 0 0] 90)).setCell ⟨bb, s, none⟩ (.pointer (some ⟨w.heap.size, 0, none⟩))) bb (upd st s (some (ob0 w.heap.size at_ md))) a c ys r := by
  obtain ⟨l1, l2, e2, hz1⟩ := hz.out hs
  have h1 := hz1.tail
  have h2 := kw_nil 101 6 h1
  have h3 : Zoo w0 w (ActT none 0 [] :: _) := act_close (zs := []) h2
  have h4 := h3.box (obc (ob0 w.heap.size at_ md)) 90
  have h5 := opn_close (o := ob0 w.heap.size at_ md) h4
  refine Book.back (d := some (ob0 w.heap.size at_ md)) e2 ?_
  change Zoo w0 (w.alloc (.cells #[.int .i64 0, .int .i64 at_, .int .i64 md, .slice none 0 0] 90)) _ at h5
  obtain ⟨F, ⟨hbx, q2, q3⟩, k2⟩ := zoo_at1 h5
  refine k2 _ _ ⟨F, ⟨?_, q2, q3⟩, ?_, fun x hx => .inl hx⟩
  · rw [heap_setCell_at _ _ hbx]
    have := bkc_set st a ys.length c hs (some (ob0 w.heap.size at_ md))
    rw [← this]
    rfl
  · rw [q2]
    exact (Kp.refl [bb] _).setCell (.inl (by simp)) _
set_option maxHeartbeats 1000000 in
theorem bk_begin (x : HStep) (v : Ev) (la : Option Addr) (lc : Nat) (last : Int) (hx : x.d = 1) (hz : Zoo w0 w (BkT bb b :: r)) :
    Calls Try.prog 126 #[.pointer (some ⟨bb, 0, none⟩), .agg (xcs x), .agg (ecl v la lc), .int .i64 last] w fun e w' => e = .returned (.tuple #[]) ∧ Hid (Zoo w0 w' (BkT bb (bnote b x v last) :: r)) := by
  obtain ⟨st, a, c, ys, hb5, hbk⟩ := bk_open hz
  have HB5 := hide hb5
  have HBK := hide (hbk.two (xcs x) 37 (ecl v la lc) 34)
  have HN := hide (show bnote b x v last = if v.c = 0 ∧ 0 ≤ x.s ∧ x.s < 5 then ⟨upd b.op x.s.toNat (some ⟨0, if x.md = 3 then x.at_ else last, x.md, []⟩), b.dn⟩ else b by unfold bnote; rw [if_pos hx])
  clear hz hb5 hbk
  obtain ⟨xd, xs, xm, xa, xk, xt, xp, xb⟩ := x
  obtain ⟨vc, vn, vt, vs, vl⟩ := v
  dsimp only [xcs, ecl] at *
  subst hx
  generalize vl.length = n at *
  by_cases hc : vc = 0
  · subst hc
    by_cases hs : 0 ≤ xs ∧ xs < 5
    · obtain ⟨j, rfl, hj⟩ := seat_in hs
      have hsb : seatB (j : Int) = true := decide_eq_true hs
      have i0 : (0 : Int) ≤ (j : Int) := by omega
      have i5 : (j : Int) < 5 := by omega
      have fin : ∀ at_, (if xm = 3 then xa else last) = at_ → ∀ W {o1 o2 : Thing}, Book w0 W bb st a c ys (o1 :: o2 :: r) → Zoo w0 ((W.alloc (.cells #[.int .i64 0, .int .i64 at_, .int .i64 xm, .slice none 0 0] 90)).setCell ⟨bb, j, none⟩ (.pointer (some ⟨W.heap.size, 0, none⟩))) (BkT bb (bnote b ⟨1, j, xm, xa, xk, xt, xp, xb⟩ ⟨0, vn, vt, vs, vl⟩ last) :: r) := fun at_ hat W o1 o2 hW => by
        refine bk_close ?_ (hW.tail.tail.join hj at_ xm)
        have h1 := (unhide HB5).sit j (some (ob0 W.heap.size at_ xm)) (fun o ho => by cases ho; rfl)
        rw [unhide HN, if_pos ⟨rfl, hs⟩, hat]
        exact h1
      have HF := hide fin
      clear fin
      by_cases h3 : xm = 3
      · skip
        subst h3
        go_enter Try.func126, Try.ntmps126
        go_wp2_with fail
        generalize (w.alloc (.cells #[.int .i64 1, .int .i64 (j : Int), .int .i64 3, .int .i64 xa, .int .i64 xk, .int .i64 xt, .int .i64 xp, .string xb] 37)).alloc (.cells #[.int .i64 0, .int .i64 vn, .bool vt, .string vs, .slice la n lc] 34) = W at HBK ⊢
        generalize w.heap.size + 1 = q6 at HBK ⊢
        generalize w.heap.size = q5 at HBK ⊢
        refine (hseat (j : Int) _).mono ?_
        rintro e w' ⟨rfl, hw'⟩
        subst w'
        rw [hsb]
        have hx := (unhide HBK).var (List.Mem.tail _ (List.Mem.head _))
        have hv := (unhide HBK).var (List.Mem.head _)
        have x1 : W.cell? ⟨q5, 1, none⟩ = some (.int .i64 (j : Int)) := cell_of_block hx rfl
        have x2 : W.cell? ⟨q5, 2, none⟩ = some (.int .i64 3) := cell_of_block hx rfl
        have x3 : W.cell? ⟨q5, 3, none⟩ = some (.int .i64 xa) := cell_of_block hx rfl
        clear hx hv
        have c1 := (unhide HBK).cs_ hj
        have f1 := (unhide HBK).fz j
        have hbl := (unhide HBK).lt
        have hbn : bb ≠ W.heap.size := by omega
        have hq5 := lt_of_cell x1
        have hq5n : q5 ≠ W.heap.size := by omega
        generalize hbp : bp (st j) = p1 at *
        clear hbp
        go_wp2_with fail
        go_region
        go_wp2_with fail
        go_end0
        refine ⟨rfl, ?_⟩
        have z := unhide HF xa (by simp) W (unhide HBK)
        rw [World.setCell_alloc_past _ bb j _ hbl] at z
        exact z.kp0 (Kp.refl [] _).drew
      · skip
        skip
        go_enter Try.func126, Try.ntmps126
        go_wp2_with fail
        generalize (w.alloc (.cells #[.int .i64 1, .int .i64 (j : Int), .int .i64 xm, .int .i64 xa, .int .i64 xk, .int .i64 xt, .int .i64 xp, .string xb] 37)).alloc (.cells #[.int .i64 0, .int .i64 vn, .bool vt, .string vs, .slice la n lc] 34) = W at HBK ⊢
        generalize w.heap.size + 1 = q6 at HBK ⊢
        generalize w.heap.size = q5 at HBK ⊢
        refine (hseat (j : Int) _).mono ?_
        rintro e w' ⟨rfl, hw'⟩
        subst w'
        rw [hsb]
        have hx := (unhide HBK).var (List.Mem.tail _ (List.Mem.head _))
        have hv := (unhide HBK).var (List.Mem.head _)
        have x1 : W.cell? ⟨q5, 1, none⟩ = some (.int .i64 (j : Int)) := cell_of_block hx rfl
        have x2 : W.cell? ⟨q5, 2, none⟩ = some (.int .i64 xm) := cell_of_block hx rfl
        have x3 : W.cell? ⟨q5, 3, none⟩ = some (.int .i64 xa) := cell_of_block hx rfl
        clear hx hv
        have c1 := (unhide HBK).cs_ hj
        have f1 := (unhide HBK).fz j
        have hbl := (unhide HBK).lt
        have hbn : bb ≠ W.heap.size := by omega
        have hq5 := lt_of_cell x1
        have hq5n : q5 ≠ W.heap.size := by omega
        generalize hbp : bp (st j) = p1 at *
        clear hbp
        go_wp2_with fail
        go_region
        go_wp2_with fail
        go_end0
        refine ⟨rfl, ?_⟩
        have z := unhide HF last (by simp [h3]) W (unhide HBK)
        rw [World.setCell_alloc_past _ bb j _ hbl] at z
        exact z.kp0 (Kp.refl [] _).drew
    · have hsb : seatB xs = false := decide_eq_false hs
      have hbn : bnote b ⟨1, xs, xm, xa, xk, xt, xp, xb⟩ ⟨0, vn, vt, vs, vl⟩ last = b := by rw [unhide HN, if_neg (fun q => hs q.2)]
      rw [hbn]
      have HB := hide (fun W {o1 o2 : Thing} (h : Book w0 W bb st a c ys (o1 :: o2 :: r)) => bk_close (unhide HB5) h.tail.tail)
      clear hbn
      go_enter Try.func126, Try.ntmps126
      go_wp2_with fail
      refine (hseat xs _).mono ?_
      rintro e w' ⟨rfl, hw'⟩
      subst w'
      rw [hsb]
      go_wp2_with fail
      refine bodyPost_ret (v := .tuple #[]) (by simp [results, Try.results126, go_sem]) rfl ?_
      exact ⟨rfl, unhide HB _ (unhide HBK)⟩
  · have hbn : bnote b ⟨1, xs, xm, xa, xk, xt, xp, xb⟩ ⟨vc, vn, vt, vs, vl⟩ last = b := by rw [unhide HN, if_neg (fun q => hc q.1)]
    rw [hbn]
    have HB := hide (fun W {o1 o2 : Thing} (h : Book w0 W bb st a c ys (o1 :: o2 :: r)) => bk_close (unhide HB5) h.tail.tail)
    clear hbn
    go_enter Try.func126, Try.ntmps126
    go_wp2_with fail
    refine bodyPost_ret (v := .tuple #[]) (by simp [results, Try.results126, go_sem]) rfl ?_
    exact ⟨rfl, unhide HB _ (unhide HBK)⟩
end
end Go.Proofs.Ytliopckocegknac

/- A book: a deed goes on, by its contract. -/
namespace Go.Proofs.Ytliopckocegknac
open Go.RowKit
set_option maxRecDepth 20000
attribute [local go_sem ↓] Go.wp_at_zero Go.wp_at_succ

theorem step_krow {ops : Array Oper} {o : Oper} {ac : Act} {w : World} {K : Act → World → Prop} {Q : Exit → Act → World → Prop} {E : Prop} (hw : Region.wanted o (yielded ops ac.tmps) = true) (s x : Operand) (t : TypeId)
    (ho : o.op = .call { callee := .builtin .append, args := #[s, x], argTypes := #[t, t] }) {e : TypeId} {k by_ : Nat} {z : Value} (hu : Try.prog.underlying t = some (.slice e)) (hi : (Try.prog.info? e).map (fun i => (i.zero, i.size, i.bytes)) = some (some z, k, by_)) (hz : z.cells.size = k) (hby : by_ ≤ 1000)
    {B : Nat} {a : Option Addr} {n cap : Nat} {xs : List Value} (h : KRow e k B w a n cap xs) (hB : B ≤ w.heap.size) (xv : Value) (news : List Value) (m : Nat)
    (hs : ac.eval s = .slice a n cap) (hx : ac.eval x = xv) (hsrc : Src Try.prog k t xv m news w) (hm : n + m ≤ 100000) (N : Nat) (hN : n + m = N)
    (kk : ∀ a' cap' w', Hid (KRow e k B w' a' N cap' (xs ++ news)) → Hid (Kp (ob a) w w') → Hid (∀ x ∈ ob a', x ∈ ob a ∨ w.heap.size ≤ x) → K (ac.put o.dst (.slice a' N cap')) w') :
    if Region.wanted o (yielded ops ac.tmps) = true then Oper.wp Try.prog o ac w K Q else E := by
  subst hN
  obtain ⟨a', cap', w', hr, h1, h2, h3⟩ := krow_app hu hi hz hby h hB o.type xv news m hsrc hm
  rw [if_pos hw]
  unfold Oper.wp execOp
  simp only [ho, resolve, invoke, builtin, Sem.run_bind, Sem.run_pure, Result.andThen_ok, List.map_toArray, List.map_cons, List.map_nil, hs, hx, hr]
  exact kk a' cap' w' h1 h2 h3
section
variable {w0 w W w' : World} {bb : Nat} {b : Bk} {st : Nat → Option Ob} {a : Option Addr} {c : Nat} {ys : List Dy} {r : List Thing}
theorem Book.put {o A : Thing} (h : Zoo w0 w (o :: (bth bb st a c ys ++ (A :: r)))) : Book w0 w bb st a c ys (A :: o :: r) := by
  have p1 := (List.perm_middle (l₁ := bth bb st a c ys ++ [A]) (a := o) (l₂ := r)).symm
  simp only [List.append_assoc, List.cons_append, List.nil_append] at p1
  exact h.perm p1
theorem Book.nil {A : Thing} (h : Book w0 w bb st a c ys (A :: r)) : Book w0 w bb st a c ys (A :: KwT 79 3 none 0 0 [] :: r) := Book.put (kw_nil 79 3 h)
theorem Book.cons {A o : Thing} {F : List Nat} {w' : World} (h : Book w0 w bb st a c ys (A :: r)) (ho : o.holds w.heap.size w' F) (hk : Kp [] w w') : Book w0 w' bb st a c ys (A :: o :: r) := Book.put (Zoo.cons h ho hk)
/-- A seat's deed apart, the act that comes beside it; what is then. -/
structure Gon (w0 W : World) (bb : Nat) (st : Nat → Option Ob) (a : Option Addr) (c : Nat) (ys : List Dy) (r : List Thing) (j : Nat) (o : Ob) (y : Ax) (q : Nat) (l1 l2 : List Thing) : Prop where
  e2 : ∀ d, opns (upd st j d) = l1 ++ OpnT d :: l2
  zoo : Zoo w0 W (axT y :: ActT o.a o.c o.ys :: BoxT o.b (obc o) 90 :: BoxT q (axc y).toArray 101 :: BoxT bb (bkc st a ys.length c) 187 :: KwT 90 4 a ys.length c (dxcs (ys.map Dy.x)) :: (ys.map dyT ++ (l1 ++ (l2 ++ r))))
theorem Gon.mk_ {q : Nat} {y : Ax} (hz : Book w0 W bb st a c ys (BoxT q (axc y).toArray 101 :: axT y :: r)) {j : Nat} (hj : j < 5) {o : Ob} (ho : st j = some o) : ∃ l1 l2, Gon w0 W bb st a c ys r j o y q l1 l2 := by
  obtain ⟨l1, l2, e2, h1⟩ := hz.out hj
  rw [ho] at h1
  have h2 := opn_open h1
  refine ⟨l1, l2, e2, ?_⟩
  have p : (BoxT o.b (obc o) 90 :: ActT o.a o.c o.ys :: BoxT bb (bkc st a ys.length c) 187 :: KwT 90 4 a ys.length c (dxcs (ys.map Dy.x)) :: (ys.map dyT ++ (l1 ++ (l2 ++ (BoxT q (axc y).toArray 101 :: axT y :: r))))).Perm
      (axT y :: ActT o.a o.c o.ys :: BoxT o.b (obc o) 90 :: BoxT q (axc y).toArray 101 :: BoxT bb (bkc st a ys.length c) 187 :: KwT 90 4 a ys.length c (dxcs (ys.map Dy.x)) :: (ys.map dyT ++ (l1 ++ (l2 ++ r)))) := by
    have p1 := List.perm_middle (l₁ := BoxT o.b (obc o) 90 :: ActT o.a o.c o.ys :: BoxT bb (bkc st a ys.length c) 187 :: KwT 90 4 a ys.length c (dxcs (ys.map Dy.x)) :: (ys.map dyT ++ (l1 ++ l2))) (a := BoxT q (axc y).toArray 101) (l₂ := axT y :: r)
    have p2 := List.perm_middle (l₁ := BoxT q (axc y).toArray 101 :: BoxT o.b (obc o) 90 :: ActT o.a o.c o.ys :: BoxT bb (bkc st a ys.length c) 187 :: KwT 90 4 a ys.length c (dxcs (ys.map Dy.x)) :: (ys.map dyT ++ (l1 ++ l2))) (a := axT y) (l₂ := r)
    have p3 : (axT y :: BoxT q (axc y).toArray 101 :: BoxT o.b (obc o) 90 :: ActT o.a o.c o.ys :: (BoxT bb (bkc st a ys.length c) 187 :: KwT 90 4 a ys.length c (dxcs (ys.map Dy.x)) :: (ys.map dyT ++ (l1 ++ (l2 ++ r))))).Perm (axT y :: ActT o.a o.c o.ys :: BoxT o.b (obc o) 90 :: BoxT q (axc y).toArray 101 :: (BoxT bb (bkc st a ys.length c) 187 :: KwT 90 4 a ys.length c (dxcs (ys.map Dy.x)) :: (ys.map dyT ++ (l1 ++ (l2 ++ r))))) :=
      List.Perm.cons _ ((List.Perm.swap _ _ _).trans ((List.Perm.cons _ (List.Perm.swap _ _ _)).trans (List.Perm.swap _ _ _)))
    simp only [List.append_assoc, List.cons_append] at p1 p2
    exact (p1.trans p2).trans p3
  exact h2.perm p
theorem Gon.fin {j q : Nat} {o : Ob} {y : Ax} {l1 l2 : List Thing} {a2 : Option Addr} {c2 : Nat} (h : Gon w0 W bb st a c ys r j o y q l1 l2) (hj : j < 5) (ho : st j = some o) {W2 : World} (hz : Zoo w0 W2 (ActT a2 c2 (o.ys ++ [y]) :: BoxT o.b (obc o) 90 :: BoxT q (axc y).toArray 101 :: BoxT bb (bkc st a ys.length c) 187 :: KwT 90 4 a ys.length c (dxcs (ys.map Dy.x)) :: (ys.map dyT ++ (l1 ++ (l2 ++ r))))) :
    Book w0 (W2.setCell ⟨o.b, 3, none⟩ (.slice a2 (o.ys.length + 1) c2)) bb (upd st j (some ⟨o.b, ⟨o.d.n, o.d.at_, o.d.md, o.d.acts ++ [y.x]⟩, o.ys ++ [y], a2, c2⟩)) a c ys r := by
  obtain ⟨F, ⟨hbx, q2, q3⟩, k2⟩ := zoo_at1 hz
  have h1 : Zoo w0 (W2.setCell ⟨o.b, 3, none⟩ (.slice a2 (o.ys.length + 1) c2)) (ActT a2 c2 (o.ys ++ [y]) :: BoxT o.b (obc ⟨o.b, ⟨o.d.n, o.d.at_, o.d.md, o.d.acts ++ [y.x]⟩, o.ys ++ [y], a2, c2⟩) 90 :: BoxT q (axc y).toArray 101 :: BoxT bb (bkc st a ys.length c) 187 :: KwT 90 4 a ys.length c (dxcs (ys.map Dy.x)) :: (ys.map dyT ++ (l1 ++ (l2 ++ r)))) := by
    refine k2 _ _ ⟨F, ⟨?_, q2, q3⟩, ?_, fun x hx => .inl hx⟩
    · rw [heap_setCell_at _ _ hbx]
      simp [obc]
    · rw [q2]
      exact (Kp.refl [o.b] _).setCell (.inl (by simp)) _
  have h2 := opn_close (o := ⟨o.b, ⟨o.d.n, o.d.at_, o.d.md, o.d.acts ++ [y.x]⟩, o.ys ++ [y], a2, c2⟩) (zoo_swap h1)
  have h3 := zoo_drop1 h2
  refine Book.back (d := some ⟨o.b, ⟨o.d.n, o.d.at_, o.d.md, o.d.acts ++ [y.x]⟩, o.ys ++ [y], a2, c2⟩) h.e2 ?_
  have e1 : bkc (upd st j (some ⟨o.b, ⟨o.d.n, o.d.at_, o.d.md, o.d.acts ++ [y.x]⟩, o.ys ++ [y], a2, c2⟩)) a ys.length c = bkc st a ys.length c := by
    rcases (show j = 0 ∨ j = 1 ∨ j = 2 ∨ j = 3 ∨ j = 4 by omega) with e | e | e | e | e <;> subst e <;> simp [bkc, upd, ho, bp]
  rw [e1]
  exact h3
end
end Go.Proofs.Ytliopckocegknac

/- A book: a deed goes on, by its contract: whatever step. -/
namespace Go.Proofs.Ytliopckocegknac
open Go.RowKit
set_option maxRecDepth 20000
attribute [local go_sem ↓] Go.wp_at_zero Go.wp_at_succ

set_option maxHeartbeats 2000000 in
theorem bk_goOn {w0 w : World} {bb : Nat} {b : Bk} {r : List Thing} (x : HStep) (v : Ev) (la : Option Addr) (lc : Nat) (last : Int) (hx : 2 ≤ x.d ∧ x.d ≤ 5) (hls : SlO w la v.l) (hll : v.l.length ≤ 1000) (hb : ∀ s o, b.op s = some o → o.acts.length ≤ 1000) (hz : Zoo w0 w (BkT bb b :: r)) :
    Calls Try.prog 127 #[.pointer (some ⟨bb, 0, none⟩), .agg (xcs x), .agg (ecl v la lc)] w fun e w' => e = .returned (.tuple #[]) ∧ Hid (Zoo w0 w' (BkT bb (bnote b x v last) :: r)) := by
  have hu := Try.underlying88
  obtain ⟨st, a, c, ys, hb5, hbk⟩ := bk_open hz
  have HB5 := hide hb5
  have HBK := hide (hbk.two (xcs x) 37 (ecl v la lc) 34)
  have HLS := hide (hls.kp0 (((Kp.refl [] w).alloc (.cells (xcs x) 37)).alloc (.cells (ecl v la lc) 34)))
  have hop : bat5 b x.s = (bst st x.s).map Ob.d := by
    unfold bat5 bst
    split
    · exact (hb5.op _).symm
    · rfl
  have HN0 := hide (show bnote b x v last = match bat5 b x.s with | none => b | some d => if v.c = 0 then ⟨upd b.op x.s.toNat (some { d with acts := d.acts ++ [nact x v] }), b.dn⟩ else b by unfold bnote; rw [if_neg (by omega), if_pos hx]; rfl)
  rw [hop] at HN0
  have hbop := hb5.op
  have hoa := hb5.oa
  clear hz hb5 hbk hls hop
  obtain ⟨xd, xs, xm, xa, xk, xt, xp, xb⟩ := x
  obtain ⟨vc, vn, vt, vs, vl⟩ := v
  dsimp only [xcs, ecl] at *
  obtain ⟨ln, hln⟩ : ∃ ln, vl.length = ln := ⟨_, rfl⟩
  rw [hln] at HBK HLS ⊢
  have HLL := hide hln
  clear hln
  cases hbst : bst st xs with
  | none =>
    have hbn : bnote b ⟨xd, xs, xm, xa, xk, xt, xp, xb⟩ ⟨vc, vn, vt, vs, vl⟩ last = b := by rw [unhide HN0, hbst]; rfl
    rw [hbn]
    have HB := hide (fun W {o1 o2 : Thing} (h : Book w0 W bb st a c ys (o1 :: o2 :: r)) => bk_close (unhide HB5) h.tail.tail)
    clear hbn hbop hoa
    go_enter Try.func127, Try.ntmps127
    go_wp2_with fail
    refine (bk_find xs (unhide HBK)).mono ?_
    rintro e w' ⟨rfl, hw'⟩
    subst w'
    rw [hbst]
    dsimp only [bp, Option.map_none]
    go_wp2_with fail
    refine bodyPost_ret (v := .tuple #[]) (by simp [results, Try.results127, go_sem]) rfl ?_
    exact ⟨rfl, unhide HB _ (unhide HBK)⟩
  | some o =>
    rw [hbst] at HN0
    dsimp only [Option.map_some] at HN0
    by_cases hc : vc = 0
    · subst hc
      have hs : 0 ≤ xs ∧ xs < 5 := by
        unfold bst at hbst
        split at hbst
        · assumption
        · cases hbst
      obtain ⟨j, hjx, hj⟩ := seat_in hs
      have hjs : xs.toNat = j := by omega
      have hst : st j = some o := by unfold bst at hbst; rw [if_pos hs, hjs] at hbst; exact hbst
      have hlen : o.ys.length ≤ 1000 := by
        have h1 := hbop j
        rw [hst] at h1
        have h2 := hb j _ h1.symm
        rw [hoa j o hst, List.length_map] at h2
        exact h2
      clear hbop hoa hb hs hjx
      by_cases hk2 : xd = 2
      · skip
        subst hk2
        have HBN := hide (show bnote b ⟨2, xs, xm, xa, xk, xt, xp, xb⟩ ⟨0, vn, vt, vs, vl⟩ last = ⟨upd b.op j (some ⟨o.d.n, o.d.at_, o.d.md, o.d.acts ++ [⟨2, xk, 0, vt, vs, []⟩]⟩), b.dn⟩ by rw [unhide HN0, if_pos rfl, hjs]; rfl)
        go_enter Try.func127, Try.ntmps127
        go_wp2_with fail
        generalize (w.alloc (.cells #[.int .i64 2, .int .i64 xs, .int .i64 xm, .int .i64 xa, .int .i64 xk, .int .i64 xt, .int .i64 xp, .string xb] 37)).alloc (.cells #[.int .i64 0, .int .i64 vn, .bool vt, .string vs, .slice la ln lc] 34) = W at HBK HLS ⊢
        generalize w.heap.size + 1 = q5 at HBK ⊢
        generalize w.heap.size = q4 at HBK ⊢
        refine (bk_find xs (unhide HBK)).mono ?_
        rintro e w' ⟨rfl, hw'⟩
        subst w'
        rw [hbst]
        dsimp only [bp, Option.map_some]
        have hx := (unhide HBK).var (List.Mem.tail _ (List.Mem.head _))
        have hv := (unhide HBK).var (List.Mem.head _)
        have x0 : W.cell? ⟨q4, 0, none⟩ = some (.int .i64 2) := cell_of_block hx rfl
        have x1 : W.cell? ⟨q4, 1, none⟩ = some (.int .i64 xs) := cell_of_block hx rfl
        have x4 : W.cell? ⟨q4, 4, none⟩ = some (.int .i64 xk) := cell_of_block hx rfl
        have x5 : W.cell? ⟨q4, 5, none⟩ = some (.int .i64 xt) := cell_of_block hx rfl
        have x7 : W.cell? ⟨q4, 7, none⟩ = some (.string xb) := cell_of_block hx rfl
        have v0 : W.cell? ⟨q5, 0, none⟩ = some (.int .i64 0) := cell_of_block hv rfl
        have v2 : W.cell? ⟨q5, 2, none⟩ = some (.bool vt) := cell_of_block hv rfl
        have v3 : W.cell? ⟨q5, 3, none⟩ = some (.string vs) := cell_of_block hv rfl
        have v4 : W.cell? ⟨q5, 4, none⟩ = some (.slice la ln lc) := cell_of_block hv rfl
        have hq4 := lt_of_block hx
        have hq5 := lt_of_block hv
        have n4 : q4 ≠ W.heap.size := by omega
        have n5 : q5 ≠ W.heap.size := by omega
        clear hx hv
        have HB1 := hide ((unhide HBK).new #[.int .i64 2, .int .i64 xk, .int .i64 0, .bool vt, .string vs, .slice none 0 0] 101).nil
        go_wp2_with fail
        generalize W.alloc (.cells #[.int .i64 2, .int .i64 xk, .int .i64 0, .bool vt, .string vs, .slice none 0 0] 101) = W1 at HB1 ⊢
        generalize W.heap.size = q7 at HB1 ⊢
        clear n4 n5 hq4 hq5 x0 x1 x4 x5 x7 v0 v2 v3 v4 HLS
        obtain ⟨l1, l2, hg⟩ := Gon.mk_ (y := ⟨⟨2, xk, 0, vt, vs, []⟩, none, 0⟩) (unhide HB1) hj hst
        have HG := hide hg
        have hrow := act_row (l1 := [axT ⟨⟨2, xk, 0, vt, vs, []⟩, none, 0⟩]) hg.zoo
        have HROW := hide hrow
        have hobx := zoo_varm hg.zoo (List.Mem.tail _ (List.Mem.tail _ (List.Mem.head _)))
        have hq7 := zoo_varm hg.zoo (List.Mem.tail _ (List.Mem.tail _ (List.Mem.tail _ (List.Mem.head _))))
        have o3 : W1.cell? ⟨o.b, 3, none⟩ = some (.slice o.a o.ys.length o.c) := cell_of_block hobx rfl
        have fo3 := frozen_of_block 3 hobx
        have hol := lt_of_block hobx
        have hq7l := lt_of_block hq7
        have hBw := Zoo.base hg.zoo
        have ya0 : W1.cell? ⟨q7, 0, none⟩ = some (.int .i64 2) := cell_of_block hq7 rfl
        have ya1 : W1.cell? ⟨q7, 1, none⟩ = some (.int .i64 xk) := cell_of_block hq7 rfl
        have ya2 : W1.cell? ⟨q7, 2, none⟩ = some (.int .i64 0) := cell_of_block hq7 rfl
        have ya3 : W1.cell? ⟨q7, 3, none⟩ = some (.bool vt) := cell_of_block hq7 rfl
        have ya4 : W1.cell? ⟨q7, 4, none⟩ = some (.string vs) := cell_of_block hq7 rfl
        have ya5 : W1.cell? ⟨q7, 5, none⟩ = some (.slice none 0 0) := cell_of_block hq7 rfl
        clear hg hrow hobx hq7 HB1 HBK
        obtain ⟨n, hn⟩ : ∃ n, o.ys.length = n := ⟨_, rfl⟩
        rw [hn] at o3
        have HROW2 : Hid (KRow 101 6 w0.heap.size W1 o.a n o.c (axcs o.ys)) := by rw [← hn]; exact unhide HROW
        have HN := hide hn
        have hn1000 : n ≤ 1000 := by rw [← hn]; exact hlen
        clear hn HROW hlen
        have far := fun (W2 : World) (a2 : Option Addr) (c2 : Nat) (g1 : Hid (KRow 101 6 w0.heap.size W2 a2 (n + 1) c2 (axcs o.ys ++ [.int .i64 2, .int .i64 xk, .int .i64 0, .bool vt, .string vs, .slice none 0 0]))) (g2 : Hid (Kp (ob o.a) (W1.alloc (.cells #[.int .i64 2, .int .i64 xk, .int .i64 0, .bool vt, .string vs, .slice none 0 0] 101)).drew W2)) (g3 : Hid (∀ x ∈ ob a2, x ∈ ob o.a ∨ (W1.alloc (.cells #[.int .i64 2, .int .i64 xk, .int .i64 0, .bool vt, .string vs, .slice none 0 0] 101)).drew.heap.size ≤ x)) => act_more (y := ⟨⟨2, xk, 0, vt, vs, []⟩, none, 0⟩) (ac := o.a) (cc := o.c) (zs := o.ys) (((unhide HG).zoo).kp0 (((Kp.refl [] W1).alloc (.cells #[.int .i64 2, .int .i64 xk, .int .i64 0, .bool vt, .string vs, .slice none 0 0] 101)).drew)) (by rw [unhide HN]; exact unhide g1) (unhide g2) (unhide g3)
        have FAR := hide far
        clear far
        go_wp2_with fail
        go_region_law (refine step_krow (by rfl) (.tmp 50) (.tmp 52) 88 (by rfl) hu Try.info101 rfl (by omega) ((unhide HROW2).kp0 (((Kp.refl [] W1).alloc _).drew)) (by simp; omega) (.slice (some ⟨W1.heap.size, 0, none⟩) 1 1) [.int .i64 2, .int .i64 xk, .int .i64 0, .bool vt, .string vs, .slice none 0 0] 1 (by rfl) (by rfl) (src_built (cs := #[.int .i64 2, .int .i64 xk, .int .i64 0, .bool vt, .string vs, .slice none 0 0]) (T := 101) (fr := (0, 0)) hu (heap_alloc_new W1 _) rfl (by simp [Value.oneCell'])) (by omega) (n + 1) rfl ?_; intro a2 c2 w2 g1 g2 g3; have HZ2 := hide (unhide FAR w2 a2 c2 g1 g2 g3); have hob2 := zoo_varm (unhide HZ2) (List.Mem.tail _ (List.Mem.head _)); have r0 : w2.cell? ⟨o.b, 3, none⟩ = some (.slice o.a o.ys.length o.c) := cell_of_block hob2 rfl; have r1 := frozen_of_block 3 hob2; clear g1 g2 g3 hob2)
        all_goals
          go_wp2_with fail
          go_end0
          refine ⟨rfl, ?_⟩
          have z := (unhide HG).fin hj hst (unhide HZ2)
          rw [unhide HN] at z
          refine bk_close ?_ (z.tail.tail)
          have s1 := (unhide HB5).sit j (some ⟨o.b, ⟨o.d.n, o.d.at_, o.d.md, o.d.acts ++ [⟨2, xk, 0, vt, vs, []⟩]⟩, o.ys ++ [⟨⟨2, xk, 0, vt, vs, []⟩, none, 0⟩], a2, c2⟩) (fun z hz => by cases hz; simp [(unhide HB5).oa j o hst])
          rw [unhide HBN]
          exact s1
      by_cases hk3 : xd = 3
      · skip
        subst hk3
        have HBN := hide (show bnote b ⟨3, xs, xm, xa, xk, xt, xp, xb⟩ ⟨0, vn, vt, vs, vl⟩ last = ⟨upd b.op j (some ⟨o.d.n, o.d.at_, o.d.md, o.d.acts ++ [⟨3, xk, 0, true, xb, []⟩]⟩), b.dn⟩ by rw [unhide HN0, if_pos rfl, hjs]; rfl)
        go_enter Try.func127, Try.ntmps127
        go_wp2_with fail
        generalize (w.alloc (.cells #[.int .i64 3, .int .i64 xs, .int .i64 xm, .int .i64 xa, .int .i64 xk, .int .i64 xt, .int .i64 xp, .string xb] 37)).alloc (.cells #[.int .i64 0, .int .i64 vn, .bool vt, .string vs, .slice la ln lc] 34) = W at HBK HLS ⊢
        generalize w.heap.size + 1 = q5 at HBK ⊢
        generalize w.heap.size = q4 at HBK ⊢
        refine (bk_find xs (unhide HBK)).mono ?_
        rintro e w' ⟨rfl, hw'⟩
        subst w'
        rw [hbst]
        dsimp only [bp, Option.map_some]
        have hx := (unhide HBK).var (List.Mem.tail _ (List.Mem.head _))
        have hv := (unhide HBK).var (List.Mem.head _)
        have x0 : W.cell? ⟨q4, 0, none⟩ = some (.int .i64 3) := cell_of_block hx rfl
        have x1 : W.cell? ⟨q4, 1, none⟩ = some (.int .i64 xs) := cell_of_block hx rfl
        have x4 : W.cell? ⟨q4, 4, none⟩ = some (.int .i64 xk) := cell_of_block hx rfl
        have x5 : W.cell? ⟨q4, 5, none⟩ = some (.int .i64 xt) := cell_of_block hx rfl
        have x7 : W.cell? ⟨q4, 7, none⟩ = some (.string xb) := cell_of_block hx rfl
        have v0 : W.cell? ⟨q5, 0, none⟩ = some (.int .i64 0) := cell_of_block hv rfl
        have v2 : W.cell? ⟨q5, 2, none⟩ = some (.bool vt) := cell_of_block hv rfl
        have v3 : W.cell? ⟨q5, 3, none⟩ = some (.string vs) := cell_of_block hv rfl
        have v4 : W.cell? ⟨q5, 4, none⟩ = some (.slice la ln lc) := cell_of_block hv rfl
        have hq4 := lt_of_block hx
        have hq5 := lt_of_block hv
        have n4 : q4 ≠ W.heap.size := by omega
        have n5 : q5 ≠ W.heap.size := by omega
        clear hx hv
        have HB1 := hide ((unhide HBK).new #[.int .i64 3, .int .i64 xk, .int .i64 0, .bool true, .string xb, .slice none 0 0] 101).nil
        go_wp2_with fail
        generalize W.alloc (.cells #[.int .i64 3, .int .i64 xk, .int .i64 0, .bool true, .string xb, .slice none 0 0] 101) = W1 at HB1 ⊢
        generalize W.heap.size = q7 at HB1 ⊢
        clear n4 n5 hq4 hq5 x0 x1 x4 x5 x7 v0 v2 v3 v4 HLS
        obtain ⟨l1, l2, hg⟩ := Gon.mk_ (y := ⟨⟨3, xk, 0, true, xb, []⟩, none, 0⟩) (unhide HB1) hj hst
        have HG := hide hg
        have hrow := act_row (l1 := [axT ⟨⟨3, xk, 0, true, xb, []⟩, none, 0⟩]) hg.zoo
        have HROW := hide hrow
        have hobx := zoo_varm hg.zoo (List.Mem.tail _ (List.Mem.tail _ (List.Mem.head _)))
        have hq7 := zoo_varm hg.zoo (List.Mem.tail _ (List.Mem.tail _ (List.Mem.tail _ (List.Mem.head _))))
        have o3 : W1.cell? ⟨o.b, 3, none⟩ = some (.slice o.a o.ys.length o.c) := cell_of_block hobx rfl
        have fo3 := frozen_of_block 3 hobx
        have hol := lt_of_block hobx
        have hq7l := lt_of_block hq7
        have hBw := Zoo.base hg.zoo
        have ya0 : W1.cell? ⟨q7, 0, none⟩ = some (.int .i64 3) := cell_of_block hq7 rfl
        have ya1 : W1.cell? ⟨q7, 1, none⟩ = some (.int .i64 xk) := cell_of_block hq7 rfl
        have ya2 : W1.cell? ⟨q7, 2, none⟩ = some (.int .i64 0) := cell_of_block hq7 rfl
        have ya3 : W1.cell? ⟨q7, 3, none⟩ = some (.bool true) := cell_of_block hq7 rfl
        have ya4 : W1.cell? ⟨q7, 4, none⟩ = some (.string xb) := cell_of_block hq7 rfl
        have ya5 : W1.cell? ⟨q7, 5, none⟩ = some (.slice none 0 0) := cell_of_block hq7 rfl
        clear hg hrow hobx hq7 HB1 HBK
        obtain ⟨n, hn⟩ : ∃ n, o.ys.length = n := ⟨_, rfl⟩
        rw [hn] at o3
        have HROW2 : Hid (KRow 101 6 w0.heap.size W1 o.a n o.c (axcs o.ys)) := by rw [← hn]; exact unhide HROW
        have HN := hide hn
        have hn1000 : n ≤ 1000 := by rw [← hn]; exact hlen
        clear hn HROW hlen
        have far := fun (W2 : World) (a2 : Option Addr) (c2 : Nat) (g1 : Hid (KRow 101 6 w0.heap.size W2 a2 (n + 1) c2 (axcs o.ys ++ [.int .i64 3, .int .i64 xk, .int .i64 0, .bool true, .string xb, .slice none 0 0]))) (g2 : Hid (Kp (ob o.a) (W1.alloc (.cells #[.int .i64 3, .int .i64 xk, .int .i64 0, .bool true, .string xb, .slice none 0 0] 101)).drew W2)) (g3 : Hid (∀ x ∈ ob a2, x ∈ ob o.a ∨ (W1.alloc (.cells #[.int .i64 3, .int .i64 xk, .int .i64 0, .bool true, .string xb, .slice none 0 0] 101)).drew.heap.size ≤ x)) => act_more (y := ⟨⟨3, xk, 0, true, xb, []⟩, none, 0⟩) (ac := o.a) (cc := o.c) (zs := o.ys) (((unhide HG).zoo).kp0 (((Kp.refl [] W1).alloc (.cells #[.int .i64 3, .int .i64 xk, .int .i64 0, .bool true, .string xb, .slice none 0 0] 101)).drew)) (by rw [unhide HN]; exact unhide g1) (unhide g2) (unhide g3)
        have FAR := hide far
        clear far
        go_wp2_with fail
        go_region_law (refine step_krow (by rfl) (.tmp 50) (.tmp 52) 88 (by rfl) hu Try.info101 rfl (by omega) ((unhide HROW2).kp0 (((Kp.refl [] W1).alloc _).drew)) (by simp; omega) (.slice (some ⟨W1.heap.size, 0, none⟩) 1 1) [.int .i64 3, .int .i64 xk, .int .i64 0, .bool true, .string xb, .slice none 0 0] 1 (by rfl) (by rfl) (src_built (cs := #[.int .i64 3, .int .i64 xk, .int .i64 0, .bool true, .string xb, .slice none 0 0]) (T := 101) (fr := (0, 0)) hu (heap_alloc_new W1 _) rfl (by simp [Value.oneCell'])) (by omega) (n + 1) rfl ?_; intro a2 c2 w2 g1 g2 g3; have HZ2 := hide (unhide FAR w2 a2 c2 g1 g2 g3); have hob2 := zoo_varm (unhide HZ2) (List.Mem.tail _ (List.Mem.head _)); have r0 : w2.cell? ⟨o.b, 3, none⟩ = some (.slice o.a o.ys.length o.c) := cell_of_block hob2 rfl; have r1 := frozen_of_block 3 hob2; clear g1 g2 g3 hob2)
        all_goals
          go_wp2_with fail
          go_end0
          refine ⟨rfl, ?_⟩
          have z := (unhide HG).fin hj hst (unhide HZ2)
          rw [unhide HN] at z
          refine bk_close ?_ (z.tail.tail)
          have s1 := (unhide HB5).sit j (some ⟨o.b, ⟨o.d.n, o.d.at_, o.d.md, o.d.acts ++ [⟨3, xk, 0, true, xb, []⟩]⟩, o.ys ++ [⟨⟨3, xk, 0, true, xb, []⟩, none, 0⟩], a2, c2⟩) (fun z hz => by cases hz; simp [(unhide HB5).oa j o hst])
          rw [unhide HBN]
          exact s1
      by_cases hk4 : xd = 4
      · skip
        subst hk4
        have HBN := hide (show bnote b ⟨4, xs, xm, xa, xk, xt, xp, xb⟩ ⟨0, vn, vt, vs, vl⟩ last = ⟨upd b.op j (some ⟨o.d.n, o.d.at_, o.d.md, o.d.acts ++ [⟨4, xk, 0, false, ⟨#[]⟩, []⟩]⟩), b.dn⟩ by rw [unhide HN0, if_pos rfl, hjs]; rfl)
        go_enter Try.func127, Try.ntmps127
        go_wp2_with fail
        generalize (w.alloc (.cells #[.int .i64 4, .int .i64 xs, .int .i64 xm, .int .i64 xa, .int .i64 xk, .int .i64 xt, .int .i64 xp, .string xb] 37)).alloc (.cells #[.int .i64 0, .int .i64 vn, .bool vt, .string vs, .slice la ln lc] 34) = W at HBK HLS ⊢
        generalize w.heap.size + 1 = q5 at HBK ⊢
        generalize w.heap.size = q4 at HBK ⊢
        refine (bk_find xs (unhide HBK)).mono ?_
        rintro e w' ⟨rfl, hw'⟩
        subst w'
        rw [hbst]
        dsimp only [bp, Option.map_some]
        have hx := (unhide HBK).var (List.Mem.tail _ (List.Mem.head _))
        have hv := (unhide HBK).var (List.Mem.head _)
        have x0 : W.cell? ⟨q4, 0, none⟩ = some (.int .i64 4) := cell_of_block hx rfl
        have x1 : W.cell? ⟨q4, 1, none⟩ = some (.int .i64 xs) := cell_of_block hx rfl
        have x4 : W.cell? ⟨q4, 4, none⟩ = some (.int .i64 xk) := cell_of_block hx rfl
        have x5 : W.cell? ⟨q4, 5, none⟩ = some (.int .i64 xt) := cell_of_block hx rfl
        have x7 : W.cell? ⟨q4, 7, none⟩ = some (.string xb) := cell_of_block hx rfl
        have v0 : W.cell? ⟨q5, 0, none⟩ = some (.int .i64 0) := cell_of_block hv rfl
        have v2 : W.cell? ⟨q5, 2, none⟩ = some (.bool vt) := cell_of_block hv rfl
        have v3 : W.cell? ⟨q5, 3, none⟩ = some (.string vs) := cell_of_block hv rfl
        have v4 : W.cell? ⟨q5, 4, none⟩ = some (.slice la ln lc) := cell_of_block hv rfl
        have hq4 := lt_of_block hx
        have hq5 := lt_of_block hv
        have n4 : q4 ≠ W.heap.size := by omega
        have n5 : q5 ≠ W.heap.size := by omega
        clear hx hv
        have HB1 := hide ((unhide HBK).new #[.int .i64 4, .int .i64 xk, .int .i64 0, .bool false, .string ⟨#[]⟩, .slice none 0 0] 101).nil
        go_wp2_with fail
        generalize W.alloc (.cells #[.int .i64 4, .int .i64 xk, .int .i64 0, .bool false, .string ⟨#[]⟩, .slice none 0 0] 101) = W1 at HB1 ⊢
        generalize W.heap.size = q7 at HB1 ⊢
        clear n4 n5 hq4 hq5 x0 x1 x4 x5 x7 v0 v2 v3 v4 HLS
        obtain ⟨l1, l2, hg⟩ := Gon.mk_ (y := ⟨⟨4, xk, 0, false, ⟨#[]⟩, []⟩, none, 0⟩) (unhide HB1) hj hst
        have HG := hide hg
        have hrow := act_row (l1 := [axT ⟨⟨4, xk, 0, false, ⟨#[]⟩, []⟩, none, 0⟩]) hg.zoo
        have HROW := hide hrow
        have hobx := zoo_varm hg.zoo (List.Mem.tail _ (List.Mem.tail _ (List.Mem.head _)))
        have hq7 := zoo_varm hg.zoo (List.Mem.tail _ (List.Mem.tail _ (List.Mem.tail _ (List.Mem.head _))))
        have o3 : W1.cell? ⟨o.b, 3, none⟩ = some (.slice o.a o.ys.length o.c) := cell_of_block hobx rfl
        have fo3 := frozen_of_block 3 hobx
        have hol := lt_of_block hobx
        have hq7l := lt_of_block hq7
        have hBw := Zoo.base hg.zoo
        have ya0 : W1.cell? ⟨q7, 0, none⟩ = some (.int .i64 4) := cell_of_block hq7 rfl
        have ya1 : W1.cell? ⟨q7, 1, none⟩ = some (.int .i64 xk) := cell_of_block hq7 rfl
        have ya2 : W1.cell? ⟨q7, 2, none⟩ = some (.int .i64 0) := cell_of_block hq7 rfl
        have ya3 : W1.cell? ⟨q7, 3, none⟩ = some (.bool false) := cell_of_block hq7 rfl
        have ya4 : W1.cell? ⟨q7, 4, none⟩ = some (.string ⟨#[]⟩) := cell_of_block hq7 rfl
        have ya5 : W1.cell? ⟨q7, 5, none⟩ = some (.slice none 0 0) := cell_of_block hq7 rfl
        clear hg hrow hobx hq7 HB1 HBK
        obtain ⟨n, hn⟩ : ∃ n, o.ys.length = n := ⟨_, rfl⟩
        rw [hn] at o3
        have HROW2 : Hid (KRow 101 6 w0.heap.size W1 o.a n o.c (axcs o.ys)) := by rw [← hn]; exact unhide HROW
        have HN := hide hn
        have hn1000 : n ≤ 1000 := by rw [← hn]; exact hlen
        clear hn HROW hlen
        have far := fun (W2 : World) (a2 : Option Addr) (c2 : Nat) (g1 : Hid (KRow 101 6 w0.heap.size W2 a2 (n + 1) c2 (axcs o.ys ++ [.int .i64 4, .int .i64 xk, .int .i64 0, .bool false, .string ⟨#[]⟩, .slice none 0 0]))) (g2 : Hid (Kp (ob o.a) (W1.alloc (.cells #[.int .i64 4, .int .i64 xk, .int .i64 0, .bool false, .string ⟨#[]⟩, .slice none 0 0] 101)).drew W2)) (g3 : Hid (∀ x ∈ ob a2, x ∈ ob o.a ∨ (W1.alloc (.cells #[.int .i64 4, .int .i64 xk, .int .i64 0, .bool false, .string ⟨#[]⟩, .slice none 0 0] 101)).drew.heap.size ≤ x)) => act_more (y := ⟨⟨4, xk, 0, false, ⟨#[]⟩, []⟩, none, 0⟩) (ac := o.a) (cc := o.c) (zs := o.ys) (((unhide HG).zoo).kp0 (((Kp.refl [] W1).alloc (.cells #[.int .i64 4, .int .i64 xk, .int .i64 0, .bool false, .string ⟨#[]⟩, .slice none 0 0] 101)).drew)) (by rw [unhide HN]; exact unhide g1) (unhide g2) (unhide g3)
        have FAR := hide far
        clear far
        go_wp2_with fail
        go_region_law (refine step_krow (by rfl) (.tmp 50) (.tmp 52) 88 (by rfl) hu Try.info101 rfl (by omega) ((unhide HROW2).kp0 (((Kp.refl [] W1).alloc _).drew)) (by simp; omega) (.slice (some ⟨W1.heap.size, 0, none⟩) 1 1) [.int .i64 4, .int .i64 xk, .int .i64 0, .bool false, .string ⟨#[]⟩, .slice none 0 0] 1 (by rfl) (by rfl) (src_built (cs := #[.int .i64 4, .int .i64 xk, .int .i64 0, .bool false, .string ⟨#[]⟩, .slice none 0 0]) (T := 101) (fr := (0, 0)) hu (heap_alloc_new W1 _) rfl (by simp [Value.oneCell'])) (by omega) (n + 1) rfl ?_; intro a2 c2 w2 g1 g2 g3; have HZ2 := hide (unhide FAR w2 a2 c2 g1 g2 g3); have hob2 := zoo_varm (unhide HZ2) (List.Mem.tail _ (List.Mem.head _)); have r0 : w2.cell? ⟨o.b, 3, none⟩ = some (.slice o.a o.ys.length o.c) := cell_of_block hob2 rfl; have r1 := frozen_of_block 3 hob2; clear g1 g2 g3 hob2)
        all_goals
          go_wp2_with fail
          go_end0
          refine ⟨rfl, ?_⟩
          have z := (unhide HG).fin hj hst (unhide HZ2)
          rw [unhide HN] at z
          refine bk_close ?_ (z.tail.tail)
          have s1 := (unhide HB5).sit j (some ⟨o.b, ⟨o.d.n, o.d.at_, o.d.md, o.d.acts ++ [⟨4, xk, 0, false, ⟨#[]⟩, []⟩]⟩, o.ys ++ [⟨⟨4, xk, 0, false, ⟨#[]⟩, []⟩, none, 0⟩], a2, c2⟩) (fun z hz => by cases hz; simp [(unhide HB5).oa j o hst])
          rw [unhide HBN]
          exact s1
      · have hk5 : xd = 5 := by omega
        subst hk5
        have HBN := hide (show bnote b ⟨5, xs, xm, xa, xk, xt, xp, xb⟩ ⟨0, vn, vt, vs, vl⟩ last = ⟨upd b.op j (some ⟨o.d.n, o.d.at_, o.d.md, o.d.acts ++ [⟨5, xk, xt, false, ⟨#[]⟩, vl⟩]⟩), b.dn⟩ by rw [unhide HN0, if_pos rfl, hjs]; rfl)
        go_enter Try.func127, Try.ntmps127
        go_wp2_with fail
        generalize (w.alloc (.cells #[.int .i64 5, .int .i64 xs, .int .i64 xm, .int .i64 xa, .int .i64 xk, .int .i64 xt, .int .i64 xp, .string xb] 37)).alloc (.cells #[.int .i64 0, .int .i64 vn, .bool vt, .string vs, .slice la ln lc] 34) = W at HBK HLS ⊢
        generalize w.heap.size + 1 = q5 at HBK ⊢
        generalize w.heap.size = q4 at HBK ⊢
        refine (bk_find xs (unhide HBK)).mono ?_
        rintro e w' ⟨rfl, hw'⟩
        subst w'
        rw [hbst]
        dsimp only [bp, Option.map_some]
        have hx := (unhide HBK).var (List.Mem.tail _ (List.Mem.head _))
        have hv := (unhide HBK).var (List.Mem.head _)
        have x0 : W.cell? ⟨q4, 0, none⟩ = some (.int .i64 5) := cell_of_block hx rfl
        have x1 : W.cell? ⟨q4, 1, none⟩ = some (.int .i64 xs) := cell_of_block hx rfl
        have x4 : W.cell? ⟨q4, 4, none⟩ = some (.int .i64 xk) := cell_of_block hx rfl
        have x5 : W.cell? ⟨q4, 5, none⟩ = some (.int .i64 xt) := cell_of_block hx rfl
        have x7 : W.cell? ⟨q4, 7, none⟩ = some (.string xb) := cell_of_block hx rfl
        have v0 : W.cell? ⟨q5, 0, none⟩ = some (.int .i64 0) := cell_of_block hv rfl
        have v2 : W.cell? ⟨q5, 2, none⟩ = some (.bool vt) := cell_of_block hv rfl
        have v3 : W.cell? ⟨q5, 3, none⟩ = some (.string vs) := cell_of_block hv rfl
        have v4 : W.cell? ⟨q5, 4, none⟩ = some (.slice la ln lc) := cell_of_block hv rfl
        have hq4 := lt_of_block hx
        have hq5 := lt_of_block hv
        have n4 : q4 ≠ W.heap.size := by omega
        have n5 : q5 ≠ W.heap.size := by omega
        clear hx hv
        have HB0 := hide ((unhide HBK).new #[.int .i64 5, .int .i64 xk, .int .i64 0, .bool false, .string ⟨#[]⟩, .slice none 0 0] 101)
        have HLS0 := hide ((unhide HLS).kp0 ((Kp.refl [] W).alloc (.cells #[.int .i64 5, .int .i64 xk, .int .i64 0, .bool false, .string ⟨#[]⟩, .slice none 0 0] 101)))
        go_wp2_with fail
        generalize W.alloc (.cells #[.int .i64 5, .int .i64 xk, .int .i64 0, .bool false, .string ⟨#[]⟩, .slice none 0 0] 101) = W0 at HB0 HLS0 ⊢
        generalize W.heap.size = q7 at HB0 n4 n5 ⊢
        clear hq4 hq5 x0 x1 x4 x5 x7 v0 v2 v3 v4 HLS
        have HBD := hide ((unhide HB0).kp0 (Kp.refl [] _).drew)
        have hx := (unhide HBD).var (List.Mem.tail _ (List.Mem.tail _ (List.Mem.head _)))
        have hv := (unhide HBD).var (List.Mem.tail _ (List.Mem.head _))
        have hy := (unhide HBD).var (List.Mem.head _)
        have HSS := hide (show W0.drew.cell? ⟨q4, 5, none⟩ = some (.int .i64 xt) ∧ W0.drew.cell? ⟨q5, 4, none⟩ = some (.slice la ln lc) from ⟨cell_of_block hx rfl, cell_of_block hv rfl⟩)
        clear hx hv hy
        refine wp_region_held_drew (S := fun w' => w'.cell? ⟨q4, 5, none⟩ = some (.int .i64 xt) ∧ w'.cell? ⟨q5, 4, none⟩ = some (.slice la ln lc)) (by kernel_rfl) (unhide HSS) (fun hHeld => ?_)
        refine wpAnyH_tk (i := 0) (v := ?_) rfl (by kernel_rfl) (by kernel_rfl) (by kernel_rfl) (fun _ _ _ h => h) (Or.inl ⟨by rfl, ?_⟩) hHeld ?_
        rotate_left
        · intro w hSw
          try dsimp only at hSw
          go_simp
          try with_reducible rfl
        try simp only [Act.put, List.setIfInBounds_toArray, List.set_cons_zero, List.set_cons_succ]
        refine wpAnyH_tk (i := 1) (v := ?_) rfl (by kernel_rfl) (by kernel_rfl) (by kernel_rfl) (fun _ _ _ h => h) (Or.inl ⟨by rfl, ?_⟩) hHeld ?_
        rotate_left
        · intro w hSw
          try dsimp only at hSw
          go_simp
          try with_reducible rfl
        try simp only [Act.put, List.setIfInBounds_toArray, List.set_cons_zero, List.set_cons_succ]
        refine wpAnyH_tk (i := 2) (v := ?_) rfl (by kernel_rfl) (by kernel_rfl) (by kernel_rfl) (fun _ _ _ h => h) (Or.inl ⟨by rfl, ?_⟩) hHeld ?_
        rotate_left
        · intro w hSw
          try dsimp only at hSw
          go_simp
          try with_reducible rfl
        try simp only [Act.put, List.setIfInBounds_toArray, List.set_cons_zero, List.set_cons_succ]
        refine wpAnyH_tk (i := 3) (v := ?_) rfl (by kernel_rfl) (by kernel_rfl) (by kernel_rfl) (fun _ _ _ h => h) (Or.inl ⟨by rfl, ?_⟩) hHeld ?_
        rotate_left
        · intro w hSw
          try dsimp only at hSw
          go_simp
          try with_reducible rfl
        try simp only [Act.put, List.setIfInBounds_toArray, List.set_cons_zero, List.set_cons_succ]
        refine wpAnyH_tk (i := 5) (v := ?_) rfl (by kernel_rfl) (by kernel_rfl) (by kernel_rfl) (fun _ _ _ h => h) (Or.inl ⟨by rfl, ?_⟩) hHeld ?_
        rotate_left
        · intro w hSw
          try dsimp only at hSw
          go_simp
          try with_reducible rfl
        try simp only [Act.put, List.setIfInBounds_toArray, List.set_cons_zero, List.set_cons_succ]
        refine wpAnyH_only (i := 4) rfl (by kernel_rfl) (fun K hK => ?_)
        go_simp
        rw [← unhide HLL]
        refine (clone118 la lc vl _ ((unhide HLS0).kp0 (Kp.refl [] _).drew) hll).mono ?_
        rintro e w3 ⟨a3, c3, rfl, hr3, hk3⟩
        have HB3 := hide ((unhide HBD).cons (o := KwT 79 3 a3 vl.length c3 (vcells vl)) (F := ob a3) ⟨hr3, rfl⟩ hk3)
        have HK3 := hide hk3
        clear hr3 hk3
        rw [unhide HLL]
        go_wp2_with fail
        refine hK.out _ _ (⟨(unhide HK3).cell (by simp) (unhide HSS).1, (unhide HK3).cell (by simp) (unhide HSS).2⟩) (fun hHeld2 => ?_)
        clear hK K hHeld
        have hHeld := hHeld2
        clear hHeld2
        try simp only [Act.put, List.setIfInBounds_toArray, List.set_cons_zero, List.set_cons_succ]
        have hy := (unhide HB3).var (List.Mem.head _)
        have y2 : w3.cell? ⟨q7, 2, none⟩ = some (.int .i64 0) := cell_of_block hy rfl
        have y5 : w3.cell? ⟨q7, 5, none⟩ = some (.slice none 0 0) := cell_of_block hy rfl
        have fy := fun i => frozen_of_block i hy
        clear hy
        refine wpAnyH_only (i := 6) rfl (by kernel_rfl) (fun K hK => ?_)
        go_simp
        have HB4 := hide (Book.setAt (l1 := []) (unhide HB3) 2 (.int .i64 xt))
        have SS4 : (w3.setCell ⟨q7, 2, none⟩ (.int .i64 xt)).cell? ⟨q4, 5, none⟩ = some (.int .i64 xt) ∧ (w3.setCell ⟨q7, 2, none⟩ (.int .i64 xt)).cell? ⟨q5, 4, none⟩ = some (.slice la ln lc) := ⟨cell_of_block ((unhide HB4).var (List.Mem.tail _ (List.Mem.tail _ (List.Mem.tail _ (List.Mem.head _))))) rfl, cell_of_block ((unhide HB4).var (List.Mem.tail _ (List.Mem.tail _ (List.Mem.head _)))) rfl⟩
        refine hK.out _ _ (SS4) (fun hHeld2 => ?_)
        clear hK K hHeld
        have hHeld := hHeld2
        clear hHeld2
        try simp only [Act.put, List.setIfInBounds_toArray, List.set_cons_zero, List.set_cons_succ]
        have hy4 := (unhide HB4).var (List.Mem.head _)
        have z5 : (w3.setCell ⟨q7, 2, none⟩ (.int .i64 xt)).cell? ⟨q7, 5, none⟩ = some (.slice none 0 0) := cell_of_block hy4 rfl
        have fz5 := frozen_of_block 5 hy4
        clear hy4
        generalize w3.setCell ⟨q7, 2, none⟩ (.int .i64 xt) = w4 at *
        refine wpAnyH_tk (i := 7) (v := ?_) rfl (by kernel_rfl) (by kernel_rfl) (by kernel_rfl) (fun _ _ _ h => h) (Or.inl ⟨by rfl, ?_⟩) hHeld ?_
        rotate_left
        · intro w hSw
          try dsimp only at hSw
          go_simp
          try with_reducible rfl
        try simp only [Act.put, List.setIfInBounds_toArray, List.set_cons_zero, List.set_cons_succ]
        refine wpAnyH_only (i := 8) rfl (by kernel_rfl) (fun K hK => ?_)
        go_simp
        have HB5a := hide (Book.setAt (l1 := []) (unhide HB4) 5 (.slice a3 ln c3))
        have SS5 : (w4.setCell ⟨q7, 5, none⟩ (.slice a3 ln c3)).cell? ⟨q4, 5, none⟩ = some (.int .i64 xt) ∧ (w4.setCell ⟨q7, 5, none⟩ (.slice a3 ln c3)).cell? ⟨q5, 4, none⟩ = some (.slice la ln lc) := ⟨cell_of_block ((unhide HB5a).var (List.Mem.tail _ (List.Mem.tail _ (List.Mem.tail _ (List.Mem.head _))))) rfl, cell_of_block ((unhide HB5a).var (List.Mem.tail _ (List.Mem.tail _ (List.Mem.head _)))) rfl⟩
        refine hK.out _ _ (SS5) (fun hHeld2 => ?_)
        clear hK K hHeld
        have hHeld := hHeld2
        clear hHeld2
        try simp only [Act.put, List.setIfInBounds_toArray, List.set_cons_zero, List.set_cons_succ]
        refine wpAnyH_done (by kernel_rfl) ?_ _
        clear hHeld SS4 SS5 y2 y5 fy z5 fz5 HSS HB0 HBD HB3 HB4 HK3 HLS0
        have HB1 : Hid (Book w0 (w4.setCell ⟨q7, 5, none⟩ (.slice a3 ln c3)) bb st a c ys (BoxT q7 (axc ⟨⟨5, xk, xt, false, ⟨#[]⟩, vl⟩, a3, c3⟩).toArray 101 :: axT ⟨⟨5, xk, xt, false, ⟨#[]⟩, vl⟩, a3, c3⟩ :: BoxT q5 #[.int .i64 0, .int .i64 vn, .bool vt, .string vs, .slice la ln lc] 34 :: BoxT q4 #[.int .i64 5, .int .i64 xs, .int .i64 xm, .int .i64 xa, .int .i64 xk, .int .i64 xt, .int .i64 xp, .string xb] 37 :: r)) := by
          have z := unhide HB5a
          rw [← unhide HLL] at z ⊢
          exact z
        clear HB5a
        generalize w4.setCell ⟨q7, 5, none⟩ (.slice a3 ln c3) = W1 at HB1 ⊢
        go_wp2_with fail
        obtain ⟨l1, l2, hg⟩ := Gon.mk_ (y := ⟨⟨5, xk, xt, false, ⟨#[]⟩, vl⟩, a3, c3⟩) (unhide HB1) hj hst
        have HG := hide hg
        have hrow := act_row (l1 := [axT ⟨⟨5, xk, xt, false, ⟨#[]⟩, vl⟩, a3, c3⟩]) hg.zoo
        have HROW := hide hrow
        have hobx := zoo_varm hg.zoo (List.Mem.tail _ (List.Mem.tail _ (List.Mem.head _)))
        have hq7 := zoo_varm hg.zoo (List.Mem.tail _ (List.Mem.tail _ (List.Mem.tail _ (List.Mem.head _))))
        have o3 : W1.cell? ⟨o.b, 3, none⟩ = some (.slice o.a o.ys.length o.c) := cell_of_block hobx rfl
        have fo3 := frozen_of_block 3 hobx
        have hol := lt_of_block hobx
        have hq7l := lt_of_block hq7
        have hBw := Zoo.base hg.zoo
        have ya0 : W1.cell? ⟨q7, 0, none⟩ = some (.int .i64 5) := cell_of_block hq7 rfl
        have ya1 : W1.cell? ⟨q7, 1, none⟩ = some (.int .i64 xk) := cell_of_block hq7 rfl
        have ya2 : W1.cell? ⟨q7, 2, none⟩ = some (.int .i64 xt) := cell_of_block hq7 rfl
        have ya3 : W1.cell? ⟨q7, 3, none⟩ = some (.bool false) := cell_of_block hq7 rfl
        have ya4 : W1.cell? ⟨q7, 4, none⟩ = some (.string ⟨#[]⟩) := cell_of_block hq7 rfl
        have ya5 : W1.cell? ⟨q7, 5, none⟩ = some (.slice a3 ln c3) := by rw [← unhide HLL]; exact cell_of_block hq7 rfl
        clear hg hrow hobx hq7 HB1 HBK
        obtain ⟨n, hn⟩ : ∃ n, o.ys.length = n := ⟨_, rfl⟩
        rw [hn] at o3
        have HROW2 : Hid (KRow 101 6 w0.heap.size W1 o.a n o.c (axcs o.ys)) := by rw [← hn]; exact unhide HROW
        have HN := hide hn
        have hn1000 : n ≤ 1000 := by rw [← hn]; exact hlen
        clear hn HROW hlen
        have far := fun (W2 : World) (a2 : Option Addr) (c2 : Nat) (g1 : Hid (KRow 101 6 w0.heap.size W2 a2 (n + 1) c2 (axcs o.ys ++ [.int .i64 5, .int .i64 xk, .int .i64 xt, .bool false, .string ⟨#[]⟩, .slice a3 ln c3]))) (g2 : Hid (Kp (ob o.a) (W1.alloc (.cells #[.int .i64 5, .int .i64 xk, .int .i64 xt, .bool false, .string ⟨#[]⟩, .slice a3 ln c3] 101)).drew W2)) (g3 : Hid (∀ x ∈ ob a2, x ∈ ob o.a ∨ (W1.alloc (.cells #[.int .i64 5, .int .i64 xk, .int .i64 xt, .bool false, .string ⟨#[]⟩, .slice a3 ln c3] 101)).drew.heap.size ≤ x)) => act_more (y := ⟨⟨5, xk, xt, false, ⟨#[]⟩, vl⟩, a3, c3⟩) (ac := o.a) (cc := o.c) (zs := o.ys) (((unhide HG).zoo).kp0 (((Kp.refl [] W1).alloc (.cells #[.int .i64 5, .int .i64 xk, .int .i64 xt, .bool false, .string ⟨#[]⟩, .slice a3 ln c3] 101)).drew)) (by rw [unhide HN]; have z := unhide g1; rw [← unhide HLL] at z; exact z) (unhide g2) (unhide g3)
        have FAR := hide far
        clear far
        go_wp2_with fail
        go_region_law (refine step_krow (by rfl) (.tmp 50) (.tmp 52) 88 (by rfl) hu Try.info101 rfl (by omega) ((unhide HROW2).kp0 (((Kp.refl [] W1).alloc _).drew)) (by simp; omega) (.slice (some ⟨W1.heap.size, 0, none⟩) 1 1) [.int .i64 5, .int .i64 xk, .int .i64 xt, .bool false, .string ⟨#[]⟩, .slice a3 ln c3] 1 (by rfl) (by rfl) (src_built (cs := #[.int .i64 5, .int .i64 xk, .int .i64 xt, .bool false, .string ⟨#[]⟩, .slice a3 ln c3]) (T := 101) (fr := (0, 0)) hu (heap_alloc_new W1 _) rfl (by simp [Value.oneCell'])) (by omega) (n + 1) rfl ?_; intro a2 c2 w2 g1 g2 g3; have HZ2 := hide (unhide FAR w2 a2 c2 g1 g2 g3); have hob2 := zoo_varm (unhide HZ2) (List.Mem.tail _ (List.Mem.head _)); have r0 : w2.cell? ⟨o.b, 3, none⟩ = some (.slice o.a o.ys.length o.c) := cell_of_block hob2 rfl; have r1 := frozen_of_block 3 hob2; clear g1 g2 g3 hob2)
        all_goals
          go_wp2_with fail
          go_end0
          refine ⟨rfl, ?_⟩
          have z := (unhide HG).fin hj hst (unhide HZ2)
          rw [unhide HN] at z
          refine bk_close ?_ (z.tail.tail)
          have s1 := (unhide HB5).sit j (some ⟨o.b, ⟨o.d.n, o.d.at_, o.d.md, o.d.acts ++ [⟨5, xk, xt, false, ⟨#[]⟩, vl⟩]⟩, o.ys ++ [⟨⟨5, xk, xt, false, ⟨#[]⟩, vl⟩, a3, c3⟩], a2, c2⟩) (fun z hz => by cases hz; simp [(unhide HB5).oa j o hst])
          rw [unhide HBN]
          exact s1
    · have hbn : bnote b ⟨xd, xs, xm, xa, xk, xt, xp, xb⟩ ⟨vc, vn, vt, vs, vl⟩ last = b := by rw [unhide HN0, if_neg hc]
      rw [hbn]
      have HB := hide (fun W {o1 o2 : Thing} (h : Book w0 W bb st a c ys (o1 :: o2 :: r)) => bk_close (unhide HB5) h.tail.tail)
      clear hbn hbop hoa
      go_enter Try.func127, Try.ntmps127
      go_wp2_with fail
      refine (bk_find xs (unhide HBK)).mono ?_
      rintro e w' ⟨rfl, hw'⟩
      subst w'
      rw [hbst]
      dsimp only [bp, Option.map_some]
      go_wp2_with fail
      refine bodyPost_ret (v := .tuple #[]) (by simp [results, Try.results127, go_sem]) rfl ?_
      exact ⟨rfl, unhide HB _ (unhide HBK)⟩
end Go.Proofs.Ytliopckocegknac

/- A book: a deed is over, by its contract. -/
namespace Go.Proofs.Ytliopckocegknac
open Go.RowKit
set_option maxRecDepth 20000
attribute [local go_sem ↓] Go.wp_at_zero Go.wp_at_succ

section
variable {w0 w W w' : World} {bb : Nat} {b : Bk} {st : Nat → Option Ob} {a : Option Addr} {c : Nat} {ys : List Dy} {r : List Thing}
/-- A seat's deed is let go. -/
theorem Book.drop (hz : Book w0 w bb st a c ys r) {j : Nat} (hj : j < 5) : Book w0 (w.setCell ⟨bb, j, none⟩ (.pointer none)) bb (upd st j none) a c ys r := by
  obtain ⟨l1, l2, e2, h1⟩ := hz.out hj
  have h2 := opn_none h1.tail
  refine Book.back (d := none) e2 ?_
  obtain ⟨F, ⟨hbx, q2, q3⟩, k2⟩ := zoo_at1 h2
  refine k2 _ _ ⟨F, ⟨?_, q2, q3⟩, ?_, fun x hx => .inl hx⟩
  · rw [heap_setCell_at _ _ hbx]
    have := bkc_set st a ys.length c hj none
    rw [← this]
    rfl
  · rw [q2]
    exact (Kp.refl [bb] _).setCell (.inl (by simp)) _
/-- A seat's deed apart, its number set. -/
structure Edn (w0 W : World) (bb : Nat) (st : Nat → Option Ob) (a : Option Addr) (c : Nat) (ys : List Dy) (r : List Thing) (j : Nat) (o : Ob) (num : Int) (l1 l2 : List Thing) : Prop where
  e2 : ∀ d, opns (upd st j d) = l1 ++ OpnT d :: l2
  zoo : Zoo w0 W (KwT 90 4 a ys.length c (dxcs (ys.map Dy.x)) :: BoxT o.b #[.int .i64 num, .int .i64 o.d.at_, .int .i64 o.d.md, .slice o.a o.ys.length o.c] 90 :: BoxT bb (bkc st a ys.length c) 187 :: ActT o.a o.c o.ys :: (ys.map dyT ++ (l1 ++ (l2 ++ r))))
theorem Edn.mk_ (hz : Book w0 W bb st a c ys r) {j : Nat} (hj : j < 5) {o : Ob} (ho : st j = some o) (num : Int) : ∃ l1 l2, Edn w0 (W.setCell ⟨o.b, 0, none⟩ (.int .i64 num)) bb st a c ys r j o num l1 l2 := by
  obtain ⟨l1, l2, e2, h1⟩ := hz.out hj
  rw [ho] at h1
  have h2 := opn_open h1
  obtain ⟨F, ⟨hbx, q2, q3⟩, k2⟩ := zoo_at0 h2
  have h3 := k2 (BoxT o.b #[.int .i64 num, .int .i64 o.d.at_, .int .i64 o.d.md, .slice o.a o.ys.length o.c] 90) (W.setCell ⟨o.b, 0, none⟩ (.int .i64 num)) ⟨F, ⟨by rw [heap_setCell_at _ _ hbx]; simp [obc], q2, q3⟩, by rw [q2]; exact (Kp.refl [o.b] _).setCell (.inl (by simp)) _, fun x hx => .inl hx⟩
  refine ⟨l1, l2, e2, h3.perm ?_⟩
  generalize (ys.map dyT ++ (l1 ++ (l2 ++ r))) = R
  generalize KwT 90 4 a ys.length c (dxcs (ys.map Dy.x)) = K
  generalize BoxT o.b #[.int .i64 num, .int .i64 o.d.at_, .int .i64 o.d.md, .slice o.a o.ys.length o.c] 90 = A
  generalize BoxT bb (bkc st a ys.length c) 187 = B
  generalize ActT o.a o.c o.ys = T
  exact ((List.Perm.cons _ ((List.Perm.cons _ (List.Perm.swap _ _ _)).trans (List.Perm.swap _ _ _))).trans (List.Perm.swap _ _ _)).trans (List.Perm.cons _ (List.Perm.cons _ (List.Perm.swap _ _ _)))
/-- The deed is one of those that were done. -/
def dy1 (o : Ob) (num : Int) : Dy := ⟨⟨⟨num, o.d.at_, o.d.md, o.d.acts⟩, o.a, o.c⟩, o.ys⟩
theorem Edn.fin {j : Nat} {o : Ob} {num : Int} {l1 l2 : List Thing} (h : Edn w0 W bb st a c ys r j o num l1 l2) (hj : j < 5) (_ho : st j = some o) (hoa : o.d.acts = o.ys.map Ax.x) {a2 : Option Addr} {c2 : Nat} {W2 : World}
    (g1 : KRow 90 4 w0.heap.size W2 a2 (ys.length + 1) c2 (dxcs (ys.map Dy.x) ++ [.int .i64 num, .int .i64 o.d.at_, .int .i64 o.d.md, .slice o.a o.ys.length o.c])) (g2 : Kp (ob a) w' W2) (g3 : ∀ x ∈ ob a2, x ∈ ob a ∨ w'.heap.size ≤ x) (hk : Kp [] W w') :
    Book w0 ((W2.setCell ⟨bb, 5, none⟩ (.slice a2 (ys.length + 1) c2)).setCell ⟨bb, j, none⟩ (.pointer none)) bb (upd st j none) a2 c2 (ys ++ [dy1 o num]) r := by
  have h1 := kw_app (l1 := []) (h.zoo.kp0 hk) g1 g2 g3
  have h2 := zoo_drop1 h1
  obtain ⟨F, ⟨hbx, q2, q3⟩, k2⟩ := zoo_at1 h2
  have e1 : (dxcs ((ys ++ [dy1 o num]).map Dy.x)) = dxcs (ys.map Dy.x) ++ [.int .i64 num, .int .i64 o.d.at_, .int .i64 o.d.md, .slice o.a o.ys.length o.c] := by
    rw [List.map_append, dxcs_app]
    have : (dy1 o num).x.d.acts.length = o.ys.length := by show o.d.acts.length = _; rw [hoa, List.length_map]
    simp [dxcs, dxc, dy1, hoa]
  have e3 : (ys ++ [dy1 o num]).length = ys.length + 1 := by simp
  have h3 := k2 (BoxT bb (bkc (upd st j none) a2 (ys ++ [dy1 o num]).length c2) 187) ((W2.setCell ⟨bb, 5, none⟩ (.slice a2 (ys.length + 1) c2)).setCell ⟨bb, j, none⟩ (.pointer none)) ⟨F, ⟨by
      rw [heap_setCell_at _ _ (heap_setCell_at _ _ hbx)]
      have z : (bkc st a ys.length c).setIfInBounds 5 (.slice a2 (ys.length + 1) c2) = bkc st a2 (ys.length + 1) c2 := by simp [bkc]
      rw [z, e3]
      have := bkc_set st a2 (ys.length + 1) c2 hj none
      rw [← this]
      rfl, q2, q3⟩, by rw [q2]; exact ((Kp.refl [bb] _).setCell (.inl (by simp)) _).setCell (.inl (by simp)) _, fun x hx => .inl hx⟩
  refine Book.back (d := none) h.e2 ?_
  have h4 := opn_none h3
  rw [e1, e3]
  rw [e3] at h4
  refine h4.perm (List.Perm.cons _ ?_)
  rw [List.map_append]
  refine (List.Perm.swap _ _ _).trans (List.Perm.cons _ (List.Perm.cons _ ?_))
  have p := (List.perm_middle (l₁ := ys.map dyT) (a := ActT o.a o.c o.ys) (l₂ := l1 ++ (l2 ++ r))).symm
  simpa [dyT, dy1] using p
end
end Go.Proofs.Ytliopckocegknac

/- A book: a deed is over, by its contract: whatever step. -/
namespace Go.Proofs.Ytliopckocegknac
open Go.RowKit
set_option maxRecDepth 20000
attribute [local go_sem ↓] Go.wp_at_zero Go.wp_at_succ

theorem Bks5.done {st : Nat → Option Ob} {ys : List Dy} {b : Bk} (h : Bks5 st ys b) {j : Nat} {o : Ob} (ho : st j = some o) (num : Int) : Bks5 (upd st j none) (ys ++ [dy1 o num]) ⟨upd b.op j none, b.dn ++ [⟨num, o.d.at_, o.d.md, o.d.acts⟩]⟩ := by
  refine ⟨fun k => ?_, fun k q hq => ?_, ?_, fun y hy => ?_⟩
  · show (upd st j none k).map Ob.d = upd b.op j none k
    unfold upd
    split
    · rfl
    · exact h.op k
  · unfold upd at hq
    split at hq
    · cases hq
    · exact h.oa k q hq
  · rw [List.map_append, h.dn]; rfl
  · rcases List.mem_append.1 hy with e | e
    · exact h.da y e
    · rw [List.mem_singleton.1 e]; exact h.oa j o ho
theorem Bks5.not {st : Nat → Option Ob} {ys : List Dy} {b : Bk} (h : Bks5 st ys b) (j : Nat) : Bks5 (upd st j none) ys ⟨upd b.op j none, b.dn⟩ := h.sit j none (fun _ h => by cases h)
theorem book_ne {w0 w : World} {bb : Nat} {st : Nat → Option Ob} {a : Option Addr} {c : Nat} {ys : List Dy} {r : List Thing} {p : Nat} {cs : Array Value} {T : TypeId} (hz : Book w0 w bb st a c ys r) (hm : BoxT p cs T ∈ r) : p ≠ bb := by
  obtain ⟨l1, l2, rfl⟩ := List.append_of_mem hm
  have h1 : Zoo w0 w ((bth bb st a c ys ++ l1) ++ BoxT p cs T :: l2) := by rw [List.append_assoc]; exact hz
  have h2 := h1.perm List.perm_middle
  obtain ⟨X, ⟨F, Y, ⟨q1, q2, q3⟩, ⟨F2, Y2, ⟨p1, p2, p3⟩, _, _, e2⟩, hd, e⟩, hk⟩ := h2
  intro e3
  exact hd p (by rw [q2]; simp) (by rw [e2, p2, e3]; simp)
theorem zoo_ne {w0 w : World} {A B : Thing} {bb : Nat} {c1 : Array Value} {T1 : TypeId} {r : List Thing} {p : Nat} {cs : Array Value} {T : TypeId} (hz : Zoo w0 w (A :: B :: BoxT bb c1 T1 :: r)) (hr : BoxT p cs T ∈ r) : p ≠ bb := by
  obtain ⟨l1, l2, rfl⟩ := List.append_of_mem hr
  have h1 : Zoo w0 w ((A :: B :: BoxT bb c1 T1 :: l1) ++ BoxT p cs T :: l2) := hz
  have h2 := (h1.perm List.perm_middle)
  have h3 : Zoo w0 w (BoxT p cs T :: BoxT bb c1 T1 :: A :: B :: (l1 ++ l2)) := h2.perm (List.Perm.cons _ ((List.Perm.cons _ (List.Perm.swap _ _ _)).trans (List.Perm.swap _ _ _)))
  obtain ⟨X, ⟨F, Y, ⟨q1, q2, q3⟩, ⟨F2, Y2, ⟨p1, p2, p3⟩, _, _, e2⟩, hd, e⟩, hk⟩ := h3
  intro e3
  exact hd p (by rw [q2]; simp) (by rw [e2, p2, e3]; simp)
theorem edn_memx {ys : List Dy} {r l1 l2 : List Thing} {A B C D : Thing} {p5 p4 : Nat} {c5 c4 : Array Value} : BoxT p4 c4 37 ∈ A :: B :: C :: D :: (ys.map dyT ++ (l1 ++ (l2 ++ (BoxT p5 c5 34 :: BoxT p4 c4 37 :: r)))) := List.mem_cons_of_mem _ (List.mem_cons_of_mem _ (List.mem_cons_of_mem _ (List.mem_cons_of_mem _ (List.mem_append_right _ (List.mem_append_right _ (List.mem_append_right _ (List.Mem.tail _ (List.Mem.head _))))))))
theorem edn_memr {ys : List Dy} {r l1 l2 : List Thing} {D : Thing} {p5 p4 : Nat} {c5 c4 : Array Value} : BoxT p4 c4 37 ∈ D :: (ys.map dyT ++ (l1 ++ (l2 ++ (BoxT p5 c5 34 :: BoxT p4 c4 37 :: r)))) := List.mem_cons_of_mem _ (List.mem_append_right _ (List.mem_append_right _ (List.mem_append_right _ (List.Mem.tail _ (List.Mem.head _)))))
theorem book_ob {w0 w : World} {bb : Nat} {st : Nat → Option Ob} {a : Option Addr} {c : Nat} {ys : List Dy} {r : List Thing} (hz : Book w0 w bb st a c ys r) {j : Nat} (hj : j < 5) {o : Ob} (ho : st j = some o) : w.heap[o.b]? = some (.cells (obc o) 90 (0, 0)) := by
  obtain ⟨l1, l2, e2, h1⟩ := hz.out hj
  rw [ho] at h1
  exact Zoo.var (opn_open h1)
theorem edn_far {w0 W w' W2 : World} {bb : Nat} {st : Nat → Option Ob} {a : Option Addr} {c : Nat} {ys : List Dy} {r : List Thing} {j : Nat} {o : Ob} {num : Int} {l1 l2 : List Thing} (h : Edn w0 W bb st a c ys r j o num l1 l2) (hj : j < 5) (ho : st j = some o) (hoa : o.d.acts = o.ys.map Ax.x) {a2 : Option Addr} {c2 : Nat}
    (g1 : KRow 90 4 w0.heap.size W2 a2 (ys.length + 1) c2 (dxcs (ys.map Dy.x) ++ [.int .i64 num, .int .i64 o.d.at_, .int .i64 o.d.md, .slice o.a o.ys.length o.c])) (g2 : Kp (ob a) w' W2) (g3 : ∀ x ∈ ob a2, x ∈ ob a ∨ w'.heap.size ≤ x) (hk : Kp [] W w') :
    (∃ v, W2.cell? ⟨bb, 5, none⟩ = some v) ∧ W2.frozen? ⟨bb, 5, none⟩ = false ∧ bb < W2.heap.size ∧ Zoo w0 (W2.setCell ⟨bb, 5, none⟩ (.slice a2 (ys.length + 1) c2)) (KwT 90 4 a2 (ys.length + 1) c2 (dxcs (ys.map Dy.x) ++ [.int .i64 num, .int .i64 o.d.at_, .int .i64 o.d.md, .slice o.a o.ys.length o.c]) :: BoxT o.b #[.int .i64 num, .int .i64 o.d.at_, .int .i64 o.d.md, .slice o.a o.ys.length o.c] 90 :: BoxT bb (bkc st a2 (ys.length + 1) c2) 187 :: ActT o.a o.c o.ys :: (ys.map dyT ++ (l1 ++ (l2 ++ r)))) ∧
    Book w0 ((W2.setCell ⟨bb, 5, none⟩ (.slice a2 (ys.length + 1) c2)).setCell ⟨bb, j, none⟩ (.pointer none)) bb (upd st j none) a2 c2 (ys ++ [dy1 o num]) r := by
  have h1 := kw_app (l1 := []) (h.zoo.kp0 hk) g1 g2 g3
  obtain ⟨F, ⟨hbx, q2, q3⟩, k2⟩ := zoo_at2 h1
  refine ⟨⟨_, cell_of_block (i := 5) hbx rfl⟩, frozen_of_block 5 hbx, lt_of_block hbx, k2 _ _ ⟨F, ⟨?_, q2, q3⟩, ?_, fun x hx => .inl hx⟩, h.fin hj ho hoa g1 g2 g3 hk⟩
  · rw [heap_setCell_at _ _ hbx]
    simp [bkc]
  · rw [q2]
    exact (Kp.refl [bb] _).setCell (.inl (by simp)) _
set_option maxHeartbeats 4000000 in
theorem bk_end {w0 w : World} {bb : Nat} {b : Bk} {r : List Thing} (x : HStep) (v : Ev) (la : Option Addr) (lc : Nat) (last : Int) (hx : x.d = 6 ∨ x.d = 7 ∨ x.d = 10) (hb : b.dn.length ≤ 1000) (hz : Zoo w0 w (BkT bb b :: r)) :
    Calls Try.prog 128 #[.pointer (some ⟨bb, 0, none⟩), .agg (xcs x), .agg (ecl v la lc)] w fun e w' => e = .returned (.tuple #[]) ∧ Hid (Zoo w0 w' (BkT bb (bnote b x v last) :: r)) := by
  have hu := Try.underlying85
  obtain ⟨st, a, c, ys, hb5, hbk⟩ := bk_open hz
  have HB5 := hide hb5
  have HBK := hide (hbk.two (xcs x) 37 (ecl v la lc) 34)
  have hop : bat5 b x.s = (bst st x.s).map Ob.d := by
    unfold bat5 bst
    split
    · exact (hb5.op _).symm
    · rfl
  have HN0 := hide (show bnote b x v last = match bat5 b x.s with | none => b | some d => ⟨if x.d = 10 then (fun _ => none) else upd b.op x.s.toNat none, if isd x v = true then b.dn ++ [{ d with n := v.n }] else b.dn⟩ by unfold bnote; rw [if_neg (by omega), if_neg (by omega), if_pos hx]; rfl)
  rw [hop] at HN0
  have hlen : ys.length ≤ 1000 := by
    have := congrArg List.length hb5.dn
    rw [List.length_map] at this
    omega
  clear hz hb5 hbk hop hb
  obtain ⟨xd, xs, xm, xa, xk, xt, xp, xb⟩ := x
  obtain ⟨vc, vn, vt, vs, vl⟩ := v
  dsimp only [xcs, ecl] at *
  obtain ⟨ln, hln⟩ : ∃ ln, vl.length = ln := ⟨_, rfl⟩
  rw [hln] at HBK ⊢
  have HLL := hide hln
  clear hln
  cases hbst : bst st xs with
  | none =>
    have hbn : bnote b ⟨xd, xs, xm, xa, xk, xt, xp, xb⟩ ⟨vc, vn, vt, vs, vl⟩ last = b := by rw [unhide HN0, hbst]; rfl
    rw [hbn]
    have HB := hide (fun W {o1 o2 : Thing} (h : Book w0 W bb st a c ys (o1 :: o2 :: r)) => bk_close (unhide HB5) h.tail.tail)
    clear hbn
    go_enter Try.func128, Try.ntmps128
    go_wp2_with fail
    refine (bk_find xs (unhide HBK)).mono ?_
    rintro e w' ⟨rfl, hw'⟩
    subst w'
    rw [hbst]
    dsimp only [bp, Option.map_none]
    go_wp2_with fail
    refine bodyPost_ret (v := .tuple #[]) (by simp [results, Try.results128, go_sem]) rfl ?_
    exact ⟨rfl, unhide HB _ (unhide HBK)⟩
  | some o =>
    rw [hbst] at HN0
    dsimp only [Option.map_some] at HN0
    have hs : 0 ≤ xs ∧ xs < 5 := by
      unfold bst at hbst
      split at hbst
      · assumption
      · cases hbst
    obtain ⟨j, rfl, hj⟩ := seat_in hs
    have hst : st j = some o := by unfold bst at hbst; rw [if_pos hs, Int.toNat_natCast] at hbst; exact hbst
    clear hs
    by_cases h6 : xd = 6
    · subst h6
      cases hisd : isd ⟨6, j, xm, xa, xk, xt, xp, xb⟩ ⟨vc, vn, vt, vs, vl⟩ with
      | true =>
        have hbn : bnote b ⟨6, j, xm, xa, xk, xt, xp, xb⟩ ⟨vc, vn, vt, vs, vl⟩ last = ⟨upd b.op j none, b.dn ++ [⟨vn, o.d.at_, o.d.md, o.d.acts⟩]⟩ := by rw [unhide HN0]; simp [hisd]
        rw [hbn]
        have HCL := hide (fun W {o1 o2 : Thing} {a2 : Option Addr} {c2 : Nat} (h : Book w0 W bb (upd st j none) a2 c2 (ys ++ [dy1 o vn]) (o1 :: o2 :: r)) => bk_close ((unhide HB5).done hst vn) h.tail.tail)
        clear hbn
        go_enter Try.func128, Try.ntmps128
        go_wp2_with fail
        generalize (w.alloc (.cells #[.int .i64 6, .int .i64 (j : Int), .int .i64 xm, .int .i64 xa, .int .i64 xk, .int .i64 xt, .int .i64 xp, .string xb] 37)).alloc (.cells #[.int .i64 vc, .int .i64 vn, .bool vt, .string vs, .slice la ln lc] 34) = W at HBK ⊢
        generalize w.heap.size + 1 = q5 at HBK ⊢
        generalize w.heap.size = q4 at HBK ⊢
        refine (bk_find (j : Int) (unhide HBK)).mono ?_
        rintro e w' ⟨rfl, hw'⟩
        subst w'
        rw [hbst]
        dsimp only [bp, Option.map_some]
        have hx := (unhide HBK).var (List.Mem.tail _ (List.Mem.head _))
        have hv := (unhide HBK).var (List.Mem.head _)
        have x0 : W.cell? ⟨q4, 0, none⟩ = some (.int .i64 6) := cell_of_block hx rfl
        have x1 : W.cell? ⟨q4, 1, none⟩ = some (.int .i64 (j : Int)) := cell_of_block hx rfl
        have x2 : W.cell? ⟨q4, 2, none⟩ = some (.int .i64 xm) := cell_of_block hx rfl
        have x3 : W.cell? ⟨q4, 3, none⟩ = some (.int .i64 xa) := cell_of_block hx rfl
        have x4 : W.cell? ⟨q4, 4, none⟩ = some (.int .i64 xk) := cell_of_block hx rfl
        have x5 : W.cell? ⟨q4, 5, none⟩ = some (.int .i64 xt) := cell_of_block hx rfl
        have x6 : W.cell? ⟨q4, 6, none⟩ = some (.int .i64 xp) := cell_of_block hx rfl
        have x7 : W.cell? ⟨q4, 7, none⟩ = some (.string xb) := cell_of_block hx rfl
        have v0 : W.cell? ⟨q5, 0, none⟩ = some (.int .i64 vc) := cell_of_block hv rfl
        have v1 : W.cell? ⟨q5, 1, none⟩ = some (.int .i64 vn) := cell_of_block hv rfl
        have v2 : W.cell? ⟨q5, 2, none⟩ = some (.bool vt) := cell_of_block hv rfl
        have v3 : W.cell? ⟨q5, 3, none⟩ = some (.string vs) := cell_of_block hv rfl
        have v4 : W.cell? ⟨q5, 4, none⟩ = some (.slice la ln lc) := cell_of_block hv rfl
        clear hx hv
        go_wp2_with fail
        have hid := isdone ⟨6, j, xm, xa, xk, xt, xp, xb⟩ ⟨vc, vn, vt, vs, vl⟩ la lc W
        dsimp only [xcs, ecl] at hid
        rw [unhide HLL, hisd] at hid
        refine hid.mono ?_
        rintro e w2 ⟨rfl, hk2⟩
        have HB2 := hide ((unhide HBK).kp0 hk2)
        clear hid hk2 x0 x1 x2 x3 x4 x5 x6 x7 v0 v1 v2 v3 v4 HBK
        have hx := (unhide HB2).var (List.Mem.tail _ (List.Mem.head _))
        have hv := (unhide HB2).var (List.Mem.head _)
        have x0 : w2.cell? ⟨q4, 0, none⟩ = some (.int .i64 6) := cell_of_block hx rfl
        have x1 : w2.cell? ⟨q4, 1, none⟩ = some (.int .i64 (j : Int)) := cell_of_block hx rfl
        have v1 : w2.cell? ⟨q5, 1, none⟩ = some (.int .i64 vn) := cell_of_block hv rfl
        clear hx hv
        obtain ⟨l1, l2, hg⟩ := Edn.mk_ (unhide HB2) hj hst vn
        have HG := hide hg
        have hob := book_ob (unhide HB2) hj hst
        have o0 : w2.cell? ⟨o.b, 0, none⟩ = some (.int .i64 o.d.n) := cell_of_block hob rfl
        have fo0 := frozen_of_block 0 hob
        clear hob
        have hobx := zoo_varm hg.zoo (List.Mem.tail _ (List.Mem.head _))
        have hbx := zoo_varm hg.zoo (List.Mem.tail _ (List.Mem.tail _ (List.Mem.head _)))
        obtain ⟨no, hno⟩ : ∃ n, o.ys.length = n := ⟨_, rfl⟩
        obtain ⟨n, hn⟩ : ∃ n, ys.length = n := ⟨_, rfl⟩
        have p0 : (w2.setCell ⟨o.b, 0, none⟩ (.int .i64 vn)).cell? ⟨o.b, 0, none⟩ = some (.int .i64 vn) := cell_of_block hobx rfl
        have p1 : (w2.setCell ⟨o.b, 0, none⟩ (.int .i64 vn)).cell? ⟨o.b, 1, none⟩ = some (.int .i64 o.d.at_) := cell_of_block hobx rfl
        have p2 : (w2.setCell ⟨o.b, 0, none⟩ (.int .i64 vn)).cell? ⟨o.b, 2, none⟩ = some (.int .i64 o.d.md) := cell_of_block hobx rfl
        have p3 : (w2.setCell ⟨o.b, 0, none⟩ (.int .i64 vn)).cell? ⟨o.b, 3, none⟩ = some (.slice o.a no o.c) := by rw [← hno]; exact cell_of_block hobx rfl
        have b5 : (w2.setCell ⟨o.b, 0, none⟩ (.int .i64 vn)).cell? ⟨bb, 5, none⟩ = some (.slice a n c) := by rw [← hn]; exact cell_of_block hbx rfl
        have hbl := lt_of_block hbx
        have hol := lt_of_block hobx
        have hBw := Zoo.base hg.zoo
        have HROW : Hid (KRow 90 4 w0.heap.size (w2.setCell ⟨o.b, 0, none⟩ (.int .i64 vn)) a n c (dxcs (ys.map Dy.x))) := by rw [← hn]; exact kw_row (l1 := []) hg.zoo
        have HN := hide hn
        have HNO := hide hno
        have hn1000 : n ≤ 1000 := by rw [← hn]; exact hlen
        clear hg hobx hbx hn hno hlen
        go_wp2_with fail
        clear o0 fo0 v1 x0 x1 HB2
        generalize w2.setCell ⟨o.b, 0, none⟩ (.int .i64 vn) = W1 at *
        have far := fun (W2 : World) (a2 : Option Addr) (c2 : Nat) (g1 : Hid (KRow 90 4 w0.heap.size W2 a2 (n + 1) c2 (dxcs (ys.map Dy.x) ++ [.int .i64 vn, .int .i64 o.d.at_, .int .i64 o.d.md, .slice o.a no o.c]))) (g2 : Hid (Kp (ob a) (W1.alloc (.cells #[.int .i64 vn, .int .i64 o.d.at_, .int .i64 o.d.md, .slice o.a no o.c] 90)).drew W2)) (g3 : Hid (∀ x ∈ ob a2, x ∈ ob a ∨ (W1.alloc (.cells #[.int .i64 vn, .int .i64 o.d.at_, .int .i64 o.d.md, .slice o.a no o.c] 90)).drew.heap.size ≤ x)) => edn_far (unhide HG) hj hst ((unhide HB5).oa j o hst) (by rw [unhide HN, unhide HNO]; exact unhide g1) (unhide g2) (unhide g3) ((Kp.refl [] W1).alloc (.cells #[.int .i64 vn, .int .i64 o.d.at_, .int .i64 o.d.md, .slice o.a no o.c] 90)).drew
        have FAR := hide far
        clear far
        go_region_law (refine step_krow (by rfl) (.tmp 25) (.tmp 29) 85 (by rfl) hu Try.info90 rfl (by omega) ((unhide HROW).kp0 (((Kp.refl [] W1).alloc _).drew)) (by simp; omega) (.slice (some ⟨W1.heap.size, 0, none⟩) 1 1) [.int .i64 vn, .int .i64 o.d.at_, .int .i64 o.d.md, .slice o.a no o.c] 1 (by rfl) (by rfl) (src_built (cs := #[.int .i64 vn, .int .i64 o.d.at_, .int .i64 o.d.md, .slice o.a no o.c]) (T := 90) (fr := (0, 0)) hu (heap_alloc_new W1 _) rfl (by simp [Value.oneCell'])) (by omega) (n + 1) rfl ?_; intro a2 c2 w4 g1 g2 g3; obtain ⟨⟨zv, z1⟩, z2, z3, z4, z5⟩ := unhide FAR w4 a2 c2 g1 g2 g3; clear g1 g2 g3; have HZ4 := hide z4; have HZ5 := hide z5; clear z4 z5)
        all_goals
          rw [unhide HN] at HZ4 HZ5
          go_wp2_with fail
          generalize w4.setCell ⟨bb, 5, none⟩ (.slice a2 (n + 1) c2) = W5 at *
          have hx := zoo_varm (unhide HZ4) edn_memx
          have hb5 := zoo_varm (unhide HZ4) (List.Mem.tail _ (List.Mem.tail _ (List.Mem.head _)))
          have x0 : W5.cell? ⟨q4, 0, none⟩ = some (.int .i64 6) := cell_of_block hx rfl
          have x1 : W5.cell? ⟨q4, 1, none⟩ = some (.int .i64 (j : Int)) := cell_of_block hx rfl
          have cj : W5.cell? ⟨bb, j, none⟩ = some (bp (st j)) := cell_of_block hb5 (bkc_at st a2 _ c2 hj)
          have fj := frozen_of_block j hb5
          have nq : q4 ≠ bb := zoo_ne (unhide HZ4) edn_memr
          generalize hbp : bp (st j) = pj at *
          clear hbp hx hb5
          have i0 : (0 : Int) ≤ (j : Int) := by omega
          have i5 : (j : Int) < 5 := by omega
          go_wp2_with fail
          go_region
          go_wp2_with fail
          go_end0
          exact ⟨rfl, unhide HCL _ ((unhide HZ5).kp0 (Kp.refl [] _).drew)⟩
      | false =>
        have hbn : bnote b ⟨6, j, xm, xa, xk, xt, xp, xb⟩ ⟨vc, vn, vt, vs, vl⟩ last = ⟨upd b.op j none, b.dn⟩ := by rw [unhide HN0]; simp [hisd]
        rw [hbn]
        have HCL := hide (fun W {o1 o2 : Thing} {a2 : Option Addr} {c2 : Nat} (h : Book w0 W bb (upd st j none) a2 c2 ys (o1 :: o2 :: r)) => bk_close ((unhide HB5).not j) h.tail.tail)
        clear hbn
        go_enter Try.func128, Try.ntmps128
        go_wp2_with fail
        generalize (w.alloc (.cells #[.int .i64 6, .int .i64 (j : Int), .int .i64 xm, .int .i64 xa, .int .i64 xk, .int .i64 xt, .int .i64 xp, .string xb] 37)).alloc (.cells #[.int .i64 vc, .int .i64 vn, .bool vt, .string vs, .slice la ln lc] 34) = W at HBK ⊢
        generalize w.heap.size + 1 = q5 at HBK ⊢
        generalize w.heap.size = q4 at HBK ⊢
        refine (bk_find (j : Int) (unhide HBK)).mono ?_
        rintro e w' ⟨rfl, hw'⟩
        subst w'
        rw [hbst]
        dsimp only [bp, Option.map_some]
        have hx := (unhide HBK).var (List.Mem.tail _ (List.Mem.head _))
        have hv := (unhide HBK).var (List.Mem.head _)
        have x0 : W.cell? ⟨q4, 0, none⟩ = some (.int .i64 6) := cell_of_block hx rfl
        have x1 : W.cell? ⟨q4, 1, none⟩ = some (.int .i64 (j : Int)) := cell_of_block hx rfl
        have x2 : W.cell? ⟨q4, 2, none⟩ = some (.int .i64 xm) := cell_of_block hx rfl
        have x3 : W.cell? ⟨q4, 3, none⟩ = some (.int .i64 xa) := cell_of_block hx rfl
        have x4 : W.cell? ⟨q4, 4, none⟩ = some (.int .i64 xk) := cell_of_block hx rfl
        have x5 : W.cell? ⟨q4, 5, none⟩ = some (.int .i64 xt) := cell_of_block hx rfl
        have x6 : W.cell? ⟨q4, 6, none⟩ = some (.int .i64 xp) := cell_of_block hx rfl
        have x7 : W.cell? ⟨q4, 7, none⟩ = some (.string xb) := cell_of_block hx rfl
        have v0 : W.cell? ⟨q5, 0, none⟩ = some (.int .i64 vc) := cell_of_block hv rfl
        have v1 : W.cell? ⟨q5, 1, none⟩ = some (.int .i64 vn) := cell_of_block hv rfl
        have v2 : W.cell? ⟨q5, 2, none⟩ = some (.bool vt) := cell_of_block hv rfl
        have v3 : W.cell? ⟨q5, 3, none⟩ = some (.string vs) := cell_of_block hv rfl
        have v4 : W.cell? ⟨q5, 4, none⟩ = some (.slice la ln lc) := cell_of_block hv rfl
        clear hx hv
        go_wp2_with fail
        have hid := isdone ⟨6, j, xm, xa, xk, xt, xp, xb⟩ ⟨vc, vn, vt, vs, vl⟩ la lc W
        dsimp only [xcs, ecl] at hid
        rw [unhide HLL, hisd] at hid
        refine hid.mono ?_
        rintro e w2 ⟨rfl, hk2⟩
        have HB2 := hide ((unhide HBK).kp0 hk2)
        clear hid hk2 x0 x1 x2 x3 x4 x5 x6 x7 v0 v1 v2 v3 v4 HBK
        have hx := (unhide HB2).var (List.Mem.tail _ (List.Mem.head _))
        have hv := (unhide HB2).var (List.Mem.head _)
        have x0 : w2.cell? ⟨q4, 0, none⟩ = some (.int .i64 6) := cell_of_block hx rfl
        have x1 : w2.cell? ⟨q4, 1, none⟩ = some (.int .i64 (j : Int)) := cell_of_block hx rfl
        have v1 : w2.cell? ⟨q5, 1, none⟩ = some (.int .i64 vn) := cell_of_block hv rfl
        clear hx hv
        have cj := (unhide HB2).cs_ hj
        have fj := (unhide HB2).fz j
        generalize hbp : bp (st j) = pj at *
        clear hbp
        have nq : q4 ≠ bb := book_ne (unhide HB2) (List.Mem.tail _ (List.Mem.head _))
        have i0 : (0 : Int) ≤ (j : Int) := by omega
        have i5 : (j : Int) < 5 := by omega
        go_wp2_with fail
        go_region
        go_wp2_with fail
        go_end0
        exact ⟨rfl, unhide HCL _ (((unhide HB2).drop hj).kp0 (Kp.refl [] _).drew)⟩
    by_cases h7 : xd = 7
    · subst h7
      have hisd : isd ⟨7, j, xm, xa, xk, xt, xp, xb⟩ ⟨vc, vn, vt, vs, vl⟩ = false := by unfold isd; rw [if_neg (by show ¬ (7 : Int) = 6; omega), if_neg (by show ¬ (7 : Int) = 10; omega)]
      have hbn : bnote b ⟨7, j, xm, xa, xk, xt, xp, xb⟩ ⟨vc, vn, vt, vs, vl⟩ last = ⟨upd b.op j none, b.dn⟩ := by rw [unhide HN0]; simp [hisd]
      rw [hbn]
      have HCL := hide (fun W {o1 o2 : Thing} {a2 : Option Addr} {c2 : Nat} (h : Book w0 W bb (upd st j none) a2 c2 ys (o1 :: o2 :: r)) => bk_close ((unhide HB5).not j) h.tail.tail)
      clear hbn
      go_enter Try.func128, Try.ntmps128
      go_wp2_with fail
      generalize (w.alloc (.cells #[.int .i64 7, .int .i64 (j : Int), .int .i64 xm, .int .i64 xa, .int .i64 xk, .int .i64 xt, .int .i64 xp, .string xb] 37)).alloc (.cells #[.int .i64 vc, .int .i64 vn, .bool vt, .string vs, .slice la ln lc] 34) = W at HBK ⊢
      generalize w.heap.size + 1 = q5 at HBK ⊢
      generalize w.heap.size = q4 at HBK ⊢
      refine (bk_find (j : Int) (unhide HBK)).mono ?_
      rintro e w' ⟨rfl, hw'⟩
      subst w'
      rw [hbst]
      dsimp only [bp, Option.map_some]
      have hx := (unhide HBK).var (List.Mem.tail _ (List.Mem.head _))
      have hv := (unhide HBK).var (List.Mem.head _)
      have x0 : W.cell? ⟨q4, 0, none⟩ = some (.int .i64 7) := cell_of_block hx rfl
      have x1 : W.cell? ⟨q4, 1, none⟩ = some (.int .i64 (j : Int)) := cell_of_block hx rfl
      have x2 : W.cell? ⟨q4, 2, none⟩ = some (.int .i64 xm) := cell_of_block hx rfl
      have x3 : W.cell? ⟨q4, 3, none⟩ = some (.int .i64 xa) := cell_of_block hx rfl
      have x4 : W.cell? ⟨q4, 4, none⟩ = some (.int .i64 xk) := cell_of_block hx rfl
      have x5 : W.cell? ⟨q4, 5, none⟩ = some (.int .i64 xt) := cell_of_block hx rfl
      have x6 : W.cell? ⟨q4, 6, none⟩ = some (.int .i64 xp) := cell_of_block hx rfl
      have x7 : W.cell? ⟨q4, 7, none⟩ = some (.string xb) := cell_of_block hx rfl
      have v0 : W.cell? ⟨q5, 0, none⟩ = some (.int .i64 vc) := cell_of_block hv rfl
      have v1 : W.cell? ⟨q5, 1, none⟩ = some (.int .i64 vn) := cell_of_block hv rfl
      have v2 : W.cell? ⟨q5, 2, none⟩ = some (.bool vt) := cell_of_block hv rfl
      have v3 : W.cell? ⟨q5, 3, none⟩ = some (.string vs) := cell_of_block hv rfl
      have v4 : W.cell? ⟨q5, 4, none⟩ = some (.slice la ln lc) := cell_of_block hv rfl
      clear hx hv
      go_wp2_with fail
      have hid := isdone ⟨7, j, xm, xa, xk, xt, xp, xb⟩ ⟨vc, vn, vt, vs, vl⟩ la lc W
      dsimp only [xcs, ecl] at hid
      rw [unhide HLL, hisd] at hid
      refine hid.mono ?_
      rintro e w2 ⟨rfl, hk2⟩
      have HB2 := hide ((unhide HBK).kp0 hk2)
      clear hid hk2 x0 x1 x2 x3 x4 x5 x6 x7 v0 v1 v2 v3 v4 HBK
      have hx := (unhide HB2).var (List.Mem.tail _ (List.Mem.head _))
      have hv := (unhide HB2).var (List.Mem.head _)
      have x0 : w2.cell? ⟨q4, 0, none⟩ = some (.int .i64 7) := cell_of_block hx rfl
      have x1 : w2.cell? ⟨q4, 1, none⟩ = some (.int .i64 (j : Int)) := cell_of_block hx rfl
      have v1 : w2.cell? ⟨q5, 1, none⟩ = some (.int .i64 vn) := cell_of_block hv rfl
      clear hx hv
      have cj := (unhide HB2).cs_ hj
      have fj := (unhide HB2).fz j
      generalize hbp : bp (st j) = pj at *
      clear hbp
      have nq : q4 ≠ bb := book_ne (unhide HB2) (List.Mem.tail _ (List.Mem.head _))
      have i0 : (0 : Int) ≤ (j : Int) := by omega
      have i5 : (j : Int) < 5 := by omega
      go_wp2_with fail
      go_region
      go_wp2_with fail
      go_end0
      exact ⟨rfl, unhide HCL _ (((unhide HB2).drop hj).kp0 (Kp.refl [] _).drew)⟩
    · have h10 : xd = 10 := by omega
      subst h10
      cases hisd : isd ⟨10, j, xm, xa, xk, xt, xp, xb⟩ ⟨vc, vn, vt, vs, vl⟩ with
      | true =>
        have hbn : bnote b ⟨10, j, xm, xa, xk, xt, xp, xb⟩ ⟨vc, vn, vt, vs, vl⟩ last = ⟨(fun _ => none), b.dn ++ [⟨vn, o.d.at_, o.d.md, o.d.acts⟩]⟩ := by rw [unhide HN0]; simp [hisd]
        rw [hbn]
        have HCL := hide (fun W {o1 o2 : Thing} {a2 : Option Addr} {c2 : Nat} (h : Book w0 W bb (fun _ => none) a2 c2 (ys ++ [dy1 o vn]) (o1 :: o2 :: r)) => bk_close (((unhide HB5).done hst vn).leave) h.tail.tail)
        clear hbn
        go_enter Try.func128, Try.ntmps128
        go_wp2_with fail
        generalize (w.alloc (.cells #[.int .i64 10, .int .i64 (j : Int), .int .i64 xm, .int .i64 xa, .int .i64 xk, .int .i64 xt, .int .i64 xp, .string xb] 37)).alloc (.cells #[.int .i64 vc, .int .i64 vn, .bool vt, .string vs, .slice la ln lc] 34) = W at HBK ⊢
        generalize w.heap.size + 1 = q5 at HBK ⊢
        generalize w.heap.size = q4 at HBK ⊢
        refine (bk_find (j : Int) (unhide HBK)).mono ?_
        rintro e w' ⟨rfl, hw'⟩
        subst w'
        rw [hbst]
        dsimp only [bp, Option.map_some]
        have hx := (unhide HBK).var (List.Mem.tail _ (List.Mem.head _))
        have hv := (unhide HBK).var (List.Mem.head _)
        have x0 : W.cell? ⟨q4, 0, none⟩ = some (.int .i64 10) := cell_of_block hx rfl
        have x1 : W.cell? ⟨q4, 1, none⟩ = some (.int .i64 (j : Int)) := cell_of_block hx rfl
        have x2 : W.cell? ⟨q4, 2, none⟩ = some (.int .i64 xm) := cell_of_block hx rfl
        have x3 : W.cell? ⟨q4, 3, none⟩ = some (.int .i64 xa) := cell_of_block hx rfl
        have x4 : W.cell? ⟨q4, 4, none⟩ = some (.int .i64 xk) := cell_of_block hx rfl
        have x5 : W.cell? ⟨q4, 5, none⟩ = some (.int .i64 xt) := cell_of_block hx rfl
        have x6 : W.cell? ⟨q4, 6, none⟩ = some (.int .i64 xp) := cell_of_block hx rfl
        have x7 : W.cell? ⟨q4, 7, none⟩ = some (.string xb) := cell_of_block hx rfl
        have v0 : W.cell? ⟨q5, 0, none⟩ = some (.int .i64 vc) := cell_of_block hv rfl
        have v1 : W.cell? ⟨q5, 1, none⟩ = some (.int .i64 vn) := cell_of_block hv rfl
        have v2 : W.cell? ⟨q5, 2, none⟩ = some (.bool vt) := cell_of_block hv rfl
        have v3 : W.cell? ⟨q5, 3, none⟩ = some (.string vs) := cell_of_block hv rfl
        have v4 : W.cell? ⟨q5, 4, none⟩ = some (.slice la ln lc) := cell_of_block hv rfl
        clear hx hv
        go_wp2_with fail
        have hid := isdone ⟨10, j, xm, xa, xk, xt, xp, xb⟩ ⟨vc, vn, vt, vs, vl⟩ la lc W
        dsimp only [xcs, ecl] at hid
        rw [unhide HLL, hisd] at hid
        refine hid.mono ?_
        rintro e w2 ⟨rfl, hk2⟩
        have HB2 := hide ((unhide HBK).kp0 hk2)
        clear hid hk2 x0 x1 x2 x3 x4 x5 x6 x7 v0 v1 v2 v3 v4 HBK
        have hx := (unhide HB2).var (List.Mem.tail _ (List.Mem.head _))
        have hv := (unhide HB2).var (List.Mem.head _)
        have x0 : w2.cell? ⟨q4, 0, none⟩ = some (.int .i64 10) := cell_of_block hx rfl
        have x1 : w2.cell? ⟨q4, 1, none⟩ = some (.int .i64 (j : Int)) := cell_of_block hx rfl
        have v1 : w2.cell? ⟨q5, 1, none⟩ = some (.int .i64 vn) := cell_of_block hv rfl
        clear hx hv
        obtain ⟨l1, l2, hg⟩ := Edn.mk_ (unhide HB2) hj hst vn
        have HG := hide hg
        have hob := book_ob (unhide HB2) hj hst
        have o0 : w2.cell? ⟨o.b, 0, none⟩ = some (.int .i64 o.d.n) := cell_of_block hob rfl
        have fo0 := frozen_of_block 0 hob
        clear hob
        have hobx := zoo_varm hg.zoo (List.Mem.tail _ (List.Mem.head _))
        have hbx := zoo_varm hg.zoo (List.Mem.tail _ (List.Mem.tail _ (List.Mem.head _)))
        obtain ⟨no, hno⟩ : ∃ n, o.ys.length = n := ⟨_, rfl⟩
        obtain ⟨n, hn⟩ : ∃ n, ys.length = n := ⟨_, rfl⟩
        have p0 : (w2.setCell ⟨o.b, 0, none⟩ (.int .i64 vn)).cell? ⟨o.b, 0, none⟩ = some (.int .i64 vn) := cell_of_block hobx rfl
        have p1 : (w2.setCell ⟨o.b, 0, none⟩ (.int .i64 vn)).cell? ⟨o.b, 1, none⟩ = some (.int .i64 o.d.at_) := cell_of_block hobx rfl
        have p2 : (w2.setCell ⟨o.b, 0, none⟩ (.int .i64 vn)).cell? ⟨o.b, 2, none⟩ = some (.int .i64 o.d.md) := cell_of_block hobx rfl
        have p3 : (w2.setCell ⟨o.b, 0, none⟩ (.int .i64 vn)).cell? ⟨o.b, 3, none⟩ = some (.slice o.a no o.c) := by rw [← hno]; exact cell_of_block hobx rfl
        have b5 : (w2.setCell ⟨o.b, 0, none⟩ (.int .i64 vn)).cell? ⟨bb, 5, none⟩ = some (.slice a n c) := by rw [← hn]; exact cell_of_block hbx rfl
        have hbl := lt_of_block hbx
        have hol := lt_of_block hobx
        have hBw := Zoo.base hg.zoo
        have HROW : Hid (KRow 90 4 w0.heap.size (w2.setCell ⟨o.b, 0, none⟩ (.int .i64 vn)) a n c (dxcs (ys.map Dy.x))) := by rw [← hn]; exact kw_row (l1 := []) hg.zoo
        have HN := hide hn
        have HNO := hide hno
        have hn1000 : n ≤ 1000 := by rw [← hn]; exact hlen
        clear hg hobx hbx hn hno hlen
        go_wp2_with fail
        clear o0 fo0 v1 x0 x1 HB2
        generalize w2.setCell ⟨o.b, 0, none⟩ (.int .i64 vn) = W1 at *
        have far := fun (W2 : World) (a2 : Option Addr) (c2 : Nat) (g1 : Hid (KRow 90 4 w0.heap.size W2 a2 (n + 1) c2 (dxcs (ys.map Dy.x) ++ [.int .i64 vn, .int .i64 o.d.at_, .int .i64 o.d.md, .slice o.a no o.c]))) (g2 : Hid (Kp (ob a) (W1.alloc (.cells #[.int .i64 vn, .int .i64 o.d.at_, .int .i64 o.d.md, .slice o.a no o.c] 90)).drew W2)) (g3 : Hid (∀ x ∈ ob a2, x ∈ ob a ∨ (W1.alloc (.cells #[.int .i64 vn, .int .i64 o.d.at_, .int .i64 o.d.md, .slice o.a no o.c] 90)).drew.heap.size ≤ x)) => edn_far (unhide HG) hj hst ((unhide HB5).oa j o hst) (by rw [unhide HN, unhide HNO]; exact unhide g1) (unhide g2) (unhide g3) ((Kp.refl [] W1).alloc (.cells #[.int .i64 vn, .int .i64 o.d.at_, .int .i64 o.d.md, .slice o.a no o.c] 90)).drew
        have FAR := hide far
        clear far
        go_region_law (refine step_krow (by rfl) (.tmp 25) (.tmp 29) 85 (by rfl) hu Try.info90 rfl (by omega) ((unhide HROW).kp0 (((Kp.refl [] W1).alloc _).drew)) (by simp; omega) (.slice (some ⟨W1.heap.size, 0, none⟩) 1 1) [.int .i64 vn, .int .i64 o.d.at_, .int .i64 o.d.md, .slice o.a no o.c] 1 (by rfl) (by rfl) (src_built (cs := #[.int .i64 vn, .int .i64 o.d.at_, .int .i64 o.d.md, .slice o.a no o.c]) (T := 90) (fr := (0, 0)) hu (heap_alloc_new W1 _) rfl (by simp [Value.oneCell'])) (by omega) (n + 1) rfl ?_; intro a2 c2 w4 g1 g2 g3; obtain ⟨⟨zv, z1⟩, z2, z3, z4, z5⟩ := unhide FAR w4 a2 c2 g1 g2 g3; clear g1 g2 g3; have HZ4 := hide z4; have HZ5 := hide z5; clear z4 z5)
        all_goals
          rw [unhide HN] at HZ4 HZ5
          go_wp2_with fail
          generalize w4.setCell ⟨bb, 5, none⟩ (.slice a2 (n + 1) c2) = W5 at *
          have hx := zoo_varm (unhide HZ4) edn_memx
          have hb5 := zoo_varm (unhide HZ4) (List.Mem.tail _ (List.Mem.tail _ (List.Mem.head _)))
          have x0 : W5.cell? ⟨q4, 0, none⟩ = some (.int .i64 10) := cell_of_block hx rfl
          have x1 : W5.cell? ⟨q4, 1, none⟩ = some (.int .i64 (j : Int)) := cell_of_block hx rfl
          have cj : W5.cell? ⟨bb, j, none⟩ = some (bp (st j)) := cell_of_block hb5 (bkc_at st a2 _ c2 hj)
          have fj := frozen_of_block j hb5
          have nq : q4 ≠ bb := zoo_ne (unhide HZ4) edn_memr
          generalize hbp : bp (st j) = pj at *
          clear hbp hx hb5
          have i0 : (0 : Int) ≤ (j : Int) := by omega
          have i5 : (j : Int) < 5 := by omega
          go_wp2_with fail
          go_region
          have HFF := hide ((unhide HZ5).kp0 (Kp.refl [] _).drew)
          go_wp2_with fail
          refine (bk_leaveAll (unhide HFF)).mono ?_
          rintro e w9 ⟨rfl, HB9⟩
          go_wp2_with fail
          go_end0
          exact ⟨rfl, unhide HCL _ (unhide HB9)⟩
      | false =>
        have hbn : bnote b ⟨10, j, xm, xa, xk, xt, xp, xb⟩ ⟨vc, vn, vt, vs, vl⟩ last = ⟨(fun _ => none), b.dn⟩ := by rw [unhide HN0]; simp [hisd]
        rw [hbn]
        have HCL := hide (fun W {o1 o2 : Thing} {a2 : Option Addr} {c2 : Nat} (h : Book w0 W bb (fun _ => none) a2 c2 ys (o1 :: o2 :: r)) => bk_close (((unhide HB5).not j).leave) h.tail.tail)
        clear hbn
        go_enter Try.func128, Try.ntmps128
        go_wp2_with fail
        generalize (w.alloc (.cells #[.int .i64 10, .int .i64 (j : Int), .int .i64 xm, .int .i64 xa, .int .i64 xk, .int .i64 xt, .int .i64 xp, .string xb] 37)).alloc (.cells #[.int .i64 vc, .int .i64 vn, .bool vt, .string vs, .slice la ln lc] 34) = W at HBK ⊢
        generalize w.heap.size + 1 = q5 at HBK ⊢
        generalize w.heap.size = q4 at HBK ⊢
        refine (bk_find (j : Int) (unhide HBK)).mono ?_
        rintro e w' ⟨rfl, hw'⟩
        subst w'
        rw [hbst]
        dsimp only [bp, Option.map_some]
        have hx := (unhide HBK).var (List.Mem.tail _ (List.Mem.head _))
        have hv := (unhide HBK).var (List.Mem.head _)
        have x0 : W.cell? ⟨q4, 0, none⟩ = some (.int .i64 10) := cell_of_block hx rfl
        have x1 : W.cell? ⟨q4, 1, none⟩ = some (.int .i64 (j : Int)) := cell_of_block hx rfl
        have x2 : W.cell? ⟨q4, 2, none⟩ = some (.int .i64 xm) := cell_of_block hx rfl
        have x3 : W.cell? ⟨q4, 3, none⟩ = some (.int .i64 xa) := cell_of_block hx rfl
        have x4 : W.cell? ⟨q4, 4, none⟩ = some (.int .i64 xk) := cell_of_block hx rfl
        have x5 : W.cell? ⟨q4, 5, none⟩ = some (.int .i64 xt) := cell_of_block hx rfl
        have x6 : W.cell? ⟨q4, 6, none⟩ = some (.int .i64 xp) := cell_of_block hx rfl
        have x7 : W.cell? ⟨q4, 7, none⟩ = some (.string xb) := cell_of_block hx rfl
        have v0 : W.cell? ⟨q5, 0, none⟩ = some (.int .i64 vc) := cell_of_block hv rfl
        have v1 : W.cell? ⟨q5, 1, none⟩ = some (.int .i64 vn) := cell_of_block hv rfl
        have v2 : W.cell? ⟨q5, 2, none⟩ = some (.bool vt) := cell_of_block hv rfl
        have v3 : W.cell? ⟨q5, 3, none⟩ = some (.string vs) := cell_of_block hv rfl
        have v4 : W.cell? ⟨q5, 4, none⟩ = some (.slice la ln lc) := cell_of_block hv rfl
        clear hx hv
        go_wp2_with fail
        have hid := isdone ⟨10, j, xm, xa, xk, xt, xp, xb⟩ ⟨vc, vn, vt, vs, vl⟩ la lc W
        dsimp only [xcs, ecl] at hid
        rw [unhide HLL, hisd] at hid
        refine hid.mono ?_
        rintro e w2 ⟨rfl, hk2⟩
        have HB2 := hide ((unhide HBK).kp0 hk2)
        clear hid hk2 x0 x1 x2 x3 x4 x5 x6 x7 v0 v1 v2 v3 v4 HBK
        have hx := (unhide HB2).var (List.Mem.tail _ (List.Mem.head _))
        have hv := (unhide HB2).var (List.Mem.head _)
        have x0 : w2.cell? ⟨q4, 0, none⟩ = some (.int .i64 10) := cell_of_block hx rfl
        have x1 : w2.cell? ⟨q4, 1, none⟩ = some (.int .i64 (j : Int)) := cell_of_block hx rfl
        have v1 : w2.cell? ⟨q5, 1, none⟩ = some (.int .i64 vn) := cell_of_block hv rfl
        clear hx hv
        have cj := (unhide HB2).cs_ hj
        have fj := (unhide HB2).fz j
        generalize hbp : bp (st j) = pj at *
        clear hbp
        have nq : q4 ≠ bb := book_ne (unhide HB2) (List.Mem.tail _ (List.Mem.head _))
        have i0 : (0 : Int) ≤ (j : Int) := by omega
        have i5 : (j : Int) < 5 := by omega
        go_wp2_with fail
        go_region
        have HFF := hide (((unhide HB2).drop hj).kp0 (Kp.refl [] _).drew)
        go_wp2_with fail
        refine (bk_leaveAll (unhide HFF)).mono ?_
        rintro e w9 ⟨rfl, HB9⟩
        go_wp2_with fail
        go_end0
        exact ⟨rfl, unhide HCL _ (unhide HB9)⟩
end Go.Proofs.Ytliopckocegknac

/- Plain words for what was done: whatever steps a hall does, its book is so; the deeds came one behind the other. -/
namespace Go.Proofs.Ytliopckocegknac
open Go.RowKit Srt
set_option maxRecDepth 20000

section
variable {h : HSt} {b : Bk} {x : HStep} {e : Ev} {last : Int}
theorem bn_none (h1 : x.d ≠ 9) (h2 : x.d = 1 → ¬ (e.c = 0 ∧ 0 ≤ x.s ∧ x.s < 5)) (h3 : x.d ≠ 1 → bat5 b x.s = none) : bnote b x e last = b := by
  unfold bnote
  by_cases c1 : x.d = 1
  · rw [if_pos c1, if_neg (h2 c1)]
  rw [if_neg c1, h3 c1]
  split
  · rfl
  · split
    · rfl
    · first | rfl | rw [if_neg h1]
theorem bn_kind (hx : x.d < 1 ∨ 10 < x.d ∨ x.d = 8) : bnote b x e last = b := by
  unfold bnote
  rw [if_neg (by omega), if_neg (by omega), if_neg (by omega), if_neg (by omega)]
theorem bn_on {o : Dn} (hx : 2 ≤ x.d ∧ x.d ≤ 5) (hs : 0 ≤ x.s ∧ x.s < 5) (ho : b.op x.s.toNat = some o) : bnote b x e last = if e.c = 0 then ⟨upd b.op x.s.toNat (some { o with acts := o.acts ++ [nact x e] }), b.dn⟩ else b := by
  unfold bnote
  rw [if_neg (by omega), if_pos hx]
  unfold bat5
  rw [if_pos hs, ho]
theorem bn_end {o : Dn} (hx : x.d = 6 ∨ x.d = 7 ∨ x.d = 10) (hs : 0 ≤ x.s ∧ x.s < 5) (ho : b.op x.s.toNat = some o) : bnote b x e last = ⟨if x.d = 10 then (fun _ => none) else upd b.op x.s.toNat none, if isd x e = true then b.dn ++ [{ o with n := e.n }] else b.dn⟩ := by
  unfold bnote
  rw [if_neg (by omega), if_neg (by omega), if_pos hx]
  unfold bat5
  rw [if_pos hs, ho]
end
theorem upd_self {α : Type} (g : Nat → α) (k : Nat) {v : α} (h : g k = v) : upd g k v = g := by
  funext j
  unfold upd
  split
  · rename_i q; rw [q]; exact h.symm
  · rfl
theorem NI.sit {h : HSt} {b : Bk} (ni : NI h b) {s : Int} {d' : Option Dp} {o' : Option Dn} (hi : HInv (Ytliopckocegknac.sit h s d')) (h1 : ∀ e, d' = some e → ∃ o, o' = some o ∧ SeatOk (shw h.f h.n e.y 8) e o) (h2 : d' = none → o' = none) : NI (Ytliopckocegknac.sit h s d') ⟨upd b.op s.toNat o', b.dn⟩ := by
  refine ⟨hi, fun k d hd => ?_, fun k hk => ?_, ni.dn⟩
  · rcases sit_at hd with ⟨q1, q2⟩ | ⟨q1, q2⟩
    · rw [q1]
      show ∃ o, upd b.op s.toNat o' s.toNat = some o ∧ _
      rw [upd_same]
      exact h1 d q2
    · show ∃ o, upd b.op s.toNat o' k = some o ∧ _
      rw [upd_other _ _ _ q1]
      exact ni.some_ k d q2
  · show upd b.op s.toNat o' k = none
    simp only [Ytliopckocegknac.sit, upd_at] at hk
    unfold upd
    split
    · rename_i q; rw [if_pos q] at hk; exact h2 hk
    · rename_i q; rw [if_neg q] at hk; exact ni.none_ k hk
theorem sit_self {h : HSt} {s : Int} {d : Dp} (hd : h.seat s.toNat = some d) : sit h s (some d) = h := by
  unfold sit
  rw [upd_self _ _ hd]
theorem NI.step {h : HSt} {b : Bk} (ni : NI h b) (x : HStep) : NI (hdo h x) (bnote b x (hev h x) h.n) := by
  have hi := ni.hi
  have hi2 := hi.step x
  have hsees := @hdo_sees h hi x
  have hk := hkind h x
  generalize hdo h x = h2 at *
  generalize hev h x = e at *
  have keep : ∀ {s : Nat} {d : Dp} {o : Dn}, h.seat s = some d → h2.seat s = some d → SeatOk (shw h.f h.n d.y 8) d o → SeatOk (shw h2.f h2.n d.y 8) d o := fun q1 q2 q3 => by
    rw [(hsees q1 q2).2.2.1]; exact q3
  cases hk with
  | kind c => rw [bn_kind (by omega)]; exact ni
  | clear c =>
    rw [bn_kind (by omega)]
    refine ⟨hi2, fun s d hd => ?_, fun s hs => ni.none_ s hs, ni.dn⟩
    obtain ⟨o, h1, h2⟩ := ni.some_ s d hd
    exact ⟨o, h1, keep hd hd h2⟩
  | crash c =>
    have e1 : bnote b x ev0 h.n = ⟨fun _ => none, b.dn⟩ := by
      unfold bnote
      rw [if_neg (by omega), if_neg (by omega), if_neg (by omega), if_pos c]
    rw [e1]
    exact ⟨hi2, fun s d hd => (by cases hd), fun _ _ => rfl, ni.dn⟩
  | range c1 c2 => rw [bn_none (by omega) (fun _ q => c2 q.2) (fun _ => by unfold bat5; rw [if_neg c2])]; exact ni
  | began c1 c2 c3 c4 =>
    have e1 : bnote b x (evc 0) h.n = ⟨upd b.op x.s.toNat (some ⟨0, bat h.n x.md x.at_, x.md, []⟩), b.dn⟩ := by
      unfold bnote
      rw [if_pos c1, if_pos ⟨rfl, c2⟩]
      rfl
    rw [e1]
    exact ni.sit hi2 (fun q hq => by cases hq; exact ⟨_, rfl, SeatOk.begin _ _ _⟩) (fun q => by cases q)
  | beganNot c1 c2 c3 c4 => rw [bn_none (by omega) (fun _ q => c4 q.1) (fun q => absurd c1 q)]; exact ni
  | none_ c1 c2 c3 => rw [bn_none (by omega) (fun q => by omega) (fun _ => by unfold bat5; rw [if_pos c2]; exact ni.none_ _ c3)]; exact ni
  | there d0 c1 c2 c3 => rw [bn_none (by omega) (fun _ q => by simp [evc] at q) (fun q => absurd c1 q)]; exact ni
  | get d c1 c2 c3 =>
    obtain ⟨o, ho, hso⟩ := ni.some_ _ d c3
    rw [bn_on ⟨by omega, by omega⟩ c2 ho]
    obtain ⟨k1, k2⟩ := hi.known _ d c3
    by_cases hkb : keyB x.key = true
    · have hkb' := hkb
      simp only [keyB, decide_eq_true_eq] at hkb'
      obtain ⟨j, hj⟩ : ∃ j : Nat, x.key = (j : Int) := ⟨x.key.toNat, by omega⟩
      have hj8 : j < 8 := by omega
      have hds := dg_see hi c3 hj8
      have ha := tr_known hi.inv k1 k2 hj8
      rw [hj, hds]
      rw [if_pos rfl]
      have en : nact x ⟨0, 0, (hsee h d j).t, (hsee h d j).s, []⟩ = ⟨2, (j : Int), 0, (lay (shw h.f h.n d.y 8) d.ws j).t, (lay (shw h.f h.n d.y 8) d.ws j).s, []⟩ := by
        unfold nact
        rw [if_pos c1, hj]
        rfl
      rw [en]
      rw [hj] at hi2
      exact ni.sit hi2 (fun q hq => by cases hq; exact ⟨_, rfl, hso.got hj8 ha⟩) (fun q => by cases q)
    · have e1 : dg h.f h.n d.y d.ws x.key = ⟨1, false, ByteArray.empty⟩ := by unfold dg; rw [if_neg hkb]
      have e2 : dr h.f h.n d.y d.rs d.ws x.key = d.rs := by unfold dr; rw [if_neg (fun q => hkb q.1)]
      rw [e1, e2, if_neg (by show ¬ (1 : Int) = 0; omega), sit_self c3]
      exact ni
  | put d c1 c2 c3 =>
    obtain ⟨o, ho, hso⟩ := ni.some_ _ d c3
    rw [bn_on ⟨by omega, by omega⟩ c2 ho]
    by_cases hc : dpc d.md x.key true x.b = 0
    · obtain ⟨j, hj8, hj⟩ := dpc_key' hc
      rw [if_pos (show (evc (dpc d.md x.key true x.b)).c = 0 from hc)]
      have hw : dpw d.md d.ws x.key true x.b = d.ws ++ [⟨(j : Int), true, x.b⟩] := by unfold dpw; rw [if_pos hc, hj]
      have en : nact x (evc (dpc d.md x.key true x.b)) = ⟨3, (j : Int), 0, true, x.b, []⟩ := by
        unfold nact
        rw [if_neg (by omega), if_pos c1, hj]
      rw [en]
      rw [hw] at hi2 ⊢
      exact ni.sit hi2 (fun q hq => by cases hq; exact ⟨_, rfl, hso.wrote_ hj8 (.inl rfl) _ _ _ _⟩) (fun q => by cases q)
    · rw [if_neg (show ¬ (evc (dpc d.md x.key true x.b)).c = 0 from hc)]
      have hw : dpw d.md d.ws x.key true x.b = d.ws := by unfold dpw; rw [if_neg hc]
      rw [hw, sit_self c3]
      exact ni
  | drop d c1 c2 c3 =>
    obtain ⟨o, ho, hso⟩ := ni.some_ _ d c3
    rw [bn_on ⟨by omega, by omega⟩ c2 ho]
    by_cases hc : dpc d.md x.key false ⟨#[]⟩ = 0
    · obtain ⟨j, hj8, hj⟩ := dpc_key' hc
      rw [if_pos (show (evc (dpc d.md x.key false ⟨#[]⟩)).c = 0 from hc)]
      have hw : dpw d.md d.ws x.key false ⟨#[]⟩ = d.ws ++ [⟨(j : Int), false, ⟨#[]⟩⟩] := by unfold dpw; rw [if_pos hc, hj]
      have en : nact x (evc (dpc d.md x.key false ⟨#[]⟩)) = ⟨4, (j : Int), 0, false, ⟨#[]⟩, []⟩ := by
        unfold nact
        rw [if_neg (by omega), if_neg (by omega), if_pos c1, hj]
      rw [en]
      rw [hw] at hi2 ⊢
      exact ni.sit hi2 (fun q hq => by cases hq; exact ⟨_, rfl, hso.wrote_ hj8 (.inr rfl) _ _ _ _⟩) (fun q => by cases q)
    · rw [if_neg (show ¬ (evc (dpc d.md x.key false ⟨#[]⟩)).c = 0 from hc)]
      have hw : dpw d.md d.ws x.key false ⟨#[]⟩ = d.ws := by unfold dpw; rw [if_neg hc]
      rw [hw, sit_self c3]
      exact ni
  | list d c1 c2 c3 =>
    obtain ⟨o, ho, hso⟩ := ni.some_ _ d c3
    rw [bn_on ⟨by omega, by omega⟩ c2 ho]
    obtain ⟨k1, k2⟩ := hi.known _ d c3
    by_cases hc : (dls h.f h.n d.y d.ws d.rs x.key x.to_).2.1 = 0
    · obtain ⟨g1, g2, g3⟩ := dls_rsS (fun k hk => by rw [dg_see hi c3 hk]) (fun k hk => tr_known hi.inv k1 k2 hk) hc
      have hl := dls_wl (v := hsee h d) (fun k hk => dg_see hi c3 hk) hc
      rw [if_pos (show (dls h.f h.n d.y d.ws d.rs x.key x.to_).2.1 = 0 from hc)]
      have en : nact x ⟨(dls h.f h.n d.y d.ws d.rs x.key x.to_).2.1, 0, false, ⟨#[]⟩, (dls h.f h.n d.y d.ws d.rs x.key x.to_).1⟩ = ⟨5, x.key, x.to_, false, ⟨#[]⟩, wl (lay (shw h.f h.n d.y 8) d.ws) x.key x.to_ 8⟩ := by
        unfold nact
        rw [if_neg (by omega), if_neg (by omega), if_neg (by omega), hl]
        rfl
      rw [en]
      exact ni.sit hi2 (fun q hq => by cases hq; exact ⟨_, rfl, hso.listed g1 g2 g3⟩) (fun q => by cases q)
    · rw [if_neg (show ¬ (dls h.f h.n d.y d.ws d.rs x.key x.to_).2.1 = 0 from hc)]
      have e2 : (dls h.f h.n d.y d.ws d.rs x.key x.to_).2.2 = d.rs := by
        by_cases hk : keyB x.key = true ∧ keyB x.to_ = true
        · exfalso
          apply hc
          have h1 := hk.1
          have h2 := hk.2
          simp only [keyB, decide_eq_true_eq] at h1 h2
          obtain ⟨p, hp⟩ : ∃ p : Nat, x.key = (p : Int) := ⟨x.key.toNat, by omega⟩
          obtain ⟨t, ht⟩ : ∃ t : Nat, x.to_ = (t : Int) := ⟨x.to_.toNat, by omega⟩
          unfold dls
          rw [if_pos hk, hp, ht, Int.toNat_natCast, show ((t : Int) + 1 - (p : Int)).toNat = t + 1 - p by omega]
          by_cases hpt : p ≤ t + 1
          · exact (dgo_wl (v := hsee h d) (p := p) (t := t) (by omega) (fun k hk => dg_see hi c3 hk) (t + 1 - p) p [] d.rs (Nat.le_refl _) (by omega) (wl_lo (Int.le_refl _)).symm).2
          · rw [show t + 1 - p = 0 by omega]; rfl
        · unfold dls; rw [if_neg hk]
      rw [e2, sit_self c3]
      exact ni
  | commit d c1 c2 c3 =>
    obtain ⟨o, ho, hso⟩ := ni.some_ _ d c3
    rw [bn_end (.inl c1) c2 ho, if_neg (by omega)]
    have hisd : isd x (evn (vcode h.f h.cs d.md d.y d.rs d.ws) (vnum h.f h.n h.cs d.md d.y d.rs d.ws)) = decide (vcode h.f h.cs d.md d.y d.rs d.ws = 0) := by unfold isd; rw [if_pos c1]; rfl
    rw [hisd]
    have seats : (∀ s d', upd h.seat x.s.toNat none s = some d' → ∃ o, upd b.op x.s.toNat none s = some o ∧ SeatOk (shw (vf h.f h.n h.cs d.md d.y d.rs d.ws) (vn h.f h.n h.cs d.md d.y d.rs d.ws) d'.y 8) d' o) ∧ (∀ s, upd h.seat x.s.toNat none s = none → upd b.op x.s.toNat none s = none) := by
      refine ⟨fun s d' hd => ?_, fun s hd => ?_⟩
      · by_cases q : s = x.s.toNat
        · rw [q, upd_same] at hd; cases hd
        · have hd2 := hd
          rw [upd_other _ _ _ q] at hd2
          rw [upd_other _ _ _ q]
          obtain ⟨o, h1, h2⟩ := ni.some_ s d' hd2
          exact ⟨o, h1, keep hd2 hd h2⟩
      · by_cases q : s = x.s.toNat
        · rw [q, upd_same]
        · rw [upd_other _ _ _ q] at hd ⊢
          exact ni.none_ s hd
    refine ⟨hi2, seats.1, seats.2, ?_⟩
    show DI (vcs h.f h.cs d.md d.y d.rs d.ws) _
    cases hv : vdone h.f h.cs d.md d.y d.rs d.ws with
    | true =>
      obtain ⟨e1, e2, e3, e4⟩ := v_did (n := h.n) hv
      have hv' := hv
      unfold vdone at hv'
      simp only [decide_eq_true_eq] at hv'
      have hcode := (v_yes hv'.1 hv'.2.1 hv'.2.2).1
      rw [e3, hcode]
      simp only [evn, e4, decide_true, if_true]
      exact ni.dn.com ((ni.done c3 hso hv'.1).2 hv'.2.1 hv'.2.2) (by show (h.n : Int) + 1 = _; rw [hi.vi.len])
    | false =>
      obtain ⟨e1, e2, e3, e4⟩ := v_not (n := h.n) hv
      rw [e3]
      by_cases hc : vcode h.f h.cs d.md d.y d.rs d.ws = 0
      · have hm : dm h.f d.md d.y d.rs d.ws = 0 := by
          unfold vcode at hc
          by_cases q : dm h.f d.md d.y d.rs d.ws = 0
          · exact q
          · rw [if_neg q] at hc; exact hc
        have hz : (wk d.ws 8).length = 0 := by
          by_cases q : (wk d.ws 8).length = 0
          · exact q
          · exfalso
            unfold vcode at hc
            rw [if_pos hm, if_neg q] at hc
            unfold vdone at hv
            simp [hm, q, hc] at hv
        rw [hc]
        simp only [evn, e4, decide_true, if_true]
        exact ni.dn.look ((ni.done c3 hso hm).1 hz) rfl
      · rw [decide_eq_false hc]
        simp only [Bool.false_eq_true, if_false]
        exact ni.dn
  | tear d c1 c2 c3 =>
    obtain ⟨o, ho, hso⟩ := ni.some_ _ d c3
    rw [bn_end (.inr (.inr c1)) c2 ho, if_pos c1]
    have hisd : isd x (evn (vcode h.f h.cs d.md d.y d.rs d.ws) (tnum h.f h.cs d.md d.y d.rs d.ws x.keep)) = decide (tnum h.f h.cs d.md d.y d.rs d.ws x.keep ≠ 0) := by unfold isd; rw [if_neg (by omega), if_pos c1]; rfl
    rw [hisd]
    refine ⟨hi2, fun s d hd => (by cases hd), fun _ _ => rfl, ?_⟩
    show DI (tcs h.f h.cs d.md d.y d.rs d.ws x.keep) _
    rcases tcs_cases (f := h.f) (cs := h.cs) (md := d.md) (y := d.y) (rs := d.rs) (ws := d.ws) (keep := x.keep) with q | ⟨q1, q2, q3, q4, q5⟩
    · rw [tnum_same q, q]
      simp only [ne_eq, not_true_eq_false, decide_false, Bool.false_eq_true, if_false]
      exact ni.dn
    · have hn := tnum_more q1
      rw [q1, hn, decide_eq_true (by omega)]
      simp only [evn, if_true]
      have := (ni.done c3 hso q3).2 q4 q5
      rw [hi.vi.len] at this
      exact ni.dn.com this rfl
  | abort d c1 c2 c3 =>
    obtain ⟨o, ho, hso⟩ := ni.some_ _ d c3
    rw [bn_end (.inr (.inl c1)) c2 ho, if_neg (by omega)]
    have hisd : isd x ev0 = false := by unfold isd; rw [if_neg (by omega), if_neg (by omega)]
    rw [hisd]
    simp only [Bool.false_eq_true, if_false]
    exact ni.sit hi2 (fun q hq => by cases hq) (fun _ => rfl)
theorem NI.run : ∀ (l : List HStep) {h : HSt} {b : Bk}, NI h b → NI (nrun h b l).1 (nrun h b l).2 := by
  intro l
  induction l with
  | nil => intro h b ni; exact ni
  | cons x r ih => intro h b ni; exact ih (ni.step x)

/-- Those of one commit: one deed. -/
theorem kf_range {α : Type} (f : α → Int) : ∀ (m a : Nat) (l : List α), l.map f = (List.range' a m).map (fun i => ((i : Nat) : Int)) → (∀ d, d ∈ l → (a : Int) ≤ f d) ∧ ∀ k : Nat, a ≤ k → k < a + m → ∃ d, d ∈ l ∧ f d = (k : Int) ∧ kf f (k : Int) l = [d] := by
  intro m
  induction m with
  | zero =>
    intro a l h
    have : l = [] := by
      cases l with
      | nil => rfl
      | cons x r => simp at h
    subst this
    exact ⟨fun d hd => by simp at hd, fun k h1 h2 => by omega⟩
  | succ m ih =>
    intro a l h
    cases l with
    | nil => simp [List.range'] at h
    | cons x r =>
      simp only [List.range', List.map_cons, List.cons.injEq] at h
      obtain ⟨h1, h2⟩ := h
      obtain ⟨g1, g2⟩ := ih (a + 1) r h2
      refine ⟨fun d hd => ?_, fun k k1 k2 => ?_⟩
      · rcases List.mem_cons.1 hd with q | q
        · rw [q, h1]; exact Int.le_refl _
        · have := g1 d q; omega
      · by_cases e : k = a
        · subst e
          refine ⟨x, by simp, h1, ?_⟩
          unfold kf
          rw [List.filter_cons_of_pos (by simp [h1])]
          have : r.filter (fun x => decide (f x = (k : Int))) = [] := by
            rw [List.filter_eq_nil_iff]
            intro y hy q
            have := g1 y hy
            simp at q
            omega
          rw [this]
        · obtain ⟨d, q1, q2, q3⟩ := g2 k (by omega) (by omega)
          refine ⟨d, by simp [q1], q2, ?_⟩
          unfold kf at q3 ⊢
          rw [List.filter_cons_of_neg (by simp [h1]; omega)]
          exact q3
theorem DI.one {cs : List (List Ver)} {ds : List Dn} (h : DI cs ds) {k : Nat} (h1 : 1 ≤ k) (h2 : k ≤ cs.length) : ∃ d, d ∈ ds ∧ d.n = (k : Int) ∧ kf Dn.n (k : Int) ds = [d] := by
  obtain ⟨d, q1, q2, q3⟩ := (kf_range Dn.n cs.length 1 (cms ds) h.num).2 k h1 (by omega)
  rw [kf_cms (by omega)] at q3
  unfold cms at q1
  exact ⟨d, (List.mem_filter.1 q1).1, q2, q3⟩
/-- The commits' worlds, one behind the other. -/
theorem DI.world {cs : List (List Ver)} {ds : List Dn} (h : DI cs ds) {v : Nat → Ver} {n : Nat} (hn : n < cs.length) (hv : Sm v (wc (cs.take n))) : cmo v (kf Dn.n ((n : Int) + 1) ds) = true ∧ Sm (cmw v (kf Dn.n ((n : Int) + 1) ds)) (wc (cs.take (n + 1))) ∧ (kf Dn.n ((n : Int) + 1) ds).length = 1 := by
  obtain ⟨d, q1, q2, q3⟩ := h.one (k := n + 1) (by omega) (by omega)
  have c1 : ((n + 1 : Nat) : Int) = (n : Int) + 1 := by omega
  rw [c1] at q2 q3
  rw [q3]
  have hd := h.ok d q1
  obtain ⟨k1, k2, k3⟩ := hd.com (by omega)
  have e1 : (d.n - 1).toNat = n := by omega
  rw [e1] at k2 k3
  refine ⟨?_, ?_, rfl⟩
  · simp only [cmo, Bool.and_true, Bool.or_eq_true, decide_eq_true_eq]
    by_cases c : d.md = 2
    · left; rw [rpo_congr hv]; exact k3 c
    · right; exact c
  · simp only [cmw]
    have hcm : cs[n]? = some cs[n] := List.getElem?_eq_getElem hn
    have htk : cs.take (n + 1) = cs.take n ++ [cs[n]] := by rw [List.take_add_one, hcm]; rfl
    have e2 : cs.getD n [] = cs[n] := by rw [List.getD_eq_getElem?_getD, hcm]; rfl
    rw [htk, wc_snoc]
    have := k2 v
    rw [e2] at this
    exact this.trans (hv.wvs cs[n])
theorem DI.looks {cs : List (List Ver)} {ds : List Dn} (h : DI cs ds) {v : Nat → Ver} {n : Nat} (hv : Sm v (wc (cs.take n))) : lko v (kf Dn.at_ (n : Int) (lks ds)) = true := by
  have key : ∀ l : List Dn, (∀ d, d ∈ l → DoneOk cs d ∧ d.n = 0 ∧ d.at_ = (n : Int)) → lko v l = true := by
    intro l
    induction l with
    | nil => intro _; rfl
    | cons d r ih =>
      intro hl
      obtain ⟨h1, h2, h3⟩ := hl d (by simp)
      simp only [lko, Bool.and_eq_true]
      refine ⟨?_, ih (fun x hx => hl x (by simp [hx]))⟩
      have := (h1.look h2).2
      rw [h3, Int.toNat_natCast] at this
      rw [rpo_congr hv]
      exact this
  refine key _ (fun d hd => ?_)
  unfold kf lks at hd
  have h1 := List.mem_filter.1 hd
  have h2 := List.mem_filter.1 h1.1
  have h3 := h1.2
  have h4 := h2.2
  simp at h3 h4
  exact ⟨h.ok d h2.1, h4.1, h3⟩
/-- SURE, THEY CAME ONE BEHIND THE OTHER. -/
theorem DI.ser {cs : List (List Ver)} {ds : List Dn} (h : DI cs ds) : Ytliopckocegknac.ser ds = true := by
  have h0 := (mxn_ge ds 0).1
  have hle : mxn 0 ds ≤ cs.length := by
    rcases mxn_is ds 0 with q | ⟨d, q1, q2⟩
    · omega
    · have := (h.ok d q1).hi; omega
  have key : ∀ (m n : Nat) (v : Nat → Ver), n + m ≤ cs.length → Sm v (wc (cs.take n)) → srs ds m (n + 1) v true = true := by
    intro m
    induction m with
    | zero => intro n v _ _; rfl
    | succ m ih =>
      intro n v hn hv
      obtain ⟨g1, g2, g3⟩ := h.world (by omega) hv
      have c1 : ((n + 1 : Nat) : Int) = (n : Int) + 1 := by omega
      have e1 : sr1 ds (n + 1) v true = (cmw v (kf Dn.n ((n : Int) + 1) ds), true) := by
        unfold sr1
        rw [if_pos (by omega), c1, srN_eq]
        dsimp only
        rw [srL_eq (by omega), g1]
        have := h.looks g2
        rw [c1] at this
        rw [this]
        rfl
      simp only [srs]
      rw [e1]
      exact ih (n + 1) _ (by omega) g2
  unfold Ytliopckocegknac.ser
  simp only [srs]
  have e0 : sr1 ds 0 (fun _ => dv) true = (fun _ => dv, true) := by
    unfold sr1
    rw [if_neg (by omega)]
    dsimp only
    rw [srL_eq (by omega)]
    have := h.looks (v := fun _ => dv) (n := 0) (by rw [List.take_zero]; exact Sm.refl _)
    rw [show ((0 : Nat) : Int) = 0 from rfl] at this ⊢
    rw [this]
    rfl
  rw [e0]
  exact key _ 0 _ (by omega) (by rw [List.take_zero]; exact Sm.refl _)
theorem ntd_di (l : List HStep) : DI (nrun hst0 bk0 l).1.cs (ntd l) := (ni_new.run l).dn
theorem ntd_ser (l : List HStep) : ser (ntd l) = true := (ntd_di l).ser
end Go.Proofs.Ytliopckocegknac

/- A book: Note of whatever step. -/
namespace Go.Proofs.Ytliopckocegknac
open Go.RowKit
set_option maxRecDepth 20000
attribute [local go_sem ↓] Go.wp_at_zero Go.wp_at_succ

set_option maxHeartbeats 4000000 in
theorem bk_note {w0 w : World} {bb : Nat} {b : Bk} {r : List Thing} (x : HStep) (v : Ev) (la : Option Addr) (lc : Nat) (last : Int) (hls : SlO w la v.l) (hll : v.l.length ≤ 1000) (hb : ∀ s o, b.op s = some o → o.acts.length ≤ 1000) (hd : b.dn.length ≤ 1000) (hz : Zoo w0 w (BkT bb b :: r)) :
    Calls Try.prog 86 #[.pointer (some ⟨bb, 0, none⟩), .agg (xcs x), .agg (ecl v la lc), .int .i64 last] w fun e w' => e = .returned (.tuple #[]) ∧ Hid (Zoo w0 w' (BkT bb (bnote b x v last) :: r)) := by
  have hk := ((Kp.refl [] w).alloc (.cells (xcs x) 37)).alloc (.cells (ecl v la lc) 34)
  have HZ := hide (hz.kp0 hk)
  have HB := hide (fun h : x.d = 1 => bk_begin x v la lc last h (hz.kp0 hk))
  have HG := hide (fun h : 2 ≤ x.d ∧ x.d ≤ 5 => bk_goOn x v la lc last h (hls.kp0 hk) hll hb (hz.kp0 hk))
  have HE := hide (fun h : x.d = 6 ∨ x.d = 7 ∨ x.d = 10 => bk_end x v la lc last h hd (hz.kp0 hk))
  have HK := hide (fun h : x.d < 1 ∨ 10 < x.d ∨ x.d = 8 => bn_kind (b := b) (e := v) (last := last) h)
  have HC := hide (fun h : x.d = 9 => (show bnote b x v last = ⟨fun _ => none, b.dn⟩ by unfold bnote; rw [if_neg (by omega), if_neg (by omega), if_neg (by omega), if_pos h]))
  clear hk hz hls hll hb hd
  obtain ⟨xd, xs, xm, xa, xk, xt, xp, xb⟩ := x
  obtain ⟨vc, vn, vt, vs, vl⟩ := v
  dsimp only [xcs, ecl] at *
  generalize vl.length = ln at *
  by_cases h1 : xd = 1
  · subst h1
    have HY := hide (unhide HB (rfl))
    go_enter Try.func86, Try.ntmps86
    go_wp2_with fail
    refine (unhide HY).mono ?_
    rintro e w2 ⟨rfl, HR⟩
    go_wp2_with fail
    go_end0
    exact ⟨rfl, unhide HR⟩
  by_cases h2 : xd = 2
  · subst h2
    have HY := hide (unhide HG (by omega))
    go_enter Try.func86, Try.ntmps86
    go_wp2_with fail
    refine (unhide HY).mono ?_
    rintro e w2 ⟨rfl, HR⟩
    go_wp2_with fail
    go_end0
    exact ⟨rfl, unhide HR⟩
  by_cases h3 : xd = 3
  · subst h3
    have HY := hide (unhide HG (by omega))
    go_enter Try.func86, Try.ntmps86
    go_wp2_with fail
    refine (unhide HY).mono ?_
    rintro e w2 ⟨rfl, HR⟩
    go_wp2_with fail
    go_end0
    exact ⟨rfl, unhide HR⟩
  by_cases h4 : xd = 4
  · subst h4
    have HY := hide (unhide HG (by omega))
    go_enter Try.func86, Try.ntmps86
    go_wp2_with fail
    refine (unhide HY).mono ?_
    rintro e w2 ⟨rfl, HR⟩
    go_wp2_with fail
    go_end0
    exact ⟨rfl, unhide HR⟩
  by_cases h5 : xd = 5
  · subst h5
    have HY := hide (unhide HG (by omega))
    go_enter Try.func86, Try.ntmps86
    go_wp2_with fail
    refine (unhide HY).mono ?_
    rintro e w2 ⟨rfl, HR⟩
    go_wp2_with fail
    go_end0
    exact ⟨rfl, unhide HR⟩
  by_cases h6 : xd = 6
  · subst h6
    have HY := hide (unhide HE (.inl rfl))
    go_enter Try.func86, Try.ntmps86
    go_wp2_with fail
    refine (unhide HY).mono ?_
    rintro e w2 ⟨rfl, HR⟩
    go_wp2_with fail
    go_end0
    exact ⟨rfl, unhide HR⟩
  by_cases h7 : xd = 7
  · subst h7
    have HY := hide (unhide HE (.inr (.inl rfl)))
    go_enter Try.func86, Try.ntmps86
    go_wp2_with fail
    refine (unhide HY).mono ?_
    rintro e w2 ⟨rfl, HR⟩
    go_wp2_with fail
    go_end0
    exact ⟨rfl, unhide HR⟩
  by_cases h10 : xd = 10
  · subst h10
    have HY := hide (unhide HE (.inr (.inr rfl)))
    go_enter Try.func86, Try.ntmps86
    go_wp2_with fail
    refine (unhide HY).mono ?_
    rintro e w2 ⟨rfl, HR⟩
    go_wp2_with fail
    go_end0
    exact ⟨rfl, unhide HR⟩
  by_cases h9 : xd = 9
  · subst h9
    obtain ⟨st, a, c, ys, hb5, hbk⟩ := bk_open (unhide HZ)
    have HBK := hide hbk
    have HB5 := hide hb5
    rw [unhide HC rfl]
    clear hb5 hbk
    go_enter Try.func86, Try.ntmps86
    go_wp2_with fail
    refine (bk_leaveAll (unhide HBK)).mono ?_
    rintro e w2 ⟨rfl, HR⟩
    go_wp2_with fail
    go_end0
    exact ⟨rfl, bk_close (unhide HB5).leave (unhide HR)⟩
  · rw [unhide HK (by omega)]
    go_enter Try.func86, Try.ntmps86
    go_wp2_with fail
    go_end0
    exact ⟨rfl, unhide HZ⟩
end Go.Proofs.Ytliopckocegknac

/- A book: List, by its contract. -/
namespace Go.Proofs.Ytliopckocegknac
open Go.RowKit
set_option maxRecDepth 20000
attribute [local go_sem ↓] Go.wp_at_zero Go.wp_at_succ

theorem krow_cap {e : TypeId} {k B : Nat} {w : World} {a : Option Addr} {n cap : Nat} {xs : List Value} (h : KRow e k B w a n cap xs) : n ≤ cap := by
  rcases h.2 with ⟨_, e1, e2⟩ | ⟨g, cur, _, _, _, h4, _⟩
  · omega
  · exact h4
theorem heap_alloc_at {w : World} {o : Obj} {n : Nat} (h : w.heap.size = n) : (w.alloc o).heap[n]? = some o := by
  subst h
  exact heap_alloc_new _ _
/-- Deeds' rows and their acts, as things: what is read of them. -/
theorem rows_in {w0 w : World} {a : Option Addr} {c : Nat} {ys : List Dy} {os : List Thing} (hz : Zoo w0 w os) (h1 : KwT 90 4 a ys.length c (dxcs (ys.map Dy.x)) ∈ os) (h2 : ∀ y, y ∈ ys → dyT y ∈ os) (h3 : ∀ y, y ∈ ys → y.x.d.acts = y.ys.map Ax.x) : DnsIn w a (ys.map (fun y => y.x.d)) := by
  obtain ⟨k1, k2, ek⟩ := List.append_of_mem h1
  have hrow : KRow 90 4 w0.heap.size w a ys.length c (dxcs (ys.map Dy.x)) := kw_row (l1 := k1) (r := k2) (by rw [← ek]; exact hz)
  intro hp
  rw [List.length_map] at hp
  have hat : ∀ {i : Nat} {y : Dy}, ys[i]? = some y → (ys.map Dy.x)[i]? = some y.x := fun {i y} h => by rw [List.getElem?_map, h]; rfl
  obtain ⟨g, e, _⟩ := hrow.cell (dxcs_at (hat (List.getElem?_eq_getElem hp))).1
  refine ⟨g, 0, e, fun i d hd => ?_⟩
  rw [List.getElem?_map] at hd
  cases hy : ys[i]? with
  | none => rw [hy] at hd; cases hd
  | some y =>
    rw [hy] at hd
    simp only [Option.map_some, Option.some.injEq] at hd
    subst hd
    obtain ⟨c0, c1, c2, c3⟩ := dxcs_at (hat hy)
    have key : ∀ {j : Nat} {v : Value}, (dxcs (ys.map Dy.x))[j]? = some v → w.cell? ⟨g, j, none⟩ = some v := fun {j v} hv => by
      obtain ⟨g', e', hc⟩ := hrow.cell hv
      rw [e] at e'
      simp only [Option.some.injEq, Addr.mk.injEq, and_true] at e'
      rw [e']
      exact hc
    have hm := List.mem_of_getElem? hy
    rw [Nat.zero_add]
    refine ⟨key c0, key c1, key c2, ⟨y.x.a, y.x.c, key c3, ?_⟩, y.x.a, y.x.c, key c3, ?_⟩
    · obtain ⟨l1, l2, el⟩ := List.append_of_mem (h2 y hm)
      have := krow_cap (act_row (l1 := l1) (r := l2) (zs := y.ys) (show Zoo w0 w (l1 ++ ActT y.x.a y.x.c y.ys :: l2) by have z := hz; rw [el] at z; exact z))
      rw [h3 y hm, List.length_map]
      exact this
    rw [h3 y hm]
    exact act_in hz (h2 y hm)
/-- What is so at the heads of List's loops. -/
structure BlO (ds : List Dn) (w wr : World) (al : Option Addr) (cl n k : Nat) (ys : List Dy) : Prop where
  zoo : Zoo w wr (KwT 90 4 al n cl (dxcs (ys.map Dy.x)) :: ys.map dyT)
  nl : n = ys.length
  map : ys.map (fun y => y.x.d) = ds.take k
  acts : ∀ y, y ∈ ys → y.x.d.acts = y.ys.map Ax.x
structure BlI (acts : List Ac) (w wr : World) (aI : Option Addr) (cI m i : Nat) (zs : List Ax) (R : List Thing) : Prop where
  zoo : Zoo w wr (ActT aI cI zs :: R)
  nl : m = zs.length
  map : zs.map Ax.x = acts.take i
theorem BlI.step {acts : List Ac} {w wr w3 W w4 : World} {aI a2 : Option Addr} {cI c2 m i q : Nat} {zs : List Ax} {R : List Thing} {x : Ac} {a3 : Option Addr} {c3 : Nat} (h : BlI acts w wr aI cI m i zs R) (hx : acts[i]? = some x)
    (hW : Zoo w W (axT ⟨x, a3, c3⟩ :: BoxT q (axc ⟨x, a3, c3⟩).toArray 101 :: ActT aI cI zs :: R)) (hk : Kp [] W w3)
    (g1 : KRow 101 6 w.heap.size w4 a2 (m + 1) c2 (axcs zs ++ axc ⟨x, a3, c3⟩)) (g2 : Kp (ob aI) w3 w4) (g3 : ∀ x ∈ ob a2, x ∈ ob aI ∨ w3.heap.size ≤ x) : BlI acts w w4 a2 c2 (m + 1) (i + 1) (zs ++ [⟨x, a3, c3⟩]) R := by
  have h1 := zoo_drop1 (hW.kp0 hk)
  have h2 := act_more h1 (by rw [← h.nl]; exact g1) g2 g3
  refine ⟨h2, by rw [List.length_append, h.nl]; rfl, ?_⟩
  rw [List.map_append, h.map, List.take_add_one, hx]
  rfl
def LiEnd (ds : List Dn) (w : World) (e : Ending) (w' : World) : Prop := ∃ a c, e = .returned (.slice a ds.length c) ∧ DnsIn w' a ds ∧ Kp [] w w'
set_option maxHeartbeats 4000000 in
theorem bk_list {w0 w : World} {bb : Nat} {b : Bk} {r : List Thing} (hz : Zoo w0 w (BkT bb b :: r)) (hok : DnsOk b.dn) :
    Calls Try.prog 87 #[.pointer (some ⟨bb, 0, none⟩)] w (LiEnd b.dn w) := by
  have hu := Try.underlying85
  have hua := Try.underlying88
  obtain ⟨st, a, c, ys, hb5, hbk⟩ := bk_open hz
  have hdn : DnsIn w a b.dn := by
    rw [← hb5.dn]
    exact rows_in hbk (List.Mem.tail _ (List.Mem.head _)) (fun y hy => List.mem_append_left _ (List.mem_cons_of_mem _ (List.mem_cons_of_mem _ (List.mem_append_left _ (List.mem_map_of_mem hy))))) hb5.da
  have hlen : ys.length = b.dn.length := by rw [← hb5.dn, List.length_map]
  have c5 := hbk.c5
  rw [hlen] at c5
  obtain ⟨ds, hds⟩ : ∃ ds, b.dn = ds := ⟨_, rfl⟩
  rw [hds] at hdn hok c5 ⊢
  have HD := hide hdn
  have HO := hide hok
  have hm := hok.1
  obtain ⟨m, hmm⟩ : ∃ m, ds.length = m := ⟨_, rfl⟩
  rw [hmm] at c5 hm
  have HM := hide hmm
  clear hdn hok hb5 hbk hz hlen hds hmm
  go_enter Try.func87, Try.ntmps87
  go_wp2_with fail
  go_loopw [3, 5, 6, 8, 14] (fun x _ _ _ y wr => ∃ (k : Nat) (al : Option Addr) (cl n : Nat), k ≤ m ∧ x = .slice al n cl ∧ y = .int .i64 k ∧ n ≤ k ∧ Hid (∃ ys, BlO ds w wr al cl n k ys)) (fun _ _ _ _ y _ => m - (intOf y).toNat)
  case atStart => exact ⟨0, none, 0, 0, Nat.zero_le _, rfl, rfl, Nat.le_refl _, [], kw_nil _ 4 (zoo_nil (Kp.refl [] w)), rfl, rfl, fun y hy => by simp at hy⟩
  case round =>
    obtain ⟨k, al, cl, n, hk, rfl, rfl, hnk, HI⟩ := hrel
    obtain ⟨ys, hi⟩ := unhide HI
    have HL := hide hi
    clear hi HI
    by_cases hlt : k < m
    · have i1 : (k : Int) < (m : Int) := by omega
      have i0 : (0 : Int) ≤ (k : Int) := by omega
      have hln : k < ds.length := by have := unhide HM; omega
      obtain ⟨g, o, rfl, hb⟩ := (unhide HD) (by omega)
      obtain ⟨x, hx⟩ : ∃ x, ds[k]? = some x := ⟨_, List.getElem?_eq_getElem hln⟩
      have htk : ds.take (k + 1) = ds.take k ++ [x] := by rw [List.take_add_one, hx]; rfl
      have HT := hide htk
      have hxok := (unhide HO).2 x (List.mem_of_getElem? hx)
      have hat := hb k x hx
      have hkw := (unhide HL).zoo.kp
      obtain ⟨la, lc, z3, hls⟩ := hat.ls
      have HLS := hide hls
      have q0 := (hat.kp0 hkw).c0
      have q1 := (hat.kp0 hkw).c1
      have q2 : wr.cell? ⟨g, o + k * 4 + 1 + 1, none⟩ = _ := (hat.kp0 hkw).c2
      have q3 : wr.cell? ⟨g, o + k * 4 + 1 + 1 + 1, none⟩ = _ := hkw.cell (by simp) z3
      clear hat hb hx hls z3 hkw htk
      obtain ⟨xn, xa, xm, xacts⟩ := x
      dsimp only at q0 q1 q2 q3 HLS hxok
      have HXO := hide hxok
      have hlx1 := hxok.1
      obtain ⟨ln, hlen⟩ : ∃ ln, xacts.length = ln := ⟨_, rfl⟩
      rw [hlen] at q3 hlx1
      have HLN := hide hlen
      clear hlen hxok
      have HI0 := hide (show BlI xacts w (wr.alloc (.cells #[.int .i64 xn, .int .i64 xa, .int .i64 xm, .slice la ln lc] 90)) none 0 0 0 [] (BoxT wr.heap.size #[.int .i64 xn, .int .i64 xa, .int .i64 xm, .slice la ln lc] 90 :: (KwT 90 4 al n cl (dxcs (ys.map Dy.x)) :: ys.map dyT)) from ⟨act_close (zs := []) (kw_nil _ 6 ((unhide HL).zoo.box #[.int .i64 xn, .int .i64 xa, .int .i64 xm, .slice la ln lc] 90)), rfl, rfl⟩)
      go_wp2_with fail
      generalize wr.heap.size = q5 at *
      generalize wr.alloc (.cells #[.int .i64 xn, .int .i64 xa, .int .i64 xm, .slice la ln lc] 90) = w5 at *
      clear q0 q1 q2 q3
      go_loopw [6, 8, 21] (fun x _ y wr => ∃ (i : Nat) (aI : Option Addr) (cI n2 : Nat), i ≤ ln ∧ x = .slice aI n2 cI ∧ y = .int .i64 i ∧ n2 ≤ i ∧ Hid (∃ zs, BlI xacts w wr aI cI n2 i zs (BoxT q5 #[.int .i64 xn, .int .i64 xa, .int .i64 xm, .slice la ln lc] 90 :: (KwT 90 4 al n cl (dxcs (ys.map Dy.x)) :: ys.map dyT)))) (fun _ _ y _ => ln - (intOf y).toNat)
      case atStart => exact ⟨0, none, 0, 0, Nat.zero_le _, rfl, rfl, Nat.le_refl _, [], unhide HI0⟩
      case round =>
        obtain ⟨i, aI, cI, n2, hil, rfl, rfl, hn2, HI2⟩ := hrel
        obtain ⟨zs, hi2⟩ := unhide HI2
        have HZI := hide hi2
        clear hi2 HI2 HI0
        by_cases hlt2 : i < ln
        · have j1 : (i : Int) < (ln : Int) := by omega
          have j0 : (0 : Int) ≤ (i : Int) := by omega
          have hln2 : i < xacts.length := by have := unhide HLN; omega
          obtain ⟨b2, o2, rfl, hb2⟩ := (unhide HLS).kp0 (unhide HZI).zoo.kp (by omega)
          obtain ⟨x, hx⟩ : ∃ x, xacts[i]? = some x := ⟨_, List.getElem?_eq_getElem hln2⟩
          have HX := hide hx
          have hxl : x.l.length ≤ 1000 := (unhide HXO).2 x (List.mem_of_getElem? hx)
          have hat := hb2 i x hx
          obtain ⟨la2, lc2, z5, hls2⟩ := hat.ls
          have q0 := hat.c0
          have q1 := hat.c1
          have q2 : wr.cell? ⟨b2, o2 + i * 6 + 1 + 1, none⟩ = _ := hat.c2
          have q3 : wr.cell? ⟨b2, o2 + i * 6 + 1 + 1 + 1, none⟩ = _ := hat.c3
          have q4 : wr.cell? ⟨b2, o2 + i * 6 + 1 + 1 + 1 + 1, none⟩ = _ := hat.c4
          have q5' : wr.cell? ⟨b2, o2 + i * 6 + 1 + 1 + 1 + 1 + 1, none⟩ = _ := z5
          have HL2 := hide hls2
          clear hat hb2 hx hls2 z5
          obtain ⟨kd, key, to_, xt, xs, xl⟩ := x
          dsimp only at q0 q1 q2 q3 q4 q5' hxl HL2
          obtain ⟨l2, hlen2⟩ : ∃ l2, xl.length = l2 := ⟨_, rfl⟩
          rw [hlen2] at q5'
          have HLN2 := hide hlen2
          clear hlen2
          have HB1 := hide ((unhide HZI).zoo.box #[.int .i64 kd, .int .i64 key, .int .i64 to_, .bool xt, .string xs, .slice la2 l2 lc2] 101)
          have HL3 := hide ((unhide HL2).kp0 ((Kp.refl [] wr).alloc (.cells #[.int .i64 kd, .int .i64 key, .int .i64 to_, .bool xt, .string xs, .slice la2 l2 lc2] 101)))
          go_wp2_with fail
          generalize wr.heap.size = q8 at *
          generalize wr.alloc (.cells #[.int .i64 kd, .int .i64 key, .int .i64 to_, .bool xt, .string xs, .slice la2 l2 lc2] 101) = w6 at *
          rw [← unhide HLN2]
          refine (clone118 la2 lc2 xl w6 (unhide HL3) hxl).mono ?_
          rintro e w7 ⟨a3, c3, rfl, hr3, hk3⟩
          rw [unhide HLN2]
          have HB2 := hide ((unhide HB1).cons (o := KwT 79 3 a3 xl.length c3 (vcells xl)) (F := ob a3) ⟨hr3, rfl⟩ hk3)
          clear hr3 hk3 HB1 HL3 HL2 q0 q1 q2 q3 q4 q5'
          obtain ⟨F8, ⟨hbx8, e8, f8⟩, k8⟩ := zoo_at1 (unhide HB2)
          have HB3 := hide (k8 (BoxT q8 #[.int .i64 kd, .int .i64 key, .int .i64 to_, .bool xt, .string xs, .slice a3 l2 c3] 101) (w7.setCell ⟨q8, 5, none⟩ (.slice a3 l2 c3)) ⟨F8, ⟨by rw [heap_setCell_at _ _ hbx8]; rfl, e8, f8⟩, by rw [e8]; exact (Kp.refl [q8] _).setCell (.inl (by simp)) _, fun x hx => .inl hx⟩)
          have y5 : w7.cell? ⟨q8, 5, none⟩ = some (.slice la2 l2 lc2) := cell_of_block hbx8 rfl
          have fy5 := frozen_of_block 5 hbx8
          clear hbx8 e8 f8 k8 HB2
          have hb3 := zoo_varm (unhide HB3) (List.Mem.tail _ (List.Mem.head _))
          have hBw := Zoo.base (unhide HB3)
          have y10 : (w7.setCell ⟨q8, 5, none⟩ (.slice a3 l2 c3)).cell? ⟨q8, 0, none⟩ = some (.int .i64 kd) := cell_of_block hb3 rfl
          have y11 : (w7.setCell ⟨q8, 5, none⟩ (.slice a3 l2 c3)).cell? ⟨q8, 1, none⟩ = some (.int .i64 key) := cell_of_block hb3 rfl
          have y12 : (w7.setCell ⟨q8, 5, none⟩ (.slice a3 l2 c3)).cell? ⟨q8, 2, none⟩ = some (.int .i64 to_) := cell_of_block hb3 rfl
          have y13 : (w7.setCell ⟨q8, 5, none⟩ (.slice a3 l2 c3)).cell? ⟨q8, 3, none⟩ = some (.bool xt) := cell_of_block hb3 rfl
          have y14 : (w7.setCell ⟨q8, 5, none⟩ (.slice a3 l2 c3)).cell? ⟨q8, 4, none⟩ = some (.string xs) := cell_of_block hb3 rfl
          have y15 : (w7.setCell ⟨q8, 5, none⟩ (.slice a3 l2 c3)).cell? ⟨q8, 5, none⟩ = some (.slice a3 l2 c3) := cell_of_block hb3 rfl
          have HW8 : Hid (Zoo w (w7.setCell ⟨q8, 5, none⟩ (.slice a3 l2 c3)) (axT ⟨⟨kd, key, to_, xt, xs, xl⟩, a3, c3⟩ :: BoxT q8 (axc ⟨⟨kd, key, to_, xt, xs, xl⟩, a3, c3⟩).toArray 101 :: ActT aI cI zs :: (BoxT q5 #[.int .i64 xn, .int .i64 xa, .int .i64 xm, .slice (some ⟨b2, o2, none⟩) ln lc] 90 :: (KwT 90 4 al n cl (dxcs (ys.map Dy.x)) :: ys.map dyT)))) := by
            have z := unhide HB3
            rw [← unhide HLN2] at z ⊢
            exact z
          have hrow : KRow 101 6 w.heap.size (w7.setCell ⟨q8, 5, none⟩ (.slice a3 l2 c3)) aI n2 cI (axcs zs) := by
            rw [(unhide HZI).nl]
            exact act_row (l1 := [_, _]) (unhide HW8)
          have HRW := hide hrow
          clear hb3 hrow HB3
          go_wp2_with (at_builtin; refine wpList_krow (by rfl) (.tmp 29) (.tmp 31) 88 (by rfl) hua Try.info101 rfl (by omega) ((unhide HRW).kp0 ((Kp.refl [] _).alloc _)) (by have := hBw; simp at this ⊢; omega) (.slice (some ⟨w7.heap.size, 0, none⟩) 1 1) [.int .i64 kd, .int .i64 key, .int .i64 to_, .bool xt, .string xs, .slice a3 l2 c3] 1 (by rfl) (by rfl) (src_built (cs := #[.int .i64 kd, .int .i64 key, .int .i64 to_, .bool xt, .string xs, .slice a3 l2 c3]) (T := 101) (fr := (0, 0)) hua (heap_alloc_at (by simp)) rfl (by simp [Value.oneCell'])) (by omega) (n2 + 1) rfl ?_; intro a2 c2 w9 g1 g2 g3)
          refine ⟨⟨i + 1, a2, c2, n2 + 1, by omega, rfl, by go_num, by omega, zs ++ [⟨⟨kd, key, to_, xt, xs, xl⟩, a3, c3⟩], ?_⟩, by simp [intOf]; omega⟩
          refine (unhide HZI).step (unhide HX) (unhide HW8) ((Kp.refl [] _).alloc _) ?_ (unhide g2) (unhide g3)
          have z := unhide g1
          rw [← unhide HLN2] at z
          exact z
        · have j1 : ¬ (i : Int) < (ln : Int) := by omega
          have hz5 := (unhide HZI).zoo
          obtain ⟨F5, ⟨hbx5, e5, f5⟩, k5⟩ := zoo_at1 hz5
          have HB6 := hide (k5 (BoxT q5 #[.int .i64 xn, .int .i64 xa, .int .i64 xm, .slice aI n2 cI] 90) (wr.setCell ⟨q5, 3, none⟩ (.slice aI n2 cI)) ⟨F5, ⟨by rw [heap_setCell_at _ _ hbx5]; rfl, e5, f5⟩, by rw [e5]; exact (Kp.refl [q5] _).setCell (.inl (by simp)) _, fun x hx => .inl hx⟩)
          have y3 : wr.cell? ⟨q5, 3, none⟩ = some (.slice la ln lc) := cell_of_block hbx5 rfl
          have fy3 := frozen_of_block 3 hbx5
          clear hbx5 e5 f5 k5 hz5
          have hb6 := zoo_varm (unhide HB6) (List.Mem.tail _ (List.Mem.head _))
          have hBw := Zoo.base (unhide HB6)
          have y10 : (wr.setCell ⟨q5, 3, none⟩ (.slice aI n2 cI)).cell? ⟨q5, 0, none⟩ = some (.int .i64 xn) := cell_of_block hb6 rfl
          have y11 : (wr.setCell ⟨q5, 3, none⟩ (.slice aI n2 cI)).cell? ⟨q5, 1, none⟩ = some (.int .i64 xa) := cell_of_block hb6 rfl
          have y12 : (wr.setCell ⟨q5, 3, none⟩ (.slice aI n2 cI)).cell? ⟨q5, 2, none⟩ = some (.int .i64 xm) := cell_of_block hb6 rfl
          have y13 : (wr.setCell ⟨q5, 3, none⟩ (.slice aI n2 cI)).cell? ⟨q5, 3, none⟩ = some (.slice aI n2 cI) := cell_of_block hb6 rfl
          have HRW := hide (kw_row (l1 := [_, _]) (unhide HB6))
          clear hb6
          go_wp2_with (at_builtin; refine wpList_krow (by rfl) (.tmp 36) (.tmp 38) 85 (by rfl) hu Try.info90 rfl (by omega) ((unhide HRW).kp0 ((Kp.refl [] _).alloc _)) (by have := hBw; simp at this ⊢; omega) (.slice (some ⟨wr.heap.size, 0, none⟩) 1 1) [.int .i64 xn, .int .i64 xa, .int .i64 xm, .slice aI n2 cI] 1 (by rfl) (by rfl) (src_built (cs := #[.int .i64 xn, .int .i64 xa, .int .i64 xm, .slice aI n2 cI]) (T := 90) (fr := (0, 0)) hu (heap_alloc_at (by simp)) rfl (by simp [Value.oneCell'])) (by omega) (n + 1) rfl ?_; intro a2 c2 w9 g1 g2 g3)
          have hzs : zs.map Ax.x = xacts := by rw [(unhide HZI).map, List.take_of_length_le (by have := unhide HLN; omega)]
          have hzl : xacts.length = n2 := by rw [← hzs, List.length_map, (unhide HZI).nl]
          have hz9 := kw_app (l1 := [_, _]) ((unhide HB6).kp0 ((Kp.refl [] _).alloc (.cells #[.int .i64 xn, .int .i64 xa, .int .i64 xm, .slice aI n2 cI] 90))) (unhide g1) (unhide g2) (unhide g3)
          refine ⟨⟨k + 1, a2, c2, n + 1, by omega, rfl, by go_num, by omega, ys ++ [⟨⟨⟨xn, xa, xm, xacts⟩, aI, cI⟩, zs⟩], ?_, ?_, ?_, fun y hy => ?_⟩, by simp [intOf]; omega⟩
          · have hz10 := zoo_drop1 hz9
            have e1 : dxcs ((ys ++ [(⟨⟨⟨xn, xa, xm, xacts⟩, aI, cI⟩, zs⟩ : Dy)]).map Dy.x) = dxcs (ys.map Dy.x) ++ [.int .i64 xn, .int .i64 xa, .int .i64 xm, .slice aI n2 cI] := by
              rw [List.map_append, dxcs_app]
              simp [dxcs, dxc, hzl]
            rw [e1, List.map_append]
            refine hz10.perm ?_
            have p1 : (ActT aI cI zs :: KwT 90 4 a2 (n + 1) c2 (dxcs (ys.map Dy.x) ++ [.int .i64 xn, .int .i64 xa, .int .i64 xm, .slice aI n2 cI]) :: ys.map dyT).Perm (KwT 90 4 a2 (n + 1) c2 (dxcs (ys.map Dy.x) ++ [.int .i64 xn, .int .i64 xa, .int .i64 xm, .slice aI n2 cI]) :: (ActT aI cI zs :: ys.map dyT)) := List.Perm.swap _ _ _
            refine p1.trans (List.Perm.cons _ ?_)
            have p2 := (List.perm_append_comm (l₁ := ys.map dyT) (l₂ := [ActT aI cI zs])).symm
            simpa [dyT] using p2
          · rw [List.length_append, (unhide HL).nl]; rfl
          · rw [List.map_append, (unhide HL).map, unhide HT]; rfl
          · rcases List.mem_append.1 hy with e | e
            · exact (unhide HL).acts y e
            · rw [List.mem_singleton.1 e]; exact hzs.symm
    · have i1 : ¬ (k : Int) < (m : Int) := by omega
      go_wp2_with fail
      go_ret
      have hmp := (unhide HL).map
      rw [List.take_of_length_le (by have := unhide HM; omega)] at hmp
      have hnl := (unhide HL).nl
      have hzl := (unhide HL).zoo
      have hl : n = ds.length := by rw [hnl, ← hmp, List.length_map]
      rw [hnl] at hzl
      refine ⟨al, cl, congrArg (fun z => Ending.returned (Value.slice al z cl)) hl, ?_, hzl.kp⟩
      have z := rows_in hzl (List.Mem.head _) (fun y hy => List.mem_cons_of_mem _ (List.mem_map_of_mem hy)) (unhide HL).acts
      rw [hmp] at z
      exact z
end Go.Proofs.Ytliopckocegknac

/- What was done, of steps of a hall: noted, by its contract. -/
namespace Go.Proofs.Ytliopckocegknac
open Go.RowKit
set_option maxRecDepth 20000
attribute [local go_sem ↓] Go.wp_at_zero Go.wp_at_succ

/-- How much a book holds behind i steps. -/
structure BkB (i : Nat) (b : Bk) : Prop where
  op : ∀ s o, b.op s = some o → o.acts.length ≤ i ∧ ∀ x, x ∈ o.acts → x.l.length ≤ 8
  len : b.dn.length ≤ i
  dn : ∀ d, d ∈ b.dn → d.acts.length ≤ i ∧ ∀ x, x ∈ d.acts → x.l.length ≤ 8
theorem BkB.le {i j : Nat} {b : Bk} (h : BkB i b) (hij : i ≤ j) : BkB j b :=
  ⟨fun s o ho => ⟨Nat.le_trans (h.op s o ho).1 hij, (h.op s o ho).2⟩, Nat.le_trans h.len hij, fun d hd => ⟨Nat.le_trans (h.dn d hd).1 hij, (h.dn d hd).2⟩⟩
theorem bkb_new : BkB 0 bk0 := ⟨fun s o h => (by cases h), Nat.le_refl _, fun d h => (by cases h)⟩
theorem nact_len {x : HStep} {e : Ev} (h : e.l.length ≤ 8) : (nact x e).l.length ≤ 8 := by
  unfold nact
  repeat' split
  all_goals first | exact Nat.zero_le _ | exact h
theorem BkB.step {i : Nat} {b : Bk} (h : BkB i b) (x : HStep) (e : Ev) (last : Int) (he : e.l.length ≤ 8) : BkB (i + 1) (bnote b x e last) := by
  have h1 := h.le (Nat.le_succ i)
  unfold bnote
  split
  · split
    · refine ⟨fun s o ho => ?_, h1.len, h1.dn⟩
      dsimp only [upd] at ho
      split at ho
      · cases ho
        exact ⟨Nat.zero_le _, fun x hx => (by cases hx)⟩
      · exact h1.op s o ho
    · exact h1
  · split
    · split
      · exact h1
      · rename_i d hd
        split
        · have hdd : b.op x.s.toNat = some d := by
            unfold bat5 at hd
            split at hd
            · exact hd
            · cases hd
          refine ⟨fun s o ho => ?_, h1.len, h1.dn⟩
          dsimp only [upd] at ho
          split at ho
          · cases ho
            refine ⟨by simp only [List.length_append, List.length_cons, List.length_nil]; have := (h.op _ _ hdd).1; omega, fun y hy => ?_⟩
            rcases List.mem_append.1 hy with q | q
            · exact (h.op _ _ hdd).2 y q
            · rw [List.mem_singleton.1 q]; exact nact_len he
          · exact h1.op s o ho
        · exact h1
    · split
      · split
        · exact h1
        · rename_i d hd
          have hdd : b.op x.s.toNat = some d := by
            unfold bat5 at hd
            split at hd
            · exact hd
            · cases hd
          refine ⟨fun s o ho => ?_, ?_, fun y hy => ?_⟩
          · dsimp only at ho
            split at ho
            · cases ho
            · dsimp only [upd] at ho
              split at ho
              · cases ho
              · exact h1.op s o ho
          · dsimp only
            split
            · simp only [List.length_append, List.length_cons, List.length_nil]; have := h.len; omega
            · exact h1.len
          · dsimp only at hy
            split at hy
            · rcases List.mem_append.1 hy with q | q
              · exact h1.dn y q
              · rw [List.mem_singleton.1 q]; exact h1.op x.s.toNat d hdd
            · exact h1.dn y hy
      · split
        · exact ⟨fun s o ho => (by cases ho), h1.len, h1.dn⟩
        · exact h1
theorem BkB.ok {i : Nat} {b : Bk} (h : BkB i b) (hi : i ≤ 1000) : DnsOk b.dn :=
  ⟨Nat.le_trans h.len hi, fun x hx => ⟨Nat.le_trans (h.dn x hx).1 hi, fun y hy => Nat.le_trans ((h.dn x hx).2 y hy) (by omega)⟩⟩
theorem nrun_app (h : HSt) (b : Bk) (l : List HStep) (x : HStep) : nrun h b (l ++ [x]) = (hdo (nrun h b l).1 x, bnote (nrun h b l).2 x (hev (nrun h b l).1 x) (nrun h b l).1.n) := by
  induction l generalizing h b with
  | nil => rfl
  | cons y l ih => exact ih _ _
def hstl (st : Nat → HStep) (n : Nat) : List HStep := (List.range n).map st
theorem hstl_succ (st : Nat → HStep) (n : Nat) : hstl st (n + 1) = hstl st n ++ [st n] := by
  unfold hstl
  rw [List.range_succ, List.map_append]
  rfl
theorem cells8s_kp {w w' : World} {p0 p1 p2 p3 q0 q1 q2 q3 : Addr} {x0 x1 x2 x3 y0 y1 y2 y3 : Value} (h : w.cell? p0 = some x0 ∧ w.cell? p1 = some x1 ∧ w.cell? p2 = some x2 ∧ w.cell? p3 = some x3 ∧ w.cell? q0 = some y0 ∧ w.cell? q1 = some y1 ∧ w.cell? q2 = some y2 ∧ w.cell? q3 = some y3) (hk : Kp [] w w') :
    w'.cell? p0 = some x0 ∧ w'.cell? p1 = some x1 ∧ w'.cell? p2 = some x2 ∧ w'.cell? p3 = some x3 ∧ w'.cell? q0 = some y0 ∧ w'.cell? q1 = some y1 ∧ w'.cell? q2 = some y2 ∧ w'.cell? q3 = some y3 :=
  ⟨hk.cell (by simp) h.1, hk.cell (by simp) h.2.1, hk.cell (by simp) h.2.2.1, hk.cell (by simp) h.2.2.2.1, hk.cell (by simp) h.2.2.2.2.1, hk.cell (by simp) h.2.2.2.2.2.1, hk.cell (by simp) h.2.2.2.2.2.2.1, hk.cell (by simp) h.2.2.2.2.2.2.2⟩
/-- What is seen of a hall's last commit. -/
theorem hal_last {w0 w : World} {hb : Nat} {h : HSt} {os : List Thing} (hz : Zoo w0 w os) (hm : HalT hb h ∈ os) : ∃ vb tb, w.cell? ⟨hb, 0, none⟩ = some (.pointer (some ⟨vb, 0, none⟩)) ∧ w.cell? ⟨vb, 0, none⟩ = some (.pointer (some ⟨tb, 0, none⟩)) ∧
    Hid (∀ W, Kp [] w W → Calls Try.prog 21 #[.pointer (some ⟨tb, 0, none⟩)] W fun e w' => e = .returned (.int .i64 h.n) ∧ w' = W) := by
  obtain ⟨l1, l2, rfl⟩ := List.append_of_mem hm
  obtain ⟨vb, tb, gb, st, _, _, hl⟩ := hal_open (hz.perm List.perm_middle)
  exact ⟨vb, tb, hl.c0, hl.v0, fun W hk => h_last (hl.kp0 hk)⟩
set_option maxHeartbeats 4000000 in
theorem noted (a : Option Addr) (n1 c : Nat) (st : Nat → HStep) (w : World) (h : HSts w a n1 st) (hn : n1 ≤ 900) :
    Calls Try.prog 45 #[.slice a n1 c] w (LiEnd (ntd (hstl st n1)) w) := by
  have HS := hide h
  clear h
  go_enter Try.func45, Try.ntmps45
  go_wp2_with fail
  refine (h_new w).mono ?_
  rintro e w2 ⟨hb, rfl, F, hh, hk⟩
  have HZ0 : Hid (Zoo w w2 [HalT hb hs0]) := (zoo_nil (Kp.refl [] w)).cons hh hk
  clear hh hk
  go_wp2_with fail
  refine (bk_new (unhide HZ0)).mono ?_
  rintro e w3 ⟨bb, rfl, HZ1⟩
  clear HZ0
  have HZ2 := hide (zoo_swap (unhide HZ1))
  clear HZ1
  go_wp2_with fail
  go_loopw [5, 6] (fun i _ wr => ∃ k : Nat, k ≤ n1 ∧ i = .int .i64 k ∧ ∃ h b, Hid (nrun hst0 bk0 (hstl st k) = (h, b)) ∧ Hid (BkB k b) ∧ Hid (Zoo w wr [HalT hb h, BkT bb b])) (fun i _ _ => n1 - (intOf i).toNat)
  case atStart => exact ⟨0, by omega, rfl, _, _, rfl, bkb_new, unhide HZ2⟩
  case round =>
    obtain ⟨k, hk, rfl, h, b, HR, HB, HI⟩ := hrel
    by_cases hlt : k < n1
    · obtain ⟨lb', lo, rfl, hst⟩ := (unhide HS).2 (by omega)
      obtain ⟨q0, q1, q2, q3, q4, q5, q6, q7, hsz⟩ := hst k hlt
      have i0 : (0 : Int) ≤ (k : Int) := by omega
      have i1 : (k : Int) < (n1 : Int) := by omega
      clear hst
      have HR2 : Hid (nrun hst0 bk0 (hstl st (k + 1)) = (hdo h (st k), bnote b (st k) (hev h (st k)) h.n)) := by
        rw [hstl_succ, nrun_app, unhide HR]
        rfl
      clear HR
      generalize (st k) = x at *
      obtain ⟨vb, tb, c0, v0, HLST⟩ := hal_last (unhide HI) (List.Mem.head _)
      have HLN := hide (hev_len h x)
      have HD := hide (hal_do x hsz ((unhide HI).kp0 ((Kp.refl [] wr).drew)))
      have HNT := hide (fun (v : Ev) (la : Option Addr) (lc : Nat) (W : World) (r : List Thing) (hls : SlO W la v.l) (hll : v.l.length ≤ 8) (hz : Zoo w W (BkT bb b :: r)) => bk_note x v la lc h.n hls (by omega) (fun s o ho => by have := ((unhide HB).op s o ho).1; omega) (by have := (unhide HB).len; omega) hz)
      have HBS := hide (fun (v : Ev) (hv : v.l.length ≤ 8) => (unhide HB).step x v h.n hv)
      obtain ⟨v, hv⟩ : ∃ v, hev h x = v := ⟨_, rfl⟩
      obtain ⟨h', hh'⟩ : ∃ h', hdo h x = h' := ⟨_, rfl⟩
      rw [hv] at HLN
      rw [hv, hh'] at HD HR2
      clear hv hh'
      obtain ⟨y, hy⟩ : ∃ y, h.n = y := ⟨_, rfl⟩
      rw [hy] at HNT HBS HLST HR2
      have HC8 : Hid (x = x) := rfl
      obtain ⟨xd, xs, xm, xa, xk, xt, xp, xb⟩ := x
      dsimp only at q0 q1 q2 q3 q4 q5 q6 q7
      clear HC8
      have HC8 := hide (And.intro q0 (And.intro q1 (And.intro q2 (And.intro q3 (And.intro q4 (And.intro q5 (And.intro q6 q7)))))))
      clear q0 q1 q2 q3 q4 q5 q6 q7
      go_wp2_with fail
      refine (unhide HLST _ (Kp.refl _ _)).mono ?_
      rintro e w5 ⟨rfl, hw5⟩
      subst w5
      clear c0 v0 HLST
      go_wp2_with fail
      refine wp_region_held_drew (S := fun w' => w'.cell? ⟨lb', lo + k * 8, none⟩ = some (.int .i64 xd) ∧ w'.cell? ⟨lb', lo + k * 8 + 1, none⟩ = some (.int .i64 xs) ∧ w'.cell? ⟨lb', lo + k * 8 + 2, none⟩ = some (.int .i64 xm) ∧ w'.cell? ⟨lb', lo + k * 8 + 3, none⟩ = some (.int .i64 xa) ∧ w'.cell? ⟨lb', lo + k * 8 + 4, none⟩ = some (.int .i64 xk) ∧ w'.cell? ⟨lb', lo + k * 8 + 5, none⟩ = some (.int .i64 xt) ∧ w'.cell? ⟨lb', lo + k * 8 + 6, none⟩ = some (.int .i64 xp) ∧ w'.cell? ⟨lb', lo + k * 8 + 7, none⟩ = some (.string xb)) (by kernel_rfl) (cells8s_kp (unhide HC8) ((unhide HI).kp.drew)) (fun hHeld => ?_)
      refine wpAnyH_tk (i := 0) (v := ?_) rfl (by kernel_rfl) (by kernel_rfl) (by kernel_rfl) (fun _ _ _ h => h) (Or.inl ⟨by rfl, ?_⟩) hHeld ?_
      rotate_left
      · intro w hSw
        try dsimp only at hSw
        go_simp
        try with_reducible rfl
      try simp only [Act.put, List.setIfInBounds_toArray, List.set_cons_zero, List.set_cons_succ]
      refine wpAnyH_tk (i := 1) (v := ?_) rfl (by kernel_rfl) (by kernel_rfl) (by kernel_rfl) (fun _ _ _ h => h) (Or.inl ⟨by rfl, ?_⟩) hHeld ?_
      rotate_left
      · intro w hSw
        try dsimp only at hSw
        go_simp
        try with_reducible rfl
      try simp only [Act.put, List.setIfInBounds_toArray, List.set_cons_zero, List.set_cons_succ]
      refine wpAnyH_tk (i := 2) (v := ?_) rfl (by kernel_rfl) (by kernel_rfl) (by kernel_rfl) (fun _ _ _ h => h) (Or.inl ⟨by rfl, ?_⟩) hHeld ?_
      rotate_left
      · intro w hSw
        try dsimp only at hSw
        go_simp
        try with_reducible rfl
      try simp only [Act.put, List.setIfInBounds_toArray, List.set_cons_zero, List.set_cons_succ]
      refine wpAnyH_tk (i := 3) (v := ?_) rfl (by kernel_rfl) (by kernel_rfl) (by kernel_rfl) (fun _ _ _ h => h) (Or.inl ⟨by rfl, ?_⟩) hHeld ?_
      rotate_left
      · intro w hSw
        try dsimp only at hSw
        go_simp
        try with_reducible rfl
      try simp only [Act.put, List.setIfInBounds_toArray, List.set_cons_zero, List.set_cons_succ]
      refine wpAnyH_tk (i := 4) (v := ?_) rfl (by kernel_rfl) (by kernel_rfl) (by kernel_rfl) (fun _ _ _ h => h) (Or.inl ⟨by rfl, ?_⟩) hHeld ?_
      rotate_left
      · intro w hSw
        try dsimp only at hSw
        go_simp
        try with_reducible rfl
      try simp only [Act.put, List.setIfInBounds_toArray, List.set_cons_zero, List.set_cons_succ]
      refine wpAnyH_tk (i := 5) (v := ?_) rfl (by kernel_rfl) (by kernel_rfl) (by kernel_rfl) (fun _ _ _ h => h) (Or.inl ⟨by rfl, ?_⟩) hHeld ?_
      rotate_left
      · intro w hSw
        try dsimp only at hSw
        go_simp
        try with_reducible rfl
      try simp only [Act.put, List.setIfInBounds_toArray, List.set_cons_zero, List.set_cons_succ]
      refine wpAnyH_tk (i := 6) (v := ?_) rfl (by kernel_rfl) (by kernel_rfl) (by kernel_rfl) (fun _ _ _ h => h) (Or.inl ⟨by rfl, ?_⟩) hHeld ?_
      rotate_left
      · intro w hSw
        try dsimp only at hSw
        go_simp
        try with_reducible rfl
      try simp only [Act.put, List.setIfInBounds_toArray, List.set_cons_zero, List.set_cons_succ]
      refine wpAnyH_tk (i := 7) (v := ?_) rfl (by kernel_rfl) (by kernel_rfl) (by kernel_rfl) (fun _ _ _ h => h) (Or.inl ⟨by rfl, ?_⟩) hHeld ?_
      rotate_left
      · intro w hSw
        try dsimp only at hSw
        go_simp
        try with_reducible rfl
      try simp only [Act.put, List.setIfInBounds_toArray, List.set_cons_zero, List.set_cons_succ]
      refine wpAnyH_tk (i := 8) (v := ?_) rfl (by kernel_rfl) (by kernel_rfl) (by kernel_rfl) (fun _ _ _ h => h) (Or.inl ⟨by rfl, ?_⟩) hHeld ?_
      rotate_left
      · intro w hSw
        try dsimp only at hSw
        go_simp
        try with_reducible rfl
      try simp only [Act.put, List.setIfInBounds_toArray, List.set_cons_zero, List.set_cons_succ]
      refine wpAnyH_tk (i := 9) (v := ?_) rfl (by kernel_rfl) (by kernel_rfl) (by kernel_rfl) (fun _ _ _ h => h) (Or.inl ⟨by rfl, ?_⟩) hHeld ?_
      rotate_left
      · intro w hSw
        try dsimp only at hSw
        go_simp
        try with_reducible rfl
      try simp only [Act.put, List.setIfInBounds_toArray, List.set_cons_zero, List.set_cons_succ]
      refine wpAnyH_tk (i := 11) (v := ?_) rfl (by kernel_rfl) (by kernel_rfl) (by kernel_rfl) (fun _ _ _ h => h) (Or.inl ⟨by rfl, ?_⟩) hHeld ?_
      rotate_left
      · intro w hSw
        try dsimp only at hSw
        go_simp
        try with_reducible rfl
      try simp only [Act.put, List.setIfInBounds_toArray, List.set_cons_zero, List.set_cons_succ]
      refine wpAnyH_only (i := 10) rfl (by kernel_rfl) (fun K hK => ?_)
      go_simp
      refine (unhide HD).mono ?_
      rintro e w6 ⟨a6, c6, rfl, HY⟩
      clear HD
      have HY1 := hide ((unhide HY).perm (show List.Perm [HalT hb h', PsT a6 c6 v.l, BkT bb b] [BkT bb b, HalT hb h', PsT a6 c6 v.l] from (List.perm_append_comm (l₁ := [HalT hb h', PsT a6 c6 v.l]) (l₂ := [BkT bb b]))))
      have HSL := hide (ps_slo (unhide HY) (List.Mem.tail _ (List.Mem.head _)))
      clear HY
      go_wp2_with fail
      refine hK.out _ _ (cells8s_kp (unhide HC8) (unhide HY1).kp) (fun hHeld2 => ?_)
      clear hK K hHeld
      have hHeld := hHeld2
      clear hHeld2
      try simp only [Act.put, List.setIfInBounds_toArray, List.set_cons_zero, List.set_cons_succ]
      refine wpAnyH_only (i := 12) rfl (by kernel_rfl) (fun K hK => ?_)
      go_simp
      refine (unhide HNT v a6 c6 w6 _ (unhide HSL) (unhide HLN) (unhide HY1)).mono ?_
      rintro e w7 ⟨rfl, HY2⟩
      go_wp2_with fail
      refine hK.out _ _ (cells8s_kp (unhide HC8) (unhide HY2).kp) (fun hHeld2 => ?_)
      clear hK K hHeld
      have hHeld := hHeld2
      clear hHeld2
      try simp only [Act.put, List.setIfInBounds_toArray, List.set_cons_zero, List.set_cons_succ]
      refine wpAnyH_done (by kernel_rfl) ?_ _
      go_wp2_with fail
      refine ⟨⟨k + 1, by omega, by go_num, h', _, HR2, unhide HBS v (unhide HLN), ?_⟩, by simp [intOf]; omega⟩
      exact ((unhide HY2).perm (show List.Perm _ [PsT a6 c6 v.l, HalT hb h', BkT bb _] from (List.reverse_perm _).symm)).tail
    · have i1 : ¬ (k : Int) < (n1 : Int) := by omega
      have e1 : k = n1 := by omega
      have HE : Hid (b.dn = ntd (hstl st n1)) := by
        have := unhide HR
        rw [e1] at this
        show _ = (nrun hst0 bk0 (hstl st n1)).2.dn
        rw [this]
      have HL := hide (bk_list (zoo_swap (unhide HI)) ((unhide HB).ok (by omega)))
      rw [unhide HE] at HL
      go_wp2_with fail
      refine (unhide HL).mono ?_
      rintro e w7 ⟨a7, c7, rfl, hd7, hk7⟩
      have HK7 := hide ((unhide HI).kp.trans0 hk7)
      have HD7 := hide hd7
      clear hd7 hk7 HL
      go_wp2_with fail
      go_ret
      exact ⟨a7, c7, rfl, unhide HD7, unhide HK7⟩
end Go.Proofs.Ytliopckocegknac

/- serialBegun answers true. -/
namespace Go.Proofs.Ytliopckocegknac
open Go.RowKit
set_option maxRecDepth 20000
attribute [local go_sem ↓] Go.wp_at_zero Go.wp_at_succ

def st7 : Nat → HStep
  | 0 => ⟨1, 0, 2, 0, 0, 0, 0, ⟨#[]⟩⟩
  | 1 => ⟨3, 0, 0, 0, 1, 0, 0, ⟨#[120]⟩⟩
  | 2 => ⟨2, 0, 0, 0, 1, 0, 0, ⟨#[]⟩⟩
  | 3 => ⟨6, 0, 0, 0, 0, 0, 0, ⟨#[]⟩⟩
  | 4 => ⟨1, 0, 3, 0, 0, 0, 0, ⟨#[]⟩⟩
  | 5 => ⟨2, 0, 0, 0, 1, 0, 0, ⟨#[]⟩⟩
  | _ => ⟨6, 0, 0, 0, 0, 0, 0, ⟨#[]⟩⟩
def sa0 : List Ac := [⟨3, 1, 0, true, ⟨#[120]⟩, []⟩, ⟨2, 1, 0, true, ⟨#[120]⟩, []⟩]
def sa1 : List Ac := [⟨2, 1, 0, false, ⟨#[]⟩, []⟩]
theorem ntd7 : ntd (hstl st7 7) = [⟨1, 0, 2, sa0⟩, ⟨0, 0, 3, sa1⟩] := by rfl
theorem sa0_o : rpo (fun _ => dv) sa0 = true := by decide
theorem sa0_t : (rpw (fun _ => dv) sa0 1).t = true := by rfl
theorem sa0_s : (rpw (fun _ => dv) sa0 1).s = ⟨#[120]⟩ := by rfl
theorem sa0_n : rpo (fun _ => dv) (sa0.drop 1) = false := by decide
theorem sa_len : sa0.length = 2 := rfl
theorem sa_len1 : sa1.length = 1 := rfl
theorem sa_len2 : (sa0.drop 1).length = 1 := rfl
theorem sa_ok0 : ActsOk sa0 := ⟨by decide, fun x hx => by
  rcases List.mem_cons.1 hx with rfl | hx
  · exact Nat.zero_le _
  · rw [List.mem_singleton.1 hx]; exact Nat.zero_le _⟩
theorem sa_ok1 : ActsOk sa1 := ⟨by decide, fun x hx => by rw [List.mem_singleton.1 hx]; exact Nat.zero_le _⟩
theorem sa_ok2 : ActsOk (sa0.drop 1) := ⟨by decide, fun x hx => by rw [List.mem_singleton.1 hx]; exact Nat.zero_le _⟩
theorem sd_ok : DnsOk [⟨1, 0, 2, sa0⟩, ⟨0, 0, 3, sa1⟩] := ⟨by decide, fun x hx => by
  rcases List.mem_cons.1 hx with rfl | hx
  · exact sa_ok0
  · rw [List.mem_singleton.1 hx]; exact sa_ok1⟩
theorem sd_n : ∀ d, d ∈ [(⟨1, 0, 2, sa0⟩ : Dn), ⟨0, 0, 3, sa1⟩] → d.n ≤ 1000 := fun x hx => by
  rcases List.mem_cons.1 hx with rfl | hx
  · decide
  · rw [List.mem_singleton.1 hx]; decide
theorem c4_kp {w w' : World} {p0 p1 p2 p3 : Addr} {x0 x1 x2 x3 : Value} (h : w.cell? p0 = some x0 ∧ w.cell? p1 = some x1 ∧ w.cell? p2 = some x2 ∧ w.cell? p3 = some x3) (hk : Kp [] w w') : w'.cell? p0 = some x0 ∧ w'.cell? p1 = some x1 ∧ w'.cell? p2 = some x2 ∧ w'.cell? p3 = some x3 :=
  ⟨hk.cell (by simp) h.1, hk.cell (by simp) h.2.1, hk.cell (by simp) h.2.2.1, hk.cell (by simp) h.2.2.2⟩
theorem sts7 {w : World} {b : Nat} {T : TypeId} (h : w.heap[b]? = some (.cells #[.int .i64 1, .int .i64 0, .int .i64 2, .int .i64 0, .int .i64 0, .int .i64 0, .int .i64 0, .string ⟨#[]⟩, .int .i64 3, .int .i64 0, .int .i64 0, .int .i64 0, .int .i64 1, .int .i64 0, .int .i64 0, .string ⟨#[120]⟩, .int .i64 2, .int .i64 0, .int .i64 0, .int .i64 0, .int .i64 1, .int .i64 0, .int .i64 0, .string ⟨#[]⟩, .int .i64 6, .int .i64 0, .int .i64 0, .int .i64 0, .int .i64 0, .int .i64 0, .int .i64 0, .string ⟨#[]⟩, .int .i64 1, .int .i64 0, .int .i64 3, .int .i64 0, .int .i64 0, .int .i64 0, .int .i64 0, .string ⟨#[]⟩, .int .i64 2, .int .i64 0, .int .i64 0, .int .i64 0, .int .i64 1, .int .i64 0, .int .i64 0, .string ⟨#[]⟩, .int .i64 6, .int .i64 0, .int .i64 0, .int .i64 0, .int .i64 0, .int .i64 0, .int .i64 0, .string ⟨#[]⟩] T)) : HSts w (some ⟨b, 0, none⟩) 7 st7 := by
  refine ⟨by unfold maxLen; decide, fun _ => ⟨b, 0, rfl, fun i hi => ?_⟩⟩
  match i with
  | 0 => exact ⟨cell_of_block h rfl, cell_of_block h rfl, cell_of_block h rfl, cell_of_block h rfl, cell_of_block h rfl, cell_of_block h rfl, cell_of_block h rfl, cell_of_block h rfl, by unfold maxLen; decide⟩
  | 1 => exact ⟨cell_of_block h rfl, cell_of_block h rfl, cell_of_block h rfl, cell_of_block h rfl, cell_of_block h rfl, cell_of_block h rfl, cell_of_block h rfl, cell_of_block h rfl, by unfold maxLen; decide⟩
  | 2 => exact ⟨cell_of_block h rfl, cell_of_block h rfl, cell_of_block h rfl, cell_of_block h rfl, cell_of_block h rfl, cell_of_block h rfl, cell_of_block h rfl, cell_of_block h rfl, by unfold maxLen; decide⟩
  | 3 => exact ⟨cell_of_block h rfl, cell_of_block h rfl, cell_of_block h rfl, cell_of_block h rfl, cell_of_block h rfl, cell_of_block h rfl, cell_of_block h rfl, cell_of_block h rfl, by unfold maxLen; decide⟩
  | 4 => exact ⟨cell_of_block h rfl, cell_of_block h rfl, cell_of_block h rfl, cell_of_block h rfl, cell_of_block h rfl, cell_of_block h rfl, cell_of_block h rfl, cell_of_block h rfl, by unfold maxLen; decide⟩
  | 5 => exact ⟨cell_of_block h rfl, cell_of_block h rfl, cell_of_block h rfl, cell_of_block h rfl, cell_of_block h rfl, cell_of_block h rfl, cell_of_block h rfl, cell_of_block h rfl, by unfold maxLen; decide⟩
  | 6 => exact ⟨cell_of_block h rfl, cell_of_block h rfl, cell_of_block h rfl, cell_of_block h rfl, cell_of_block h rfl, cell_of_block h rfl, cell_of_block h rfl, cell_of_block h rfl, by unfold maxLen; decide⟩
  | n + 7 => omega
set_option maxHeartbeats 4000000 in
theorem sbegun (w : World) : Calls Try.prog 44 #[] w fun e w' => e = .returned (.bool true) ∧ Kp [] w w' := by
  have HN := hide (fun c => noted (some ⟨w.heap.size, 0, none⟩) 7 c st7 (w.alloc (.cells #[.int .i64 1, .int .i64 0, .int .i64 2, .int .i64 0, .int .i64 0, .int .i64 0, .int .i64 0, .string ⟨#[]⟩, .int .i64 3, .int .i64 0, .int .i64 0, .int .i64 0, .int .i64 1, .int .i64 0, .int .i64 0, .string ⟨#[120]⟩, .int .i64 2, .int .i64 0, .int .i64 0, .int .i64 0, .int .i64 1, .int .i64 0, .int .i64 0, .string ⟨#[]⟩, .int .i64 6, .int .i64 0, .int .i64 0, .int .i64 0, .int .i64 0, .int .i64 0, .int .i64 0, .string ⟨#[]⟩, .int .i64 1, .int .i64 0, .int .i64 3, .int .i64 0, .int .i64 0, .int .i64 0, .int .i64 0, .string ⟨#[]⟩, .int .i64 2, .int .i64 0, .int .i64 0, .int .i64 0, .int .i64 1, .int .i64 0, .int .i64 0, .string ⟨#[]⟩, .int .i64 6, .int .i64 0, .int .i64 0, .int .i64 0, .int .i64 0, .int .i64 0, .int .i64 0, .string ⟨#[]⟩] 37)) (sts7 (heap_alloc_new w _)) (by omega))
  have hkw := (Kp.refl [] w).alloc (.cells #[.int .i64 1, .int .i64 0, .int .i64 2, .int .i64 0, .int .i64 0, .int .i64 0, .int .i64 0, .string ⟨#[]⟩, .int .i64 3, .int .i64 0, .int .i64 0, .int .i64 0, .int .i64 1, .int .i64 0, .int .i64 0, .string ⟨#[120]⟩, .int .i64 2, .int .i64 0, .int .i64 0, .int .i64 0, .int .i64 1, .int .i64 0, .int .i64 0, .string ⟨#[]⟩, .int .i64 6, .int .i64 0, .int .i64 0, .int .i64 0, .int .i64 0, .int .i64 0, .int .i64 0, .string ⟨#[]⟩, .int .i64 1, .int .i64 0, .int .i64 3, .int .i64 0, .int .i64 0, .int .i64 0, .int .i64 0, .string ⟨#[]⟩, .int .i64 2, .int .i64 0, .int .i64 0, .int .i64 0, .int .i64 1, .int .i64 0, .int .i64 0, .string ⟨#[]⟩, .int .i64 6, .int .i64 0, .int .i64 0, .int .i64 0, .int .i64 0, .int .i64 0, .int .i64 0, .string ⟨#[]⟩] 37)
  have HKW := hide hkw
  clear hkw
  go_enter Try.func44, Try.ntmps44
  go_wp2_with fail
  refine (unhide HN _).mono ?_
  rintro e w1 ⟨a, c, rfl, hd, hk⟩
  have HSER := ntd_ser (hstl st7 7)
  have HK1 := hide ((unhide HKW).trans0 hk)
  rw [ntd7] at hd HSER ⊢
  rw [show List.length [(⟨1, 0, 2, sa0⟩ : Dn), ⟨0, 0, 3, sa1⟩] = 2 from rfl]
  have HD := hide hd
  have HSR := hide HSER
  obtain ⟨g, o, rfl, hb⟩ := hd (by decide)
  have d0 := hb 0 _ rfl
  have d1 := hb 1 _ rfl
  clear hb hd hk HN HKW HSER
  obtain ⟨la, lc, z0, hl0⟩ := d0.ls
  obtain ⟨la1, lc1, z1, hl1⟩ := d1.ls
  have y0 := d0.c0
  have y1 := d1.c0
  dsimp only at hl0 hl1 z0 z1 y0 y1
  rw [sa_len] at z0
  rw [sa_len1] at z1
  rw [show o + 0 * 4 = o by omega] at z0 y0
  rw [show o + 1 * 4 = o + 4 by omega] at z1 y1
  obtain ⟨g0, o0, rfl, hb0⟩ := hl0 (by decide)
  have HL0 : Hid (ActsIn w1 (some ⟨g0, o0, none⟩) sa0) := hl0
  have HL1 : Hid (ActsIn w1 (some ⟨g0, o0 + 6, none⟩) (sa0.drop 1)) := fun _ => ⟨g0, o0 + 6, rfl, fun i x hx => by
    have := ActsIn.drop hb0 1 i x hx
    rwa [show o0 + 1 * 6 + i * 6 = o0 + 6 + i * 6 by omega] at this⟩
  have hlc : 2 ≤ lc := by
    obtain ⟨la', lc', z', h'⟩ := d0.cp
    dsimp only at z' h'
    rw [sa_len] at z' h'
    rw [show o + 0 * 4 = o by omega, z0] at z'
    cases z'
    exact h'
  clear d0 d1 hl0 hl1 hb0
  go_wp2_with fail
  have HR0 := hide (replay (fun _ => dv) (some ⟨g0, o0, none⟩) lc sa0 w1 (unhide HL0) sa_ok0)
  rw [sa_len] at HR0
  rw [← zeros_eq]
  refine (unhide HR0).mono ?_
  rintro e w2 ⟨rfl, hk2⟩
  rw [sa0_o]
  obtain ⟨v, hv⟩ : ∃ v, rpw (fun _ => dv) sa0 = v := ⟨_, rfl⟩
  have ht : (v 1).t = true := by rw [← hv]; exact sa0_t
  have hs : (v 1).s = ⟨#[120]⟩ := by rw [← hv]; exact sa0_s
  rw [hv]
  have HK2 := hide ((unhide HK1).trans0 hk2)
  have HL1b := hide ((unhide HL1).kp0 hk2)
  have HDb := hide ((unhide HD).kp0 hk2)
  have z0b := hk2.cell (by simp) z0
  have y0b := hk2.cell (by simp) y0
  have y1b := hk2.cell (by simp) y1
  clear hk2 HR0 z0 z1 y0 y1 HK1 HL1 HL0 HD hv
  have hg0 := lt_of_cell y0b
  have n0 : g ≠ w2.heap.size := by omega
  have HK3 := hide ((Kp.refl [] w2).alloc (.cells (wagg v) 97))
  go_wp2_with (refine wpList_store_row rfl 97 _ _ rfl w2.heap.size (wagg v) rfl rfl 97 _ (heap_alloc_new w2 _) Try.size97 rfl (wagg_one _) ?_; rw [World.setRow_alloc_new])
  have HR1 := hide (replay (fun _ => dv) (some ⟨g0, o0 + 6, none⟩) (lc - 1) (sa0.drop 1) (w2.alloc (.cells (wagg v) 97)) ((unhide HL1b).kp0 (unhide HK3)) sa_ok2)
  rw [sa_len2] at HR1
  rw [← zeros_eq]
  refine (unhide HR1).mono ?_
  rintro e w3 ⟨rfl, hk3⟩
  rw [sa0_n]
  obtain ⟨v2, hv2⟩ : ∃ v2, rpw (fun _ => dv) (sa0.drop 1) = v2 := ⟨_, rfl⟩
  rw [hv2]
  have HC4 : Hid (w3.cell? ⟨w2.heap.size, 2, none⟩ = some (.bool true) ∧ w3.cell? ⟨w2.heap.size, 3, none⟩ = some (.string ⟨#[120]⟩) ∧ w3.cell? ⟨g, o, none⟩ = some (.int .i64 1) ∧ w3.cell? ⟨g, o + 4, none⟩ = some (.int .i64 0)) := by
    refine ⟨hk3.cell (by simp) ?_, hk3.cell (by simp) ?_, ((unhide HK3).trans0 hk3).cell (by simp) y0b, ((unhide HK3).trans0 hk3).cell (by simp) y1b⟩
    · have q := cell_of_block (heap_alloc_new w2 (.cells (wagg v) 97)) (wagg_at0 v (k := 1) (by omega))
      rw [ht] at q
      exact q
    · have q := cell_of_block (heap_alloc_new w2 (.cells (wagg v) 97)) (wagg_at1 v (k := 1) (by omega))
      rw [hs] at q
      exact q
  have HK4 := hide ((unhide HK2).trans0 ((unhide HK3).trans0 hk3))
  have HD4 := hide ((unhide HDb).kp0 ((unhide HK3).trans0 hk3))
  clear hk3 HR1 hv2 y0b y1b z0b HK2 HK3 HDb HL1b hg0 n0 ht hs hlc
  generalize w2.heap.size = p1 at *
  have heq := eqVal true true ⟨#[120]⟩ ⟨#[120]⟩
  have HK5 := hide (((Kp.refl [] w3).alloc (.cells (wagg v2) 97)).drew)
  go_wp2_with (refine wpList_store_row rfl 97 _ _ rfl w3.heap.size (wagg v2) rfl rfl 97 _ (heap_alloc_new w3 _) Try.size97 rfl (wagg_one _) ?_; rw [World.setRow_alloc_new])
  refine wp_region_held_drew (S := fun w' => w'.cell? ⟨p1, 2, none⟩ = some (.bool true) ∧ w'.cell? ⟨p1, 3, none⟩ = some (.string ⟨#[120]⟩) ∧ w'.cell? ⟨g, o, none⟩ = some (.int .i64 1) ∧ w'.cell? ⟨g, o + 4, none⟩ = some (.int .i64 0)) (by kernel_rfl) (c4_kp (unhide HC4) (unhide HK5)) (fun hHeld => ?_)
  refine wpAnyH_tk (i := 0) (v := ?_) rfl (by kernel_rfl) (by kernel_rfl) (by kernel_rfl) (fun _ _ _ h => h) (Or.inl ⟨by rfl, ?_⟩) hHeld ?_
  rotate_left
  · intro w hSw
    try dsimp only at hSw
    go_simp
    try with_reducible rfl
  try simp only [Act.put, List.setIfInBounds_toArray, List.set_cons_zero, List.set_cons_succ]
  refine wpAnyH_tk (i := 1) (v := ?_) rfl (by kernel_rfl) (by kernel_rfl) (by kernel_rfl) (fun _ _ _ h => h) (Or.inl ⟨by rfl, ?_⟩) hHeld ?_
  rotate_left
  · intro w hSw
    try dsimp only at hSw
    go_simp
    try with_reducible rfl
  try simp only [Act.put, List.setIfInBounds_toArray, List.set_cons_zero, List.set_cons_succ]
  refine wpAnyH_tk (i := 2) (v := ?_) rfl (by kernel_rfl) (by kernel_rfl) (by kernel_rfl) (fun _ _ _ h => h) (Or.inl ⟨by rfl, ?_⟩) hHeld ?_
  rotate_left
  · intro w hSw
    try dsimp only at hSw
    go_simp
    try with_reducible rfl
  try simp only [Act.put, List.setIfInBounds_toArray, List.set_cons_zero, List.set_cons_succ]
  refine wpAnyH_tk (i := 3) (v := ?_) rfl (by kernel_rfl) (by kernel_rfl) (by kernel_rfl) (fun _ _ _ h => h) (Or.inl ⟨by rfl, ?_⟩) hHeld ?_
  rotate_left
  · intro w hSw
    try dsimp only at hSw
    go_simp
    try with_reducible rfl
  try simp only [Act.put, List.setIfInBounds_toArray, List.set_cons_zero, List.set_cons_succ]
  refine wpAnyH_tk (i := 4) (v := ?_) rfl (by kernel_rfl) (by kernel_rfl) (by kernel_rfl) (fun _ _ _ h => h) (Or.inl ⟨by rfl, ?_⟩) hHeld ?_
  rotate_left
  · intro w hSw
    try dsimp only at hSw
    go_simp
    try with_reducible rfl
  try simp only [Act.put, List.setIfInBounds_toArray, List.set_cons_zero, List.set_cons_succ]
  refine wpAnyH_tk (i := 5) (v := ?_) rfl (by kernel_rfl) (by kernel_rfl) (by kernel_rfl) (fun _ _ _ h => h) (Or.inl ⟨by rfl, ?_⟩) hHeld ?_
  rotate_left
  · intro w hSw
    try dsimp only at hSw
    go_simp
    try with_reducible rfl
  try simp only [Act.put, List.setIfInBounds_toArray, List.set_cons_zero, List.set_cons_succ]
  refine wpAnyH_tk (i := 6) (v := ?_) rfl (by kernel_rfl) (by kernel_rfl) (by kernel_rfl) (fun _ _ _ h => h) (Or.inl ⟨by rfl, ?_⟩) hHeld ?_
  rotate_left
  · intro w hSw
    try dsimp only at hSw
    go_simp
    try with_reducible rfl
  try simp only [Act.put, List.setIfInBounds_toArray, List.set_cons_zero, List.set_cons_succ]
  refine wpAnyH_tk (i := 7) (v := ?_) rfl (by kernel_rfl) (by kernel_rfl) (by kernel_rfl) (fun _ _ _ h => h) (Or.inl ⟨by rfl, ?_⟩) hHeld ?_
  rotate_left
  · intro w hSw
    try dsimp only at hSw
    go_simp
    try with_reducible rfl
  try simp only [Act.put, List.setIfInBounds_toArray, List.set_cons_zero, List.set_cons_succ]
  refine wpAnyH_only (i := 8) rfl (by kernel_rfl) (fun K hK => ?_)
  go_simp
  refine (has24 ⟨#[120]⟩ _).mono ?_
  rintro e w5 ⟨rfl, hk5⟩
  have HK6 := hide ((unhide HK5).trans0 hk5)
  clear hk5
  go_wp2_with fail
  refine hK.out _ _ (c4_kp (unhide HC4) (unhide HK6)) (fun hHeld2 => ?_)
  clear hK K hHeld
  have hHeld := hHeld2
  clear hHeld2
  try simp only [Act.put, List.setIfInBounds_toArray, List.set_cons_zero, List.set_cons_succ]
  refine wpAnyH_tk (i := 9) (v := ?_) rfl (by kernel_rfl) (by kernel_rfl) (by kernel_rfl) (fun _ _ _ h => h) (Or.inl ⟨by rfl, ?_⟩) hHeld ?_
  rotate_left
  · intro w hSw
    try dsimp only at hSw
    go_simp
    try with_reducible rfl
  try simp only [Act.put, List.setIfInBounds_toArray, List.set_cons_zero, List.set_cons_succ]
  refine wpAnyH_tk (i := 10) (v := ?_) rfl (by kernel_rfl) (by kernel_rfl) (by kernel_rfl) (fun _ _ _ h => h) (Or.inl ⟨by rfl, ?_⟩) hHeld ?_
  rotate_left
  · intro w hSw
    try dsimp only at hSw
    go_simp
    try with_reducible rfl
  try simp only [Act.put, List.setIfInBounds_toArray, List.set_cons_zero, List.set_cons_succ]
  refine wpAnyH_tk (i := 11) (v := ?_) rfl (by kernel_rfl) (by kernel_rfl) (by kernel_rfl) (fun _ _ _ h => h) (Or.inl ⟨by rfl, ?_⟩) hHeld ?_
  rotate_left
  · intro w hSw
    try dsimp only at hSw
    go_simp
    try with_reducible rfl
  try simp only [Act.put, List.setIfInBounds_toArray, List.set_cons_zero, List.set_cons_succ]
  refine wpAnyH_tk (i := 12) (v := ?_) rfl (by kernel_rfl) (by kernel_rfl) (by kernel_rfl) (fun _ _ _ h => h) (Or.inl ⟨by rfl, ?_⟩) hHeld ?_
  rotate_left
  · intro w hSw
    try dsimp only at hSw
    go_simp
    try with_reducible rfl
  try simp only [Act.put, List.setIfInBounds_toArray, List.set_cons_zero, List.set_cons_succ]
  refine wpAnyH_tk (i := 13) (v := ?_) rfl (by kernel_rfl) (by kernel_rfl) (by kernel_rfl) (fun _ _ _ h => h) (Or.inl ⟨by rfl, ?_⟩) hHeld ?_
  rotate_left
  · intro w hSw
    try dsimp only at hSw
    go_simp
    try with_reducible rfl
  try simp only [Act.put, List.setIfInBounds_toArray, List.set_cons_zero, List.set_cons_succ]
  refine wpAnyH_tk (i := 14) (v := ?_) rfl (by kernel_rfl) (by kernel_rfl) (by kernel_rfl) (fun _ _ _ h => h) (Or.inl ⟨by rfl, ?_⟩) hHeld ?_
  rotate_left
  · intro w hSw
    try dsimp only at hSw
    go_simp
    try with_reducible rfl
  try simp only [Act.put, List.setIfInBounds_toArray, List.set_cons_zero, List.set_cons_succ]
  refine wpAnyH_tk (i := 15) (v := ?_) rfl (by kernel_rfl) (by kernel_rfl) (by kernel_rfl) (fun _ _ _ h => h) (Or.inl ⟨by rfl, ?_⟩) hHeld ?_
  rotate_left
  · intro w hSw
    try dsimp only at hSw
    go_simp
    try with_reducible rfl
  try simp only [Act.put, List.setIfInBounds_toArray, List.set_cons_zero, List.set_cons_succ]
  refine wpAnyH_tk (i := 16) (v := ?_) rfl (by kernel_rfl) (by kernel_rfl) (by kernel_rfl) (fun _ _ _ h => h) (Or.inl ⟨by rfl, ?_⟩) hHeld ?_
  rotate_left
  · intro w hSw
    try dsimp only at hSw
    go_simp
    try with_reducible rfl
  try simp only [Act.put, List.setIfInBounds_toArray, List.set_cons_zero, List.set_cons_succ]
  refine wpAnyH_tk (i := 17) (v := ?_) rfl (by kernel_rfl) (by kernel_rfl) (by kernel_rfl) (fun _ _ _ h => h) (Or.inl ⟨by rfl, ?_⟩) hHeld ?_
  rotate_left
  · intro w hSw
    try dsimp only at hSw
    go_simp
    try with_reducible rfl
  try simp only [Act.put, List.setIfInBounds_toArray, List.set_cons_zero, List.set_cons_succ]
  refine wpAnyH_tk (i := 18) (v := ?_) rfl (by kernel_rfl) (by kernel_rfl) (by kernel_rfl) (fun _ _ _ h => h) (Or.inl ⟨by rfl, ?_⟩) hHeld ?_
  rotate_left
  · intro w hSw
    try dsimp only at hSw
    go_simp
    try with_reducible rfl
  try simp only [Act.put, List.setIfInBounds_toArray, List.set_cons_zero, List.set_cons_succ]
  refine wpAnyH_tk (i := 19) (v := ?_) rfl (by kernel_rfl) (by kernel_rfl) (by kernel_rfl) (fun _ _ _ h => h) (Or.inl ⟨by rfl, ?_⟩) hHeld ?_
  rotate_left
  · intro w hSw
    try dsimp only at hSw
    go_simp
    try with_reducible rfl
  try simp only [Act.put, List.setIfInBounds_toArray, List.set_cons_zero, List.set_cons_succ]
  refine wpAnyH_tk (i := 20) (v := ?_) rfl (by kernel_rfl) (by kernel_rfl) (by kernel_rfl) (fun _ _ _ h => h) (Or.inl ⟨by rfl, ?_⟩) hHeld ?_
  rotate_left
  · intro w hSw
    try dsimp only at hSw
    go_simp
    try with_reducible rfl
  try simp only [Act.put, List.setIfInBounds_toArray, List.set_cons_zero, List.set_cons_succ]
  refine wpAnyH_tk (i := 21) (v := ?_) rfl (by kernel_rfl) (by kernel_rfl) (by kernel_rfl) (fun _ _ _ h => h) (Or.inl ⟨by rfl, ?_⟩) hHeld ?_
  rotate_left
  · intro w hSw
    try dsimp only at hSw
    go_simp
    try with_reducible rfl
  try simp only [Act.put, List.setIfInBounds_toArray, List.set_cons_zero, List.set_cons_succ]
  refine wpAnyH_tk (i := 22) (v := ?_) rfl (by kernel_rfl) (by kernel_rfl) (by kernel_rfl) (fun _ _ _ h => h) (Or.inl ⟨by rfl, ?_⟩) hHeld ?_
  rotate_left
  · intro w hSw
    try dsimp only at hSw
    go_simp
    try with_reducible rfl
  try simp only [Act.put, List.setIfInBounds_toArray, List.set_cons_zero, List.set_cons_succ]
  refine wpAnyH_tk (i := 23) (v := ?_) rfl (by kernel_rfl) (by kernel_rfl) (by kernel_rfl) (fun _ _ _ h => h) (Or.inl ⟨by rfl, ?_⟩) hHeld ?_
  rotate_left
  · intro w hSw
    try dsimp only at hSw
    go_simp
    try with_reducible rfl
  try simp only [Act.put, List.setIfInBounds_toArray, List.set_cons_zero, List.set_cons_succ]
  refine wpAnyH_tk (i := 24) (v := ?_) rfl (by kernel_rfl) (by kernel_rfl) (by kernel_rfl) (fun _ _ _ h => h) (Or.inl ⟨by rfl, ?_⟩) hHeld ?_
  rotate_left
  · intro w hSw
    try dsimp only at hSw
    go_simp
    try with_reducible rfl
  try simp only [Act.put, List.setIfInBounds_toArray, List.set_cons_zero, List.set_cons_succ]
  refine wpAnyH_tk (i := 25) (v := ?_) rfl (by kernel_rfl) (by kernel_rfl) (by kernel_rfl) (fun _ _ _ h => h) (Or.inl ⟨by rfl, ?_⟩) hHeld ?_
  rotate_left
  · intro w hSw
    try dsimp only at hSw
    go_simp
    try with_reducible rfl
  try simp only [Act.put, List.setIfInBounds_toArray, List.set_cons_zero, List.set_cons_succ]
  refine wpAnyH_tk (i := 26) (v := ?_) rfl (by kernel_rfl) (by kernel_rfl) (by kernel_rfl) (fun _ _ _ h => h) (Or.inl ⟨by rfl, ?_⟩) hHeld ?_
  rotate_left
  · intro w hSw
    try dsimp only at hSw
    go_simp
    try with_reducible rfl
  try simp only [Act.put, List.setIfInBounds_toArray, List.set_cons_zero, List.set_cons_succ]
  refine wpAnyH_only (i := 27) rfl (by kernel_rfl) (fun K hK => ?_)
  go_simp
  have HS6 := hide (serial46 (some ⟨g, o, none⟩) c _ w5 ((unhide HD4).kp0 (unhide HK6)) sd_ok sd_n)
  rw [unhide HSR] at HS6
  refine (unhide HS6).mono ?_
  rintro e w6 ⟨rfl, hk6⟩
  have HK7 := hide ((unhide HK6).trans0 hk6)
  clear hk6
  go_wp2_with fail
  refine hK.out _ _ (c4_kp (unhide HC4) (unhide HK7)) (fun hHeld2 => ?_)
  clear hK K hHeld
  have hHeld := hHeld2
  clear hHeld2
  try simp only [Act.put, List.setIfInBounds_toArray, List.set_cons_zero, List.set_cons_succ]
  refine wpAnyH_tk (i := 28) (v := ?_) rfl (by kernel_rfl) (by kernel_rfl) (by kernel_rfl) (fun _ _ _ h => h) (Or.inl ⟨by rfl, ?_⟩) hHeld ?_
  rotate_left
  · intro w hSw
    try dsimp only at hSw
    go_simp
    try with_reducible rfl
  try simp only [Act.put, List.setIfInBounds_toArray, List.set_cons_zero, List.set_cons_succ]
  refine wpAnyH_tk (i := 29) (v := ?_) rfl (by kernel_rfl) (by kernel_rfl) (by kernel_rfl) (fun _ _ _ h => h) (Or.inl ⟨by rfl, ?_⟩) hHeld ?_
  rotate_left
  · intro w hSw
    try dsimp only at hSw
    go_simp
    try with_reducible rfl
  try simp only [Act.put, List.setIfInBounds_toArray, List.set_cons_zero]
  refine wpAnyH_done (by kernel_rfl) ?_ _
  go_wp2_with fail
  go_ret
  exact ⟨rfl, (unhide HK4).trans0 (unhide HK7)⟩
end Go.Proofs.Ytliopckocegknac

/- The document's Replay of acts, by its contract. -/
namespace Go.Proofs.Ytliopckocegknac
open Go.RowKit
set_option maxRecDepth 20000
attribute [local go_sem ↓] Go.wp_at_zero Go.wp_at_succ

theorem wload_r {w : World} {p : Nat} {v : Nat → Ver} (h : w.heap[p]? = some (.cells (wagg v) 72 (0, 0))) : (loadVar 72 ⟨p, 0, none⟩).run Try.prog w = .ok (.agg (wagg v)) w :=
  run_loadVar_row w p 72 72 (wagg v) (0, 0) _ h Try.underlying72 rfl Try.size72
theorem wl_no {v : Nat → Ver} {j : Nat} {t : Int} {k : Nat} (h : ¬ ((j : Int) ≤ (k : Int) ∧ (k : Int) ≤ t ∧ (v k).t = true)) : wl v j t (k + 1) = wl v j t k := by
  simp only [wl]
  rw [if_neg h]
theorem wl_yes {v : Nat → Ver} {j : Nat} {t : Int} {k : Nat} (h1 : (j : Int) ≤ (k : Int)) (h2 : (k : Int) ≤ t) (h3 : (v k).t = true) : wl v j t (k + 1) = wl v j t k ++ [⟨(k : Int), true, (v k).s⟩] := by
  simp only [wl]
  rw [if_pos ⟨h1, h2, h3⟩, h3]
set_option maxHeartbeats 4000000 in
theorem rreplay (v : Nat → Ver) (a : Option Addr) (c : Nat) (l : List Ac) (w : World) (h : ActsIn w a l) (hok : ActsOk l) :
    Calls Try.prog 97 #[.agg (wagg v), .slice a l.length c] w fun e w' => RyEnd v l w e w' := by
  have hu := Try.underlying32
  have HA := hide h
  have HO := hide hok
  have hm := hok.1
  have H0 := hide (ry_start 72 v w)
  clear h hok
  go_enter Try.func97, Try.ntmps97
  go_wp2_with fail
  generalize w.heap.size + 1 = p at *
  generalize w.heap.size = q at *
  obtain ⟨n, hn⟩ : ∃ n, l.length = n := ⟨_, rfl⟩
  rw [hn]
  rw [hn] at hm
  have HN := hide hn
  clear hn
  go_loopw [6, 7, 8, 9, 10] (fun x y _ _ _ wr => ∃ (k : Nat) (ok : Bool), k ≤ n ∧ x = .bool ok ∧ y = .int .i64 k ∧ Hid (∃ vk, RyI 72 w p q vk wr ∧ rpl vk ok (l.drop k) = (rpw v l, rpo v l))) (fun _ y _ _ _ _ => n - (intOf y).toNat)
  case atStart => exact ⟨0, true, Nat.zero_le _, rfl, rfl, v, unhide H0, rfl⟩
  case round =>
    obtain ⟨k, ok, hk, rfl, rfl, HI⟩ := hrel
    obtain ⟨vk, hry, hrp⟩ := unhide HI
    have HR := hide hry
    have HP := hide hrp
    clear hry hrp HI
    by_cases hlt : k < n
    · have i1 : (k : Int) < (n : Int) := by omega
      have i0 : (0 : Int) ≤ (k : Int) := by omega
      have hln : k < l.length := by have := unhide HN; omega
      obtain ⟨b, o, rfl, hb⟩ := (unhide HA).kp0 (unhide HR).kp (by omega)
      obtain ⟨x, hx⟩ : ∃ x, l[k]? = some x := ⟨_, List.getElem?_eq_getElem hln⟩
      have HX := hide hx
      have hxl : x.l.length ≤ 1000 := (unhide HO).2 x (List.mem_of_getElem? hx)
      have hat := hb k x hx
      obtain ⟨la, lc, z5, hls⟩ := hat.ls
      have q0 := hat.c0
      have q1 := hat.c1
      have q2 : wr.cell? ⟨b, o + k * 6 + 1 + 1, none⟩ = _ := hat.c2
      have q3 : wr.cell? ⟨b, o + k * 6 + 1 + 1 + 1, none⟩ = _ := hat.c3
      have q4 : wr.cell? ⟨b, o + k * 6 + 1 + 1 + 1 + 1, none⟩ = _ := hat.c4
      have q5 : wr.cell? ⟨b, o + k * 6 + 1 + 1 + 1 + 1 + 1, none⟩ = _ := z5
      have HLS := hide hls
      clear hat hb hx hls z5
      obtain ⟨kd, key, to_, xt, xs, xl⟩ := x
      dsimp only at q0 q1 q2 q3 q4 q5 hxl HLS
      obtain ⟨ln, hlen⟩ : ∃ ln, xl.length = ln := ⟨_, rfl⟩
      rw [hlen] at q5
      have HLN := hide hlen
      clear hlen
      have hgq : ¬ wr.heap.size = q := by have := lt_of_block (unhide HR).var; omega
      have HR1 := hide ((unhide HR).kp0 ((Kp.refl [] wr).alloc (.cells #[.int .i64 kd, .int .i64 key, .int .i64 to_, .bool xt, .string xs, .slice la ln lc] 139)))
      have HL1 := hide ((unhide HLS).kp0 ((Kp.refl [] wr).alloc (.cells #[.int .i64 kd, .int .i64 key, .int .i64 to_, .bool xt, .string xs, .slice la ln lc] 139)))
      have HB1 := hide (heap_alloc_new wr (.cells #[.int .i64 kd, .int .i64 key, .int .i64 to_, .bool xt, .string xs, .slice la ln lc] 139))
      go_wp2_with fail
      generalize wr.alloc (.cells #[.int .i64 kd, .int .i64 key, .int .i64 to_, .bool xt, .string xs, .slice la ln lc] 139) = W at *
      generalize wr.heap.size = g at *
      refine (key12 key W).mono ?_
      rintro e w2 ⟨rfl, hw2⟩
      subst w2
      have b0 : W.cell? ⟨g, 0, none⟩ = some (.int .i64 kd) := cell_of_block (unhide HB1) rfl
      have b1 : W.cell? ⟨g, 1, none⟩ = some (.int .i64 key) := cell_of_block (unhide HB1) rfl
      have b2 : W.cell? ⟨g, 2, none⟩ = some (.int .i64 to_) := cell_of_block (unhide HB1) rfl
      have b3 : W.cell? ⟨g, 3, none⟩ = some (.bool xt) := cell_of_block (unhide HB1) rfl
      have b4 : W.cell? ⟨g, 4, none⟩ = some (.string xs) := cell_of_block (unhide HB1) rfl
      have b5 : W.cell? ⟨g, 5, none⟩ = some (.slice la ln lc) := cell_of_block (unhide HB1) rfl
      clear q0 q1 q2 q3 q4 q5 HR HLS HA
      by_cases hkb : keyB key = true
      · rw [hkb]
        have HNX := hide ((rpl_at (unhide HX) vk ok hkb).symm.trans (unhide HP))
        simp only [keyB, decide_eq_true_eq] at hkb
        obtain ⟨j, rfl⟩ : ∃ j : Nat, key = (j : Int) := ⟨key.toNat, by omega⟩
        have j8 : j < 8 := by omega
        have j0 : (0 : Int) ≤ (j : Int) := by omega
        have j8' : (j : Int) < 8 := by omega
        clear hkb
        obtain ⟨r0, r1, f0, f1⟩ := (unhide HR1).cells j8
        by_cases k3 : kd = 3
        · subst k3
          have HR2 := hide ((unhide HR1).set j8 xt xs)
          have ne := hgq
          have w0 : ((W.setCell ⟨q, j * 2, none⟩ (.bool xt)).setCell ⟨q, j * 2 + 1, none⟩ (.string xs)).cell? ⟨g, 0, none⟩ = some (.int .i64 3) := (((Kp.refl [q] W).setCell (.inl (by simp)) _).setCell (.inl (by simp)) _).cell (by simpa using ne) b0
          go_wp2_with fail
          go_quiet (fail)
          go_wp2_with fail
          refine ⟨⟨k + 1, ok, by omega, rfl, by go_num, _, (unhide HR2).kp0 ((Kp.refl [] _).drewN _), ?_⟩, by simp [intOf]; omega⟩
          have z := unhide HNX
          simp only [ado, aso] at z
          simpa using z
        by_cases k4 : kd = 4
        · subst k4
          have HR2 := hide ((unhide HR1).set j8 xt xs)
          have ne := hgq
          have w0 : ((W.setCell ⟨q, j * 2, none⟩ (.bool xt)).setCell ⟨q, j * 2 + 1, none⟩ (.string xs)).cell? ⟨g, 0, none⟩ = some (.int .i64 4) := (((Kp.refl [q] W).setCell (.inl (by simp)) _).setCell (.inl (by simp)) _).cell (by simpa using ne) b0
          go_wp2_with fail
          go_quiet (fail)
          go_wp2_with fail
          refine ⟨⟨k + 1, ok, by omega, rfl, by go_num, _, (unhide HR2).kp0 ((Kp.refl [] _).drewN _), ?_⟩, by simp [intOf]; omega⟩
          have z := unhide HNX
          simp only [ado, aso] at z
          simpa using z
        by_cases k2 : kd = 2
        · subst k2
          have hne := neqVal (vk j).t xt (vk j).s xs
          have hz : rpl vk (ok && decide (xt = (vk j).t ∧ xs = (vk j).s)) (l.drop (k + 1)) = (rpw v l, rpo v l) := by
            have z := unhide HNX
            simp only [ado, aso, Int.toNat_natCast] at z
            simpa using z
          have hbq : (decide (xt = (vk j).t ∧ xs = (vk j).s)) = decide ((vk j).t = xt ∧ (vk j).s = xs) := decide_eq_decide.2 ⟨fun h => ⟨h.1.symm, h.2.symm⟩, fun h => ⟨h.1.symm, h.2.symm⟩⟩
          rw [hbq] at hz
          have HZ := hide hz
          clear hz HNX hbq
          generalize hbb : decide ((vk j).t = xt ∧ (vk j).s = xs) = bb at *
          generalize (vk j).t = vt at *
          generalize (vk j).s = vs at *
          clear hbb
          cases bb with
          | true =>
            go_wp2_with fail
            go_quiet (fail)
            go_wp2_with fail
            refine ⟨⟨k + 1, ok, by omega, rfl, by go_num, _, (unhide HR1).kp0 ((Kp.refl [] W).drewN _), ?_⟩, by simp [intOf]; omega⟩
            have z := unhide HZ
            simpa using z
          | false =>
            go_wp2_with fail
            go_quiet (fail)
            go_wp2_with fail
            refine ⟨⟨k + 1, false, by omega, rfl, by go_num, _, (unhide HR1).kp0 ((Kp.refl [] W).drewN _), ?_⟩, by simp [intOf]; omega⟩
            have z := unhide HZ
            simpa using z
        by_cases k5 : kd = 5
        · subst k5
          have hz : rpl vk (ok && decide (xl = wl vk j to_ 8)) (l.drop (k + 1)) = (rpw v l, rpo v l) := by
            have z := unhide HNX
            simp only [ado, aso] at z
            simpa using z
          have HZ := hide hz
          clear hz HNX r0 r1 f0 f1
          go_wp2_with fail
          go_quiet (fail)
          go_wp2_with fail
          generalize hW2 : W.drewN _ = W2
          have hk2 : Kp [] W W2 := by rw [← hW2]; exact (Kp.refl [] W).drewN _
          have HR2 := hide ((unhide HR1).kp0 hk2)
          have HL2 := hide ((unhide HL1).kp0 hk2)
          have HB2 := hide (And.intro (hk2.cell (by simp) b1) (And.intro (hk2.cell (by simp) b2) (hk2.cell (by simp) b5)))
          clear hW2 hk2 HR1 HL1 HB1 b0 b1 b2 b3 b4 b5
          go_loopw [9, 10] (fun x y wr => ∃ (i : Nat) (a3 : Option Addr) (c3 n3 : Nat), i ≤ 8 ∧ x = .slice a3 n3 c3 ∧ y = .int .i64 i ∧ Hid (n3 = (wl vk j to_ i).length) ∧ Hid (Zoo W2 wr [KwT 79 3 a3 n3 c3 (vcells (wl vk j to_ i))])) (fun _ y _ => 8 - (intOf y).toNat)
          case atStart => exact ⟨0, none, 0, 0, Nat.zero_le _, rfl, rfl, rfl, kw_nil 79 3 (zoo_nil (Kp.refl [] W2))⟩
          case round =>
            obtain ⟨i, a3, c3, n3, hi8, rfl, rfl, HN3, HZ3⟩ := hrel
            have b1 := (unhide HZ3).kp.cell (by simp) (unhide HB2).1
            have b2 := (unhide HZ3).kp.cell (by simp) (unhide HB2).2.1
            have b5 := (unhide HZ3).kp.cell (by simp) (unhide HB2).2.2
            by_cases hlt8 : i < 8
            · have t1 : (i : Int) < 8 := by omega
              have t0 : (0 : Int) ≤ (i : Int) := by omega
              have hn8 : n3 ≤ 8 := by have := unhide HN3; have := wl_len vk j to_ i; omega
              have hBw := Zoo.base (unhide HZ3)
              obtain ⟨c0, c1, -, -⟩ := ((unhide HR2).kp0 (unhide HZ3).kp).cells hlt8
              by_cases h1 : (j : Int) ≤ (i : Int)
              · by_cases h2 : (i : Int) ≤ to_
                · cases hvt : (vk i).t with
                  | true =>
                    have HW1 := hide (wl_yes h1 h2 hvt)
                    rw [hvt] at c0
                    clear hvt
                    generalize hvs : (vk i).s = sv at *
                    clear hvs
                    have HZA := hide ((unhide HZ3).box #[.int .i64 i, .bool true, .string sv] 79)
                    have HBX := hide (Zoo.var (unhide HZA))
                    go_wp2_with (at_builtin; refine wpList_krow (by rfl) (.tmp 74) (.tmp 80) 32 (by rfl) hu Try.info79 rfl (by omega) (kw_row (l1 := [BoxT wr.heap.size #[.int .i64 i, .bool true, .string sv] 79]) (unhide HZA)) (by simp; omega) (.slice (some ⟨wr.heap.size, 0, none⟩) 1 1) [.int .i64 i, .bool true, .string sv] 1 (by rfl) (by rfl) (src_built hu (unhide HBX) rfl (by simp [Value.oneCell'])) (by omega) (n3 + 1) rfl ?_; intro a2 cap2 w3 g1 g2 g3)
                    have HZ4 := hide (Zoo.tail (kw_app (l1 := [BoxT wr.heap.size #[.int .i64 i, .bool true, .string sv] 79]) (unhide HZA) (unhide g1) (unhide g2) (unhide g3)))
                    exact ⟨⟨i + 1, a2, cap2, n3 + 1, by omega, rfl, by go_num, by rw [unhide HW1, List.length_append, unhide HN3]; rfl, by rw [unhide HW1, vcells_append]; exact unhide HZ4⟩, by simp [intOf]; omega⟩
                  | false =>
                    have HNO := hide (show ¬ ((j : Int) ≤ (i : Int) ∧ (i : Int) ≤ to_ ∧ (vk i).t = true) by rw [hvt]; simp)
                    rw [hvt] at c0
                    clear hvt
                    go_wp2_with fail
                    exact ⟨⟨i + 1, a3, c3, n3, by omega, rfl, by go_num, by rw [wl_no (unhide HNO)]; exact unhide HN3, by rw [wl_no (unhide HNO)]; exact unhide HZ3⟩, by simp [intOf]; omega⟩
                · have HNO := hide (show ¬ ((j : Int) ≤ (i : Int) ∧ (i : Int) ≤ to_ ∧ (vk i).t = true) from fun q => h2 q.2.1)
                  go_wp2_with fail
                  exact ⟨⟨i + 1, a3, c3, n3, by omega, rfl, by go_num, by rw [wl_no (unhide HNO)]; exact unhide HN3, by rw [wl_no (unhide HNO)]; exact unhide HZ3⟩, by simp [intOf]; omega⟩
              · have HNO := hide (show ¬ ((j : Int) ≤ (i : Int) ∧ (i : Int) ≤ to_ ∧ (vk i).t = true) from fun q => h1 q.1)
                go_wp2_with fail
                exact ⟨⟨i + 1, a3, c3, n3, by omega, rfl, by go_num, by rw [wl_no (unhide HNO)]; exact unhide HN3, by rw [wl_no (unhide HNO)]; exact unhide HZ3⟩, by simp [intOf]; omega⟩
            · have t1 : ¬ (i : Int) < 8 := by omega
              have e8 : i = 8 := by omega
              cases ok with
              | false =>
                go_wp2_with fail
                refine ⟨⟨k + 1, false, by omega, rfl, by go_num, _, (unhide HR2).kp0 (unhide HZ3).kp, ?_⟩, by simp [intOf]; omega⟩
                have z := unhide HZ
                simpa using z
              | true =>
                have HSP := hide (samep14 (vs := wl vk j to_ i) (us := xl) a3 la c3 lc wr (slo_krow (kw_row (l1 := []) (unhide HZ3))) ((unhide HL2).kp0 (unhide HZ3).kp) (by have := wl_len vk j to_ i; omega))
                rw [← unhide HN3, unhide HLN] at HSP
                go_wp2_with fail
                refine (unhide HSP).mono ?_
                rintro e w4 ⟨bb, rfl, hbb, m4, hw4⟩
                subst w4
                have HBB := hide hbb
                clear hbb HSP
                go_wp2_with fail
                refine ⟨⟨k + 1, bb, by omega, rfl, by go_num, _, (unhide HR2).kp0 ((unhide HZ3).kp.drewN m4), ?_⟩, by simp [intOf]; omega⟩
                have z := unhide HZ
                have e : decide (xl = wl vk j to_ 8) = bb := by
                  have hb9 := unhide HBB
                  rw [e8] at hb9
                  cases hb : bb with
                  | true => exact decide_eq_true (hb9.1 hb).symm
                  | false => exact decide_eq_false (fun q => by have := hb9.2 q.symm; rw [hb] at this; cases this)
                rw [e] at z
                simpa using z
        · have e2 : (kd == 2) = false := by simpa using k2
          have e3 : (kd == 3) = false := by simpa using k3
          have e4 : (kd == 4) = false := by simpa using k4
          have e5 : (kd == 5) = false := by simpa using k5
          go_wp2_with fail
          go_quiet (fail)
          go_wp2_with fail
          refine ⟨⟨k + 1, ok, by omega, rfl, by go_num, _, (unhide HR1).kp0 ((Kp.refl [] W).drewN _), ?_⟩, by simp [intOf]; omega⟩
          have z := unhide HNX
          simp only [ado, aso] at z
          simpa [k2, k3, k4, k5] using z
      · have hkf : keyB key = false := by simpa using hkb
        rw [hkf]
        have HNX := hide ((rpl_bad (unhide HX) vk ok hkb).symm.trans (unhide HP))
        clear hkb hkf
        go_wp2_with (first | (refine wpList_load_row rfl 72 _ rfl q rfl 72 _ (0, 0) _ (unhide HR1).var Try.underlying72 rfl Try.size72 ?_) | (refine wpList_store_row rfl 72 _ _ rfl p (wagg vk) rfl rfl 72 _ (unhide HR1).res Try.size72 rfl (wagg_one _) ?_))
        obtain ⟨z1, z2⟩ := (unhide HR1).fin
        have hld := wload_r z1
        refine bodyPost_ret (v := .tuple #[.agg (wagg vk), .bool false]) (by rw [results_cell_tmp Try.results97]; simp [asAddr, Result.andThen, hld]) rfl ?_
        have z := unhide HNX
        simp only [Prod.mk.injEq] at z
        exact ⟨by rw [← z.1, ← z.2], z2⟩
    · have i1 : ¬ (k : Int) < (n : Int) := by omega
      go_wp2_with (first | (refine wpList_load_row rfl 72 _ rfl q rfl 72 _ (0, 0) _ (unhide HR).var Try.underlying72 rfl Try.size72 ?_) | (refine wpList_store_row rfl 72 _ _ rfl p (wagg vk) rfl rfl 72 _ (unhide HR).res Try.size72 rfl (wagg_one _) ?_))
      obtain ⟨z1, z2⟩ := (unhide HR).fin
      have hld := wload_r z1
      refine bodyPost_ret (v := .tuple #[.agg (wagg vk), .bool ok]) (by rw [results_cell_tmp Try.results97]; simp [asAddr, Result.andThen, hld]) rfl ?_
      have z := unhide HP
      rw [List.drop_eq_nil_of_le (by have := unhide HN; omega)] at z
      simp only [rpl, Prod.mk.injEq] at z
      exact ⟨by rw [← z.1, ← z.2], z2⟩
end Go.Proofs.Ytliopckocegknac
