/- Hk, Hn, H4, Hbg, Hg, H5, H6, H7, OpenV, OpenP, OpenS, V4, Q10: bound together for a claim. -/
import Derived.Test.YtehhpmfeaeabgacM6
import Derived.ProofKit
import Derived.Deep.Slices
import Derived.Deep.Strs
import Derived.Deep.MidRow
import Derived.Deep.AppendLies
import Derived.ChangeKeysEq
/- A hall's Do: the kinds by themselves. -/
namespace Go.Proofs.Ytehhpmfeaeabgac
open Go.RowKit
set_option maxRecDepth 20000
attribute [local go_sem ↓] Go.wp_at_zero Go.wp_at_succ

section
variable {w0 w : World} {hb vb tb gb : Nat} {h : HSt} {st : Nat → Sd} {r : List Thing}
set_option maxHeartbeats 1000000 in
theorem do_kind (x : HStep) (hs : Sts st h.seat) (hz : Hall w0 w hb vb tb gb h st r) (hx : x.d < 1 ∨ 10 < x.d) :
    Calls Try.prog 15 #[.pointer (some ⟨hb, 0, none⟩), .agg #[.int .i64 x.d, .int .i64 x.s, .int .i64 x.md, .int .i64 x.at_, .int .i64 x.key, .int .i64 x.to_, .int .i64 x.keep, .string x.b]] w fun e w' => GoEnd w0 hb vb gb r (hdo h x) (hev h x) e w' := by
  have heq := (HKind.kind (h := h) (x := x) hx).eq
  rw [heq.1, heq.2]
  clear heq
  have HS := hide hs
  have HX := hide (hz.two (xcs x) 37 #[.int .i64 3, .int .i64 0, .bool false, .string ⟨#[]⟩, .slice none 0 0] 34)
  clear hz hs
  obtain ⟨xd, xs, xm, xa, xk, xt, xp, xb⟩ := x
  dsimp only [xcs] at *
  have k1 : (xd == 1) = false := beq_eq_false_iff_ne.2 (by omega)
  have k2 : (xd == 2) = false := beq_eq_false_iff_ne.2 (by omega)
  have k3 : (xd == 3) = false := beq_eq_false_iff_ne.2 (by omega)
  have k4 : (xd == 4) = false := beq_eq_false_iff_ne.2 (by omega)
  have k5 : (xd == 5) = false := beq_eq_false_iff_ne.2 (by omega)
  have k6 : (xd == 6) = false := beq_eq_false_iff_ne.2 (by omega)
  have k7 : (xd == 7) = false := beq_eq_false_iff_ne.2 (by omega)
  have k8 : (xd == 8) = false := beq_eq_false_iff_ne.2 (by omega)
  have k9 : (xd == 9) = false := beq_eq_false_iff_ne.2 (by omega)
  have k10 : (xd == 10) = false := beq_eq_false_iff_ne.2 (by omega)
  go_enter Try.func15, Try.ntmps15
  go_wp2_with fail
  refine bodyPost_ret (v := .agg #[.int .i64 3, .int .i64 0, .bool false, .string ⟨#[]⟩, .slice none 0 0]) (by simp [results, Try.results15, go_sem]) rfl ?_
  exact ⟨tb, st, none, 0, rfl, unhide HS, (unhide HX).tail.tail.ps⟩
set_option maxHeartbeats 1000000 in
theorem do_crash (x : HStep) (hs : Sts st h.seat) (hz : Hall w0 w hb vb tb gb h st r) (hx : x.d = 9) :
    Calls Try.prog 15 #[.pointer (some ⟨hb, 0, none⟩), .agg #[.int .i64 x.d, .int .i64 x.s, .int .i64 x.md, .int .i64 x.at_, .int .i64 x.key, .int .i64 x.to_, .int .i64 x.keep, .string x.b]] w fun e w' => GoEnd w0 hb vb gb r (hdo h x) (hev h x) e w' := by
  have heq := (HKind.crash (h := h) (x := x) hx).eq
  rw [heq.1, heq.2]
  clear heq
  have HS := hide hs
  have HX := hide (hz.two (xcs x) 37 #[.int .i64 0, .int .i64 0, .bool false, .string ⟨#[]⟩, .slice none 0 0] 34)
  have c0 := hz.c0
  have hl := hz.lt
  clear hz hs
  obtain ⟨xd, xs, xm, xa, xk, xt, xp, xb⟩ := x
  dsimp only [xcs] at *
  subst hx
  go_enter Try.func15, Try.ntmps15
  go_wp2_with fail
  generalize (w.alloc (.cells #[.int .i64 9, .int .i64 xs, .int .i64 xm, .int .i64 xa, .int .i64 xk, .int .i64 xt, .int .i64 xp, .string xb] 37)).alloc (.cells #[.int .i64 0, .int .i64 0, .bool false, .string ⟨#[]⟩, .slice none 0 0] 34) = W at HX ⊢
  generalize w.heap.size = q at HX ⊢
  generalize q + 1 = p at HX ⊢
  refine (h_crash (unhide HX)).mono ?_
  rintro e w1 ⟨rfl, tb', H1⟩
  clear HX
  go_wp2_with fail
  refine (h_leaveAll (unhide H1)).mono ?_
  rintro e w2 ⟨rfl, HY⟩
  clear H1
  obtain ⟨e0, e1, e2, e3, e4, g0, g1, g2, g3, g4⟩ := evF ((unhide HY).var (List.Mem.head _))
  go_wp2_with fail
  refine bodyPost_ret (v := .agg #[.int .i64 0, .int .i64 0, .bool false, .string ⟨#[]⟩, .slice none 0 0]) (by simp [results, Try.results15, go_sem, e0, e1, e2, e3, e4]) rfl ?_
  exact ⟨tb', _, none, 0, rfl, fun _ => rfl, ((unhide HY).fin _ _ _ _ _).ps.as rfl rfl rfl⟩
set_option maxHeartbeats 1000000 in
theorem do_begin (x : HStep) (hs : Sts st h.seat) (hz : Hall w0 w hb vb tb gb h st r) (hx : x.d = 1) :
    Calls Try.prog 15 #[.pointer (some ⟨hb, 0, none⟩), .agg #[.int .i64 x.d, .int .i64 x.s, .int .i64 x.md, .int .i64 x.at_, .int .i64 x.key, .int .i64 x.to_, .int .i64 x.keep, .string x.b]] w fun e w' => GoEnd w0 hb vb gb r (hdo h x) (hev h x) e w' := by
  have HS := hide hs
  have HX := hide (hz.two (xcs x) 37 #[.int .i64 0, .int .i64 0, .bool false, .string ⟨#[]⟩, .slice none 0 0] 34)
  clear hz hs
  have HB := hide (fun W (hz : Hall w0 W hb vb tb gb h st (BoxT (w.heap.size + 1) #[.int .i64 0, .int .i64 0, .bool false, .string ⟨#[]⟩, .slice none 0 0] 34 :: BoxT w.heap.size (xcs x) 37 :: r)) => h_begin x hx (unhide HS) hz)
  generalize hdo h x = h' at *
  generalize hev h x = v at *
  obtain ⟨xd, xs, xm, xa, xk, xt, xp, xb⟩ := x
  dsimp only [xcs] at *
  subst hx
  go_enter Try.func15, Try.ntmps15
  go_wp2_with fail
  have HB2 := hide (unhide HB _ (unhide HX))
  clear HB
  generalize (w.alloc (.cells #[.int .i64 1, .int .i64 xs, .int .i64 xm, .int .i64 xa, .int .i64 xk, .int .i64 xt, .int .i64 xp, .string xb] 37)).alloc (.cells #[.int .i64 0, .int .i64 0, .bool false, .string ⟨#[]⟩, .slice none 0 0] 34) = W at HX HB2 ⊢
  generalize w.heap.size = q at HX HB2 ⊢
  generalize q + 1 = p at HX HB2 ⊢
  refine (unhide HB2).mono ?_
  rintro e w1 ⟨st', rfl, hv, hs', HY⟩
  have HS' := hide hs'
  have HV := hide hv
  clear HX HB2 hs' hv
  obtain ⟨e0, e1, e2, e3, e4, g0, g1, g2, g3, g4⟩ := evF ((unhide HY).var (List.Mem.head _))
  go_wp2_with fail
  refine bodyPost_ret (v := .agg #[.int .i64 v.c, .int .i64 0, .bool false, .string ⟨#[]⟩, .slice none 0 0]) (by simp [results, Try.results15, go_sem, e0, e1, e2, e3, e4]) rfl ?_
  rw [unhide HV]
  exact ⟨tb, st', none, 0, rfl, unhide HS', ((unhide HY).fin _ _ _ _ _).ps⟩
set_option maxHeartbeats 1000000 in
theorem do_on2 (x : HStep) (hz : Hall w0 w hb vb tb gb h st r) (hx : x.d = 2) (hc : ∀ {w : World} {r : List Thing}, Hall w0 w hb vb tb gb h st r → Calls Try.prog 46 #[.pointer (some ⟨hb, 0, none⟩), .agg #[.int .i64 x.d, .int .i64 x.s, .int .i64 x.md, .int .i64 x.at_, .int .i64 x.key, .int .i64 x.to_, .int .i64 x.keep, .string x.b]] w fun e w' => GoEnd w0 hb vb gb r (hdo h x) (hev h x) e w') :
    Calls Try.prog 15 #[.pointer (some ⟨hb, 0, none⟩), .agg #[.int .i64 x.d, .int .i64 x.s, .int .i64 x.md, .int .i64 x.at_, .int .i64 x.key, .int .i64 x.to_, .int .i64 x.keep, .string x.b]] w fun e w' => GoEnd w0 hb vb gb r (hdo h x) (hev h x) e w' := by
  have HX := hide (hz.two (xcs x) 37 #[.int .i64 0, .int .i64 0, .bool false, .string ⟨#[]⟩, .slice none 0 0] 34)
  clear hz
  have HB := hide (hc (unhide HX))
  clear hc
  generalize hdo h x = h' at *
  generalize hev h x = v at *
  obtain ⟨xd, xs, xm, xa, xk, xt, xp, xb⟩ := x
  dsimp only [xcs] at *
  subst hx
  go_enter Try.func15, Try.ntmps15
  go_wp2_with fail
  generalize (w.alloc (.cells #[.int .i64 2, .int .i64 xs, .int .i64 xm, .int .i64 xa, .int .i64 xk, .int .i64 xt, .int .i64 xp, .string xb] 37)).alloc (.cells #[.int .i64 0, .int .i64 0, .bool false, .string ⟨#[]⟩, .slice none 0 0] 34) = W at HX HB ⊢
  generalize w.heap.size = q at HX HB ⊢
  generalize q + 1 = p at HX HB ⊢
  refine (unhide HB).mono ?_
  rintro e w1 ⟨tb', st', a, cap, rfl, hs', HY0⟩
  have HY := hide ((unhide HY0).perm (List.perm_middle (l₁ := [_, _])).symm)
  have HS' := hide hs'
  clear HX HB hs' HY0
  obtain ⟨e0, e1, e2, e3, e4, g0, g1, g2, g3, g4⟩ := evF ((unhide HY).var (List.Mem.head _))
  go_wp2_with fail
  refine bodyPost_ret (v := .agg #[.int .i64 v.c, .int .i64 v.n, .bool v.t, .string v.s, .slice a v.l.length cap]) (by simp [results, Try.results15, go_sem, e0, e1, e2, e3, e4]) rfl ?_
  exact ⟨tb', st', a, cap, rfl, unhide HS', (unhide HY).fin _ _ _ _ _⟩
set_option maxHeartbeats 1000000 in
theorem do_on3 (x : HStep) (hz : Hall w0 w hb vb tb gb h st r) (hx : x.d = 3) (hc : ∀ {w : World} {r : List Thing}, Hall w0 w hb vb tb gb h st r → Calls Try.prog 46 #[.pointer (some ⟨hb, 0, none⟩), .agg #[.int .i64 x.d, .int .i64 x.s, .int .i64 x.md, .int .i64 x.at_, .int .i64 x.key, .int .i64 x.to_, .int .i64 x.keep, .string x.b]] w fun e w' => GoEnd w0 hb vb gb r (hdo h x) (hev h x) e w') :
    Calls Try.prog 15 #[.pointer (some ⟨hb, 0, none⟩), .agg #[.int .i64 x.d, .int .i64 x.s, .int .i64 x.md, .int .i64 x.at_, .int .i64 x.key, .int .i64 x.to_, .int .i64 x.keep, .string x.b]] w fun e w' => GoEnd w0 hb vb gb r (hdo h x) (hev h x) e w' := by
  have HX := hide (hz.two (xcs x) 37 #[.int .i64 0, .int .i64 0, .bool false, .string ⟨#[]⟩, .slice none 0 0] 34)
  clear hz
  have HB := hide (hc (unhide HX))
  clear hc
  generalize hdo h x = h' at *
  generalize hev h x = v at *
  obtain ⟨xd, xs, xm, xa, xk, xt, xp, xb⟩ := x
  dsimp only [xcs] at *
  subst hx
  go_enter Try.func15, Try.ntmps15
  go_wp2_with fail
  generalize (w.alloc (.cells #[.int .i64 3, .int .i64 xs, .int .i64 xm, .int .i64 xa, .int .i64 xk, .int .i64 xt, .int .i64 xp, .string xb] 37)).alloc (.cells #[.int .i64 0, .int .i64 0, .bool false, .string ⟨#[]⟩, .slice none 0 0] 34) = W at HX HB ⊢
  generalize w.heap.size = q at HX HB ⊢
  generalize q + 1 = p at HX HB ⊢
  refine (unhide HB).mono ?_
  rintro e w1 ⟨tb', st', a, cap, rfl, hs', HY0⟩
  have HY := hide ((unhide HY0).perm (List.perm_middle (l₁ := [_, _])).symm)
  have HS' := hide hs'
  clear HX HB hs' HY0
  obtain ⟨e0, e1, e2, e3, e4, g0, g1, g2, g3, g4⟩ := evF ((unhide HY).var (List.Mem.head _))
  go_wp2_with fail
  refine bodyPost_ret (v := .agg #[.int .i64 v.c, .int .i64 v.n, .bool v.t, .string v.s, .slice a v.l.length cap]) (by simp [results, Try.results15, go_sem, e0, e1, e2, e3, e4]) rfl ?_
  exact ⟨tb', st', a, cap, rfl, unhide HS', (unhide HY).fin _ _ _ _ _⟩
set_option maxHeartbeats 1000000 in
theorem do_on4 (x : HStep) (hz : Hall w0 w hb vb tb gb h st r) (hx : x.d = 4) (hc : ∀ {w : World} {r : List Thing}, Hall w0 w hb vb tb gb h st r → Calls Try.prog 46 #[.pointer (some ⟨hb, 0, none⟩), .agg #[.int .i64 x.d, .int .i64 x.s, .int .i64 x.md, .int .i64 x.at_, .int .i64 x.key, .int .i64 x.to_, .int .i64 x.keep, .string x.b]] w fun e w' => GoEnd w0 hb vb gb r (hdo h x) (hev h x) e w') :
    Calls Try.prog 15 #[.pointer (some ⟨hb, 0, none⟩), .agg #[.int .i64 x.d, .int .i64 x.s, .int .i64 x.md, .int .i64 x.at_, .int .i64 x.key, .int .i64 x.to_, .int .i64 x.keep, .string x.b]] w fun e w' => GoEnd w0 hb vb gb r (hdo h x) (hev h x) e w' := by
  have HX := hide (hz.two (xcs x) 37 #[.int .i64 0, .int .i64 0, .bool false, .string ⟨#[]⟩, .slice none 0 0] 34)
  clear hz
  have HB := hide (hc (unhide HX))
  clear hc
  generalize hdo h x = h' at *
  generalize hev h x = v at *
  obtain ⟨xd, xs, xm, xa, xk, xt, xp, xb⟩ := x
  dsimp only [xcs] at *
  subst hx
  go_enter Try.func15, Try.ntmps15
  go_wp2_with fail
  generalize (w.alloc (.cells #[.int .i64 4, .int .i64 xs, .int .i64 xm, .int .i64 xa, .int .i64 xk, .int .i64 xt, .int .i64 xp, .string xb] 37)).alloc (.cells #[.int .i64 0, .int .i64 0, .bool false, .string ⟨#[]⟩, .slice none 0 0] 34) = W at HX HB ⊢
  generalize w.heap.size = q at HX HB ⊢
  generalize q + 1 = p at HX HB ⊢
  refine (unhide HB).mono ?_
  rintro e w1 ⟨tb', st', a, cap, rfl, hs', HY0⟩
  have HY := hide ((unhide HY0).perm (List.perm_middle (l₁ := [_, _])).symm)
  have HS' := hide hs'
  clear HX HB hs' HY0
  obtain ⟨e0, e1, e2, e3, e4, g0, g1, g2, g3, g4⟩ := evF ((unhide HY).var (List.Mem.head _))
  go_wp2_with fail
  refine bodyPost_ret (v := .agg #[.int .i64 v.c, .int .i64 v.n, .bool v.t, .string v.s, .slice a v.l.length cap]) (by simp [results, Try.results15, go_sem, e0, e1, e2, e3, e4]) rfl ?_
  exact ⟨tb', st', a, cap, rfl, unhide HS', (unhide HY).fin _ _ _ _ _⟩
set_option maxHeartbeats 1000000 in
theorem do_on5 (x : HStep) (hz : Hall w0 w hb vb tb gb h st r) (hx : x.d = 5) (hc : ∀ {w : World} {r : List Thing}, Hall w0 w hb vb tb gb h st r → Calls Try.prog 46 #[.pointer (some ⟨hb, 0, none⟩), .agg #[.int .i64 x.d, .int .i64 x.s, .int .i64 x.md, .int .i64 x.at_, .int .i64 x.key, .int .i64 x.to_, .int .i64 x.keep, .string x.b]] w fun e w' => GoEnd w0 hb vb gb r (hdo h x) (hev h x) e w') :
    Calls Try.prog 15 #[.pointer (some ⟨hb, 0, none⟩), .agg #[.int .i64 x.d, .int .i64 x.s, .int .i64 x.md, .int .i64 x.at_, .int .i64 x.key, .int .i64 x.to_, .int .i64 x.keep, .string x.b]] w fun e w' => GoEnd w0 hb vb gb r (hdo h x) (hev h x) e w' := by
  have HX := hide (hz.two (xcs x) 37 #[.int .i64 0, .int .i64 0, .bool false, .string ⟨#[]⟩, .slice none 0 0] 34)
  clear hz
  have HB := hide (hc (unhide HX))
  clear hc
  generalize hdo h x = h' at *
  generalize hev h x = v at *
  obtain ⟨xd, xs, xm, xa, xk, xt, xp, xb⟩ := x
  dsimp only [xcs] at *
  subst hx
  go_enter Try.func15, Try.ntmps15
  go_wp2_with fail
  generalize (w.alloc (.cells #[.int .i64 5, .int .i64 xs, .int .i64 xm, .int .i64 xa, .int .i64 xk, .int .i64 xt, .int .i64 xp, .string xb] 37)).alloc (.cells #[.int .i64 0, .int .i64 0, .bool false, .string ⟨#[]⟩, .slice none 0 0] 34) = W at HX HB ⊢
  generalize w.heap.size = q at HX HB ⊢
  generalize q + 1 = p at HX HB ⊢
  refine (unhide HB).mono ?_
  rintro e w1 ⟨tb', st', a, cap, rfl, hs', HY0⟩
  have HY := hide ((unhide HY0).perm (List.perm_middle (l₁ := [_, _])).symm)
  have HS' := hide hs'
  clear HX HB hs' HY0
  obtain ⟨e0, e1, e2, e3, e4, g0, g1, g2, g3, g4⟩ := evF ((unhide HY).var (List.Mem.head _))
  go_wp2_with fail
  refine bodyPost_ret (v := .agg #[.int .i64 v.c, .int .i64 v.n, .bool v.t, .string v.s, .slice a v.l.length cap]) (by simp [results, Try.results15, go_sem, e0, e1, e2, e3, e4]) rfl ?_
  exact ⟨tb', st', a, cap, rfl, unhide HS', (unhide HY).fin _ _ _ _ _⟩
set_option maxHeartbeats 1000000 in
theorem do_end6 (x : HStep) (hz : Hall w0 w hb vb tb gb h st r) (hx : x.d = 6) (hc : ∀ {w : World} {r : List Thing}, Hall w0 w hb vb tb gb h st r → Calls Try.prog 47 #[.pointer (some ⟨hb, 0, none⟩), .agg #[.int .i64 x.d, .int .i64 x.s, .int .i64 x.md, .int .i64 x.at_, .int .i64 x.key, .int .i64 x.to_, .int .i64 x.keep, .string x.b]] w fun e w' => GoEnd w0 hb vb gb r (hdo h x) (hev h x) e w') :
    Calls Try.prog 15 #[.pointer (some ⟨hb, 0, none⟩), .agg #[.int .i64 x.d, .int .i64 x.s, .int .i64 x.md, .int .i64 x.at_, .int .i64 x.key, .int .i64 x.to_, .int .i64 x.keep, .string x.b]] w fun e w' => GoEnd w0 hb vb gb r (hdo h x) (hev h x) e w' := by
  have HX := hide (hz.two (xcs x) 37 #[.int .i64 0, .int .i64 0, .bool false, .string ⟨#[]⟩, .slice none 0 0] 34)
  clear hz
  have HB := hide (hc (unhide HX))
  clear hc
  generalize hdo h x = h' at *
  generalize hev h x = v at *
  obtain ⟨xd, xs, xm, xa, xk, xt, xp, xb⟩ := x
  dsimp only [xcs] at *
  subst hx
  go_enter Try.func15, Try.ntmps15
  go_wp2_with fail
  generalize (w.alloc (.cells #[.int .i64 6, .int .i64 xs, .int .i64 xm, .int .i64 xa, .int .i64 xk, .int .i64 xt, .int .i64 xp, .string xb] 37)).alloc (.cells #[.int .i64 0, .int .i64 0, .bool false, .string ⟨#[]⟩, .slice none 0 0] 34) = W at HX HB ⊢
  generalize w.heap.size = q at HX HB ⊢
  generalize q + 1 = p at HX HB ⊢
  refine (unhide HB).mono ?_
  rintro e w1 ⟨tb', st', a, cap, rfl, hs', HY0⟩
  have HY := hide ((unhide HY0).perm (List.perm_middle (l₁ := [_, _])).symm)
  have HS' := hide hs'
  clear HX HB hs' HY0
  obtain ⟨e0, e1, e2, e3, e4, g0, g1, g2, g3, g4⟩ := evF ((unhide HY).var (List.Mem.head _))
  go_wp2_with fail
  refine bodyPost_ret (v := .agg #[.int .i64 v.c, .int .i64 v.n, .bool v.t, .string v.s, .slice a v.l.length cap]) (by simp [results, Try.results15, go_sem, e0, e1, e2, e3, e4]) rfl ?_
  exact ⟨tb', st', a, cap, rfl, unhide HS', (unhide HY).fin _ _ _ _ _⟩
set_option maxHeartbeats 1000000 in
theorem do_end7 (x : HStep) (hz : Hall w0 w hb vb tb gb h st r) (hx : x.d = 7) (hc : ∀ {w : World} {r : List Thing}, Hall w0 w hb vb tb gb h st r → Calls Try.prog 47 #[.pointer (some ⟨hb, 0, none⟩), .agg #[.int .i64 x.d, .int .i64 x.s, .int .i64 x.md, .int .i64 x.at_, .int .i64 x.key, .int .i64 x.to_, .int .i64 x.keep, .string x.b]] w fun e w' => GoEnd w0 hb vb gb r (hdo h x) (hev h x) e w') :
    Calls Try.prog 15 #[.pointer (some ⟨hb, 0, none⟩), .agg #[.int .i64 x.d, .int .i64 x.s, .int .i64 x.md, .int .i64 x.at_, .int .i64 x.key, .int .i64 x.to_, .int .i64 x.keep, .string x.b]] w fun e w' => GoEnd w0 hb vb gb r (hdo h x) (hev h x) e w' := by
  have HX := hide (hz.two (xcs x) 37 #[.int .i64 0, .int .i64 0, .bool false, .string ⟨#[]⟩, .slice none 0 0] 34)
  clear hz
  have HB := hide (hc (unhide HX))
  clear hc
  generalize hdo h x = h' at *
  generalize hev h x = v at *
  obtain ⟨xd, xs, xm, xa, xk, xt, xp, xb⟩ := x
  dsimp only [xcs] at *
  subst hx
  go_enter Try.func15, Try.ntmps15
  go_wp2_with fail
  generalize (w.alloc (.cells #[.int .i64 7, .int .i64 xs, .int .i64 xm, .int .i64 xa, .int .i64 xk, .int .i64 xt, .int .i64 xp, .string xb] 37)).alloc (.cells #[.int .i64 0, .int .i64 0, .bool false, .string ⟨#[]⟩, .slice none 0 0] 34) = W at HX HB ⊢
  generalize w.heap.size = q at HX HB ⊢
  generalize q + 1 = p at HX HB ⊢
  refine (unhide HB).mono ?_
  rintro e w1 ⟨tb', st', a, cap, rfl, hs', HY0⟩
  have HY := hide ((unhide HY0).perm (List.perm_middle (l₁ := [_, _])).symm)
  have HS' := hide hs'
  clear HX HB hs' HY0
  obtain ⟨e0, e1, e2, e3, e4, g0, g1, g2, g3, g4⟩ := evF ((unhide HY).var (List.Mem.head _))
  go_wp2_with fail
  refine bodyPost_ret (v := .agg #[.int .i64 v.c, .int .i64 v.n, .bool v.t, .string v.s, .slice a v.l.length cap]) (by simp [results, Try.results15, go_sem, e0, e1, e2, e3, e4]) rfl ?_
  exact ⟨tb', st', a, cap, rfl, unhide HS', (unhide HY).fin _ _ _ _ _⟩
set_option maxHeartbeats 1000000 in
theorem do_end10 (x : HStep) (hz : Hall w0 w hb vb tb gb h st r) (hx : x.d = 10) (hc : ∀ {w : World} {r : List Thing}, Hall w0 w hb vb tb gb h st r → Calls Try.prog 47 #[.pointer (some ⟨hb, 0, none⟩), .agg #[.int .i64 x.d, .int .i64 x.s, .int .i64 x.md, .int .i64 x.at_, .int .i64 x.key, .int .i64 x.to_, .int .i64 x.keep, .string x.b]] w fun e w' => GoEnd w0 hb vb gb r (hdo h x) (hev h x) e w') :
    Calls Try.prog 15 #[.pointer (some ⟨hb, 0, none⟩), .agg #[.int .i64 x.d, .int .i64 x.s, .int .i64 x.md, .int .i64 x.at_, .int .i64 x.key, .int .i64 x.to_, .int .i64 x.keep, .string x.b]] w fun e w' => GoEnd w0 hb vb gb r (hdo h x) (hev h x) e w' := by
  have HX := hide (hz.two (xcs x) 37 #[.int .i64 0, .int .i64 0, .bool false, .string ⟨#[]⟩, .slice none 0 0] 34)
  clear hz
  have HB := hide (hc (unhide HX))
  clear hc
  generalize hdo h x = h' at *
  generalize hev h x = v at *
  obtain ⟨xd, xs, xm, xa, xk, xt, xp, xb⟩ := x
  dsimp only [xcs] at *
  subst hx
  go_enter Try.func15, Try.ntmps15
  go_wp2_with fail
  generalize (w.alloc (.cells #[.int .i64 10, .int .i64 xs, .int .i64 xm, .int .i64 xa, .int .i64 xk, .int .i64 xt, .int .i64 xp, .string xb] 37)).alloc (.cells #[.int .i64 0, .int .i64 0, .bool false, .string ⟨#[]⟩, .slice none 0 0] 34) = W at HX HB ⊢
  generalize w.heap.size = q at HX HB ⊢
  generalize q + 1 = p at HX HB ⊢
  refine (unhide HB).mono ?_
  rintro e w1 ⟨tb', st', a, cap, rfl, hs', HY0⟩
  have HY := hide ((unhide HY0).perm (List.perm_middle (l₁ := [_, _])).symm)
  have HS' := hide hs'
  clear HX HB hs' HY0
  obtain ⟨e0, e1, e2, e3, e4, g0, g1, g2, g3, g4⟩ := evF ((unhide HY).var (List.Mem.head _))
  go_wp2_with fail
  refine bodyPost_ret (v := .agg #[.int .i64 v.c, .int .i64 v.n, .bool v.t, .string v.s, .slice a v.l.length cap]) (by simp [results, Try.results15, go_sem, e0, e1, e2, e3, e4]) rfl ?_
  exact ⟨tb', st', a, cap, rfl, unhide HS', (unhide HY).fin _ _ _ _ _⟩
end
end Go.Proofs.Ytehhpmfeaeabgac

/- A hall's Do: Clear; Do of whatever step. -/
namespace Go.Proofs.Ytehhpmfeaeabgac
open Go.RowKit
set_option maxRecDepth 20000
attribute [local go_sem ↓] Go.wp_at_zero Go.wp_at_succ

section
variable {w0 w : World} {hb vb tb gb : Nat} {h : HSt} {st : Nat → Sd} {r : List Thing}
set_option maxHeartbeats 1000000 in
theorem do_clear (x : HStep) (hs : Sts st h.seat) (hz : Hall w0 w hb vb tb gb h st r) (hx : x.d = 8) :
    Calls Try.prog 15 #[.pointer (some ⟨hb, 0, none⟩), .agg #[.int .i64 x.d, .int .i64 x.s, .int .i64 x.md, .int .i64 x.at_, .int .i64 x.key, .int .i64 x.to_, .int .i64 x.keep, .string x.b]] w fun e w' => GoEnd w0 hb vb gb r (hdo h x) (hev h x) e w' := by
  have heq := (HKind.clear (h := h) (x := x) hx).eq
  rw [heq.1, heq.2]
  clear heq
  have HS := hide hs
  have HX := hide (hz.two (xcs x) 37 #[.int .i64 0, .int .i64 0, .bool false, .string ⟨#[]⟩, .slice none 0 0] 34)
  have hl := hz.lt
  have vl := hz.vlt_
  clear hz hs
  have HLE := hide (fun W r (hz : Hall w0 W hb vb tb gb h st r) => h_least (unhide HS) hz)
  generalize least h.n h.seat 5 = y at *
  obtain ⟨xd, xs, xm, xa, xk, xt, xp, xb⟩ := x
  dsimp only [xcs] at *
  subst hx
  go_enter Try.func15, Try.ntmps15
  go_wp2_with fail
  generalize (w.alloc (.cells #[.int .i64 8, .int .i64 xs, .int .i64 xm, .int .i64 xa, .int .i64 xk, .int .i64 xt, .int .i64 xp, .string xb] 37)).alloc (.cells #[.int .i64 0, .int .i64 0, .bool false, .string ⟨#[]⟩, .slice none 0 0] 34) = W at HX ⊢
  generalize w.heap.size = q at HX ⊢
  generalize q + 1 = p at HX ⊢
  have HXD := hide ((unhide HX).kp0 (Kp.refl [] _).drew)
  clear HX
  have c0 := (unhide HXD).c0
  have v0 := (unhide HXD).v0
  refine wp_region_held_drew (S := fun w' => w'.cell? ⟨hb, 0, none⟩ = some (.pointer (some ⟨vb, 0, none⟩)) ∧ w'.cell? ⟨vb, 0, none⟩ = some (.pointer (some ⟨tb, 0, none⟩))) (by kernel_rfl) (⟨c0, v0⟩) (fun hHeld => ?_)
  refine wpAnyH_tk (i := 0) (v := ?_) rfl (by kernel_rfl) (by kernel_rfl) (by kernel_rfl) (fun _ _ _ h => h) (Or.inl ⟨by rfl, ?_⟩) hHeld ?_
  rotate_left
  · intro w hSw
    try dsimp only at hSw
    go_simp
    try with_reducible rfl
  try simp only [Act.put, List.setIfInBounds_toArray, List.set_cons_zero, List.set_cons_succ]
  refine wpAnyH_tk (i := 1) (v := ?_) rfl (by kernel_rfl) (by kernel_rfl) (by kernel_rfl) (fun _ _ _ h => h) (Or.inl ⟨by rfl, ?_⟩) hHeld ?_
  rotate_left
  · intro w hSw
    try dsimp only at hSw
    go_simp
    try with_reducible rfl
  try simp only [Act.put, List.setIfInBounds_toArray, List.set_cons_zero, List.set_cons_succ]
  refine wpAnyH_tk (i := 2) (v := ?_) rfl (by kernel_rfl) (by kernel_rfl) (by kernel_rfl) (fun _ _ _ h => h) (Or.inl ⟨by rfl, ?_⟩) hHeld ?_
  rotate_left
  · intro w hSw
    try dsimp only at hSw
    go_simp
    try with_reducible rfl
  try simp only [Act.put, List.setIfInBounds_toArray, List.set_cons_zero, List.set_cons_succ]
  refine wpAnyH_tk (i := 3) (v := ?_) rfl (by kernel_rfl) (by kernel_rfl) (by kernel_rfl) (fun _ _ _ h => h) (Or.inl ⟨by rfl, ?_⟩) hHeld ?_
  rotate_left
  · intro w hSw
    try dsimp only at hSw
    go_simp
    try with_reducible rfl
  try simp only [Act.put, List.setIfInBounds_toArray, List.set_cons_zero, List.set_cons_succ]
  refine wpAnyH_tk (i := 4) (v := ?_) rfl (by kernel_rfl) (by kernel_rfl) (by kernel_rfl) (fun _ _ _ h => h) (Or.inl ⟨by rfl, ?_⟩) hHeld ?_
  rotate_left
  · intro w hSw
    try dsimp only at hSw
    go_simp
    try with_reducible rfl
  try simp only [Act.put, List.setIfInBounds_toArray, List.set_cons_zero, List.set_cons_succ]
  refine wpAnyH_tk (i := 5) (v := ?_) rfl (by kernel_rfl) (by kernel_rfl) (by kernel_rfl) (fun _ _ _ h => h) (Or.inl ⟨by rfl, ?_⟩) hHeld ?_
  rotate_left
  · intro w hSw
    try dsimp only at hSw
    go_simp
    try with_reducible rfl
  try simp only [Act.put, List.setIfInBounds_toArray, List.set_cons_zero, List.set_cons_succ]
  refine wpAnyH_tk (i := 6) (v := ?_) rfl (by kernel_rfl) (by kernel_rfl) (by kernel_rfl) (fun _ _ _ h => h) (Or.inl ⟨by rfl, ?_⟩) hHeld ?_
  rotate_left
  · intro w hSw
    try dsimp only at hSw
    go_simp
    try with_reducible rfl
  try simp only [Act.put, List.setIfInBounds_toArray, List.set_cons_zero, List.set_cons_succ]
  refine wpAnyH_tk (i := 7) (v := ?_) rfl (by kernel_rfl) (by kernel_rfl) (by kernel_rfl) (fun _ _ _ h => h) (Or.inl ⟨by rfl, ?_⟩) hHeld ?_
  rotate_left
  · intro w hSw
    try dsimp only at hSw
    go_simp
    try with_reducible rfl
  try simp only [Act.put, List.setIfInBounds_toArray, List.set_cons_zero, List.set_cons_succ]
  refine wpAnyH_only (i := 8) rfl (by kernel_rfl) (fun K hK => ?_)
  go_simp
  refine (unhide HLE _ _ (unhide HXD)).mono ?_
  rintro e w' ⟨rfl, hw'⟩
  subst w'
  go_wp2_with fail
  refine hK.out _ _ (⟨c0, v0⟩) (fun hHeld2 => ?_)
  clear hK K hHeld
  have hHeld := hHeld2
  clear hHeld2
  try simp only [Act.put, List.setIfInBounds_toArray, List.set_cons_zero, List.set_cons_succ]
  refine wpAnyH_only (i := 9) rfl (by kernel_rfl) (fun K hK => ?_)
  go_simp
  refine (h_clear y (unhide HXD)).mono ?_
  rintro e w3 ⟨rfl, HY⟩
  go_wp2_with fail
  refine hK.out _ _ (⟨(unhide HY).c0, (unhide HY).v0⟩) (fun hHeld2 => ?_)
  clear hK K hHeld
  have hHeld := hHeld2
  clear hHeld2
  try simp only [Act.put, List.setIfInBounds_toArray, List.set_cons_zero, List.set_cons_succ]
  refine wpAnyH_tk (i := 10) (v := ?_) rfl (by kernel_rfl) (by kernel_rfl) (by kernel_rfl) (fun _ _ _ h => h) (Or.inl ⟨by rfl, ?_⟩) hHeld ?_
  rotate_left
  · intro w hSw
    try dsimp only at hSw
    go_simp
    try with_reducible rfl
  try simp only [Act.put, List.setIfInBounds_toArray, List.set_cons_zero, List.set_cons_succ]
  refine wpAnyH_only (i := 11) rfl (by kernel_rfl) (fun K hK => ?_)
  go_simp
  obtain ⟨e0, e1, e2, e3, e4, g0, g1, g2, g3, g4⟩ := evF ((unhide HY).var (List.Mem.head _))
  go_simp
  have HF := hide ((((((unhide HY).set0 0 (.int .i64 0)).set0 1 (.int .i64 (cln h.f y 8 : Nat))).set0 2 (.bool false)).set0 3 (.string ⟨#[]⟩)).set0 4 (.slice none 0 0))
  go_wp2_with fail
  refine hK.out _ _ (⟨(unhide HF).c0, (unhide HF).v0⟩) (fun hHeld2 => ?_)
  clear hK K hHeld
  have hHeld := hHeld2
  clear hHeld2
  try simp only [Act.put, List.setIfInBounds_toArray, List.set_cons_zero, List.set_cons_succ]
  refine wpAnyH_done (by kernel_rfl) ?_ _
  go_wp2_with fail
  refine bodyPost_ret (v := .agg #[.int .i64 0, .int .i64 (cln h.f y 8 : Nat), .bool false, .string ⟨#[]⟩, .slice none 0 0]) (by simp [results, Try.results15, go_sem, e0, e1, e2, e3, e4]) rfl ?_
  exact ⟨tb, st, none, 0, rfl, unhide HS, ((unhide HY).fin _ _ _ _ _).ps.as rfl rfl rfl⟩
theorem h_do (x : HStep) (hsz : x.b.size ≤ maxLen) (hs : Sts st h.seat) (hi : HInv h) (hz : Hall w0 w hb vb tb gb h st r) :
    Calls Try.prog 15 #[.pointer (some ⟨hb, 0, none⟩), .agg #[.int .i64 x.d, .int .i64 x.s, .int .i64 x.md, .int .i64 x.at_, .int .i64 x.key, .int .i64 x.to_, .int .i64 x.keep, .string x.b]] w fun e w' => GoEnd w0 hb vb gb r (hdo h x) (hev h x) e w' := by
  by_cases c0 : x.d < 1 ∨ 10 < x.d
  · exact do_kind x hs hz c0
  by_cases c1 : x.d = 1
  · exact do_begin x hs hz c1
  by_cases c8 : x.d = 8
  · exact do_clear x hs hz c8
  by_cases c9 : x.d = 9
  · exact do_crash x hs hz c9
  by_cases hf : fcode st x.s = 0
  · obtain ⟨j, D, d, hj, h5, hsd⟩ := f_yes hf
    by_cases c2 : x.d = 2
    · exact do_on2 x hz c2 (fun hz' => go_get x c2 hj h5 hsd hs hz')
    by_cases c3 : x.d = 3
    · exact do_on3 x hz c3 (fun hz' => go_put x c3 hj h5 hsd hs hz' hsz)
    by_cases c4 : x.d = 4
    · exact do_on4 x hz c4 (fun hz' => go_drop x c4 hj h5 hsd hs hz' hsz)
    by_cases c5 : x.d = 5
    · exact do_on5 x hz c5 (fun hz' => go_list x c5 hj h5 hsd hs hz')
    by_cases c6 : x.d = 6
    · exact do_end6 x hz c6 (fun hz' => end_commit x c6 hj h5 hsd hs hz' hi)
    by_cases c7 : x.d = 7
    · exact do_end7 x hz c7 (fun hz' => end_abort x c7 hj h5 hsd hs hz' hi)
    · exact do_end10 x hz (by omega) (fun hz' => end_tear x (by omega) hj h5 hsd hs hz' hi)
  · by_cases c2 : x.d = 2
    · exact do_on2 x hz c2 (fun hz' => go_none x (by omega) hf hs hz')
    by_cases c3 : x.d = 3
    · exact do_on3 x hz c3 (fun hz' => go_none x (by omega) hf hs hz')
    by_cases c4 : x.d = 4
    · exact do_on4 x hz c4 (fun hz' => go_none x (by omega) hf hs hz')
    by_cases c5 : x.d = 5
    · exact do_on5 x hz c5 (fun hz' => go_none x (by omega) hf hs hz')
    by_cases c6 : x.d = 6
    · exact do_end6 x hz c6 (fun hz' => end_none x (by omega) hf hs hz')
    by_cases c7 : x.d = 7
    · exact do_end7 x hz c7 (fun hz' => end_none x (by omega) hf hs hz')
    · exact do_end10 x hz (by omega) (fun hz' => end_none x (by omega) hf hs hz')
/-- Do of whatever step, of a hall at the head of a list of things. -/
theorem hal_do (x : HStep) (hsz : x.b.size ≤ maxLen) (hz : Zoo w0 w (HalT hb h :: r)) :
    Calls Try.prog 15 #[.pointer (some ⟨hb, 0, none⟩), .agg #[.int .i64 x.d, .int .i64 x.s, .int .i64 x.md, .int .i64 x.at_, .int .i64 x.key, .int .i64 x.to_, .int .i64 x.keep, .string x.b]] w fun e w' => ∃ a cap, e = .returned (.agg #[.int .i64 (hev h x).c, .int .i64 (hev h x).n, .bool (hev h x).t, .string (hev h x).s, .slice a (hev h x).l.length cap]) ∧ Hid (Zoo w0 w' (HalT hb (hdo h x) :: PsT a cap (hev h x).l :: r)) := by
  obtain ⟨vb, tb, gb, st, hs, hi, hz'⟩ := hal_open hz
  refine (h_do x hsz hs hi hz').mono ?_
  rintro e w' ⟨tb', st', a, cap, rfl, hs', HY⟩
  exact ⟨a, cap, rfl, hal_close hs' (hi.step x) (unhide HY)⟩
end
end Go.Proofs.Ytehhpmfeaeabgac

/- Plain words for halls: one alone writes what it means. -/
namespace Go.Proofs.Ytehhpmfeaeabgac
open Go.RowKit
set_option maxRecDepth 20000

section
variable {f : Nat → List Ver} {n : Nat} {cs : List (List Ver)} {md y : Int} {rs : List Int} {ws : List Ver}
theorem snc_top (hi : Inv f n) {k : Nat} (hk : k < 8) : snc f k ≤ n := by
  have h1 := hi.hi k hk
  unfold snc
  split
  · rw [Int.toNat_natCast]; exact h1
  · omega
theorem cls_top (hi : Inv f n) (hy : (n : Int) ≤ y) : ∀ m, m ≤ 8 → cls f y ws m = false := by
  intro m
  induction m with
  | zero => intro _; rfl
  | succ m ih =>
    intro hm
    have h1 := snc_top hi (k := m) (by omega)
    rw [cls_old (by omega)]
    exact ih (by omega)
theorem stl_top (hi : Inv f n) (hy : (n : Int) ≤ y) : ∀ m, m ≤ 8 → stl f y rs m = false := by
  intro m
  induction m with
  | zero => intro _; rfl
  | succ m ih =>
    intro hm
    have h1 := snc_top hi (k := m) (by omega)
    simp only [stl]
    rw [if_neg (fun q => by omega)]
    exact ih (by omega)
/-- Nobody is in the way of a deed that began behind the last commit. -/
theorem dm_top (hi : Inv f n) (hy : (n : Int) ≤ y) : dm f md y rs ws = 0 := by
  unfold dm
  rw [cls_top hi hy 8 (Nat.le_refl _), stl_top hi hy 8 (Nat.le_refl _)]
  simp
/-- What is there behind a commit: what was there, and what was written laid over it. -/
theorem commit_now (hi : Inv f n) (hv : VI f n cs) (hw : WOk ws) (hd : vdone f cs md y rs ws = true) :
    vn f n cs md y rs ws = n + 1 ∧ wagg (shw (vf f n cs md y rs ws) (n + 1) ((n + 1 : Nat) : Int) 8) = wagg (lay (shw f n n 8) ws) := by
  have hl : lcode cs (wk ws 8) = 0 := by unfold vdone at hd; simp at hd; exact hd.2.2
  obtain ⟨e1, e2, _, _⟩ := v_did (n := n) hd
  refine ⟨e2, ?_⟩
  rw [e1, ← shots_now' hi (hv.room hl).1, lay_wvs hw]
end
theorem wk_one {k : Nat} (hk : k < 8) (t : Bool) (s : ByteArray) : wk [⟨(k : Int), t, s⟩] 8 = [⟨(k : Int), t, s⟩] := by
  have hl : ∀ j : Nat, lwr [⟨(k : Int), t, s⟩] j = if (k : Int) = (j : Int) then some ⟨(j : Int), t, s⟩ else none := by
    intro j
    have := lwr_put [] (j : Int) ⟨(k : Int), t, s⟩
    rw [List.nil_append, lwr_nil] at this
    exact this
  have key : ∀ m, m ≤ 8 → wk [⟨(k : Int), t, s⟩] m = if k < m then [⟨(k : Int), t, s⟩] else [] := by
    intro m
    induction m with
    | zero => intro _; rfl
    | succ m ih =>
      intro hm
      by_cases q : k = m
      · subst q
        rw [wk_yes (by rw [hl]; rw [if_pos rfl]), ih (by omega), if_neg (by omega), if_pos (by omega)]
        rfl
      · rw [wk_no (by rw [hl]; rw [if_neg (by omega)]), ih (by omega)]
        by_cases r : k < m
        · rw [if_pos r, if_pos (by omega)]
        · rw [if_neg r, if_neg (by omega)]
  rw [key 8 (Nat.le_refl _), if_pos hk]
end Go.Proofs.Ytehhpmfeaeabgac

/- hallBegun answers true. -/
namespace Go.Proofs.Ytehhpmfeaeabgac
open Go.RowKit
set_option maxRecDepth 20000
attribute [local go_sem ↓] Go.wp_at_zero Go.wp_at_succ

theorem hal_drop {w0 w : World} {o P : Thing} {r : List Thing} (hz : Zoo w0 w (o :: P :: r)) : Zoo w0 w (o :: r) := Zoo.drop_ (l1 := [o]) hz
theorem hal_var {w0 w : World} {o P : Thing} {r : List Thing} (hz : Zoo w0 w (o :: P :: r)) (c : Array Value) (T : TypeId) : Zoo w0 (w.alloc (.cells c T)) (o :: BoxT w.heap.size c T :: r) := zoo_swap ((hal_drop hz).box c T)
def hs0 : HSt := ⟨fun _ => [dv], 0, [], fun _ => none⟩
def hx1 : HStep := ⟨1, 0, 1, 0, 0, 0, 0, ⟨#[]⟩⟩
def hs1 : HSt := hdo hs0 hx1
def hx2 : HStep := ⟨1, 1, 2, 0, 0, 0, 0, ⟨#[]⟩⟩
def hs2 : HSt := hdo hs1 hx2
def hx3 : HStep := ⟨3, 0, 0, 0, 1, 0, 0, ⟨#[120]⟩⟩
def hs3 : HSt := hdo hs2 hx3
def hx4 : HStep := ⟨2, 1, 0, 0, 1, 0, 0, ⟨#[]⟩⟩
def hs4 : HSt := hdo hs3 hx4
def hx5 : HStep := ⟨6, 0, 0, 0, 0, 0, 0, ⟨#[]⟩⟩
def hs5 : HSt := hdo hs4 hx5
def hx6 : HStep := ⟨3, 1, 0, 0, 2, 0, 0, ⟨#[121]⟩⟩
def hs6 : HSt := hdo hs5 hx6
def hx7 : HStep := ⟨6, 1, 0, 0, 0, 0, 0, ⟨#[]⟩⟩
def hs7 : HSt := hdo hs6 hx7
theorem hv1 : hev hs0 hx1 = ⟨0, 0, false, ⟨#[]⟩, []⟩ := by rfl
theorem hv2 : hev hs1 hx2 = ⟨0, 0, false, ⟨#[]⟩, []⟩ := by rfl
theorem hv3 : hev hs2 hx3 = ⟨0, 0, false, ⟨#[]⟩, []⟩ := by rfl
theorem hv4 : hev hs3 hx4 = ⟨0, 0, false, ⟨#[]⟩, []⟩ := by rfl
theorem hv5 : hev hs4 hx5 = ⟨0, 1, false, ⟨#[]⟩, []⟩ := by rfl
theorem hv6 : hev hs5 hx6 = ⟨0, 0, false, ⟨#[]⟩, []⟩ := by rfl
theorem hv7 : hev hs6 hx7 = ⟨11, 0, false, ⟨#[]⟩, []⟩ := by rfl
theorem hs7_n : hs7.n = 1 := by rfl
theorem hs7_s : hs7.seat 1 = none := by rfl
set_option maxHeartbeats 2000000 in
theorem hbegun (w : World) : Calls Try.prog 10 #[] w fun e w' => e = .returned (.bool true) ∧ Kp [] w w' := by
  go_enter Try.func10, Try.ntmps10
  go_wp2_with fail
  refine (h_new w).mono ?_
  rintro e w1 ⟨hb, rfl, F, hh, hk⟩
  have HZ0 : Hid (Zoo w w1 [HalT hb hs0]) := (zoo_nil (Kp.refl [] w)).cons hh hk
  clear hh hk
  go_wp2_with fail
  refine (hal_do hx1 (by unfold maxLen; decide) (unhide HZ0)).mono ?_
  rintro e v1 ⟨a1, cap1, rfl, HY1⟩
  rw [hv1]
  rw [hv1] at HY1
  rw [show hdo hs0 hx1 = hs1 from rfl] at HY1
  dsimp only [List.length_nil]
  clear HZ0
  have HZ1 := hide (hal_var (unhide HY1) #[.int .i64 0, .int .i64 0, .bool false, .string ⟨#[]⟩, .slice a1 0 cap1] 34)
  clear HY1
  go_wp2_with fail
  generalize v1.alloc (.cells #[.int .i64 0, .int .i64 0, .bool false, .string ⟨#[]⟩, .slice a1 0 cap1] 34) = W1 at HZ1 ⊢
  generalize v1.heap.size = pa at HZ1 ⊢
  refine (hal_do hx2 (by unfold maxLen; decide) (unhide HZ1)).mono ?_
  rintro e v2 ⟨a2, cap2, rfl, HY2⟩
  rw [hv2]
  rw [hv2] at HY2
  rw [show hdo hs1 hx2 = hs2 from rfl] at HY2
  dsimp only [List.length_nil]
  clear HZ1
  have HZ2 := hide (hal_var (unhide HY2) #[.int .i64 0, .int .i64 0, .bool false, .string ⟨#[]⟩, .slice a2 0 cap2] 34)
  clear HY2
  go_wp2_with fail
  generalize v2.alloc (.cells #[.int .i64 0, .int .i64 0, .bool false, .string ⟨#[]⟩, .slice a2 0 cap2] 34) = W2 at HZ2 ⊢
  generalize v2.heap.size = pb at HZ2 ⊢
  refine (hal_do hx3 (by unfold maxLen; decide) (unhide HZ2)).mono ?_
  rintro e v3 ⟨a3, cap3, rfl, HY3⟩
  rw [hv3]
  rw [hv3] at HY3
  rw [show hdo hs2 hx3 = hs3 from rfl] at HY3
  dsimp only [List.length_nil]
  clear HZ2
  have HZ3 := hide (hal_drop (unhide HY3))
  clear HY3
  go_wp2_with fail
  refine (hal_do hx4 (by unfold maxLen; decide) (unhide HZ3)).mono ?_
  rintro e v4 ⟨a4, cap4, rfl, HY4⟩
  rw [hv4]
  rw [hv4] at HY4
  rw [show hdo hs3 hx4 = hs4 from rfl] at HY4
  dsimp only [List.length_nil]
  clear HZ3
  have HZ4 := hide (hal_var (unhide HY4) #[.int .i64 0, .int .i64 0, .bool false, .string ⟨#[]⟩, .slice a4 0 cap4] 34)
  clear HY4
  go_wp2_with fail
  generalize v4.alloc (.cells #[.int .i64 0, .int .i64 0, .bool false, .string ⟨#[]⟩, .slice a4 0 cap4] 34) = W4 at HZ4 ⊢
  generalize v4.heap.size = pc at HZ4 ⊢
  refine (hal_do hx5 (by unfold maxLen; decide) (unhide HZ4)).mono ?_
  rintro e v5 ⟨a5, cap5, rfl, HY5⟩
  rw [hv5]
  rw [hv5] at HY5
  rw [show hdo hs4 hx5 = hs5 from rfl] at HY5
  dsimp only [List.length_nil]
  clear HZ4
  have HZ5 := hide (hal_var (unhide HY5) #[.int .i64 0, .int .i64 1, .bool false, .string ⟨#[]⟩, .slice a5 0 cap5] 34)
  clear HY5
  go_wp2_with fail
  generalize v5.alloc (.cells #[.int .i64 0, .int .i64 1, .bool false, .string ⟨#[]⟩, .slice a5 0 cap5] 34) = W5 at HZ5 ⊢
  generalize v5.heap.size = pd at HZ5 ⊢
  refine (hal_do hx6 (by unfold maxLen; decide) (unhide HZ5)).mono ?_
  rintro e v6 ⟨a6, cap6, rfl, HY6⟩
  rw [hv6]
  rw [hv6] at HY6
  rw [show hdo hs5 hx6 = hs6 from rfl] at HY6
  dsimp only [List.length_nil]
  clear HZ5
  have HZ6 := hide (hal_drop (unhide HY6))
  clear HY6
  go_wp2_with fail
  refine (hal_do hx7 (by unfold maxLen; decide) (unhide HZ6)).mono ?_
  rintro e v7 ⟨a7, cap7, rfl, HY7⟩
  rw [hv7]
  rw [hv7] at HY7
  rw [show hdo hs6 hx7 = hs7 from rfl] at HY7
  dsimp only [List.length_nil]
  clear HZ6
  obtain ⟨vb, tb, gb, st, hs, -, hl⟩ := hal_open (unhide HY7)
  have HL := hide hl
  have HS := hide hs
  clear hl hs HY7
  have c0 := (unhide HL).c0
  have v0 := (unhide HL).v0
  have hl := (unhide HL).lt
  have vl := (unhide HL).vlt_
  have hpd := (unhide HL).var (List.Mem.tail _ (List.Mem.head _))
  have pd1 : v7.cell? ⟨pd, 1, none⟩ = some (.int .i64 1) := cell_of_block hpd rfl
  have pdl := lt_of_block hpd
  clear hpd
  have hpc := (unhide HL).var (List.Mem.tail _ (List.Mem.tail _ (List.Mem.head _)))
  have pc0 : v7.cell? ⟨pc, 0, none⟩ = some (.int .i64 0) := cell_of_block hpc rfl
  have pc2 : v7.cell? ⟨pc, 2, none⟩ = some (.bool false) := cell_of_block hpc rfl
  have pcl := lt_of_block hpc
  clear hpc
  have hpb := (unhide HL).var (List.Mem.tail _ (List.Mem.tail _ (List.Mem.tail _ (List.Mem.head _))))
  have pb0 : v7.cell? ⟨pb, 0, none⟩ = some (.int .i64 0) := cell_of_block hpb rfl
  have pbl := lt_of_block hpb
  clear hpb
  have hpa := (unhide HL).var (List.Mem.tail _ (List.Mem.tail _ (List.Mem.tail _ (List.Mem.tail _ (List.Mem.head _)))))
  have pa0 : v7.cell? ⟨pa, 0, none⟩ = some (.int .i64 0) := cell_of_block hpa rfl
  have pal := lt_of_block hpa
  clear hpa
  have HX := hide ((unhide HL).tail.new #[.int .i64 11, .int .i64 0, .bool false, .string ⟨#[]⟩, .slice a7 0 cap7] 34)
  have hd1 : dat st 1 = none := by have q := unhide HS 1; rw [hs7_s] at q; have e : dat st 1 = st 1 := dat_in (j := 1) (by omega); rw [e]; cases hq : st 1 with | none => rfl | some y => rw [hq] at q; cases q
  go_wp2_with fail
  go_wp2_with fail
  generalize v7.alloc (.cells #[.int .i64 11, .int .i64 0, .bool false, .string ⟨#[]⟩, .slice a7 0 cap7] 34) = W7 at HX ⊢
  generalize v7.heap.size = pf at HX ⊢
  clear c0 v0 hl vl
  have c0 := (unhide HX).c0
  have v0 := (unhide HX).v0
  refine (h_busy 1 (unhide HX)).mono ?_
  rintro e w' ⟨rfl, hw'⟩
  subst w'
  rw [hd1, show Option.isSome (none : Sd) = false from rfl]
  go_wp2_with fail
  refine (h_deed 1 (unhide HX)).mono ?_
  rintro e w' ⟨rfl, hw'⟩
  subst w'
  rw [hd1, show sp none = .pointer none from rfl]
  go_wp2_with fail
  refine (h_last (unhide HX)).mono ?_
  rintro e w' ⟨rfl, hw'⟩
  subst w'
  rw [hs7_n]
  go_wp2_with fail
  refine (hseat 4 _).mono ?_
  rintro e w' ⟨rfl, hw'⟩
  subst w'
  rw [show seatB 4 = true from rfl]
  go_wp2_with fail
  go_ret
  exact ⟨rfl, Zoo.kp (unhide HX)⟩
theorem ev_code (a b c d e : Value) (w : World) : (Instr.field 34 (.agg #[a, b, c, d, e]) 0).run Try.prog w = .ok a w := by kernel_rfl
theorem shk_last' {h : HSt} (hi : HInv h) : ShK h.f h.n h.n 8 := ⟨Nat.le_refl _, fun j hj => tr_known hi.inv (fmx_le hi.inv 8 (Nat.le_refl _)).2 (Int.le_refl _) (by omega), fun h => by omega⟩
end Go.Proofs.Ytehhpmfeaeabgac

/- Steps of a hall that are handed in; greatSteps, by its contract. -/
namespace Go.Proofs.Ytehhpmfeaeabgac
open Go.RowKit
set_option maxRecDepth 20000
attribute [local go_sem ↓] Go.wp_at_zero Go.wp_at_succ

structure StH1 (w : World) (b o : Nat) (st : HStep) : Prop where
  c0 : w.cell? ⟨b, o, none⟩ = some (.int .i64 st.d)
  c1 : w.cell? ⟨b, o + 1, none⟩ = some (.int .i64 st.s)
  c2 : w.cell? ⟨b, o + 2, none⟩ = some (.int .i64 st.md)
  c3 : w.cell? ⟨b, o + 3, none⟩ = some (.int .i64 st.at_)
  c4 : w.cell? ⟨b, o + 4, none⟩ = some (.int .i64 st.key)
  c5 : w.cell? ⟨b, o + 5, none⟩ = some (.int .i64 st.to_)
  c6 : w.cell? ⟨b, o + 6, none⟩ = some (.int .i64 st.keep)
  c7 : w.cell? ⟨b, o + 7, none⟩ = some (.string st.b)
  str : st.b.size ≤ maxLen
/-- The steps lie in block b from o on, n of them. -/
def StH (w : World) (b o n : Nat) (st : Nat → HStep) : Prop := ∀ i, i < n → StH1 w b (o + i * 8) (st i)
def HSts (w : World) (a : Option Addr) (n : Nat) (st : Nat → HStep) : Prop := n ≤ maxLen ∧ (0 < n → ∃ b o, a = some ⟨b, o, none⟩ ∧ StH w b o n st)
theorem StH1.kp0 {w w' : World} {b o : Nat} {st : HStep} (h : StH1 w b o st) (hk : Kp [] w w') : StH1 w' b o st :=
  ⟨hk.cell (by simp) h.c0, hk.cell (by simp) h.c1, hk.cell (by simp) h.c2, hk.cell (by simp) h.c3, hk.cell (by simp) h.c4, hk.cell (by simp) h.c5, hk.cell (by simp) h.c6, hk.cell (by simp) h.c7, h.str⟩
theorem HSts.kp0 {w w' : World} {a : Option Addr} {n : Nat} {st : Nat → HStep} (h : HSts w a n st) (hk : Kp [] w w') : HSts w' a n st := ⟨h.1, fun hp => by
  obtain ⟨b, o, e, hs⟩ := h.2 hp
  exact ⟨b, o, e, fun i hi => (hs i hi).kp0 hk⟩⟩

def GsEnd (n : Nat) (w : World) (e : Ending) (w' : World) : Prop := ∃ q : Bool, e = .returned (.bool q) ∧ (q = false → n ≤ 200) ∧ w' = w
theorem gsEnd_mk {n : Nat} {w : World} (q : Bool) (h : q = false → n ≤ 200) : GsEnd n w (.returned (.bool q)) w := ⟨q, rfl, h, rfl⟩

set_option maxHeartbeats 1000000 in
theorem gsteps (a : Option Addr) (n c : Nat) (st : Nat → HStep) (w : World) (h : HSts w a n st) :
    Calls Try.prog 11 #[.slice a n c] w fun e w' => GsEnd n w e w' := by
  obtain ⟨hm, h⟩ := h
  unfold maxLen at hm
  have HP := hide h
  clear h
  go_enter Try.func11, Try.ntmps11
  go_wp2_with fail
  go_loop [3] (fun i => ∃ k : Nat, k ≤ n ∧ k ≤ 300 ∧ i = .int .i64 k) (fun i => n - (intOf i).toNat)
  case atStart => exact ⟨0, Nat.zero_le _, by omega, rfl⟩
  case round =>
    obtain ⟨k, hk, hk2, rfl⟩ := hrel
    by_cases hlt : k < n
    · have i1 : (k : Int) < (n : Int) := by omega
      by_cases hlt2 : k < 300
      · obtain ⟨b, o, rfl, hs⟩ := (unhide HP) (by omega)
        have h1 := hs k hlt
        have q7 := h1.c7
        have hsz := h1.str
        unfold maxLen at hsz
        have i0 : (0 : Int) ≤ (k : Int) := by omega
        have i2 : (k : Int) < 300 := by omega
        clear hs h1
        generalize (st k).b = s at *
        by_cases hs : 100 < s.size
        · have hs' : (100 : Int) < (s.size : Int) := by omega
          go_wp2_with fail
          go_ret
          exact gsEnd_mk _ (fun h => by simp at h)
        · have hs' : ¬ (100 : Int) < (s.size : Int) := by omega
          go_wp2_with fail
          exact ⟨⟨k + 1, by omega, by omega, by go_num⟩, by simp [intOf]; omega⟩
      · have i2 : ¬ (k : Int) < 300 := by omega
        have i3 : (200 : Int) < (n : Int) := by omega
        go_wp2_with fail
        go_ret
        exact gsEnd_mk _ (fun h => by simp at h)
    · have i1 : ¬ (k : Int) < (n : Int) := by omega
      by_cases h200 : 200 < n
      · have i3 : (200 : Int) < (n : Int) := by omega
        go_wp2_with fail
        go_ret
        exact gsEnd_mk _ (fun h => by simp at h)
      · have i3 : ¬ (200 : Int) < (n : Int) := by omega
        go_wp2_with fail
        go_ret
        exact gsEnd_mk _ (fun h => by omega)
end Go.Proofs.Ytehhpmfeaeabgac

/- Plain words for halls: one seat alone, whose deeds are done one behind the other. -/
namespace Go.Proofs.Ytehhpmfeaeabgac
open Go.RowKit
set_option maxRecDepth 20000

def xb (md : Int) : HStep := ⟨1, 0, md, 0, 0, 0, 0, ⟨#[]⟩⟩
def xc : HStep := ⟨6, 0, 0, 0, 0, 0, 0, ⟨#[]⟩⟩
theorem sit_get {h : HSt} {d : Option Dp} : (sit h 0 d).seat 0 = d := by simp [sit, upd]
theorem al_begin {h : HSt} (hn : h.seat 0 = none) {md : Int} (hm : md = 1 ∨ md = 2) : hdo h (xb md) = sit h 0 (some ⟨md, h.n, [], []⟩) ∧ hev h (xb md) = evc 0 := by
  have hb : bcode h.f h.n md 0 = 0 := by unfold bcode; rw [if_pos (by omega), if_neg (by omega)]
  have ha : bat h.n md 0 = h.n := by unfold bat; rw [if_neg (by omega)]
  have := (HKind.began (h := h) (x := xb md) rfl ⟨Int.le_refl _, by show (0 : Int) < 5; decide⟩ hn hb).eq
  rw [show (xb md).at_ = 0 from rfl, show (xb md).md = md from rfl, ha] at this
  exact this
theorem al_put {h : HSt} {d : Dp} (hd : h.seat 0 = some d) {x : HStep} (hs : x.s = 0) (hx : x.d = 3) : hdo h x = sit h 0 (some { d with ws := dpw d.md d.ws x.key true x.b }) ∧ hev h x = evc (dpc d.md x.key true x.b) := by
  have := (HKind.put (h := h) (x := x) d hx ⟨by omega, by omega⟩ (by rw [hs]; exact hd)).eq
  rw [hs] at this
  exact this
theorem al_drop {h : HSt} {d : Dp} (hd : h.seat 0 = some d) {x : HStep} (hs : x.s = 0) (hx : x.d = 4) : hdo h x = sit h 0 (some { d with ws := dpw d.md d.ws x.key false ⟨#[]⟩ }) ∧ hev h x = evc (dpc d.md x.key false ⟨#[]⟩) := by
  have := (HKind.drop (h := h) (x := x) d hx ⟨by omega, by omega⟩ (by rw [hs]; exact hd)).eq
  rw [hs] at this
  exact this
theorem al_commit {h : HSt} {d : Dp} (hd : h.seat 0 = some d) : hdo h xc = ⟨vf h.f h.n h.cs d.md d.y d.rs d.ws, vn h.f h.n h.cs d.md d.y d.rs d.ws, vcs h.f h.cs d.md d.y d.rs d.ws, upd h.seat 0 none⟩ ∧ hev h xc = evn (vcode h.f h.cs d.md d.y d.rs d.ws) (vnum h.f h.n h.cs d.md d.y d.rs d.ws) :=
  (HKind.commit (h := h) (x := xc) d rfl ⟨by decide, by decide⟩ hd).eq
theorem al_clear {h : HSt} (hi : HInv h) (hn : ∀ s, h.seat s = none) {x : HStep} (hx : x.d = 8) : (∀ s, (hdo h x).seat s = none) ∧ (hdo h x).n = h.n ∧ shw (hdo h x).f h.n h.n 8 = shw h.f h.n h.n 8 := by
  have e := (HKind.clear (h := h) (x := x) hx).eq.1
  rw [e]
  exact ⟨hn, rfl, shw_clm hi.inv (least_le h.n h.seat 5).1⟩
theorem dpc_key' {md k : Int} {t : Bool} {s : ByteArray} (h : dpc md k t s = 0) : ∃ j : Nat, j < 8 ∧ k = (j : Int) := by
  unfold dpc at h
  split at h
  · rename_i hk
    refine ⟨k.toNat, ?_⟩
    simp only [keyB, decide_eq_true_eq] at hk
    omega
  · simp at h
/-- Begin, Put and Commit of one alone: what is told, and what is then. -/
theorem al_round {h : HSt} (hi : HInv h) (hn : ∀ s, h.seat s = none) {md : Int} (k : Int) (t : Bool) (s : ByteArray) {h3 : HSt} {c num code : Int}
    (e3 : h3 = ⟨vf h.f h.n h.cs md h.n [] (dpw md [] k t s), vn h.f h.n h.cs md h.n [] (dpw md [] k t s), vcs h.f h.cs md h.n [] (dpw md [] k t s), upd (upd (upd h.seat 0 (some ⟨md, h.n, [], []⟩)) 0 (some ⟨md, h.n, [], dpw md [] k t s⟩)) 0 none⟩) (ec : c = dpc md k t s) (en : num = vnum h.f h.n h.cs md h.n [] (dpw md [] k t s)) (eo : code = vcode h.f h.cs md h.n [] (dpw md [] k t s)) :
    (∀ s, h3.seat s = none) ∧ ((¬ c = 0 ∧ code = 0 ∧ num = 0 ∧ wagg (shw h3.f h3.n h3.n 8) = wagg (shw h.f h.n h.n 8)) ∨ (c = 0 ∧ code = 9) ∨
      (c = 0 ∧ code = 0 ∧ num = h.n + 1 ∧ ∃ j : Nat, j < 8 ∧ k = (j : Int) ∧ wagg (shw h3.f h3.n h3.n 8) = wagg (upd (shw h.f h.n h.n 8) j ⟨0, t, s⟩))) := by
  have hz : dm h.f md h.n [] (dpw md [] k t s) = 0 := dm_top hi.inv (Int.le_refl _)
  have hw : WOk (dpw md [] k t s) := wok_nil.put md k t s
  refine ⟨fun j => by rw [e3]; simp only [upd]; split <;> simp [*], ?_⟩
  by_cases hc : dpc md k t s = 0
  · obtain ⟨j, hj, ek⟩ := dpc_key' hc
    have hws : dpw md [] k t s = [⟨(j : Int), t, s⟩] := by unfold dpw; rw [if_pos hc, ek]; rfl
    have hl : ¬ (wk (dpw md [] k t s) 8).length = 0 := by rw [hws, wk_one hj]; simp
    by_cases hlc : lcode h.cs (wk (dpw md [] k t s) 8) = 0
    · obtain ⟨q1, q2⟩ := v_yes hz hl hlc
      obtain ⟨q3, q4, q5, q6⟩ := v_did (n := h.n) q2
      refine .inr (.inr ⟨ec.trans hc, eo.trans q1, en.trans q6, j, hj, ek, ?_⟩)
      obtain ⟨z1, z2⟩ := commit_now hi.inv hi.vi hw q2
      rw [e3]
      dsimp only
      rw [z1, z2, hws]
      have := lay_put (shw h.f h.n h.n 8) [] j t s
      rw [lay_nil] at this
      exact congrArg wagg this
    · refine .inr (.inl ⟨ec.trans hc, ?_⟩)
      rw [eo, (v_full hz hl hlc).1]
      have hp := hw.pf
      unfold lcode at hlc ⊢
      rw [if_pos hp] at hlc ⊢
      split
      · rfl
      · rename_i q; rw [if_neg q] at hlc; exact absurd rfl hlc
  · have hws : dpw md [] k t s = [] := by unfold dpw; rw [if_neg hc]
    have hl : (wk (dpw md [] k t s) 8).length = 0 := by rw [hws]; rfl
    obtain ⟨q1, q2⟩ := v_none (cs := h.cs) hz hl
    obtain ⟨q3, q4, q5, q6⟩ := v_not (n := h.n) q2
    refine .inl ⟨by rw [ec]; exact hc, eo.trans q1, en.trans q6, ?_⟩
    rw [e3]
    dsimp only
    rw [q3, q4]
end Go.Proofs.Ytehhpmfeaeabgac

/- Plain words for halls: what a deed's worlds are; its lists. -/
namespace Go.Proofs.Ytehhpmfeaeabgac
open Go.RowKit
set_option maxRecDepth 20000

/-- The keys from a to b that have a value, of the first m. -/
def wl (v : Nat → Ver) (a b : Int) : Nat → List Ver
  | 0 => []
  | m + 1 => if a ≤ (m : Int) ∧ (m : Int) ≤ b ∧ (v m).t = true then wl v a b m ++ [⟨(m : Int), (v m).t, (v m).s⟩] else wl v a b m
theorem wl_len (v : Nat → Ver) (a b : Int) : ∀ m, (wl v a b m).length ≤ m := by
  intro m
  induction m with
  | zero => simp [wl]
  | succ m ih => simp only [wl]; split <;> (try simp) <;> omega
theorem wl_lo {v : Nat → Ver} {a b : Int} : ∀ {m : Nat}, (m : Int) ≤ a → wl v a b m = [] := by
  intro m
  induction m with
  | zero => intro _; rfl
  | succ m ih => intro h; simp only [wl]; rw [if_neg (by omega), ih (by omega)]
theorem wl_hi {v : Nat → Ver} {a b : Int} {m : Nat} (hm : b < (m : Int)) : ∀ j, wl v a b (m + j) = wl v a b m := by
  intro j
  induction j with
  | zero => rfl
  | succ j ih => rw [show m + (j + 1) = (m + j) + 1 by omega]; simp only [wl]; rw [if_neg (by push_cast; omega), ih]
theorem wl_congr {v u : Nat → Ver} {a b : Int} : ∀ m, (∀ k, k < m → (v k).t = (u k).t ∧ (v k).s = (u k).s) → wl v a b m = wl u a b m := by
  intro m
  induction m with
  | zero => intro _; rfl
  | succ m ih =>
    intro h
    simp only [wl]
    rw [ih (fun k hk => h k (by omega)), (h m (by omega)).1, (h m (by omega)).2]
theorem dgo_wl {f : Nat → List Ver} {n : Nat} {y : Int} {ws : List Ver} {v : Nat → Ver} {p t : Nat} (ht : t < 8) (hv : ∀ k : Nat, k < 8 → dg f n y ws k = ⟨0, (v k).t, (v k).s⟩) : ∀ (m k : Nat) (acc : List Ver) (rs : List Int), p ≤ k → k + m ≤ t + 1 → acc = wl v p t k → (dgo f n y ws k m acc rs).1 = wl v p t (k + m) ∧ (dgo f n y ws k m acc rs).2.1 = 0 := by
  intro m
  induction m with
  | zero => intro k acc rs _ _ e; exact ⟨e, rfl⟩
  | succ m ih =>
    intro k acc rs h1 h2 e
    have hk := hv k (by omega)
    simp only [dgo]
    rw [hk]
    dsimp only
    rw [show k + (m + 1) = (k + 1) + m by omega]
    simp only [if_true]
    cases hb : (v k).t with
    | true =>
      simp only [if_true]
      exact ih (k + 1) _ _ (by omega) (by omega) (by rw [e]; simp only [wl]; rw [if_pos ⟨by omega, by omega, hb⟩, hb])
    | false =>
      simp only [Bool.false_eq_true, if_false]
      exact ih (k + 1) _ _ (by omega) (by omega) (by rw [e]; simp only [wl]; rw [if_neg (fun q => by rw [hb] at q; exact absurd q.2.2 (by simp))])
/-- A list that is told is all keys from one to the other that have a value for the deed. -/
theorem dls_wl {f : Nat → List Ver} {n : Nat} {y : Int} {ws : List Ver} {rs : List Int} {v : Nat → Ver} {a b : Int} (hv : ∀ k : Nat, k < 8 → dg f n y ws k = ⟨0, (v k).t, (v k).s⟩) (hc : (dls f n y ws rs a b).2.1 = 0) : (dls f n y ws rs a b).1 = wl v a b 8 := by
  unfold dls at hc ⊢
  split
  · rename_i hk
    simp only [keyB, decide_eq_true_eq] at hk
    obtain ⟨p, rfl⟩ : ∃ p : Nat, a = (p : Int) := ⟨a.toNat, by omega⟩
    obtain ⟨t, rfl⟩ : ∃ t : Nat, b = (t : Int) := ⟨b.toNat, by omega⟩
    rw [Int.toNat_natCast, show ((t : Int) + 1 - (p : Int)).toNat = t + 1 - p by omega]
    by_cases hpt : p ≤ t + 1
    · rw [(dgo_wl (f := f) (n := n) (y := y) (ws := ws) (v := v) (p := p) (t := t) (by omega) hv (t + 1 - p) p [] rs (Nat.le_refl _) (by omega) (wl_lo (Int.le_refl _)).symm).1]
      rw [show p + (t + 1 - p) = t + 1 by omega]
      have := wl_hi (v := v) (a := (p : Int)) (b := (t : Int)) (m := t + 1) (by push_cast; omega) (8 - (t + 1))
      rw [show t + 1 + (8 - (t + 1)) = 8 by omega] at this
      exact this.symm
    · rw [show t + 1 - p = 0 by omega]
      show [] = _
      have h1 := wl_hi (v := v) (a := (p : Int)) (b := (t : Int)) (m := t + 1) (by push_cast; omega) (8 - (t + 1))
      rw [show t + 1 + (8 - (t + 1)) = 8 by omega] at h1
      rw [h1, wl_lo (by push_cast; omega)]
  · rename_i hk
    rw [if_neg hk] at hc
    exact absurd hc (by simp)

/-- The worlds of the seats' deeds: what each of them sees. -/
def Shot (h : HSt) (u : Nat → Nat → Ver) : Prop := ∀ s d, h.seat s = some d → ∀ k, k < 8 → (u s k).t = (hsee h d k).t ∧ (u s k).s = (hsee h d k).s
/-- Whatever a step is that is no Begin and no write, the worlds stay. -/
theorem Shot.stay {h : HSt} {u : Nat → Nat → Ver} (hs : Shot h u) (hi : HInv h) (x : HStep) (hx : ¬ (hev h x).c = 0 ∨ (x.d ≠ 1 ∧ x.d ≠ 3 ∧ x.d ≠ 4)) : Shot (hdo h x) u := by
  intro s d' hd' k hk
  have hold : ∃ d, h.seat s = some d := by
    have hkd := hkind h x
    generalize hdo h x = h2 at *
    generalize hev h x = e at *
    cases hkd with
    | kind c => exact ⟨d', hd'⟩
    | clear c => exact ⟨d', hd'⟩
    | crash c => cases hd'
    | range c1 c2 => exact ⟨d', hd'⟩
    | began c1 c2 c3 c4 =>
      rcases hx with q | q
      · exact absurd rfl q
      · exact absurd c1 q.1
    | beganNot c1 c2 c3 c4 => exact ⟨d', hd'⟩
    | none_ c1 c2 c3 => exact ⟨d', hd'⟩
    | there d0 c1 c2 c3 => exact ⟨d', hd'⟩
    | get d0 c1 c2 c3 => rcases sit_at hd' with ⟨q1, q2⟩ | ⟨q1, q2⟩; (rw [q1]; exact ⟨_, c3⟩); exact ⟨_, q2⟩
    | put d0 c1 c2 c3 => rcases sit_at hd' with ⟨q1, q2⟩ | ⟨q1, q2⟩; (rw [q1]; exact ⟨_, c3⟩); exact ⟨_, q2⟩
    | drop d0 c1 c2 c3 => rcases sit_at hd' with ⟨q1, q2⟩ | ⟨q1, q2⟩; (rw [q1]; exact ⟨_, c3⟩); exact ⟨_, q2⟩
    | list d0 c1 c2 c3 => rcases sit_at hd' with ⟨q1, q2⟩ | ⟨q1, q2⟩; (rw [q1]; exact ⟨_, c3⟩); exact ⟨_, q2⟩
    | commit d0 c1 c2 c3 =>
      simp only [upd_at] at hd'
      split at hd'
      · cases hd'
      · exact ⟨_, hd'⟩
    | tear d0 c1 c2 c3 => cases hd'
    | abort d0 c1 c2 c3 => rcases sit_at hd' with ⟨q1, q2⟩ | ⟨q1, q2⟩; (cases q2); exact ⟨_, q2⟩
  obtain ⟨d, hd⟩ := hold
  obtain ⟨e1, e2, e3, e4⟩ := hdo_sees hi x hd hd'
  have hw : d'.ws = d.ws := by
    rcases e4 with q | ⟨q1, q2, q3⟩ | ⟨q1, q2, q3⟩
    · exact q
    · rcases hx with hx | hx
      · have h5 : s < 5 := by
          rcases Nat.lt_or_ge s 5 with r | r
          · exact r
          · rw [hi.five s r] at hd; cases hd
        have hc := (HKind.put (h := h) (x := x) d q2 ⟨by omega, by omega⟩ (by rw [q1, Int.toNat_natCast]; exact hd)).eq.2
        rw [hc] at hx
        rw [q3]
        unfold dpw
        exact if_neg hx
      · exact absurd q2 hx.2.1
    · rcases hx with hx | hx
      · have h5 : s < 5 := by
          rcases Nat.lt_or_ge s 5 with r | r
          · exact r
          · rw [hi.five s r] at hd; cases hd
        have hc := (HKind.drop (h := h) (x := x) d q2 ⟨by omega, by omega⟩ (by rw [q1, Int.toNat_natCast]; exact hd)).eq.2
        rw [hc] at hx
        rw [q3]
        unfold dpw
        exact if_neg hx
      · exact absurd q2 hx.2.2
  have : hsee (hdo h x) d' = hsee h d := by unfold hsee; rw [e1, e3, hw]
  rw [this]
  exact hs s d hd k hk
/-- A deed began: its world is what all keys have behind its commit. -/
theorem Shot.began {h : HSt} {u : Nat → Nat → Ver} (hs : Shot h u) (hi : HInv h) (x : HStep) (hx : x.d = 1) (hc : (hev h x).c = 0) : ∃ (s : Nat) (d : Dp), s < 5 ∧ x.s = (s : Int) ∧ (hdo h x).seat s = some d ∧ fmx (hdo h x).f 8 ≤ d.y ∧ d.y ≤ (hdo h x).n ∧ Shot (hdo h x) (upd u s (shw (hdo h x).f (hdo h x).n d.y 8)) := by
  have hkd := hkind h x
  have hi2 := hi.step x
  have hsees := @hdo_sees h hi x
  generalize hdo h x = h2 at *
  generalize hev h x = e at *
  have bad : ∀ {c : Int}, (evc c).c = c := rfl
  cases hkd with
  | kind c => omega
  | clear c => omega
  | crash c => omega
  | range c1 c2 => exact absurd hc (by simp [evc])
  | began c1 c2 c3 c4 =>
    refine ⟨x.s.toNat, ⟨x.md, bat h.n x.md x.at_, [], []⟩, by omega, by omega, by simp [sit, upd], ?_⟩
    have hse : (sit h x.s (some ⟨x.md, bat h.n x.md x.at_, [], []⟩)).seat x.s.toNat = some ⟨x.md, bat h.n x.md x.at_, [], []⟩ := by simp [sit, upd]
    obtain ⟨k1, k2⟩ := hi2.known _ _ hse
    refine ⟨k1, k2, fun s d' hd' k hk => ?_⟩
    by_cases e : s = x.s.toNat
    · rw [e] at hd' ⊢
      rw [hse] at hd'
      cases hd'
      rw [upd_same]
      unfold hsee
      rw [lay_nil]
      exact ⟨rfl, rfl⟩
    · rw [upd_other _ _ _ e]
      have hd : h.seat s = some d' := by
        simp only [sit, upd_other _ _ _ e] at hd'
        exact hd'
      exact hs s d' hd k hk
  | beganNot c1 c2 c3 c4 => exact absurd hc c4
  | none_ c1 c2 c3 => omega
  | there d0 c1 c2 c3 => exact absurd hc (by simp [evc])
  | get d0 c1 c2 c3 => omega
  | put d0 c1 c2 c3 => omega
  | drop d0 c1 c2 c3 => omega
  | list d0 c1 c2 c3 => omega
  | commit d0 c1 c2 c3 => omega
  | tear d0 c1 c2 c3 => omega
  | abort d0 c1 c2 c3 => omega
/-- A deed wrote: its world has what it wrote. -/
theorem Shot.wrote {h : HSt} {u : Nat → Nat → Ver} (hs : Shot h u) (x : HStep) {s : Nat} {d : Dp} (h5 : s < 5) (hxs : x.s = (s : Int)) (hd : h.seat s = some d) {t : Bool} {b : ByteArray} (hx : (x.d = 3 ∧ t = true ∧ b = x.b) ∨ (x.d = 4 ∧ t = false ∧ b = ⟨#[]⟩)) (hc : (hev h x).c = 0) : ∃ j : Nat, j < 8 ∧ x.key = (j : Int) ∧ Shot (hdo h x) (upd u s (upd (u s) j ⟨0, t, b⟩)) := by
  have hst : h.seat x.s.toNat = some d := by rw [hxs, Int.toNat_natCast]; exact hd
  have key : hdo h x = sit h x.s (some { d with ws := dpw d.md d.ws x.key t b }) ∧ (hev h x).c = dpc d.md x.key t b := by
    rcases hx with ⟨q1, rfl, rfl⟩ | ⟨q1, rfl, rfl⟩
    · have := (HKind.put (h := h) (x := x) d q1 ⟨by omega, by omega⟩ hst).eq
      exact ⟨this.1, by rw [this.2]; rfl⟩
    · have := (HKind.drop (h := h) (x := x) d q1 ⟨by omega, by omega⟩ hst).eq
      exact ⟨this.1, by rw [this.2]; rfl⟩
  rw [key.2] at hc
  obtain ⟨j, hj, ek⟩ := dpc_key' hc
  refine ⟨j, hj, ek, fun s' d' hd' k hk => ?_⟩
  rw [key.1] at hd' ⊢
  by_cases e : s' = s
  · subst e
    have : d' = { d with ws := dpw d.md d.ws x.key t b } := by
      simp only [sit, hxs, Int.toNat_natCast, upd_same, Option.some.injEq] at hd'
      exact hd'.symm
    subst this
    have hw : dpw d.md d.ws x.key t b = d.ws ++ [⟨(j : Int), t, b⟩] := by unfold dpw; rw [if_pos hc, ek]
    have h0 := hs s' d hd k hk
    rw [upd_same]
    unfold hsee at h0 ⊢
    simp only [sit]
    rw [hw, lay_put]
    by_cases ek2 : k = j
    · subst ek2; rw [upd_same, upd_same]; exact ⟨rfl, rfl⟩
    · rw [upd_other _ _ _ ek2, upd_other _ _ _ ek2]; exact h0
  · rw [upd_other _ _ _ e]
    have hd2 : h.seat s' = some d' := by
      simp only [sit, hxs, Int.toNat_natCast, upd_other _ _ _ e] at hd'
      exact hd'
    exact hs s' d' hd2 k hk
/-- A deed read: it tells what its world has. -/
theorem Shot.got {h : HSt} {u : Nat → Nat → Ver} (hs : Shot h u) (hi : HInv h) (x : HStep) {s : Nat} {d : Dp} (h5 : s < 5) (hxs : x.s = (s : Int)) (hd : h.seat s = some d) (hx : x.d = 2) (hc : (hev h x).c = 0) : ∃ j : Nat, j < 8 ∧ x.key = (j : Int) ∧ (hev h x).t = (u s j).t ∧ (hev h x).s = (u s j).s := by
  have hst : h.seat x.s.toNat = some d := by rw [hxs, Int.toNat_natCast]; exact hd
  have key := (HKind.get (h := h) (x := x) d hx ⟨by omega, by omega⟩ hst).eq.2
  rw [key] at hc ⊢
  dsimp only at hc ⊢
  have hk : keyB x.key = true := by
    cases q : keyB x.key with
    | true => rfl
    | false => unfold dg at hc; rw [q] at hc; simp at hc
  simp only [keyB, decide_eq_true_eq] at hk
  obtain ⟨j, hj⟩ : ∃ j : Nat, x.key = (j : Int) := ⟨x.key.toNat, by omega⟩
  have hj8 : j < 8 := by omega
  refine ⟨j, hj8, hj, ?_⟩
  rw [hj, dg_see hi hd hj8]
  obtain ⟨e1, e2⟩ := hs s d hd j hj8
  exact ⟨e1.symm, e2.symm⟩
theorem Shot.listed {h : HSt} {u : Nat → Nat → Ver} (hs : Shot h u) (hi : HInv h) (x : HStep) {s : Nat} {d : Dp} (h5 : s < 5) (hxs : x.s = (s : Int)) (hd : h.seat s = some d) (hx : x.d = 5) (hc : (hev h x).c = 0) : (hev h x).l = wl (u s) x.key x.to_ 8 := by
  have hst : h.seat x.s.toNat = some d := by rw [hxs, Int.toNat_natCast]; exact hd
  have key := (HKind.list (h := h) (x := x) d hx ⟨by omega, by omega⟩ hst).eq.2
  rw [key] at hc ⊢
  dsimp only at hc ⊢
  exact dls_wl (fun k hk => by rw [dg_see hi hd hk, (hs s d hd k hk).1, (hs s d hd k hk).2]) hc
end Go.Proofs.Ytehhpmfeaeabgac

/- Plain words for halls: first come. -/
namespace Go.Proofs.Ytehhpmfeaeabgac
open Go.RowKit
set_option maxRecDepth 20000

theorem wk_isSome (ws : List Ver) : ∀ m, ∀ q ∈ wk ws m, ∃ k : Nat, k < m ∧ q.a = (k : Int) ∧ (lwr ws k).isSome = true := by
  intro m
  induction m with
  | zero => intro q hq; simp [wk] at hq
  | succ m ih =>
    intro q hq
    simp only [wk] at hq
    split at hq
    · rename_i v hv
      rcases List.mem_append.1 hq with e | e
      · obtain ⟨k, h1, h2, h3⟩ := ih q e
        exact ⟨k, by omega, h2, h3⟩
      · rw [List.mem_singleton.1 e]
        exact ⟨m, by omega, rfl, by rw [hv]; rfl⟩
    · obtain ⟨k, h1, h2, h3⟩ := ih q hq
      exact ⟨k, by omega, h2, h3⟩
/-- A step makes no commit, or it is a deed that is done. -/
theorem hdo_first {h : HSt} (hi : HInv h) (x : HStep) : ((hdo h x).n = h.n ∧ (hdo h x).cs = h.cs) ∨
    ∃ (s : Nat) (d : Dp), s < 5 ∧ x.s = (s : Int) ∧ h.seat s = some d ∧ (x.d = 6 ∨ x.d = 10) ∧ (hdo h x).n = h.n + 1 ∧ (hev h x).n = (h.n : Int) + 1 ∧ (hdo h x).cs = h.cs ++ [wk d.ws 8] ∧ dm h.f d.md d.y d.rs d.ws = 0 := by
  have hkd := hkind h x
  generalize hdo h x = h2 at *
  generalize hev h x = e at *
  cases hkd with
  | kind c => exact .inl ⟨rfl, rfl⟩
  | clear c => exact .inl ⟨rfl, rfl⟩
  | crash c => exact .inl ⟨hi.vi.len.symm, rfl⟩
  | range c1 c2 => exact .inl ⟨rfl, rfl⟩
  | began c1 c2 c3 c4 => exact .inl ⟨rfl, rfl⟩
  | beganNot c1 c2 c3 c4 => exact .inl ⟨rfl, rfl⟩
  | none_ c1 c2 c3 => exact .inl ⟨rfl, rfl⟩
  | there d0 c1 c2 c3 => exact .inl ⟨rfl, rfl⟩
  | get d0 c1 c2 c3 => exact .inl ⟨rfl, rfl⟩
  | put d0 c1 c2 c3 => exact .inl ⟨rfl, rfl⟩
  | drop d0 c1 c2 c3 => exact .inl ⟨rfl, rfl⟩
  | list d0 c1 c2 c3 => exact .inl ⟨rfl, rfl⟩
  | commit d c1 c2 c3 =>
    cases hv : vdone h.f h.cs d.md d.y d.rs d.ws with
    | false =>
      obtain ⟨_, q2, q3, _⟩ := v_not (n := h.n) hv
      exact .inl ⟨q2, q3⟩
    | true =>
      obtain ⟨_, q2, q3, q4⟩ := v_did (n := h.n) hv
      refine .inr ⟨x.s.toNat, d, by omega, by omega, c3, .inl c1, q2, q4, q3, ?_⟩
      unfold vdone at hv
      simp at hv
      exact hv.1
  | tear d c1 c2 c3 =>
    rcases tcs_cases (f := h.f) (cs := h.cs) (md := d.md) (y := d.y) (rs := d.rs) (ws := d.ws) (keep := x.keep) with q | ⟨q, _, q3, _⟩
    · exact .inl ⟨by show (tcs h.f h.cs d.md d.y d.rs d.ws x.keep).length = h.n; rw [q]; exact hi.vi.len.symm, q⟩
    · refine .inr ⟨x.s.toNat, d, by omega, by omega, c3, .inr c1, ?_, ?_, q, q3⟩
      · show (tcs h.f h.cs d.md d.y d.rs d.ws x.keep).length = h.n + 1
        rw [q, hi.vi.len]; simp
      · show tnum h.f h.cs d.md d.y d.rs d.ws x.keep = (h.n : Int) + 1
        rw [tnum_more q, hi.vi.len]
  | abort d0 c1 c2 c3 => exact .inl ⟨rfl, rfl⟩
/-- The keys of a commit. -/
def kys (c : List Ver) : List Int := c.map (·.a)
/-- Nobody's write is lost unseen. -/
theorem first_keys {h : HSt} (hi : HInv h) {d : Dp} (hd : dm h.f d.md d.y d.rs d.ws = 0) {i : Nat} {c : List Ver} (hc : h.cs[i]? = some c) (hy : d.y < (i : Int) + 1) {z : Int} (hz : z ∈ kys (wk d.ws 8)) : z ∉ kys c := by
  intro hm
  obtain ⟨q, hq, rfl⟩ := List.mem_map.1 hz
  obtain ⟨k, hk, e, hs⟩ := wk_isSome d.ws 8 q hq
  obtain ⟨p, hp, e2⟩ := List.mem_map.1 hm
  exact first_come hi hd hc hy hk hs ⟨p, hp, by rw [← e]; exact e2⟩
end Go.Proofs.Ytehhpmfeaeabgac

/- A value that came in, opened. -/
namespace Go.Proofs.Ytehhpmfeaeabgac
open Go.ChangeShapes Go.WideShapes Go.ChangeAt Go.RowKit
set_option maxRecDepth 20000

theorem Try.cells31 : Try.prog.cellsOf 31 = 2 := by kernel_rfl
theorem Try.cells3 : Try.prog.cellsOf 3 = 1 := by kernel_rfl
theorem Try.cells4 : Try.prog.cellsOf 4 = 1 := by kernel_rfl
theorem Try.cells9 : Try.prog.cellsOf 9 = 1 := by kernel_rfl

theorem value_of {H : Type} {enc : TypeId × Value → H} {W : World} {m : Nat} {cs : List Value} {x : DataW H × List MemPlace}
    (h : DataW.trod enc Try.prog W 0 (fun _ => true) true m 31 cs = some x) : ∃ t s, cs = [.bool t, .string s] ∧ s.size ≤ maxLen := by
  obtain ⟨y0, y1, n, _, hl, h0, h1⟩ := trod_struct2 Try.underlying31 h
  rw [Try.cells31] at hl
  match cs, hl with
  | [c0, c1], _ =>
    simp only [Try.cells4, Try.cells9] at h0 h1
    obtain ⟨t, e0, _⟩ := DataW.trod_bool Try.underlying4 h0
    obtain ⟨s, e1, _, hs⟩ := DataW.trod_string Try.underlying9 h1
    simp at e0 e1
    exact ⟨t, s, by rw [e0, e1], hs⟩

end Go.Proofs.Ytehhpmfeaeabgac

/- Pairs that came in, opened. -/
namespace Go.Proofs.Ytehhpmfeaeabgac
open Go.ChangeShapes Go.WideShapes Go.ChangeAt Go.RowKit
set_option maxRecDepth 20000

theorem Try.cells79 : Try.prog.cellsOf 79 = 3 := by kernel_rfl
theorem Try.cells32 : Try.prog.cellsOf 32 = 1 := by kernel_rfl

theorem pair_of {H : Type} {enc : TypeId × Value → H} {W : World} {m : Nat} {cs : List Value} {x : DataW H × List MemPlace}
    (h : DataW.trod enc Try.prog W 0 (fun _ => true) true m 79 cs = some x) : ∃ v : Ver, cs = [.int .i64 v.a, .bool v.t, .string v.s] ∧ v.s.size ≤ maxLen := by
  obtain ⟨y0, y1, n, _, hl, h0, h1⟩ := trod_struct2 Try.underlying79 h
  rw [Try.cells79] at hl
  match cs, hl with
  | [c0, c1, c2], _ =>
    simp only [Try.cells3, Try.cells31] at h0 h1
    obtain ⟨k, e0, _⟩ := DataW.trod_int Try.underlying3 h0
    obtain ⟨t, s, e1, hs⟩ := value_of h1
    simp at e0 e1
    exact ⟨⟨k, t, s⟩, by rw [e0, e1.1, e1.2], hs⟩

theorem vers_of (n : Nat) (g : Nat → Ver) : ∃ ps : List Ver, ps.length = n ∧ ∀ i, i < n → va ps i = (g i).a ∧ vt ps i = (g i).t ∧ vb ps i = (g i).s := by
  refine ⟨(List.range n).map g, by simp, fun i hi => ?_⟩
  simp [va, vt, vb, List.getD_eq_getElem?_getD, hi]

theorem sla_of {W : World} {b o : Nat} {ps : List Ver} (h : ∀ i, i < ps.length → W.cell? ⟨b, o + i * 3, none⟩ = some (.int .i64 (va ps i)) ∧ W.cell? ⟨b, o + i * 3 + 1, none⟩ = some (.bool (vt ps i)) ∧ W.cell? ⟨b, o + i * 3 + 2, none⟩ = some (.string (vb ps i))) : SlA W b o ps := by
  intro j u hu
  have hj : j < ps.length * 3 := by rw [← vcells_length]; exact (List.getElem?_eq_some_iff.1 hu).1
  obtain ⟨q0, q1, q2⟩ := vcells_at ps (j / 3) (by omega)
  obtain ⟨r0, r1, r2⟩ := h (j / 3) (by omega)
  have hc : j = j / 3 * 3 ∨ j = j / 3 * 3 + 1 ∨ j = j / 3 * 3 + 2 := by omega
  rcases hc with e | e | e
  · rw [e] at hu; rw [e]; rw [q0] at hu; rw [r0]; exact hu
  · rw [e] at hu; rw [e]; rw [q1] at hu; rw [← Nat.add_assoc, r1]; exact hu
  · rw [e] at hu; rw [e]; rw [q2] at hu; rw [← Nat.add_assoc, r2]; exact hu

theorem prs_of {H : Type} {enc : TypeId × Value → H} {W : World} {fuel : Nat} {v : Value} {x : DataW H × List MemPlace}
    (h : DataW.trod enc Try.prog W 0 (fun _ => true) true fuel 32 [v] = some x) : ∃ a c ps, v = .slice a (List.length ps) c ∧ Prs W a ps := by
  rcases Deep.open_slice Try.underlying32 h with ⟨hcs, _⟩ | ⟨ad, len, cap, m, k, D, Pl, hcs, _, hl, hm, hmm, _, hx⟩
  · simp at hcs
    exact ⟨none, 0, [], by rw [hcs]; rfl, by simp [maxLen], fun k hk => by simp at hk, fun hp => by simp at hp⟩
  · simp at hcs
    simp only [if_true] at hmm
    subst hmm
    rw [Try.cells79] at hx
    have key : ∀ i, i < len → ∃ u : Ver, W.cell? (ad.add (i * 3)) = some (.int .i64 u.a) ∧ W.cell? (ad.add (i * 3 + 1)) = some (.bool u.t) ∧ W.cell? (ad.add (i * 3 + 2)) = some (.string u.s) ∧ u.s.size ≤ maxLen := by
      intro i hi
      obtain ⟨cs, h1, h2⟩ := hx i (by omega)
      obtain ⟨u, rfl, hs⟩ := pair_of h2
      obtain ⟨_, _, hc⟩ := World.cells?_some h1
      have q0 := hc 0 (by omega)
      have q1 := hc 1 (by omega)
      have q2 := hc 2 (by omega)
      rw [Deep.add_add] at q0 q1 q2
      exact ⟨u, by simpa using q0, by simpa using q1, by simpa using q2, hs⟩
    obtain ⟨g, hg⟩ := @Deep.choose_lt Ver ⟨dv⟩ len _ key
    obtain ⟨ps, hlen, hps⟩ := vers_of len g
    refine ⟨some ad, m, ps, by rw [hcs, hlen], by omega, fun i hi => ?_, fun hp => ?_⟩
    · rw [(hps i (by omega)).2.2]; exact (hg i (by omega)).2.2.2
    · obtain ⟨b, o, sp⟩ := ad
      have hsp : sp = none := by
        have := (hg 0 (by omega)).1
        simpa [Addr.add] using World.cell?_spot this
      subst hsp
      refine ⟨b, o, rfl, sla_of (fun i hi => ?_)⟩
      obtain ⟨q0, q1, q2, _⟩ := hg i (by omega)
      obtain ⟨e0, e1, e2⟩ := hps i (by omega)
      rw [addr_add] at q0 q1 q2
      rw [e0, e1, e2]
      exact ⟨q0, q1, q2⟩

theorem prs_of_trod {H : Type} {enc : TypeId × Value → H} {W : World} {a : Option Addr} {n c : Nat} {d : DataW H} {p : List MemPlace}
    (h : DataW.Trod enc Try.prog W 0 (fun _ => true) true 32 (.slice a n c) d p) : ∃ ps, n = List.length ps ∧ Prs W a ps := by
  obtain ⟨fuel, hf⟩ := h
  obtain ⟨a', c', ps, e, hp⟩ := prs_of (by simpa [Value.cells] using hf)
  simp only [Value.slice.injEq] at e
  obtain ⟨rfl, e2, rfl⟩ := e
  exact ⟨ps, e2, hp⟩
end Go.Proofs.Ytehhpmfeaeabgac

/- Steps of a hall that came in, opened: what the walks are told of them. -/
namespace Go.Proofs.Ytehhpmfeaeabgac
open Go.ChangeShapes Go.WideShapes Go.ChangeAt Go.RowKit
set_option maxRecDepth 20000

theorem Try.cells37 : Try.prog.cellsOf 37 = 8 := by kernel_rfl

theorem trod_struct8 {H : Type} {enc : TypeId × Value → H} {W : World} {t : TypeId} {f0 f1 f2 f3 f4 f5 f6 f7 : Field} {fuel : Nat} {cs : List Value} {x : DataW H × List MemPlace} (ht : Try.prog.underlying t = some (.struct #[f0, f1, f2, f3, f4, f5, f6, f7])) (h : DataW.trod enc Try.prog W 0 (fun _ => true) true fuel t cs = some x) :
    ∃ y0 y1 y2 y3 y4 y5 y6 y7 n, cs.length = Try.prog.cellsOf t ∧ DataW.trod enc Try.prog W 0 (fun _ => true) true n f0.type ((cs.drop f0.offset).take (Try.prog.cellsOf f0.type)) = some y0 ∧ DataW.trod enc Try.prog W 0 (fun _ => true) true n f1.type ((cs.drop f1.offset).take (Try.prog.cellsOf f1.type)) = some y1 ∧ DataW.trod enc Try.prog W 0 (fun _ => true) true n f2.type ((cs.drop f2.offset).take (Try.prog.cellsOf f2.type)) = some y2 ∧ DataW.trod enc Try.prog W 0 (fun _ => true) true n f3.type ((cs.drop f3.offset).take (Try.prog.cellsOf f3.type)) = some y3 ∧ DataW.trod enc Try.prog W 0 (fun _ => true) true n f4.type ((cs.drop f4.offset).take (Try.prog.cellsOf f4.type)) = some y4 ∧ DataW.trod enc Try.prog W 0 (fun _ => true) true n f5.type ((cs.drop f5.offset).take (Try.prog.cellsOf f5.type)) = some y5 ∧ DataW.trod enc Try.prog W 0 (fun _ => true) true n f6.type ((cs.drop f6.offset).take (Try.prog.cellsOf f6.type)) = some y6 ∧ DataW.trod enc Try.prog W 0 (fun _ => true) true n f7.type ((cs.drop f7.offset).take (Try.prog.cellsOf f7.type)) = some y7 := by
  obtain ⟨xs, n, _, rfl, hl, hlen, hf⟩ := DataW.trod_struct ht h
  match xs, hlen with
  | [y0, y1, y2, y3, y4, y5, y6, y7], _ => exact ⟨y0, y1, y2, y3, y4, y5, y6, y7, n, hl, by simpa using hf 0 f0 rfl, by simpa using hf 1 f1 rfl, by simpa using hf 2 f2 rfl, by simpa using hf 3 f3 rfl, by simpa using hf 4 f4 rfl, by simpa using hf 5 f5 rfl, by simpa using hf 6 f6 rfl, by simpa using hf 7 f7 rfl⟩

theorem hxstep_of {H : Type} {enc : TypeId × Value → H} {W : World} {m : Nat} {cs : List Value} {x : DataW H × List MemPlace}
    (h : DataW.trod enc Try.prog W 0 (fun _ => true) true m 37 cs = some x) : ∃ st : HStep, cs = [.int .i64 st.d, .int .i64 st.s, .int .i64 st.md, .int .i64 st.at_, .int .i64 st.key, .int .i64 st.to_, .int .i64 st.keep, .string st.b] ∧ st.b.size ≤ maxLen := by
  obtain ⟨y0, y1, y2, y3, y4, y5, y6, y7, n, hl, h0, h1, h2, h3, h4, h5, h6, h7⟩ := trod_struct8 Try.underlying37 h
  rw [Try.cells37] at hl
  match cs, hl with
  | [c0, c1, c2, c3, c4, c5, c6, c7], _ =>
    simp only [Try.cells3, Try.cells9] at h0 h1 h2 h3 h4 h5 h6 h7
    obtain ⟨d, e0, _⟩ := DataW.trod_int Try.underlying3 h0
    obtain ⟨s, e1, _⟩ := DataW.trod_int Try.underlying3 h1
    obtain ⟨md, e2, _⟩ := DataW.trod_int Try.underlying3 h2
    obtain ⟨at_, e3, _⟩ := DataW.trod_int Try.underlying3 h3
    obtain ⟨key, e4, _⟩ := DataW.trod_int Try.underlying3 h4
    obtain ⟨to_, e5, _⟩ := DataW.trod_int Try.underlying3 h5
    obtain ⟨keep, e6, _⟩ := DataW.trod_int Try.underlying3 h6
    obtain ⟨b, e7, _, hs⟩ := DataW.trod_string Try.underlying9 h7
    simp at e0 e1 e2 e3 e4 e5 e6 e7
    exact ⟨⟨d, s, md, at_, key, to_, keep, b⟩, by rw [e0, e1, e2, e3, e4, e5, e6, e7], hs⟩

theorem hsts_of {H : Type} {enc : TypeId × Value → H} {W : World} {a : Option Addr} {n c : Nat} {d : DataW H} {p : List MemPlace}
    (h : DataW.Trod enc Try.prog W 0 (fun _ => true) true 22 (.slice a n c) d p) : ∃ st, HSts W a n st := by
  obtain ⟨fuel, hf⟩ := h
  rcases Deep.open_slice Try.underlying22 hf with ⟨hcs, _⟩ | ⟨ad, len, cap, m, k, D, Pl, hcs, _, hl, hm, hmm, _, hx⟩
  · simp [Value.cells] at hcs
    obtain ⟨rfl, rfl, rfl⟩ := hcs
    exact ⟨fun _ => ⟨0, 0, 0, 0, 0, 0, 0, ByteArray.empty⟩, by simp, fun h => by omega⟩
  · simp [Value.cells] at hcs
    obtain ⟨rfl, rfl, rfl⟩ := hcs
    simp only [if_true] at hmm
    subst hmm
    rw [Try.cells37] at hx
    have key : ∀ i, i < n → ∃ st : HStep, W.cell? (ad.add (i * 8)) = some (.int .i64 st.d) ∧ W.cell? (ad.add (i * 8 + 1)) = some (.int .i64 st.s) ∧ W.cell? (ad.add (i * 8 + 2)) = some (.int .i64 st.md) ∧ W.cell? (ad.add (i * 8 + 3)) = some (.int .i64 st.at_) ∧ W.cell? (ad.add (i * 8 + 4)) = some (.int .i64 st.key) ∧ W.cell? (ad.add (i * 8 + 5)) = some (.int .i64 st.to_) ∧ W.cell? (ad.add (i * 8 + 6)) = some (.int .i64 st.keep) ∧ W.cell? (ad.add (i * 8 + 7)) = some (.string st.b) ∧ st.b.size ≤ maxLen := by
      intro i hi
      obtain ⟨cs, h1, h2⟩ := hx i (by omega)
      obtain ⟨st, rfl, hz⟩ := hxstep_of h2
      obtain ⟨_, _, hc⟩ := World.cells?_some h1
      have q0 := hc 0 (by omega)
      have q1 := hc 1 (by omega)
      have q2 := hc 2 (by omega)
      have q3 := hc 3 (by omega)
      have q4 := hc 4 (by omega)
      have q5 := hc 5 (by omega)
      have q6 := hc 6 (by omega)
      have q7 := hc 7 (by omega)
      rw [Deep.add_add] at q0 q1 q2 q3 q4 q5 q6 q7
      exact ⟨st, by simpa using q0, by simpa using q1, by simpa using q2, by simpa using q3, by simpa using q4, by simpa using q5, by simpa using q6, by simpa using q7, hz⟩
    obtain ⟨st, hst⟩ := @Deep.choose_lt HStep ⟨⟨0, 0, 0, 0, 0, 0, 0, ByteArray.empty⟩⟩ n _ key
    refine ⟨st, by omega, fun h0 => ?_⟩
    obtain ⟨b, o, sp⟩ := ad
    have hsp : sp = none := by
      have := (hst 0 h0).1
      simpa [Addr.add] using World.cell?_spot this
    subst hsp
    refine ⟨b, o, rfl, fun i hi => ?_⟩
    obtain ⟨q0, q1, q2, q3, q4, q5, q6, q7, q8⟩ := hst i hi
    rw [addr_add] at q0 q1 q2 q3 q4 q5 q6 q7
    exact ⟨q0, q1, q2, q3, q4, q5, q6, q7, q8⟩
end Go.Proofs.Ytehhpmfeaeabgac

/- Rows of all keys' values: append onto them, and one of them read; beside a vault. -/
namespace Go.Proofs.Ytehhpmfeaeabgac
open Go.RowKit
set_option maxRecDepth 20000

def wcs (us : List (Nat → Ver)) : List Value := us.flatMap fun u => (wagg u).toList
theorem wagg_len (u : Nat → Ver) : (wagg u).toList.length = 16 := rfl
theorem wcs_append (us : List (Nat → Ver)) (u : Nat → Ver) : wcs (us ++ [u]) = wcs us ++ (wagg u).toList := by simp [wcs]
theorem wcs_cons (us : List (Nat → Ver)) (u : Nat → Ver) : wcs (u :: us) = (wagg u).toList ++ wcs us := by simp [wcs]
theorem wcs_len (us : List (Nat → Ver)) : (wcs us).length = us.length * 16 := by
  induction us with
  | nil => rfl
  | cons x r ih => rw [wcs_cons, List.length_append, wagg_len, ih, List.length_cons]; omega
theorem wcs_at {us : List (Nat → Ver)} {u : Nat → Ver} {j : Nat} (hj : j < 16) : ∀ {i : Nat}, us[i]? = some u → (wcs us)[i * 16 + j]? = (wagg u).toList[j]? := by
  induction us with
  | nil => intro i h; simp at h
  | cons x r ih =>
    intro i h
    rw [wcs_cons]
    cases i with
    | zero =>
      simp only [List.getElem?_cons_zero, Option.some.injEq] at h
      subst h
      rw [List.getElem?_append_left (by rw [wagg_len]; omega)]
      simp
    | succ i =>
      rw [List.getElem?_cons_succ] at h
      rw [List.getElem?_append_right (by rw [wagg_len]; omega), wagg_len, ← ih h]
      congr 1
      omega
/-- A row of all keys' values that a call owns. -/
def WsT (a : Option Addr) (cap : Nat) (us : List (Nat → Ver)) : Thing where
  holds B w F := w.ownsRow B 72 16 (.slice a us.length cap) us.length (wcs us) ∧ F = ob a
  kp := fun ⟨h1, h2⟩ hk hS => ⟨own_kp h1 hk (fun g hg => hS g (by rw [h2]; cases a with | none => simp [Value.ownBlock] at hg | some ad => simp [Value.ownBlock] at hg; simp [ob, hg])), h2⟩
  lo := fun ⟨h1, h2⟩ x hx => by
    subst h2
    rcases h1.2 with ⟨e, _⟩ | ⟨g, cap', cur, e, hB, hg, _⟩
    · simp only [Value.slice.injEq] at e; rw [e.1] at hx; simp [ob] at hx
    · simp only [Value.slice.injEq] at e; rw [e.1] at hx; simp [ob] at hx; have := lt_of_block hg; omega
  base := fun ⟨h1, h2⟩ hC => ⟨own_base h1 hC, h2⟩
theorem Try.info72 : (Try.prog.info? 72).map (fun i => (i.zero, i.size, i.bytes)) = some (some (.agg #[.bool false, .string ByteArray.empty, .bool false, .string ByteArray.empty, .bool false, .string ByteArray.empty, .bool false, .string ByteArray.empty, .bool false, .string ByteArray.empty, .bool false, .string ByteArray.empty, .bool false, .string ByteArray.empty, .bool false, .string ByteArray.empty]), 16, 192) := by kernel_rfl
section
variable {w0 w W w2 : World} {V : Thing} {r : List Thing} {a : Option Addr} {cap : Nat} {us : List (Nat → Ver)}
theorem ws_nil (hz : Zoo w0 w (V :: r)) : Zoo w0 w (V :: WsT none 0 [] :: r) := Zoo.put_ (l1 := [V]) hz (F := []) ⟨World.ownsRow_nil _ _ _ _, rfl⟩ (Kp.refl _ _)
theorem ws_own (hz : Zoo w0 w (V :: WsT a cap us :: r)) : w.ownsRow w0.heap.size 72 16 (.slice a us.length cap) us.length (wcs us) := by
  obtain ⟨F, h1, _⟩ := zoo_at1 hz
  exact h1.1
theorem ws_app {g2 cap2 : Nat} {u : Nat → Ver} (hz : Zoo w0 W (V :: WsT a cap us :: r)) (hown : w2.ownsRow w0.heap.size 72 16 (.slice (some ⟨g2, 0, none⟩) (us.length + 1) cap2) (us.length + 1) (wcs us ++ (wagg u).toList)) (hgrow : W.grownBy w2 (Value.slice a us.length cap).ownBlock) (hat : (Value.slice a us.length cap).ownBlock = some g2 ∨ g2 = W.heap.size) :
    Zoo w0 w2 (V :: WsT (some ⟨g2, 0, none⟩) cap2 (us ++ [u]) :: r) := by
  obtain ⟨F, ⟨h1, h2⟩, k2⟩ := zoo_at1 hz
  refine k2 _ _ ⟨[g2], ⟨by rw [wcs_append]; simpa using hown, rfl⟩, (Kp.refl F W).grown hgrow (fun g hg => .inl ?_), fun x hx => ?_⟩
  · rw [h2]
    cases a with
    | none => simp [Value.ownBlock] at hg
    | some ad => simp [Value.ownBlock] at hg; simp [ob, hg]
  · have e : x = g2 := by simpa using hx
    subst e
    rcases hat with e | e
    · left
      rw [h2]
      cases a with
      | none => simp [Value.ownBlock] at e
      | some ad => simp [Value.ownBlock] at e; simp [ob, e]
    · right; omega
theorem ws_range {i : Nat} {u : Nat → Ver} (hz : Zoo w0 w (V :: WsT a cap us :: r)) (hi : us[i]? = some u) : ∃ g, a = some ⟨g, 0, none⟩ ∧ w.rangeAt g (i * 16) (wagg u).toList := by
  obtain ⟨F, ⟨h1, h2⟩, _⟩ := zoo_at1 hz
  have hil := (List.getElem?_eq_some_iff.1 hi).1
  rcases h1.2 with ⟨e, e0⟩ | ⟨g, cap', cur, e, hB, hg, _, _, _, htk⟩
  · omega
  · simp only [Value.slice.injEq] at e
    refine ⟨g, e.1, fun j v hv => ?_⟩
    have hj : j < 16 := by have := (List.getElem?_eq_some_iff.1 hv).1; rw [wagg_len] at this; exact this
    refine cell_of_block hg ?_
    have h3 := wcs_at hj hi
    rw [hv, ← htk, List.getElem?_take, if_pos (by omega)] at h3
    simpa using h3
theorem ws_var {p : Nat} {u : Nat → Ver} (h : w.heap[p]? = some (.cells (wagg u) 72 (0, 0))) : w.rangeAt p 0 (wagg u).toList := fun j v hv => by
  rw [Nat.zero_add]
  exact cell_of_block h (by simpa using hv)
end
/-- All keys' values, loaded; told in full. -/
theorem wpList_load66x {ops : Array Oper} {rest : List Oper} {o : Oper} {a : Act} {w : World} {Q : Exit → Act → World → Prop} (hw : Region.wanted o (yielded ops a.tmps) = true) (x : Operand) (ho : o.op = .load 72 x)
    (g : Nat) (hx : a.eval x = .pointer (some ⟨g, 0, none⟩)) (v : Nat → Ver) (hg : w.heap[g]? = some (.cells (wagg v) 72 (0, 0))) (h : wpList Try.prog ops Q rest (a.put o.dst (.agg #[.bool (v 0).t, .string (v 0).s, .bool (v 1).t, .string (v 1).s, .bool (v 2).t, .string (v 2).s, .bool (v 3).t, .string (v 3).s, .bool (v 4).t, .string (v 4).s, .bool (v 5).t, .string (v 5).s, .bool (v 6).t, .string (v 6).s, .bool (v 7).t, .string (v 7).s])) w) : wpList Try.prog ops Q (o :: rest) a w :=
  wpList_load66 hw x ho g hx v hg h
theorem yields_mid {ops : Array Oper} {S : World → Prop} {op : Oper} {a : Act} (hw : Region.wanted op (yielded ops a.tmps) = true) (x : Operand) (ho : op.op = .load 72 x) (b o : Nat) (hx : a.eval x = .pointer (some ⟨b, o, none⟩)) (u : Nat → Ver) (hS : ∀ w, S w → w.rangeAt b o (wagg u).toList) : YieldsIf Try.prog ops S op (.agg (wagg u)) a := by
  have h := yieldsIf_load_mid (P := Try.prog) hw 72 x ho b o hx (wagg u).toList _ hS Try.underlying72 rfl Try.size72
  rw [Array.toArray_toList] at h
  exact h
/-- What is told of the commits that are known. -/
def wss (f : Nat → List Ver) (n m : Nat) (k : Nat) : List (Nat → Ver) := (List.range k).map fun i => shw f n ((m + i : Nat) : Int) 8
theorem wss_len (f : Nat → List Ver) (n m k : Nat) : (wss f n m k).length = k := by simp [wss]
theorem wss_succ (f : Nat → List Ver) (n m k : Nat) : wss f n m (k + 1) = wss f n m k ++ [shw f n ((m + k : Nat) : Int) 8] := by simp [wss, List.range_succ]
theorem wss_at {f : Nat → List Ver} {n m k i : Nat} (h : i < k) : (wss f n m k)[i]? = some (shw f n ((m + i : Nat) : Int) 8) := by simp [wss, h]
end Go.Proofs.Ytehhpmfeaeabgac

/- SamePairs of lists that may be others, by its contract. -/
namespace Go.Proofs.Ytehhpmfeaeabgac
open Go.RowKit
set_option maxRecDepth 20000
attribute [local go_sem ↓] Go.wp_at_zero Go.wp_at_succ

theorem Try.held79 : Try.prog.stoodInHeld 79 = false := by kernel_rfl
theorem toList_inj {s s' : ByteArray} (h : s.toList = s'.toList) : s = s' := by
  rw [ByteArray.toList_eq, ByteArray.toList_eq] at h
  exact ByteArray.ext (Array.toList_inj.1 h)
theorem eqPair (d : Nat) (x x' : Int) (t t' : Bool) (s s' : ByteArray) (hne : ¬ (x = x' ∧ t = t' ∧ s = s')) (W : World) :
    (Op.equalIn (d + 4) 79 (.agg #[.int .i64 x, .bool t, .string s]) (.agg #[.int .i64 x', .bool t', .string s'])).run Try.prog W = .ok false W := by
  have hu : Try.prog.underlying 79 = some (.struct (Try.prog.fieldsOf 79)) := by simp [Program.fieldsOf, Try.underlying79]
  rw [run_equalIn_struct W (d + 3) 79 _ _ hu Try.held79]
  simp [Program.fieldsOf, Try.underlying79, Op.eqFields, go_sem, Try.underlying4, Try.underlying9, Try.underlying31, Try.underlying3]
  intro e1 e2 e3
  exact hne ⟨e1, e2, toList_inj e3⟩
theorem neqPair (x x' : Int) (t t' : Bool) (s s' : ByteArray) (hne : ¬ (x = x' ∧ t = t' ∧ s = s')) (W : World) :
    (binOp .neq 79 (.agg #[.int .i64 x, .bool t, .string s]) (.agg #[.int .i64 x', .bool t', .string s'])).run Try.prog W = .ok (.bool true) W := by
  have h := eqPair 9996 x x' t t' s s' hne W
  simp only [binOp]
  simp [Op.equal, Op.maxDepth, h]

def SmEnd (vs us : List Ver) (w : World) (e : Ending) (w' : World) : Prop := ∃ q : Bool, e = .returned (.bool q) ∧ (q = true ↔ vs = us) ∧ ∃ m, w' = w.drewN m
theorem smEnd_mk {vs us : List Ver} {w : World} (q : Bool) (m : Nat) (h : q = true ↔ vs = us) : SmEnd vs us w (.returned (.bool q)) (w.drewN m) := ⟨q, rfl, h, m, rfl⟩

theorem ver_eta {vs : List Ver} {k : Nat} (h : k < vs.length) : vs[k]? = some ⟨va vs k, vt vs k, vb vs k⟩ := by
  rw [List.getElem?_eq_getElem h]
  simp [va, vt, vb, List.getD_eq_getElem?_getD, List.getElem?_eq_getElem h]
theorem vers_same {vs us : List Ver} (hl : vs.length = us.length) (h : ∀ k, k < vs.length → va vs k = va us k ∧ vt vs k = vt us k ∧ vb vs k = vb us k) : vs = us := by
  apply List.ext_getElem? 
  intro k
  by_cases hk : k < vs.length
  · obtain ⟨h1, h2, h3⟩ := h k hk
    rw [ver_eta hk, ver_eta (by omega), h1, h2, h3]
  · rw [List.getElem?_eq_none (by omega), List.getElem?_eq_none (by omega)]

set_option maxHeartbeats 1000000 in
theorem samep14 {vs us : List Ver} (a a' : Option Addr) (cap cap' : Nat) (w : World) (h : SlO w a vs) (h' : SlO w a' us) (hm : vs.length ≤ 1000) :
    Calls Try.prog 37 #[.slice a vs.length cap, .slice a' us.length cap'] w fun e w' => SmEnd vs us w e w' := by
  have HS := hide h
  have HS' := hide h'
  clear h h'
  by_cases hl : vs.length = us.length
  · have HL := hide hl
    have hl' : (vs.length : Int) = (us.length : Int) := by omega
    go_enter Try.func37, Try.ntmps37
    rw [← hl]
    clear hl hl'
    go_wp2_with fail
    go_loopw [5] (fun i wr => ∃ d m : Nat, d ≤ vs.length ∧ i = .int .i64 d ∧ wr = w.drewN m ∧ Hid (∀ k, k < d → va vs k = va us k ∧ vt vs k = vt us k ∧ vb vs k = vb us k)) (fun i _ => vs.length - (intOf i).toNat)
    case atStart => exact ⟨0, 0, Nat.zero_le _, rfl, rfl, fun k hk => by omega⟩
    case round =>
      obtain ⟨d, m, hd, rfl, rfl, HK⟩ := hrel
      by_cases hlt : d < vs.length
      · obtain ⟨g, o, rfl, hs⟩ := unhide HS (by omega)
        obtain ⟨g', o', rfl, hs'⟩ := unhide HS' (by have := unhide HL; omega)
        have q0 := hs.at0 d hlt
        have q1 := hs.at1 d hlt
        have q2 : w.cell? ⟨g, o + d * 3 + 1 + 1, none⟩ = some (.string (vb vs d)) := hs.at2 d hlt
        have p0 := hs'.at0 d (by have := unhide HL; omega)
        have p1 := hs'.at1 d (by have := unhide HL; omega)
        have p2 : w.cell? ⟨g', o' + d * 3 + 1 + 1, none⟩ = some (.string (vb us d)) := hs'.at2 d (by have := unhide HL; omega)
        have i0 : (0 : Int) ≤ (d : Int) := by omega
        have i1 : (d : Int) < (vs.length : Int) := by omega
        clear hs hs'
        by_cases e0 : va vs d = va us d ∧ vt vs d = vt us d ∧ vb vs d = vb us d
        · have HE : Hid (∀ k, k < d + 1 → va vs k = va us k ∧ vt vs k = vt us k ∧ vb vs k = vb us k) := fun k hk => by
            rcases Nat.lt_or_ge k d with e | e
            · exact unhide HK k e
            · have : k = d := by omega
              subst this; exact e0
          rw [← e0.1] at p0
          rw [← e0.2.1] at p1
          rw [← e0.2.2] at p2
          clear e0
          go_wp2_with fail
          go_quiet (fail)
          go_wp2
          exact ⟨⟨d + 1, m + nq, by omega, by go_num, rfl, HE⟩, by simp [intOf]; omega⟩
        · have HNE : Hid (¬ vs = us) := fun e => e0 (by rw [e]; exact ⟨rfl, rfl, rfl⟩)
          have hne := fun W => neqPair _ _ _ _ _ _ e0 W
          clear e0
          generalize va vs d = x at *
          generalize va us d = x' at *
          generalize vt vs d = t at *
          generalize vt us d = t' at *
          generalize vb vs d = s at *
          generalize vb us d = s' at *
          go_wp2_with fail
          go_quiet (fail)
          go_wp2
          go_ret
          exact ⟨false, rfl, ⟨fun h => by simp at h, fun h => absurd h (unhide HNE)⟩, m + nq, by simp⟩
      · go_wp2
        go_ret
        refine smEnd_mk _ _ ⟨fun _ => vers_same (unhide HL) (fun k hk => unhide HK k (by omega)), fun _ => rfl⟩
  · have hl' : ¬ (vs.length : Int) = (us.length : Int) := by omega
    have HL := hide hl
    go_enter Try.func37, Try.ntmps37
    go_wp2_with fail
    go_ret
    exact smEnd_mk false 0 ⟨fun h => by simp at h, fun h => absurd (by rw [h]) (unhide HL)⟩
end Go.Proofs.Ytehhpmfeaeabgac
