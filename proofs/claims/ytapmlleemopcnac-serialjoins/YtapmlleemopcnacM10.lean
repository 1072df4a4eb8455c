/- Bf, Bg, Sr, Bh, Bi, Bj, Bk, Wh5, OpenV, OpenP, OpenS: bound together for a claim. -/
import Derived.Test.YtapmlleemopcnacM9
import Derived.ProofKit
import Derived.Deep.Slices
import Derived.Deep.Strs
/- A book: a deed is over, by its contract. -/
namespace Go.Proofs.Ytapmlleemopcnac
open Go.RowKit
set_option maxRecDepth 20000
attribute [local go_sem ↓] Go.wp_at_zero Go.wp_at_succ

section
variable {w0 w W w' : World} {bb : Nat} {b : Bk} {st : Nat → Option Ob} {a : Option Addr} {c : Nat} {ys : List Dy} {r : List Thing}
/-- A seat's deed is let go. -/
theorem Book.drop (hz : Book w0 w bb st a c ys r) {j : Nat} (hj : j < 5) : Book w0 (w.setCell ⟨bb, j, none⟩ (.pointer none)) bb (upd st j none) a c ys r := by
  obtain ⟨l1, l2, e2, h1⟩ := hz.out hj
  have h2 := opn_none h1.tail
  refine Book.back (d := none) e2 ?_
  obtain ⟨F, ⟨hbx, q2, q3⟩, k2⟩ := zoo_at1 h2
  refine k2 _ _ ⟨F, ⟨?_, q2, q3⟩, ?_, fun x hx => .inl hx⟩
  · rw [heap_setCell_at _ _ hbx]
    have := bkc_set st a ys.length c hj none
    rw [← this]
    rfl
  · rw [q2]
    exact (Kp.refl [bb] _).setCell (.inl (by simp)) _
/-- A seat's deed apart, its number set. -/
structure Edn (w0 W : World) (bb : Nat) (st : Nat → Option Ob) (a : Option Addr) (c : Nat) (ys : List Dy) (r : List Thing) (j : Nat) (o : Ob) (num : Int) (l1 l2 : List Thing) : Prop where
  e2 : ∀ d, opns (upd st j d) = l1 ++ OpnT d :: l2
  zoo : Zoo w0 W (KwT 90 4 a ys.length c (dxcs (ys.map Dy.x)) :: BoxT o.b #[.int .i64 num, .int .i64 o.d.at_, .int .i64 o.d.md, .slice o.a o.ys.length o.c] 90 :: BoxT bb (bkc st a ys.length c) 172 :: ActT o.a o.c o.ys :: (ys.map dyT ++ (l1 ++ (l2 ++ r))))
theorem Edn.mk_ (hz : Book w0 W bb st a c ys r) {j : Nat} (hj : j < 5) {o : Ob} (ho : st j = some o) (num : Int) : ∃ l1 l2, Edn w0 (W.setCell ⟨o.b, 0, none⟩ (.int .i64 num)) bb st a c ys r j o num l1 l2 := by
  obtain ⟨l1, l2, e2, h1⟩ := hz.out hj
  rw [ho] at h1
  have h2 := opn_open h1
  obtain ⟨F, ⟨hbx, q2, q3⟩, k2⟩ := zoo_at0 h2
  have h3 := k2 (BoxT o.b #[.int .i64 num, .int .i64 o.d.at_, .int .i64 o.d.md, .slice o.a o.ys.length o.c] 90) (W.setCell ⟨o.b, 0, none⟩ (.int .i64 num)) ⟨F, ⟨by rw [heap_setCell_at _ _ hbx]; simp [obc], q2, q3⟩, by rw [q2]; exact (Kp.refl [o.b] _).setCell (.inl (by simp)) _, fun x hx => .inl hx⟩
  refine ⟨l1, l2, e2, h3.perm ?_⟩
  generalize (ys.map dyT ++ (l1 ++ (l2 ++ r))) = R
  generalize KwT 90 4 a ys.length c (dxcs (ys.map Dy.x)) = K
  generalize BoxT o.b #[.int .i64 num, .int .i64 o.d.at_, .int .i64 o.d.md, .slice o.a o.ys.length o.c] 90 = A
  generalize BoxT bb (bkc st a ys.length c) 172 = B
  generalize ActT o.a o.c o.ys = T
  exact ((List.Perm.cons _ ((List.Perm.cons _ (List.Perm.swap _ _ _)).trans (List.Perm.swap _ _ _))).trans (List.Perm.swap _ _ _)).trans (List.Perm.cons _ (List.Perm.cons _ (List.Perm.swap _ _ _)))
/-- The deed is one of those that were done. -/
def dy1 (o : Ob) (num : Int) : Dy := ⟨⟨⟨num, o.d.at_, o.d.md, o.d.acts⟩, o.a, o.c⟩, o.ys⟩
theorem Edn.fin {j : Nat} {o : Ob} {num : Int} {l1 l2 : List Thing} (h : Edn w0 W bb st a c ys r j o num l1 l2) (hj : j < 5) (_ho : st j = some o) (hoa : o.d.acts = o.ys.map Ax.x) {a2 : Option Addr} {c2 : Nat} {W2 : World}
    (g1 : KRow 90 4 w0.heap.size W2 a2 (ys.length + 1) c2 (dxcs (ys.map Dy.x) ++ [.int .i64 num, .int .i64 o.d.at_, .int .i64 o.d.md, .slice o.a o.ys.length o.c])) (g2 : Kp (ob a) w' W2) (g3 : ∀ x ∈ ob a2, x ∈ ob a ∨ w'.heap.size ≤ x) (hk : Kp [] W w') :
    Book w0 ((W2.setCell ⟨bb, 5, none⟩ (.slice a2 (ys.length + 1) c2)).setCell ⟨bb, j, none⟩ (.pointer none)) bb (upd st j none) a2 c2 (ys ++ [dy1 o num]) r := by
  have h1 := kw_app (l1 := []) (h.zoo.kp0 hk) g1 g2 g3
  have h2 := zoo_drop1 h1
  obtain ⟨F, ⟨hbx, q2, q3⟩, k2⟩ := zoo_at1 h2
  have e1 : (dxcs ((ys ++ [dy1 o num]).map Dy.x)) = dxcs (ys.map Dy.x) ++ [.int .i64 num, .int .i64 o.d.at_, .int .i64 o.d.md, .slice o.a o.ys.length o.c] := by
    rw [List.map_append, dxcs_app]
    have : (dy1 o num).x.d.acts.length = o.ys.length := by show o.d.acts.length = _; rw [hoa, List.length_map]
    simp [dxcs, dxc, dy1, hoa]
  have e3 : (ys ++ [dy1 o num]).length = ys.length + 1 := by simp
  have h3 := k2 (BoxT bb (bkc (upd st j none) a2 (ys ++ [dy1 o num]).length c2) 172) ((W2.setCell ⟨bb, 5, none⟩ (.slice a2 (ys.length + 1) c2)).setCell ⟨bb, j, none⟩ (.pointer none)) ⟨F, ⟨by
      rw [heap_setCell_at _ _ (heap_setCell_at _ _ hbx)]
      have z : (bkc st a ys.length c).setIfInBounds 5 (.slice a2 (ys.length + 1) c2) = bkc st a2 (ys.length + 1) c2 := by simp [bkc]
      rw [z, e3]
      have := bkc_set st a2 (ys.length + 1) c2 hj none
      rw [← this]
      rfl, q2, q3⟩, by rw [q2]; exact ((Kp.refl [bb] _).setCell (.inl (by simp)) _).setCell (.inl (by simp)) _, fun x hx => .inl hx⟩
  refine Book.back (d := none) h.e2 ?_
  have h4 := opn_none h3
  rw [e1, e3]
  rw [e3] at h4
  refine h4.perm (List.Perm.cons _ ?_)
  rw [List.map_append]
  refine (List.Perm.swap _ _ _).trans (List.Perm.cons _ (List.Perm.cons _ ?_))
  have p := (List.perm_middle (l₁ := ys.map dyT) (a := ActT o.a o.c o.ys) (l₂ := l1 ++ (l2 ++ r))).symm
  simpa [dyT, dy1] using p
end
end Go.Proofs.Ytapmlleemopcnac

/- A book: a deed is over, by its contract: whatever step. -/
namespace Go.Proofs.Ytapmlleemopcnac
open Go.RowKit
set_option maxRecDepth 20000
attribute [local go_sem ↓] Go.wp_at_zero Go.wp_at_succ

theorem Bks5.done {st : Nat → Option Ob} {ys : List Dy} {b : Bk} (h : Bks5 st ys b) {j : Nat} {o : Ob} (ho : st j = some o) (num : Int) : Bks5 (upd st j none) (ys ++ [dy1 o num]) ⟨upd b.op j none, b.dn ++ [⟨num, o.d.at_, o.d.md, o.d.acts⟩]⟩ := by
  refine ⟨fun k => ?_, fun k q hq => ?_, ?_, fun y hy => ?_⟩
  · show (upd st j none k).map Ob.d = upd b.op j none k
    unfold upd
    split
    · rfl
    · exact h.op k
  · unfold upd at hq
    split at hq
    · cases hq
    · exact h.oa k q hq
  · rw [List.map_append, h.dn]; rfl
  · rcases List.mem_append.1 hy with e | e
    · exact h.da y e
    · rw [List.mem_singleton.1 e]; exact h.oa j o ho
theorem Bks5.not {st : Nat → Option Ob} {ys : List Dy} {b : Bk} (h : Bks5 st ys b) (j : Nat) : Bks5 (upd st j none) ys ⟨upd b.op j none, b.dn⟩ := h.sit j none (fun _ h => by cases h)
theorem book_ne {w0 w : World} {bb : Nat} {st : Nat → Option Ob} {a : Option Addr} {c : Nat} {ys : List Dy} {r : List Thing} {p : Nat} {cs : Array Value} {T : TypeId} (hz : Book w0 w bb st a c ys r) (hm : BoxT p cs T ∈ r) : p ≠ bb := by
  obtain ⟨l1, l2, rfl⟩ := List.append_of_mem hm
  have h1 : Zoo w0 w ((bth bb st a c ys ++ l1) ++ BoxT p cs T :: l2) := by rw [List.append_assoc]; exact hz
  have h2 := h1.perm List.perm_middle
  obtain ⟨X, ⟨F, Y, ⟨q1, q2, q3⟩, ⟨F2, Y2, ⟨p1, p2, p3⟩, _, _, e2⟩, hd, e⟩, hk⟩ := h2
  intro e3
  exact hd p (by rw [q2]; simp) (by rw [e2, p2, e3]; simp)
theorem zoo_ne {w0 w : World} {A B : Thing} {bb : Nat} {c1 : Array Value} {T1 : TypeId} {r : List Thing} {p : Nat} {cs : Array Value} {T : TypeId} (hz : Zoo w0 w (A :: B :: BoxT bb c1 T1 :: r)) (hr : BoxT p cs T ∈ r) : p ≠ bb := by
  obtain ⟨l1, l2, rfl⟩ := List.append_of_mem hr
  have h1 : Zoo w0 w ((A :: B :: BoxT bb c1 T1 :: l1) ++ BoxT p cs T :: l2) := hz
  have h2 := (h1.perm List.perm_middle)
  have h3 : Zoo w0 w (BoxT p cs T :: BoxT bb c1 T1 :: A :: B :: (l1 ++ l2)) := h2.perm (List.Perm.cons _ ((List.Perm.cons _ (List.Perm.swap _ _ _)).trans (List.Perm.swap _ _ _)))
  obtain ⟨X, ⟨F, Y, ⟨q1, q2, q3⟩, ⟨F2, Y2, ⟨p1, p2, p3⟩, _, _, e2⟩, hd, e⟩, hk⟩ := h3
  intro e3
  exact hd p (by rw [q2]; simp) (by rw [e2, p2, e3]; simp)
theorem edn_memx {ys : List Dy} {r l1 l2 : List Thing} {A B C D : Thing} {p5 p4 : Nat} {c5 c4 : Array Value} : BoxT p4 c4 37 ∈ A :: B :: C :: D :: (ys.map dyT ++ (l1 ++ (l2 ++ (BoxT p5 c5 34 :: BoxT p4 c4 37 :: r)))) := List.mem_cons_of_mem _ (List.mem_cons_of_mem _ (List.mem_cons_of_mem _ (List.mem_cons_of_mem _ (List.mem_append_right _ (List.mem_append_right _ (List.mem_append_right _ (List.Mem.tail _ (List.Mem.head _))))))))
theorem edn_memr {ys : List Dy} {r l1 l2 : List Thing} {D : Thing} {p5 p4 : Nat} {c5 c4 : Array Value} : BoxT p4 c4 37 ∈ D :: (ys.map dyT ++ (l1 ++ (l2 ++ (BoxT p5 c5 34 :: BoxT p4 c4 37 :: r)))) := List.mem_cons_of_mem _ (List.mem_append_right _ (List.mem_append_right _ (List.mem_append_right _ (List.Mem.tail _ (List.Mem.head _)))))
theorem book_ob {w0 w : World} {bb : Nat} {st : Nat → Option Ob} {a : Option Addr} {c : Nat} {ys : List Dy} {r : List Thing} (hz : Book w0 w bb st a c ys r) {j : Nat} (hj : j < 5) {o : Ob} (ho : st j = some o) : w.heap[o.b]? = some (.cells (obc o) 90 (0, 0)) := by
  obtain ⟨l1, l2, e2, h1⟩ := hz.out hj
  rw [ho] at h1
  exact Zoo.var (opn_open h1)
theorem edn_far {w0 W w' W2 : World} {bb : Nat} {st : Nat → Option Ob} {a : Option Addr} {c : Nat} {ys : List Dy} {r : List Thing} {j : Nat} {o : Ob} {num : Int} {l1 l2 : List Thing} (h : Edn w0 W bb st a c ys r j o num l1 l2) (hj : j < 5) (ho : st j = some o) (hoa : o.d.acts = o.ys.map Ax.x) {a2 : Option Addr} {c2 : Nat}
    (g1 : KRow 90 4 w0.heap.size W2 a2 (ys.length + 1) c2 (dxcs (ys.map Dy.x) ++ [.int .i64 num, .int .i64 o.d.at_, .int .i64 o.d.md, .slice o.a o.ys.length o.c])) (g2 : Kp (ob a) w' W2) (g3 : ∀ x ∈ ob a2, x ∈ ob a ∨ w'.heap.size ≤ x) (hk : Kp [] W w') :
    (∃ v, W2.cell? ⟨bb, 5, none⟩ = some v) ∧ W2.frozen? ⟨bb, 5, none⟩ = false ∧ bb < W2.heap.size ∧ Zoo w0 (W2.setCell ⟨bb, 5, none⟩ (.slice a2 (ys.length + 1) c2)) (KwT 90 4 a2 (ys.length + 1) c2 (dxcs (ys.map Dy.x) ++ [.int .i64 num, .int .i64 o.d.at_, .int .i64 o.d.md, .slice o.a o.ys.length o.c]) :: BoxT o.b #[.int .i64 num, .int .i64 o.d.at_, .int .i64 o.d.md, .slice o.a o.ys.length o.c] 90 :: BoxT bb (bkc st a2 (ys.length + 1) c2) 172 :: ActT o.a o.c o.ys :: (ys.map dyT ++ (l1 ++ (l2 ++ r)))) ∧
    Book w0 ((W2.setCell ⟨bb, 5, none⟩ (.slice a2 (ys.length + 1) c2)).setCell ⟨bb, j, none⟩ (.pointer none)) bb (upd st j none) a2 c2 (ys ++ [dy1 o num]) r := by
  have h1 := kw_app (l1 := []) (h.zoo.kp0 hk) g1 g2 g3
  obtain ⟨F, ⟨hbx, q2, q3⟩, k2⟩ := zoo_at2 h1
  refine ⟨⟨_, cell_of_block (i := 5) hbx rfl⟩, frozen_of_block 5 hbx, lt_of_block hbx, k2 _ _ ⟨F, ⟨?_, q2, q3⟩, ?_, fun x hx => .inl hx⟩, h.fin hj ho hoa g1 g2 g3 hk⟩
  · rw [heap_setCell_at _ _ hbx]
    simp [bkc]
  · rw [q2]
    exact (Kp.refl [bb] _).setCell (.inl (by simp)) _
set_option maxHeartbeats 4000000 in
theorem bk_end {w0 w : World} {bb : Nat} {b : Bk} {r : List Thing} (x : HStep) (v : Ev) (la : Option Addr) (lc : Nat) (last : Int) (hx : x.d = 6 ∨ x.d = 7 ∨ x.d = 10) (hb : b.dn.length ≤ 1000) (hz : Zoo w0 w (BkT bb b :: r)) :
    Calls Try.prog 116 #[.pointer (some ⟨bb, 0, none⟩), .agg (xcs x), .agg (ecl v la lc)] w fun e w' => e = .returned (.tuple #[]) ∧ Hid (Zoo w0 w' (BkT bb (bnote b x v last) :: r)) := by
  have hu := Try.underlying85
  obtain ⟨st, a, c, ys, hb5, hbk⟩ := bk_open hz
  have HB5 := hide hb5
  have HBK := hide (hbk.two (xcs x) 37 (ecl v la lc) 34)
  have hop : bat5 b x.s = (bst st x.s).map Ob.d := by
    unfold bat5 bst
    split
    · exact (hb5.op _).symm
    · rfl
  have HN0 := hide (show bnote b x v last = match bat5 b x.s with | none => b | some d => ⟨if x.d = 10 then (fun _ => none) else upd b.op x.s.toNat none, if isd x v = true then b.dn ++ [{ d with n := v.n }] else b.dn⟩ by unfold bnote; rw [if_neg (by omega), if_neg (by omega), if_pos hx]; rfl)
  rw [hop] at HN0
  have hlen : ys.length ≤ 1000 := by
    have := congrArg List.length hb5.dn
    rw [List.length_map] at this
    omega
  clear hz hb5 hbk hop hb
  obtain ⟨xd, xs, xm, xa, xk, xt, xp, xb⟩ := x
  obtain ⟨vc, vn, vt, vs, vl⟩ := v
  dsimp only [xcs, ecl] at *
  obtain ⟨ln, hln⟩ : ∃ ln, vl.length = ln := ⟨_, rfl⟩
  rw [hln] at HBK ⊢
  have HLL := hide hln
  clear hln
  cases hbst : bst st xs with
  | none =>
    have hbn : bnote b ⟨xd, xs, xm, xa, xk, xt, xp, xb⟩ ⟨vc, vn, vt, vs, vl⟩ last = b := by rw [unhide HN0, hbst]; rfl
    rw [hbn]
    have HB := hide (fun W {o1 o2 : Thing} (h : Book w0 W bb st a c ys (o1 :: o2 :: r)) => bk_close (unhide HB5) h.tail.tail)
    clear hbn
    go_enter Try.func116, Try.ntmps116
    go_wp2_with fail
    refine (bk_find xs (unhide HBK)).mono ?_
    rintro e w' ⟨rfl, hw'⟩
    subst w'
    rw [hbst]
    dsimp only [bp, Option.map_none]
    go_wp2_with fail
    refine bodyPost_ret (v := .tuple #[]) (by simp [results, Try.results116, go_sem]) rfl ?_
    exact ⟨rfl, unhide HB _ (unhide HBK)⟩
  | some o =>
    rw [hbst] at HN0
    dsimp only [Option.map_some] at HN0
    have hs : 0 ≤ xs ∧ xs < 5 := by
      unfold bst at hbst
      split at hbst
      · assumption
      · cases hbst
    obtain ⟨j, rfl, hj⟩ := seat_in hs
    have hst : st j = some o := by unfold bst at hbst; rw [if_pos hs, Int.toNat_natCast] at hbst; exact hbst
    clear hs
    by_cases h6 : xd = 6
    · subst h6
      cases hisd : isd ⟨6, j, xm, xa, xk, xt, xp, xb⟩ ⟨vc, vn, vt, vs, vl⟩ with
      | true =>
        have hbn : bnote b ⟨6, j, xm, xa, xk, xt, xp, xb⟩ ⟨vc, vn, vt, vs, vl⟩ last = ⟨upd b.op j none, b.dn ++ [⟨vn, o.d.at_, o.d.md, o.d.acts⟩]⟩ := by rw [unhide HN0]; simp [hisd]
        rw [hbn]
        have HCL := hide (fun W {o1 o2 : Thing} {a2 : Option Addr} {c2 : Nat} (h : Book w0 W bb (upd st j none) a2 c2 (ys ++ [dy1 o vn]) (o1 :: o2 :: r)) => bk_close ((unhide HB5).done hst vn) h.tail.tail)
        clear hbn
        go_enter Try.func116, Try.ntmps116
        go_wp2_with fail
        generalize (w.alloc (.cells #[.int .i64 6, .int .i64 (j : Int), .int .i64 xm, .int .i64 xa, .int .i64 xk, .int .i64 xt, .int .i64 xp, .string xb] 37)).alloc (.cells #[.int .i64 vc, .int .i64 vn, .bool vt, .string vs, .slice la ln lc] 34) = W at HBK ⊢
        generalize w.heap.size + 1 = q5 at HBK ⊢
        generalize w.heap.size = q4 at HBK ⊢
        refine (bk_find (j : Int) (unhide HBK)).mono ?_
        rintro e w' ⟨rfl, hw'⟩
        subst w'
        rw [hbst]
        dsimp only [bp, Option.map_some]
        have hx := (unhide HBK).var (List.Mem.tail _ (List.Mem.head _))
        have hv := (unhide HBK).var (List.Mem.head _)
        have x0 : W.cell? ⟨q4, 0, none⟩ = some (.int .i64 6) := cell_of_block hx rfl
        have x1 : W.cell? ⟨q4, 1, none⟩ = some (.int .i64 (j : Int)) := cell_of_block hx rfl
        have x2 : W.cell? ⟨q4, 2, none⟩ = some (.int .i64 xm) := cell_of_block hx rfl
        have x3 : W.cell? ⟨q4, 3, none⟩ = some (.int .i64 xa) := cell_of_block hx rfl
        have x4 : W.cell? ⟨q4, 4, none⟩ = some (.int .i64 xk) := cell_of_block hx rfl
        have x5 : W.cell? ⟨q4, 5, none⟩ = some (.int .i64 xt) := cell_of_block hx rfl
        have x6 : W.cell? ⟨q4, 6, none⟩ = some (.int .i64 xp) := cell_of_block hx rfl
        have x7 : W.cell? ⟨q4, 7, none⟩ = some (.string xb) := cell_of_block hx rfl
        have v0 : W.cell? ⟨q5, 0, none⟩ = some (.int .i64 vc) := cell_of_block hv rfl
        have v1 : W.cell? ⟨q5, 1, none⟩ = some (.int .i64 vn) := cell_of_block hv rfl
        have v2 : W.cell? ⟨q5, 2, none⟩ = some (.bool vt) := cell_of_block hv rfl
        have v3 : W.cell? ⟨q5, 3, none⟩ = some (.string vs) := cell_of_block hv rfl
        have v4 : W.cell? ⟨q5, 4, none⟩ = some (.slice la ln lc) := cell_of_block hv rfl
        clear hx hv
        go_wp2_with fail
        have hid := isdone ⟨6, j, xm, xa, xk, xt, xp, xb⟩ ⟨vc, vn, vt, vs, vl⟩ la lc W
        dsimp only [xcs, ecl] at hid
        rw [unhide HLL, hisd] at hid
        refine hid.mono ?_
        rintro e w2 ⟨rfl, hk2⟩
        have HB2 := hide ((unhide HBK).kp0 hk2)
        clear hid hk2 x0 x1 x2 x3 x4 x5 x6 x7 v0 v1 v2 v3 v4 HBK
        have hx := (unhide HB2).var (List.Mem.tail _ (List.Mem.head _))
        have hv := (unhide HB2).var (List.Mem.head _)
        have x0 : w2.cell? ⟨q4, 0, none⟩ = some (.int .i64 6) := cell_of_block hx rfl
        have x1 : w2.cell? ⟨q4, 1, none⟩ = some (.int .i64 (j : Int)) := cell_of_block hx rfl
        have v1 : w2.cell? ⟨q5, 1, none⟩ = some (.int .i64 vn) := cell_of_block hv rfl
        clear hx hv
        obtain ⟨l1, l2, hg⟩ := Edn.mk_ (unhide HB2) hj hst vn
        have HG := hide hg
        have hob := book_ob (unhide HB2) hj hst
        have o0 : w2.cell? ⟨o.b, 0, none⟩ = some (.int .i64 o.d.n) := cell_of_block hob rfl
        have fo0 := frozen_of_block 0 hob
        clear hob
        have hobx := zoo_varm hg.zoo (List.Mem.tail _ (List.Mem.head _))
        have hbx := zoo_varm hg.zoo (List.Mem.tail _ (List.Mem.tail _ (List.Mem.head _)))
        obtain ⟨no, hno⟩ : ∃ n, o.ys.length = n := ⟨_, rfl⟩
        obtain ⟨n, hn⟩ : ∃ n, ys.length = n := ⟨_, rfl⟩
        have p0 : (w2.setCell ⟨o.b, 0, none⟩ (.int .i64 vn)).cell? ⟨o.b, 0, none⟩ = some (.int .i64 vn) := cell_of_block hobx rfl
        have p1 : (w2.setCell ⟨o.b, 0, none⟩ (.int .i64 vn)).cell? ⟨o.b, 1, none⟩ = some (.int .i64 o.d.at_) := cell_of_block hobx rfl
        have p2 : (w2.setCell ⟨o.b, 0, none⟩ (.int .i64 vn)).cell? ⟨o.b, 2, none⟩ = some (.int .i64 o.d.md) := cell_of_block hobx rfl
        have p3 : (w2.setCell ⟨o.b, 0, none⟩ (.int .i64 vn)).cell? ⟨o.b, 3, none⟩ = some (.slice o.a no o.c) := by rw [← hno]; exact cell_of_block hobx rfl
        have b5 : (w2.setCell ⟨o.b, 0, none⟩ (.int .i64 vn)).cell? ⟨bb, 5, none⟩ = some (.slice a n c) := by rw [← hn]; exact cell_of_block hbx rfl
        have hbl := lt_of_block hbx
        have hol := lt_of_block hobx
        have hBw := Zoo.base hg.zoo
        have HROW : Hid (KRow 90 4 w0.heap.size (w2.setCell ⟨o.b, 0, none⟩ (.int .i64 vn)) a n c (dxcs (ys.map Dy.x))) := by rw [← hn]; exact kw_row (l1 := []) hg.zoo
        have HN := hide hn
        have HNO := hide hno
        have hn1000 : n ≤ 1000 := by rw [← hn]; exact hlen
        clear hg hobx hbx hn hno hlen
        go_wp2_with fail
        clear o0 fo0 v1 x0 x1 HB2
        generalize w2.setCell ⟨o.b, 0, none⟩ (.int .i64 vn) = W1 at *
        have far := fun (W2 : World) (a2 : Option Addr) (c2 : Nat) (g1 : Hid (KRow 90 4 w0.heap.size W2 a2 (n + 1) c2 (dxcs (ys.map Dy.x) ++ [.int .i64 vn, .int .i64 o.d.at_, .int .i64 o.d.md, .slice o.a no o.c]))) (g2 : Hid (Kp (ob a) (W1.alloc (.cells #[.int .i64 vn, .int .i64 o.d.at_, .int .i64 o.d.md, .slice o.a no o.c] 90)).drew W2)) (g3 : Hid (∀ x ∈ ob a2, x ∈ ob a ∨ (W1.alloc (.cells #[.int .i64 vn, .int .i64 o.d.at_, .int .i64 o.d.md, .slice o.a no o.c] 90)).drew.heap.size ≤ x)) => edn_far (unhide HG) hj hst ((unhide HB5).oa j o hst) (by rw [unhide HN, unhide HNO]; exact unhide g1) (unhide g2) (unhide g3) ((Kp.refl [] W1).alloc (.cells #[.int .i64 vn, .int .i64 o.d.at_, .int .i64 o.d.md, .slice o.a no o.c] 90)).drew
        have FAR := hide far
        clear far
        go_region_law (refine step_krow (by rfl) (.tmp 25) (.tmp 29) 85 (by rfl) hu Try.info90 rfl (by omega) ((unhide HROW).kp0 (((Kp.refl [] W1).alloc _).drew)) (by simp; omega) (.slice (some ⟨W1.heap.size, 0, none⟩) 1 1) [.int .i64 vn, .int .i64 o.d.at_, .int .i64 o.d.md, .slice o.a no o.c] 1 (by rfl) (by rfl) (src_built (cs := #[.int .i64 vn, .int .i64 o.d.at_, .int .i64 o.d.md, .slice o.a no o.c]) (T := 90) (fr := (0, 0)) hu (heap_alloc_new W1 _) rfl (by simp [Value.oneCell'])) (by omega) (n + 1) rfl ?_; intro a2 c2 w4 g1 g2 g3; obtain ⟨⟨zv, z1⟩, z2, z3, z4, z5⟩ := unhide FAR w4 a2 c2 g1 g2 g3; clear g1 g2 g3; have HZ4 := hide z4; have HZ5 := hide z5; clear z4 z5)
        all_goals
          rw [unhide HN] at HZ4 HZ5
          go_wp2_with fail
          generalize w4.setCell ⟨bb, 5, none⟩ (.slice a2 (n + 1) c2) = W5 at *
          have hx := zoo_varm (unhide HZ4) edn_memx
          have hb5 := zoo_varm (unhide HZ4) (List.Mem.tail _ (List.Mem.tail _ (List.Mem.head _)))
          have x0 : W5.cell? ⟨q4, 0, none⟩ = some (.int .i64 6) := cell_of_block hx rfl
          have x1 : W5.cell? ⟨q4, 1, none⟩ = some (.int .i64 (j : Int)) := cell_of_block hx rfl
          have cj : W5.cell? ⟨bb, j, none⟩ = some (bp (st j)) := cell_of_block hb5 (bkc_at st a2 _ c2 hj)
          have fj := frozen_of_block j hb5
          have nq : q4 ≠ bb := zoo_ne (unhide HZ4) edn_memr
          generalize hbp : bp (st j) = pj at *
          clear hbp hx hb5
          have i0 : (0 : Int) ≤ (j : Int) := by omega
          have i5 : (j : Int) < 5 := by omega
          go_wp2_with fail
          go_region
          go_wp2_with fail
          go_end0
          exact ⟨rfl, unhide HCL _ ((unhide HZ5).kp0 (Kp.refl [] _).drew)⟩
      | false =>
        have hbn : bnote b ⟨6, j, xm, xa, xk, xt, xp, xb⟩ ⟨vc, vn, vt, vs, vl⟩ last = ⟨upd b.op j none, b.dn⟩ := by rw [unhide HN0]; simp [hisd]
        rw [hbn]
        have HCL := hide (fun W {o1 o2 : Thing} {a2 : Option Addr} {c2 : Nat} (h : Book w0 W bb (upd st j none) a2 c2 ys (o1 :: o2 :: r)) => bk_close ((unhide HB5).not j) h.tail.tail)
        clear hbn
        go_enter Try.func116, Try.ntmps116
        go_wp2_with fail
        generalize (w.alloc (.cells #[.int .i64 6, .int .i64 (j : Int), .int .i64 xm, .int .i64 xa, .int .i64 xk, .int .i64 xt, .int .i64 xp, .string xb] 37)).alloc (.cells #[.int .i64 vc, .int .i64 vn, .bool vt, .string vs, .slice la ln lc] 34) = W at HBK ⊢
        generalize w.heap.size + 1 = q5 at HBK ⊢
        generalize w.heap.size = q4 at HBK ⊢
        refine (bk_find (j : Int) (unhide HBK)).mono ?_
        rintro e w' ⟨rfl, hw'⟩
        subst w'
        rw [hbst]
        dsimp only [bp, Option.map_some]
        have hx := (unhide HBK).var (List.Mem.tail _ (List.Mem.head _))
        have hv := (unhide HBK).var (List.Mem.head _)
        have x0 : W.cell? ⟨q4, 0, none⟩ = some (.int .i64 6) := cell_of_block hx rfl
        have x1 : W.cell? ⟨q4, 1, none⟩ = some (.int .i64 (j : Int)) := cell_of_block hx rfl
        have x2 : W.cell? ⟨q4, 2, none⟩ = some (.int .i64 xm) := cell_of_block hx rfl
        have x3 : W.cell? ⟨q4, 3, none⟩ = some (.int .i64 xa) := cell_of_block hx rfl
        have x4 : W.cell? ⟨q4, 4, none⟩ = some (.int .i64 xk) := cell_of_block hx rfl
        have x5 : W.cell? ⟨q4, 5, none⟩ = some (.int .i64 xt) := cell_of_block hx rfl
        have x6 : W.cell? ⟨q4, 6, none⟩ = some (.int .i64 xp) := cell_of_block hx rfl
        have x7 : W.cell? ⟨q4, 7, none⟩ = some (.string xb) := cell_of_block hx rfl
        have v0 : W.cell? ⟨q5, 0, none⟩ = some (.int .i64 vc) := cell_of_block hv rfl
        have v1 : W.cell? ⟨q5, 1, none⟩ = some (.int .i64 vn) := cell_of_block hv rfl
        have v2 : W.cell? ⟨q5, 2, none⟩ = some (.bool vt) := cell_of_block hv rfl
        have v3 : W.cell? ⟨q5, 3, none⟩ = some (.string vs) := cell_of_block hv rfl
        have v4 : W.cell? ⟨q5, 4, none⟩ = some (.slice la ln lc) := cell_of_block hv rfl
        clear hx hv
        go_wp2_with fail
        have hid := isdone ⟨6, j, xm, xa, xk, xt, xp, xb⟩ ⟨vc, vn, vt, vs, vl⟩ la lc W
        dsimp only [xcs, ecl] at hid
        rw [unhide HLL, hisd] at hid
        refine hid.mono ?_
        rintro e w2 ⟨rfl, hk2⟩
        have HB2 := hide ((unhide HBK).kp0 hk2)
        clear hid hk2 x0 x1 x2 x3 x4 x5 x6 x7 v0 v1 v2 v3 v4 HBK
        have hx := (unhide HB2).var (List.Mem.tail _ (List.Mem.head _))
        have hv := (unhide HB2).var (List.Mem.head _)
        have x0 : w2.cell? ⟨q4, 0, none⟩ = some (.int .i64 6) := cell_of_block hx rfl
        have x1 : w2.cell? ⟨q4, 1, none⟩ = some (.int .i64 (j : Int)) := cell_of_block hx rfl
        have v1 : w2.cell? ⟨q5, 1, none⟩ = some (.int .i64 vn) := cell_of_block hv rfl
        clear hx hv
        have cj := (unhide HB2).cs_ hj
        have fj := (unhide HB2).fz j
        generalize hbp : bp (st j) = pj at *
        clear hbp
        have nq : q4 ≠ bb := book_ne (unhide HB2) (List.Mem.tail _ (List.Mem.head _))
        have i0 : (0 : Int) ≤ (j : Int) := by omega
        have i5 : (j : Int) < 5 := by omega
        go_wp2_with fail
        go_region
        go_wp2_with fail
        go_end0
        exact ⟨rfl, unhide HCL _ (((unhide HB2).drop hj).kp0 (Kp.refl [] _).drew)⟩
    by_cases h7 : xd = 7
    · subst h7
      have hisd : isd ⟨7, j, xm, xa, xk, xt, xp, xb⟩ ⟨vc, vn, vt, vs, vl⟩ = false := by unfold isd; rw [if_neg (by show ¬ (7 : Int) = 6; omega), if_neg (by show ¬ (7 : Int) = 10; omega)]
      have hbn : bnote b ⟨7, j, xm, xa, xk, xt, xp, xb⟩ ⟨vc, vn, vt, vs, vl⟩ last = ⟨upd b.op j none, b.dn⟩ := by rw [unhide HN0]; simp [hisd]
      rw [hbn]
      have HCL := hide (fun W {o1 o2 : Thing} {a2 : Option Addr} {c2 : Nat} (h : Book w0 W bb (upd st j none) a2 c2 ys (o1 :: o2 :: r)) => bk_close ((unhide HB5).not j) h.tail.tail)
      clear hbn
      go_enter Try.func116, Try.ntmps116
      go_wp2_with fail
      generalize (w.alloc (.cells #[.int .i64 7, .int .i64 (j : Int), .int .i64 xm, .int .i64 xa, .int .i64 xk, .int .i64 xt, .int .i64 xp, .string xb] 37)).alloc (.cells #[.int .i64 vc, .int .i64 vn, .bool vt, .string vs, .slice la ln lc] 34) = W at HBK ⊢
      generalize w.heap.size + 1 = q5 at HBK ⊢
      generalize w.heap.size = q4 at HBK ⊢
      refine (bk_find (j : Int) (unhide HBK)).mono ?_
      rintro e w' ⟨rfl, hw'⟩
      subst w'
      rw [hbst]
      dsimp only [bp, Option.map_some]
      have hx := (unhide HBK).var (List.Mem.tail _ (List.Mem.head _))
      have hv := (unhide HBK).var (List.Mem.head _)
      have x0 : W.cell? ⟨q4, 0, none⟩ = some (.int .i64 7) := cell_of_block hx rfl
      have x1 : W.cell? ⟨q4, 1, none⟩ = some (.int .i64 (j : Int)) := cell_of_block hx rfl
      have x2 : W.cell? ⟨q4, 2, none⟩ = some (.int .i64 xm) := cell_of_block hx rfl
      have x3 : W.cell? ⟨q4, 3, none⟩ = some (.int .i64 xa) := cell_of_block hx rfl
      have x4 : W.cell? ⟨q4, 4, none⟩ = some (.int .i64 xk) := cell_of_block hx rfl
      have x5 : W.cell? ⟨q4, 5, none⟩ = some (.int .i64 xt) := cell_of_block hx rfl
      have x6 : W.cell? ⟨q4, 6, none⟩ = some (.int .i64 xp) := cell_of_block hx rfl
      have x7 : W.cell? ⟨q4, 7, none⟩ = some (.string xb) := cell_of_block hx rfl
      have v0 : W.cell? ⟨q5, 0, none⟩ = some (.int .i64 vc) := cell_of_block hv rfl
      have v1 : W.cell? ⟨q5, 1, none⟩ = some (.int .i64 vn) := cell_of_block hv rfl
      have v2 : W.cell? ⟨q5, 2, none⟩ = some (.bool vt) := cell_of_block hv rfl
      have v3 : W.cell? ⟨q5, 3, none⟩ = some (.string vs) := cell_of_block hv rfl
      have v4 : W.cell? ⟨q5, 4, none⟩ = some (.slice la ln lc) := cell_of_block hv rfl
      clear hx hv
      go_wp2_with fail
      have hid := isdone ⟨7, j, xm, xa, xk, xt, xp, xb⟩ ⟨vc, vn, vt, vs, vl⟩ la lc W
      dsimp only [xcs, ecl] at hid
      rw [unhide HLL, hisd] at hid
      refine hid.mono ?_
      rintro e w2 ⟨rfl, hk2⟩
      have HB2 := hide ((unhide HBK).kp0 hk2)
      clear hid hk2 x0 x1 x2 x3 x4 x5 x6 x7 v0 v1 v2 v3 v4 HBK
      have hx := (unhide HB2).var (List.Mem.tail _ (List.Mem.head _))
      have hv := (unhide HB2).var (List.Mem.head _)
      have x0 : w2.cell? ⟨q4, 0, none⟩ = some (.int .i64 7) := cell_of_block hx rfl
      have x1 : w2.cell? ⟨q4, 1, none⟩ = some (.int .i64 (j : Int)) := cell_of_block hx rfl
      have v1 : w2.cell? ⟨q5, 1, none⟩ = some (.int .i64 vn) := cell_of_block hv rfl
      clear hx hv
      have cj := (unhide HB2).cs_ hj
      have fj := (unhide HB2).fz j
      generalize hbp : bp (st j) = pj at *
      clear hbp
      have nq : q4 ≠ bb := book_ne (unhide HB2) (List.Mem.tail _ (List.Mem.head _))
      have i0 : (0 : Int) ≤ (j : Int) := by omega
      have i5 : (j : Int) < 5 := by omega
      go_wp2_with fail
      go_region
      go_wp2_with fail
      go_end0
      exact ⟨rfl, unhide HCL _ (((unhide HB2).drop hj).kp0 (Kp.refl [] _).drew)⟩
    · have h10 : xd = 10 := by omega
      subst h10
      cases hisd : isd ⟨10, j, xm, xa, xk, xt, xp, xb⟩ ⟨vc, vn, vt, vs, vl⟩ with
      | true =>
        have hbn : bnote b ⟨10, j, xm, xa, xk, xt, xp, xb⟩ ⟨vc, vn, vt, vs, vl⟩ last = ⟨(fun _ => none), b.dn ++ [⟨vn, o.d.at_, o.d.md, o.d.acts⟩]⟩ := by rw [unhide HN0]; simp [hisd]
        rw [hbn]
        have HCL := hide (fun W {o1 o2 : Thing} {a2 : Option Addr} {c2 : Nat} (h : Book w0 W bb (fun _ => none) a2 c2 (ys ++ [dy1 o vn]) (o1 :: o2 :: r)) => bk_close (((unhide HB5).done hst vn).leave) h.tail.tail)
        clear hbn
        go_enter Try.func116, Try.ntmps116
        go_wp2_with fail
        generalize (w.alloc (.cells #[.int .i64 10, .int .i64 (j : Int), .int .i64 xm, .int .i64 xa, .int .i64 xk, .int .i64 xt, .int .i64 xp, .string xb] 37)).alloc (.cells #[.int .i64 vc, .int .i64 vn, .bool vt, .string vs, .slice la ln lc] 34) = W at HBK ⊢
        generalize w.heap.size + 1 = q5 at HBK ⊢
        generalize w.heap.size = q4 at HBK ⊢
        refine (bk_find (j : Int) (unhide HBK)).mono ?_
        rintro e w' ⟨rfl, hw'⟩
        subst w'
        rw [hbst]
        dsimp only [bp, Option.map_some]
        have hx := (unhide HBK).var (List.Mem.tail _ (List.Mem.head _))
        have hv := (unhide HBK).var (List.Mem.head _)
        have x0 : W.cell? ⟨q4, 0, none⟩ = some (.int .i64 10) := cell_of_block hx rfl
        have x1 : W.cell? ⟨q4, 1, none⟩ = some (.int .i64 (j : Int)) := cell_of_block hx rfl
        have x2 : W.cell? ⟨q4, 2, none⟩ = some (.int .i64 xm) := cell_of_block hx rfl
        have x3 : W.cell? ⟨q4, 3, none⟩ = some (.int .i64 xa) := cell_of_block hx rfl
        have x4 : W.cell? ⟨q4, 4, none⟩ = some (.int .i64 xk) := cell_of_block hx rfl
        have x5 : W.cell? ⟨q4, 5, none⟩ = some (.int .i64 xt) := cell_of_block hx rfl
        have x6 : W.cell? ⟨q4, 6, none⟩ = some (.int .i64 xp) := cell_of_block hx rfl
        have x7 : W.cell? ⟨q4, 7, none⟩ = some (.string xb) := cell_of_block hx rfl
        have v0 : W.cell? ⟨q5, 0, none⟩ = some (.int .i64 vc) := cell_of_block hv rfl
        have v1 : W.cell? ⟨q5, 1, none⟩ = some (.int .i64 vn) := cell_of_block hv rfl
        have v2 : W.cell? ⟨q5, 2, none⟩ = some (.bool vt) := cell_of_block hv rfl
        have v3 : W.cell? ⟨q5, 3, none⟩ = some (.string vs) := cell_of_block hv rfl
        have v4 : W.cell? ⟨q5, 4, none⟩ = some (.slice la ln lc) := cell_of_block hv rfl
        clear hx hv
        go_wp2_with fail
        have hid := isdone ⟨10, j, xm, xa, xk, xt, xp, xb⟩ ⟨vc, vn, vt, vs, vl⟩ la lc W
        dsimp only [xcs, ecl] at hid
        rw [unhide HLL, hisd] at hid
        refine hid.mono ?_
        rintro e w2 ⟨rfl, hk2⟩
        have HB2 := hide ((unhide HBK).kp0 hk2)
        clear hid hk2 x0 x1 x2 x3 x4 x5 x6 x7 v0 v1 v2 v3 v4 HBK
        have hx := (unhide HB2).var (List.Mem.tail _ (List.Mem.head _))
        have hv := (unhide HB2).var (List.Mem.head _)
        have x0 : w2.cell? ⟨q4, 0, none⟩ = some (.int .i64 10) := cell_of_block hx rfl
        have x1 : w2.cell? ⟨q4, 1, none⟩ = some (.int .i64 (j : Int)) := cell_of_block hx rfl
        have v1 : w2.cell? ⟨q5, 1, none⟩ = some (.int .i64 vn) := cell_of_block hv rfl
        clear hx hv
        obtain ⟨l1, l2, hg⟩ := Edn.mk_ (unhide HB2) hj hst vn
        have HG := hide hg
        have hob := book_ob (unhide HB2) hj hst
        have o0 : w2.cell? ⟨o.b, 0, none⟩ = some (.int .i64 o.d.n) := cell_of_block hob rfl
        have fo0 := frozen_of_block 0 hob
        clear hob
        have hobx := zoo_varm hg.zoo (List.Mem.tail _ (List.Mem.head _))
        have hbx := zoo_varm hg.zoo (List.Mem.tail _ (List.Mem.tail _ (List.Mem.head _)))
        obtain ⟨no, hno⟩ : ∃ n, o.ys.length = n := ⟨_, rfl⟩
        obtain ⟨n, hn⟩ : ∃ n, ys.length = n := ⟨_, rfl⟩
        have p0 : (w2.setCell ⟨o.b, 0, none⟩ (.int .i64 vn)).cell? ⟨o.b, 0, none⟩ = some (.int .i64 vn) := cell_of_block hobx rfl
        have p1 : (w2.setCell ⟨o.b, 0, none⟩ (.int .i64 vn)).cell? ⟨o.b, 1, none⟩ = some (.int .i64 o.d.at_) := cell_of_block hobx rfl
        have p2 : (w2.setCell ⟨o.b, 0, none⟩ (.int .i64 vn)).cell? ⟨o.b, 2, none⟩ = some (.int .i64 o.d.md) := cell_of_block hobx rfl
        have p3 : (w2.setCell ⟨o.b, 0, none⟩ (.int .i64 vn)).cell? ⟨o.b, 3, none⟩ = some (.slice o.a no o.c) := by rw [← hno]; exact cell_of_block hobx rfl
        have b5 : (w2.setCell ⟨o.b, 0, none⟩ (.int .i64 vn)).cell? ⟨bb, 5, none⟩ = some (.slice a n c) := by rw [← hn]; exact cell_of_block hbx rfl
        have hbl := lt_of_block hbx
        have hol := lt_of_block hobx
        have hBw := Zoo.base hg.zoo
        have HROW : Hid (KRow 90 4 w0.heap.size (w2.setCell ⟨o.b, 0, none⟩ (.int .i64 vn)) a n c (dxcs (ys.map Dy.x))) := by rw [← hn]; exact kw_row (l1 := []) hg.zoo
        have HN := hide hn
        have HNO := hide hno
        have hn1000 : n ≤ 1000 := by rw [← hn]; exact hlen
        clear hg hobx hbx hn hno hlen
        go_wp2_with fail
        clear o0 fo0 v1 x0 x1 HB2
        generalize w2.setCell ⟨o.b, 0, none⟩ (.int .i64 vn) = W1 at *
        have far := fun (W2 : World) (a2 : Option Addr) (c2 : Nat) (g1 : Hid (KRow 90 4 w0.heap.size W2 a2 (n + 1) c2 (dxcs (ys.map Dy.x) ++ [.int .i64 vn, .int .i64 o.d.at_, .int .i64 o.d.md, .slice o.a no o.c]))) (g2 : Hid (Kp (ob a) (W1.alloc (.cells #[.int .i64 vn, .int .i64 o.d.at_, .int .i64 o.d.md, .slice o.a no o.c] 90)).drew W2)) (g3 : Hid (∀ x ∈ ob a2, x ∈ ob a ∨ (W1.alloc (.cells #[.int .i64 vn, .int .i64 o.d.at_, .int .i64 o.d.md, .slice o.a no o.c] 90)).drew.heap.size ≤ x)) => edn_far (unhide HG) hj hst ((unhide HB5).oa j o hst) (by rw [unhide HN, unhide HNO]; exact unhide g1) (unhide g2) (unhide g3) ((Kp.refl [] W1).alloc (.cells #[.int .i64 vn, .int .i64 o.d.at_, .int .i64 o.d.md, .slice o.a no o.c] 90)).drew
        have FAR := hide far
        clear far
        go_region_law (refine step_krow (by rfl) (.tmp 25) (.tmp 29) 85 (by rfl) hu Try.info90 rfl (by omega) ((unhide HROW).kp0 (((Kp.refl [] W1).alloc _).drew)) (by simp; omega) (.slice (some ⟨W1.heap.size, 0, none⟩) 1 1) [.int .i64 vn, .int .i64 o.d.at_, .int .i64 o.d.md, .slice o.a no o.c] 1 (by rfl) (by rfl) (src_built (cs := #[.int .i64 vn, .int .i64 o.d.at_, .int .i64 o.d.md, .slice o.a no o.c]) (T := 90) (fr := (0, 0)) hu (heap_alloc_new W1 _) rfl (by simp [Value.oneCell'])) (by omega) (n + 1) rfl ?_; intro a2 c2 w4 g1 g2 g3; obtain ⟨⟨zv, z1⟩, z2, z3, z4, z5⟩ := unhide FAR w4 a2 c2 g1 g2 g3; clear g1 g2 g3; have HZ4 := hide z4; have HZ5 := hide z5; clear z4 z5)
        all_goals
          rw [unhide HN] at HZ4 HZ5
          go_wp2_with fail
          generalize w4.setCell ⟨bb, 5, none⟩ (.slice a2 (n + 1) c2) = W5 at *
          have hx := zoo_varm (unhide HZ4) edn_memx
          have hb5 := zoo_varm (unhide HZ4) (List.Mem.tail _ (List.Mem.tail _ (List.Mem.head _)))
          have x0 : W5.cell? ⟨q4, 0, none⟩ = some (.int .i64 10) := cell_of_block hx rfl
          have x1 : W5.cell? ⟨q4, 1, none⟩ = some (.int .i64 (j : Int)) := cell_of_block hx rfl
          have cj : W5.cell? ⟨bb, j, none⟩ = some (bp (st j)) := cell_of_block hb5 (bkc_at st a2 _ c2 hj)
          have fj := frozen_of_block j hb5
          have nq : q4 ≠ bb := zoo_ne (unhide HZ4) edn_memr
          generalize hbp : bp (st j) = pj at *
          clear hbp hx hb5
          have i0 : (0 : Int) ≤ (j : Int) := by omega
          have i5 : (j : Int) < 5 := by omega
          go_wp2_with fail
          go_region
          have HFF := hide ((unhide HZ5).kp0 (Kp.refl [] _).drew)
          go_wp2_with fail
          refine (bk_leaveAll (unhide HFF)).mono ?_
          rintro e w9 ⟨rfl, HB9⟩
          go_wp2_with fail
          go_end0
          exact ⟨rfl, unhide HCL _ (unhide HB9)⟩
      | false =>
        have hbn : bnote b ⟨10, j, xm, xa, xk, xt, xp, xb⟩ ⟨vc, vn, vt, vs, vl⟩ last = ⟨(fun _ => none), b.dn⟩ := by rw [unhide HN0]; simp [hisd]
        rw [hbn]
        have HCL := hide (fun W {o1 o2 : Thing} {a2 : Option Addr} {c2 : Nat} (h : Book w0 W bb (fun _ => none) a2 c2 ys (o1 :: o2 :: r)) => bk_close (((unhide HB5).not j).leave) h.tail.tail)
        clear hbn
        go_enter Try.func116, Try.ntmps116
        go_wp2_with fail
        generalize (w.alloc (.cells #[.int .i64 10, .int .i64 (j : Int), .int .i64 xm, .int .i64 xa, .int .i64 xk, .int .i64 xt, .int .i64 xp, .string xb] 37)).alloc (.cells #[.int .i64 vc, .int .i64 vn, .bool vt, .string vs, .slice la ln lc] 34) = W at HBK ⊢
        generalize w.heap.size + 1 = q5 at HBK ⊢
        generalize w.heap.size = q4 at HBK ⊢
        refine (bk_find (j : Int) (unhide HBK)).mono ?_
        rintro e w' ⟨rfl, hw'⟩
        subst w'
        rw [hbst]
        dsimp only [bp, Option.map_some]
        have hx := (unhide HBK).var (List.Mem.tail _ (List.Mem.head _))
        have hv := (unhide HBK).var (List.Mem.head _)
        have x0 : W.cell? ⟨q4, 0, none⟩ = some (.int .i64 10) := cell_of_block hx rfl
        have x1 : W.cell? ⟨q4, 1, none⟩ = some (.int .i64 (j : Int)) := cell_of_block hx rfl
        have x2 : W.cell? ⟨q4, 2, none⟩ = some (.int .i64 xm) := cell_of_block hx rfl
        have x3 : W.cell? ⟨q4, 3, none⟩ = some (.int .i64 xa) := cell_of_block hx rfl
        have x4 : W.cell? ⟨q4, 4, none⟩ = some (.int .i64 xk) := cell_of_block hx rfl
        have x5 : W.cell? ⟨q4, 5, none⟩ = some (.int .i64 xt) := cell_of_block hx rfl
        have x6 : W.cell? ⟨q4, 6, none⟩ = some (.int .i64 xp) := cell_of_block hx rfl
        have x7 : W.cell? ⟨q4, 7, none⟩ = some (.string xb) := cell_of_block hx rfl
        have v0 : W.cell? ⟨q5, 0, none⟩ = some (.int .i64 vc) := cell_of_block hv rfl
        have v1 : W.cell? ⟨q5, 1, none⟩ = some (.int .i64 vn) := cell_of_block hv rfl
        have v2 : W.cell? ⟨q5, 2, none⟩ = some (.bool vt) := cell_of_block hv rfl
        have v3 : W.cell? ⟨q5, 3, none⟩ = some (.string vs) := cell_of_block hv rfl
        have v4 : W.cell? ⟨q5, 4, none⟩ = some (.slice la ln lc) := cell_of_block hv rfl
        clear hx hv
        go_wp2_with fail
        have hid := isdone ⟨10, j, xm, xa, xk, xt, xp, xb⟩ ⟨vc, vn, vt, vs, vl⟩ la lc W
        dsimp only [xcs, ecl] at hid
        rw [unhide HLL, hisd] at hid
        refine hid.mono ?_
        rintro e w2 ⟨rfl, hk2⟩
        have HB2 := hide ((unhide HBK).kp0 hk2)
        clear hid hk2 x0 x1 x2 x3 x4 x5 x6 x7 v0 v1 v2 v3 v4 HBK
        have hx := (unhide HB2).var (List.Mem.tail _ (List.Mem.head _))
        have hv := (unhide HB2).var (List.Mem.head _)
        have x0 : w2.cell? ⟨q4, 0, none⟩ = some (.int .i64 10) := cell_of_block hx rfl
        have x1 : w2.cell? ⟨q4, 1, none⟩ = some (.int .i64 (j : Int)) := cell_of_block hx rfl
        have v1 : w2.cell? ⟨q5, 1, none⟩ = some (.int .i64 vn) := cell_of_block hv rfl
        clear hx hv
        have cj := (unhide HB2).cs_ hj
        have fj := (unhide HB2).fz j
        generalize hbp : bp (st j) = pj at *
        clear hbp
        have nq : q4 ≠ bb := book_ne (unhide HB2) (List.Mem.tail _ (List.Mem.head _))
        have i0 : (0 : Int) ≤ (j : Int) := by omega
        have i5 : (j : Int) < 5 := by omega
        go_wp2_with fail
        go_region
        have HFF := hide (((unhide HB2).drop hj).kp0 (Kp.refl [] _).drew)
        go_wp2_with fail
        refine (bk_leaveAll (unhide HFF)).mono ?_
        rintro e w9 ⟨rfl, HB9⟩
        go_wp2_with fail
        go_end0
        exact ⟨rfl, unhide HCL _ (unhide HB9)⟩
end Go.Proofs.Ytapmlleemopcnac

/- Plain words for what was done: whatever steps a hall does, its book is so; the deeds came one behind the other. -/
namespace Go.Proofs.Ytapmlleemopcnac
open Go.RowKit Srt
set_option maxRecDepth 20000

section
variable {h : HSt} {b : Bk} {x : HStep} {e : Ev} {last : Int}
theorem bn_none (h1 : x.d ≠ 9) (h2 : x.d = 1 → ¬ (e.c = 0 ∧ 0 ≤ x.s ∧ x.s < 5)) (h3 : x.d ≠ 1 → bat5 b x.s = none) : bnote b x e last = b := by
  unfold bnote
  by_cases c1 : x.d = 1
  · rw [if_pos c1, if_neg (h2 c1)]
  rw [if_neg c1, h3 c1]
  split
  · rfl
  · split
    · rfl
    · first | rfl | rw [if_neg h1]
theorem bn_kind (hx : x.d < 1 ∨ 10 < x.d ∨ x.d = 8) : bnote b x e last = b := by
  unfold bnote
  rw [if_neg (by omega), if_neg (by omega), if_neg (by omega), if_neg (by omega)]
theorem bn_on {o : Dn} (hx : 2 ≤ x.d ∧ x.d ≤ 5) (hs : 0 ≤ x.s ∧ x.s < 5) (ho : b.op x.s.toNat = some o) : bnote b x e last = if e.c = 0 then ⟨upd b.op x.s.toNat (some { o with acts := o.acts ++ [nact x e] }), b.dn⟩ else b := by
  unfold bnote
  rw [if_neg (by omega), if_pos hx]
  unfold bat5
  rw [if_pos hs, ho]
theorem bn_end {o : Dn} (hx : x.d = 6 ∨ x.d = 7 ∨ x.d = 10) (hs : 0 ≤ x.s ∧ x.s < 5) (ho : b.op x.s.toNat = some o) : bnote b x e last = ⟨if x.d = 10 then (fun _ => none) else upd b.op x.s.toNat none, if isd x e = true then b.dn ++ [{ o with n := e.n }] else b.dn⟩ := by
  unfold bnote
  rw [if_neg (by omega), if_neg (by omega), if_pos hx]
  unfold bat5
  rw [if_pos hs, ho]
end
theorem upd_self {α : Type} (g : Nat → α) (k : Nat) {v : α} (h : g k = v) : upd g k v = g := by
  funext j
  unfold upd
  split
  · rename_i q; rw [q]; exact h.symm
  · rfl
theorem NI.sit {h : HSt} {b : Bk} (ni : NI h b) {s : Int} {d' : Option Dp} {o' : Option Dn} (hi : HInv (Ytapmlleemopcnac.sit h s d')) (h1 : ∀ e, d' = some e → ∃ o, o' = some o ∧ SeatOk (shw h.f h.n e.y 8) e o) (h2 : d' = none → o' = none) : NI (Ytapmlleemopcnac.sit h s d') ⟨upd b.op s.toNat o', b.dn⟩ := by
  refine ⟨hi, fun k d hd => ?_, fun k hk => ?_, ni.dn⟩
  · rcases sit_at hd with ⟨q1, q2⟩ | ⟨q1, q2⟩
    · rw [q1]
      show ∃ o, upd b.op s.toNat o' s.toNat = some o ∧ _
      rw [upd_same]
      exact h1 d q2
    · show ∃ o, upd b.op s.toNat o' k = some o ∧ _
      rw [upd_other _ _ _ q1]
      exact ni.some_ k d q2
  · show upd b.op s.toNat o' k = none
    simp only [Ytapmlleemopcnac.sit, upd_at] at hk
    unfold upd
    split
    · rename_i q; rw [if_pos q] at hk; exact h2 hk
    · rename_i q; rw [if_neg q] at hk; exact ni.none_ k hk
theorem sit_self {h : HSt} {s : Int} {d : Dp} (hd : h.seat s.toNat = some d) : sit h s (some d) = h := by
  unfold sit
  rw [upd_self _ _ hd]
theorem NI.step {h : HSt} {b : Bk} (ni : NI h b) (x : HStep) : NI (hdo h x) (bnote b x (hev h x) h.n) := by
  have hi := ni.hi
  have hi2 := hi.step x
  have hsees := @hdo_sees h hi x
  have hk := hkind h x
  generalize hdo h x = h2 at *
  generalize hev h x = e at *
  have keep : ∀ {s : Nat} {d : Dp} {o : Dn}, h.seat s = some d → h2.seat s = some d → SeatOk (shw h.f h.n d.y 8) d o → SeatOk (shw h2.f h2.n d.y 8) d o := fun q1 q2 q3 => by
    rw [(hsees q1 q2).2.2.1]; exact q3
  cases hk with
  | kind c => rw [bn_kind (by omega)]; exact ni
  | clear c =>
    rw [bn_kind (by omega)]
    refine ⟨hi2, fun s d hd => ?_, fun s hs => ni.none_ s hs, ni.dn⟩
    obtain ⟨o, h1, h2⟩ := ni.some_ s d hd
    exact ⟨o, h1, keep hd hd h2⟩
  | crash c =>
    have e1 : bnote b x ev0 h.n = ⟨fun _ => none, b.dn⟩ := by
      unfold bnote
      rw [if_neg (by omega), if_neg (by omega), if_neg (by omega), if_pos c]
    rw [e1]
    exact ⟨hi2, fun s d hd => (by cases hd), fun _ _ => rfl, ni.dn⟩
  | range c1 c2 => rw [bn_none (by omega) (fun _ q => c2 q.2) (fun _ => by unfold bat5; rw [if_neg c2])]; exact ni
  | began c1 c2 c3 c4 =>
    have e1 : bnote b x (evc 0) h.n = ⟨upd b.op x.s.toNat (some ⟨0, bat h.n x.md x.at_, x.md, []⟩), b.dn⟩ := by
      unfold bnote
      rw [if_pos c1, if_pos ⟨rfl, c2⟩]
      rfl
    rw [e1]
    exact ni.sit hi2 (fun q hq => by cases hq; exact ⟨_, rfl, SeatOk.begin _ _ _⟩) (fun q => by cases q)
  | beganNot c1 c2 c3 c4 => rw [bn_none (by omega) (fun _ q => c4 q.1) (fun q => absurd c1 q)]; exact ni
  | none_ c1 c2 c3 => rw [bn_none (by omega) (fun q => by omega) (fun _ => by unfold bat5; rw [if_pos c2]; exact ni.none_ _ c3)]; exact ni
  | there d0 c1 c2 c3 => rw [bn_none (by omega) (fun _ q => by simp [evc] at q) (fun q => absurd c1 q)]; exact ni
  | get d c1 c2 c3 =>
    obtain ⟨o, ho, hso⟩ := ni.some_ _ d c3
    rw [bn_on ⟨by omega, by omega⟩ c2 ho]
    obtain ⟨k1, k2⟩ := hi.known _ d c3
    by_cases hkb : keyB x.key = true
    · have hkb' := hkb
      simp only [keyB, decide_eq_true_eq] at hkb'
      obtain ⟨j, hj⟩ : ∃ j : Nat, x.key = (j : Int) := ⟨x.key.toNat, by omega⟩
      have hj8 : j < 8 := by omega
      have hds := dg_see hi c3 hj8
      have ha := tr_known hi.inv k1 k2 hj8
      rw [hj, hds]
      rw [if_pos rfl]
      have en : nact x ⟨0, 0, (hsee h d j).t, (hsee h d j).s, []⟩ = ⟨2, (j : Int), 0, (lay (shw h.f h.n d.y 8) d.ws j).t, (lay (shw h.f h.n d.y 8) d.ws j).s, []⟩ := by
        unfold nact
        rw [if_pos c1, hj]
        rfl
      rw [en]
      rw [hj] at hi2
      exact ni.sit hi2 (fun q hq => by cases hq; exact ⟨_, rfl, hso.got hj8 ha⟩) (fun q => by cases q)
    · have e1 : dg h.f h.n d.y d.ws x.key = ⟨1, false, ByteArray.empty⟩ := by unfold dg; rw [if_neg hkb]
      have e2 : dr h.f h.n d.y d.rs d.ws x.key = d.rs := by unfold dr; rw [if_neg (fun q => hkb q.1)]
      rw [e1, e2, if_neg (by show ¬ (1 : Int) = 0; omega), sit_self c3]
      exact ni
  | put d c1 c2 c3 =>
    obtain ⟨o, ho, hso⟩ := ni.some_ _ d c3
    rw [bn_on ⟨by omega, by omega⟩ c2 ho]
    by_cases hc : dpc d.md x.key true x.b = 0
    · obtain ⟨j, hj8, hj⟩ := dpc_key' hc
      rw [if_pos (show (evc (dpc d.md x.key true x.b)).c = 0 from hc)]
      have hw : dpw d.md d.ws x.key true x.b = d.ws ++ [⟨(j : Int), true, x.b⟩] := by unfold dpw; rw [if_pos hc, hj]
      have en : nact x (evc (dpc d.md x.key true x.b)) = ⟨3, (j : Int), 0, true, x.b, []⟩ := by
        unfold nact
        rw [if_neg (by omega), if_pos c1, hj]
      rw [en]
      rw [hw] at hi2 ⊢
      exact ni.sit hi2 (fun q hq => by cases hq; exact ⟨_, rfl, hso.wrote_ hj8 (.inl rfl) _ _ _ _⟩) (fun q => by cases q)
    · rw [if_neg (show ¬ (evc (dpc d.md x.key true x.b)).c = 0 from hc)]
      have hw : dpw d.md d.ws x.key true x.b = d.ws := by unfold dpw; rw [if_neg hc]
      rw [hw, sit_self c3]
      exact ni
  | drop d c1 c2 c3 =>
    obtain ⟨o, ho, hso⟩ := ni.some_ _ d c3
    rw [bn_on ⟨by omega, by omega⟩ c2 ho]
    by_cases hc : dpc d.md x.key false ⟨#[]⟩ = 0
    · obtain ⟨j, hj8, hj⟩ := dpc_key' hc
      rw [if_pos (show (evc (dpc d.md x.key false ⟨#[]⟩)).c = 0 from hc)]
      have hw : dpw d.md d.ws x.key false ⟨#[]⟩ = d.ws ++ [⟨(j : Int), false, ⟨#[]⟩⟩] := by unfold dpw; rw [if_pos hc, hj]
      have en : nact x (evc (dpc d.md x.key false ⟨#[]⟩)) = ⟨4, (j : Int), 0, false, ⟨#[]⟩, []⟩ := by
        unfold nact
        rw [if_neg (by omega), if_neg (by omega), if_pos c1, hj]
      rw [en]
      rw [hw] at hi2 ⊢
      exact ni.sit hi2 (fun q hq => by cases hq; exact ⟨_, rfl, hso.wrote_ hj8 (.inr rfl) _ _ _ _⟩) (fun q => by cases q)
    · rw [if_neg (show ¬ (evc (dpc d.md x.key false ⟨#[]⟩)).c = 0 from hc)]
      have hw : dpw d.md d.ws x.key false ⟨#[]⟩ = d.ws := by unfold dpw; rw [if_neg hc]
      rw [hw, sit_self c3]
      exact ni
  | list d c1 c2 c3 =>
    obtain ⟨o, ho, hso⟩ := ni.some_ _ d c3
    rw [bn_on ⟨by omega, by omega⟩ c2 ho]
    obtain ⟨k1, k2⟩ := hi.known _ d c3
    by_cases hc : (dls h.f h.n d.y d.ws d.rs x.key x.to_).2.1 = 0
    · obtain ⟨g1, g2, g3⟩ := dls_rs (fun k hk => by rw [dg_see hi c3 hk]) (fun k hk => tr_known hi.inv k1 k2 hk) hc
      have hl := dls_wl (v := hsee h d) (fun k hk => dg_see hi c3 hk) hc
      rw [if_pos (show (dls h.f h.n d.y d.ws d.rs x.key x.to_).2.1 = 0 from hc)]
      have en : nact x ⟨(dls h.f h.n d.y d.ws d.rs x.key x.to_).2.1, 0, false, ⟨#[]⟩, (dls h.f h.n d.y d.ws d.rs x.key x.to_).1⟩ = ⟨5, x.key, x.to_, false, ⟨#[]⟩, wl (lay (shw h.f h.n d.y 8) d.ws) x.key x.to_ 8⟩ := by
        unfold nact
        rw [if_neg (by omega), if_neg (by omega), if_neg (by omega), hl]
        rfl
      rw [en]
      exact ni.sit hi2 (fun q hq => by cases hq; exact ⟨_, rfl, hso.listed g1 g2 g3⟩) (fun q => by cases q)
    · rw [if_neg (show ¬ (dls h.f h.n d.y d.ws d.rs x.key x.to_).2.1 = 0 from hc)]
      have e2 : (dls h.f h.n d.y d.ws d.rs x.key x.to_).2.2 = d.rs := by
        by_cases hk : keyB x.key = true ∧ keyB x.to_ = true
        · exfalso
          apply hc
          have h1 := hk.1
          have h2 := hk.2
          simp only [keyB, decide_eq_true_eq] at h1 h2
          obtain ⟨p, hp⟩ : ∃ p : Nat, x.key = (p : Int) := ⟨x.key.toNat, by omega⟩
          obtain ⟨t, ht⟩ : ∃ t : Nat, x.to_ = (t : Int) := ⟨x.to_.toNat, by omega⟩
          unfold dls
          rw [if_pos hk, hp, ht, Int.toNat_natCast, show ((t : Int) + 1 - (p : Int)).toNat = t + 1 - p by omega]
          by_cases hpt : p ≤ t + 1
          · exact (dgo_wl (v := hsee h d) (p := p) (t := t) (by omega) (fun k hk => dg_see hi c3 hk) (t + 1 - p) p [] d.rs (Nat.le_refl _) (by omega) (wl_lo (Int.le_refl _)).symm).2
          · rw [show t + 1 - p = 0 by omega]; rfl
        · unfold dls; rw [if_neg hk]
      rw [e2, sit_self c3]
      exact ni
  | commit d c1 c2 c3 =>
    obtain ⟨o, ho, hso⟩ := ni.some_ _ d c3
    rw [bn_end (.inl c1) c2 ho, if_neg (by omega)]
    have hisd : isd x (evn (vcode h.f h.cs d.md d.y d.rs d.ws) (vnum h.f h.n h.cs d.md d.y d.rs d.ws)) = decide (vcode h.f h.cs d.md d.y d.rs d.ws = 0) := by unfold isd; rw [if_pos c1]; rfl
    rw [hisd]
    have seats : (∀ s d', upd h.seat x.s.toNat none s = some d' → ∃ o, upd b.op x.s.toNat none s = some o ∧ SeatOk (shw (vf h.f h.n h.cs d.md d.y d.rs d.ws) (vn h.f h.n h.cs d.md d.y d.rs d.ws) d'.y 8) d' o) ∧ (∀ s, upd h.seat x.s.toNat none s = none → upd b.op x.s.toNat none s = none) := by
      refine ⟨fun s d' hd => ?_, fun s hd => ?_⟩
      · by_cases q : s = x.s.toNat
        · rw [q, upd_same] at hd; cases hd
        · have hd2 := hd
          rw [upd_other _ _ _ q] at hd2
          rw [upd_other _ _ _ q]
          obtain ⟨o, h1, h2⟩ := ni.some_ s d' hd2
          exact ⟨o, h1, keep hd2 hd h2⟩
      · by_cases q : s = x.s.toNat
        · rw [q, upd_same]
        · rw [upd_other _ _ _ q] at hd ⊢
          exact ni.none_ s hd
    refine ⟨hi2, seats.1, seats.2, ?_⟩
    show DI (vcs h.f h.cs d.md d.y d.rs d.ws) _
    cases hv : vdone h.f h.cs d.md d.y d.rs d.ws with
    | true =>
      obtain ⟨e1, e2, e3, e4⟩ := v_did (n := h.n) hv
      have hv' := hv
      unfold vdone at hv'
      simp only [decide_eq_true_eq] at hv'
      have hcode := (v_yes hv'.1 hv'.2.1 hv'.2.2).1
      rw [e3, hcode]
      simp only [evn, e4, decide_true, if_true]
      exact ni.dn.com ((ni.done c3 hso hv'.1).2 hv'.2.1 hv'.2.2) (by show (h.n : Int) + 1 = _; rw [hi.vi.len])
    | false =>
      obtain ⟨e1, e2, e3, e4⟩ := v_not (n := h.n) hv
      rw [e3]
      by_cases hc : vcode h.f h.cs d.md d.y d.rs d.ws = 0
      · have hm : dm h.f d.md d.y d.rs d.ws = 0 := by
          unfold vcode at hc
          by_cases q : dm h.f d.md d.y d.rs d.ws = 0
          · exact q
          · rw [if_neg q] at hc; exact hc
        have hz : (wk d.ws 8).length = 0 := by
          by_cases q : (wk d.ws 8).length = 0
          · exact q
          · exfalso
            unfold vcode at hc
            rw [if_pos hm, if_neg q] at hc
            unfold vdone at hv
            simp [hm, q, hc] at hv
        rw [hc]
        simp only [evn, e4, decide_true, if_true]
        exact ni.dn.look ((ni.done c3 hso hm).1 hz) rfl
      · rw [decide_eq_false hc]
        simp only [Bool.false_eq_true, if_false]
        exact ni.dn
  | tear d c1 c2 c3 =>
    obtain ⟨o, ho, hso⟩ := ni.some_ _ d c3
    rw [bn_end (.inr (.inr c1)) c2 ho, if_pos c1]
    have hisd : isd x (evn (vcode h.f h.cs d.md d.y d.rs d.ws) (tnum h.f h.cs d.md d.y d.rs d.ws x.keep)) = decide (tnum h.f h.cs d.md d.y d.rs d.ws x.keep ≠ 0) := by unfold isd; rw [if_neg (by omega), if_pos c1]; rfl
    rw [hisd]
    refine ⟨hi2, fun s d hd => (by cases hd), fun _ _ => rfl, ?_⟩
    show DI (tcs h.f h.cs d.md d.y d.rs d.ws x.keep) _
    rcases tcs_cases (f := h.f) (cs := h.cs) (md := d.md) (y := d.y) (rs := d.rs) (ws := d.ws) (keep := x.keep) with q | ⟨q1, q2, q3, q4, q5⟩
    · rw [tnum_same q, q]
      simp only [ne_eq, not_true_eq_false, decide_false, Bool.false_eq_true, if_false]
      exact ni.dn
    · have hn := tnum_more q1
      rw [q1, hn, decide_eq_true (by omega)]
      simp only [evn, if_true]
      have := (ni.done c3 hso q3).2 q4 q5
      rw [hi.vi.len] at this
      exact ni.dn.com this rfl
  | abort d c1 c2 c3 =>
    obtain ⟨o, ho, hso⟩ := ni.some_ _ d c3
    rw [bn_end (.inr (.inl c1)) c2 ho, if_neg (by omega)]
    have hisd : isd x ev0 = false := by unfold isd; rw [if_neg (by omega), if_neg (by omega)]
    rw [hisd]
    simp only [Bool.false_eq_true, if_false]
    exact ni.sit hi2 (fun q hq => by cases hq) (fun _ => rfl)
theorem NI.run : ∀ (l : List HStep) {h : HSt} {b : Bk}, NI h b → NI (nrun h b l).1 (nrun h b l).2 := by
  intro l
  induction l with
  | nil => intro h b ni; exact ni
  | cons x r ih => intro h b ni; exact ih (ni.step x)

/-- Those of one commit: one deed. -/
theorem kf_range {α : Type} (f : α → Int) : ∀ (m a : Nat) (l : List α), l.map f = (List.range' a m).map (fun i => ((i : Nat) : Int)) → (∀ d, d ∈ l → (a : Int) ≤ f d) ∧ ∀ k : Nat, a ≤ k → k < a + m → ∃ d, d ∈ l ∧ f d = (k : Int) ∧ kf f (k : Int) l = [d] := by
  intro m
  induction m with
  | zero =>
    intro a l h
    have : l = [] := by
      cases l with
      | nil => rfl
      | cons x r => simp at h
    subst this
    exact ⟨fun d hd => by simp at hd, fun k h1 h2 => by omega⟩
  | succ m ih =>
    intro a l h
    cases l with
    | nil => simp [List.range'] at h
    | cons x r =>
      simp only [List.range', List.map_cons, List.cons.injEq] at h
      obtain ⟨h1, h2⟩ := h
      obtain ⟨g1, g2⟩ := ih (a + 1) r h2
      refine ⟨fun d hd => ?_, fun k k1 k2 => ?_⟩
      · rcases List.mem_cons.1 hd with q | q
        · rw [q, h1]; exact Int.le_refl _
        · have := g1 d q; omega
      · by_cases e : k = a
        · subst e
          refine ⟨x, by simp, h1, ?_⟩
          unfold kf
          rw [List.filter_cons_of_pos (by simp [h1])]
          have : r.filter (fun x => decide (f x = (k : Int))) = [] := by
            rw [List.filter_eq_nil_iff]
            intro y hy q
            have := g1 y hy
            simp at q
            omega
          rw [this]
        · obtain ⟨d, q1, q2, q3⟩ := g2 k (by omega) (by omega)
          refine ⟨d, by simp [q1], q2, ?_⟩
          unfold kf at q3 ⊢
          rw [List.filter_cons_of_neg (by simp [h1]; omega)]
          exact q3
theorem DI.one {cs : List (List Ver)} {ds : List Dn} (h : DI cs ds) {k : Nat} (h1 : 1 ≤ k) (h2 : k ≤ cs.length) : ∃ d, d ∈ ds ∧ d.n = (k : Int) ∧ kf Dn.n (k : Int) ds = [d] := by
  obtain ⟨d, q1, q2, q3⟩ := (kf_range Dn.n cs.length 1 (cms ds) h.num).2 k h1 (by omega)
  rw [kf_cms (by omega)] at q3
  unfold cms at q1
  exact ⟨d, (List.mem_filter.1 q1).1, q2, q3⟩
/-- The commits' worlds, one behind the other. -/
theorem DI.world {cs : List (List Ver)} {ds : List Dn} (h : DI cs ds) {v : Nat → Ver} {n : Nat} (hn : n < cs.length) (hv : Sm v (wc (cs.take n))) : cmo v (kf Dn.n ((n : Int) + 1) ds) = true ∧ Sm (cmw v (kf Dn.n ((n : Int) + 1) ds)) (wc (cs.take (n + 1))) ∧ (kf Dn.n ((n : Int) + 1) ds).length = 1 := by
  obtain ⟨d, q1, q2, q3⟩ := h.one (k := n + 1) (by omega) (by omega)
  have c1 : ((n + 1 : Nat) : Int) = (n : Int) + 1 := by omega
  rw [c1] at q2 q3
  rw [q3]
  have hd := h.ok d q1
  obtain ⟨k1, k2, k3⟩ := hd.com (by omega)
  have e1 : (d.n - 1).toNat = n := by omega
  rw [e1] at k2 k3
  refine ⟨?_, ?_, rfl⟩
  · simp only [cmo, Bool.and_true, Bool.or_eq_true, decide_eq_true_eq]
    by_cases c : d.md = 2
    · left; rw [rpo_congr hv]; exact k3 c
    · right; exact c
  · simp only [cmw]
    have hcm : cs[n]? = some cs[n] := List.getElem?_eq_getElem hn
    have htk : cs.take (n + 1) = cs.take n ++ [cs[n]] := by rw [List.take_add_one, hcm]; rfl
    have e2 : cs.getD n [] = cs[n] := by rw [List.getD_eq_getElem?_getD, hcm]; rfl
    rw [htk, wc_snoc]
    have := k2 v
    rw [e2] at this
    exact this.trans (hv.wvs cs[n])
theorem DI.looks {cs : List (List Ver)} {ds : List Dn} (h : DI cs ds) {v : Nat → Ver} {n : Nat} (hv : Sm v (wc (cs.take n))) : lko v (kf Dn.at_ (n : Int) (lks ds)) = true := by
  have key : ∀ l : List Dn, (∀ d, d ∈ l → DoneOk cs d ∧ d.n = 0 ∧ d.at_ = (n : Int)) → lko v l = true := by
    intro l
    induction l with
    | nil => intro _; rfl
    | cons d r ih =>
      intro hl
      obtain ⟨h1, h2, h3⟩ := hl d (by simp)
      simp only [lko, Bool.and_eq_true]
      refine ⟨?_, ih (fun x hx => hl x (by simp [hx]))⟩
      have := (h1.look h2).2
      rw [h3, Int.toNat_natCast] at this
      rw [rpo_congr hv]
      exact this
  refine key _ (fun d hd => ?_)
  unfold kf lks at hd
  have h1 := List.mem_filter.1 hd
  have h2 := List.mem_filter.1 h1.1
  have h3 := h1.2
  have h4 := h2.2
  simp at h3 h4
  exact ⟨h.ok d h2.1, h4.1, h3⟩
/-- SURE, THEY CAME ONE BEHIND THE OTHER. -/
theorem DI.ser {cs : List (List Ver)} {ds : List Dn} (h : DI cs ds) : Ytapmlleemopcnac.ser ds = true := by
  have h0 := (mxn_ge ds 0).1
  have hle : mxn 0 ds ≤ cs.length := by
    rcases mxn_is ds 0 with q | ⟨d, q1, q2⟩
    · omega
    · have := (h.ok d q1).hi; omega
  have key : ∀ (m n : Nat) (v : Nat → Ver), n + m ≤ cs.length → Sm v (wc (cs.take n)) → srs ds m (n + 1) v true = true := by
    intro m
    induction m with
    | zero => intro n v _ _; rfl
    | succ m ih =>
      intro n v hn hv
      obtain ⟨g1, g2, g3⟩ := h.world (by omega) hv
      have c1 : ((n + 1 : Nat) : Int) = (n : Int) + 1 := by omega
      have e1 : sr1 ds (n + 1) v true = (cmw v (kf Dn.n ((n : Int) + 1) ds), true) := by
        unfold sr1
        rw [if_pos (by omega), c1, srN_eq]
        dsimp only
        rw [srL_eq (by omega), g1]
        have := h.looks g2
        rw [c1] at this
        rw [this]
        rfl
      simp only [srs]
      rw [e1]
      exact ih (n + 1) _ (by omega) g2
  unfold Ytapmlleemopcnac.ser
  simp only [srs]
  have e0 : sr1 ds 0 (fun _ => dv) true = (fun _ => dv, true) := by
    unfold sr1
    rw [if_neg (by omega)]
    dsimp only
    rw [srL_eq (by omega)]
    have := h.looks (v := fun _ => dv) (n := 0) (by rw [List.take_zero]; exact Sm.refl _)
    rw [show ((0 : Nat) : Int) = 0 from rfl] at this ⊢
    rw [this]
    rfl
  rw [e0]
  exact key _ 0 _ (by omega) (by rw [List.take_zero]; exact Sm.refl _)
theorem ntd_di (l : List HStep) : DI (nrun hst0 bk0 l).1.cs (ntd l) := (ni_new.run l).dn
theorem ntd_ser (l : List HStep) : ser (ntd l) = true := (ntd_di l).ser
end Go.Proofs.Ytapmlleemopcnac

/- A book: Note of whatever step. -/
namespace Go.Proofs.Ytapmlleemopcnac
open Go.RowKit
set_option maxRecDepth 20000
attribute [local go_sem ↓] Go.wp_at_zero Go.wp_at_succ

set_option maxHeartbeats 4000000 in
theorem bk_note {w0 w : World} {bb : Nat} {b : Bk} {r : List Thing} (x : HStep) (v : Ev) (la : Option Addr) (lc : Nat) (last : Int) (hls : SlO w la v.l) (hll : v.l.length ≤ 1000) (hb : ∀ s o, b.op s = some o → o.acts.length ≤ 1000) (hd : b.dn.length ≤ 1000) (hz : Zoo w0 w (BkT bb b :: r)) :
    Calls Try.prog 78 #[.pointer (some ⟨bb, 0, none⟩), .agg (xcs x), .agg (ecl v la lc), .int .i64 last] w fun e w' => e = .returned (.tuple #[]) ∧ Hid (Zoo w0 w' (BkT bb (bnote b x v last) :: r)) := by
  have hk := ((Kp.refl [] w).alloc (.cells (xcs x) 37)).alloc (.cells (ecl v la lc) 34)
  have HZ := hide (hz.kp0 hk)
  have HB := hide (fun h : x.d = 1 => bk_begin x v la lc last h (hz.kp0 hk))
  have HG := hide (fun h : 2 ≤ x.d ∧ x.d ≤ 5 => bk_goOn x v la lc last h (hls.kp0 hk) hll hb (hz.kp0 hk))
  have HE := hide (fun h : x.d = 6 ∨ x.d = 7 ∨ x.d = 10 => bk_end x v la lc last h hd (hz.kp0 hk))
  have HK := hide (fun h : x.d < 1 ∨ 10 < x.d ∨ x.d = 8 => bn_kind (b := b) (e := v) (last := last) h)
  have HC := hide (fun h : x.d = 9 => (show bnote b x v last = ⟨fun _ => none, b.dn⟩ by unfold bnote; rw [if_neg (by omega), if_neg (by omega), if_neg (by omega), if_pos h]))
  clear hk hz hls hll hb hd
  obtain ⟨xd, xs, xm, xa, xk, xt, xp, xb⟩ := x
  obtain ⟨vc, vn, vt, vs, vl⟩ := v
  dsimp only [xcs, ecl] at *
  generalize vl.length = ln at *
  by_cases h1 : xd = 1
  · subst h1
    have HY := hide (unhide HB (rfl))
    go_enter Try.func78, Try.ntmps78
    go_wp2_with fail
    refine (unhide HY).mono ?_
    rintro e w2 ⟨rfl, HR⟩
    go_wp2_with fail
    go_end0
    exact ⟨rfl, unhide HR⟩
  by_cases h2 : xd = 2
  · subst h2
    have HY := hide (unhide HG (by omega))
    go_enter Try.func78, Try.ntmps78
    go_wp2_with fail
    refine (unhide HY).mono ?_
    rintro e w2 ⟨rfl, HR⟩
    go_wp2_with fail
    go_end0
    exact ⟨rfl, unhide HR⟩
  by_cases h3 : xd = 3
  · subst h3
    have HY := hide (unhide HG (by omega))
    go_enter Try.func78, Try.ntmps78
    go_wp2_with fail
    refine (unhide HY).mono ?_
    rintro e w2 ⟨rfl, HR⟩
    go_wp2_with fail
    go_end0
    exact ⟨rfl, unhide HR⟩
  by_cases h4 : xd = 4
  · subst h4
    have HY := hide (unhide HG (by omega))
    go_enter Try.func78, Try.ntmps78
    go_wp2_with fail
    refine (unhide HY).mono ?_
    rintro e w2 ⟨rfl, HR⟩
    go_wp2_with fail
    go_end0
    exact ⟨rfl, unhide HR⟩
  by_cases h5 : xd = 5
  · subst h5
    have HY := hide (unhide HG (by omega))
    go_enter Try.func78, Try.ntmps78
    go_wp2_with fail
    refine (unhide HY).mono ?_
    rintro e w2 ⟨rfl, HR⟩
    go_wp2_with fail
    go_end0
    exact ⟨rfl, unhide HR⟩
  by_cases h6 : xd = 6
  · subst h6
    have HY := hide (unhide HE (.inl rfl))
    go_enter Try.func78, Try.ntmps78
    go_wp2_with fail
    refine (unhide HY).mono ?_
    rintro e w2 ⟨rfl, HR⟩
    go_wp2_with fail
    go_end0
    exact ⟨rfl, unhide HR⟩
  by_cases h7 : xd = 7
  · subst h7
    have HY := hide (unhide HE (.inr (.inl rfl)))
    go_enter Try.func78, Try.ntmps78
    go_wp2_with fail
    refine (unhide HY).mono ?_
    rintro e w2 ⟨rfl, HR⟩
    go_wp2_with fail
    go_end0
    exact ⟨rfl, unhide HR⟩
  by_cases h10 : xd = 10
  · subst h10
    have HY := hide (unhide HE (.inr (.inr rfl)))
    go_enter Try.func78, Try.ntmps78
    go_wp2_with fail
    refine (unhide HY).mono ?_
    rintro e w2 ⟨rfl, HR⟩
    go_wp2_with fail
    go_end0
    exact ⟨rfl, unhide HR⟩
  by_cases h9 : xd = 9
  · subst h9
    obtain ⟨st, a, c, ys, hb5, hbk⟩ := bk_open (unhide HZ)
    have HBK := hide hbk
    have HB5 := hide hb5
    rw [unhide HC rfl]
    clear hb5 hbk
    go_enter Try.func78, Try.ntmps78
    go_wp2_with fail
    refine (bk_leaveAll (unhide HBK)).mono ?_
    rintro e w2 ⟨rfl, HR⟩
    go_wp2_with fail
    go_end0
    exact ⟨rfl, bk_close (unhide HB5).leave (unhide HR)⟩
  · rw [unhide HK (by omega)]
    go_enter Try.func78, Try.ntmps78
    go_wp2_with fail
    go_end0
    exact ⟨rfl, unhide HZ⟩
end Go.Proofs.Ytapmlleemopcnac

/- A book: List, by its contract. -/
namespace Go.Proofs.Ytapmlleemopcnac
open Go.RowKit
set_option maxRecDepth 20000
attribute [local go_sem ↓] Go.wp_at_zero Go.wp_at_succ

theorem krow_cap {e : TypeId} {k B : Nat} {w : World} {a : Option Addr} {n cap : Nat} {xs : List Value} (h : KRow e k B w a n cap xs) : n ≤ cap := by
  rcases h.2 with ⟨_, e1, e2⟩ | ⟨g, cur, _, _, _, h4, _⟩
  · omega
  · exact h4
theorem heap_alloc_at {w : World} {o : Obj} {n : Nat} (h : w.heap.size = n) : (w.alloc o).heap[n]? = some o := by
  subst h
  exact heap_alloc_new _ _
/-- Deeds' rows and their acts, as things: what is read of them. -/
theorem rows_in {w0 w : World} {a : Option Addr} {c : Nat} {ys : List Dy} {os : List Thing} (hz : Zoo w0 w os) (h1 : KwT 90 4 a ys.length c (dxcs (ys.map Dy.x)) ∈ os) (h2 : ∀ y, y ∈ ys → dyT y ∈ os) (h3 : ∀ y, y ∈ ys → y.x.d.acts = y.ys.map Ax.x) : DnsIn w a (ys.map (fun y => y.x.d)) := by
  obtain ⟨k1, k2, ek⟩ := List.append_of_mem h1
  have hrow : KRow 90 4 w0.heap.size w a ys.length c (dxcs (ys.map Dy.x)) := kw_row (l1 := k1) (r := k2) (by rw [← ek]; exact hz)
  intro hp
  rw [List.length_map] at hp
  have hat : ∀ {i : Nat} {y : Dy}, ys[i]? = some y → (ys.map Dy.x)[i]? = some y.x := fun {i y} h => by rw [List.getElem?_map, h]; rfl
  obtain ⟨g, e, _⟩ := hrow.cell (dxcs_at (hat (List.getElem?_eq_getElem hp))).1
  refine ⟨g, 0, e, fun i d hd => ?_⟩
  rw [List.getElem?_map] at hd
  cases hy : ys[i]? with
  | none => rw [hy] at hd; cases hd
  | some y =>
    rw [hy] at hd
    simp only [Option.map_some, Option.some.injEq] at hd
    subst hd
    obtain ⟨c0, c1, c2, c3⟩ := dxcs_at (hat hy)
    have key : ∀ {j : Nat} {v : Value}, (dxcs (ys.map Dy.x))[j]? = some v → w.cell? ⟨g, j, none⟩ = some v := fun {j v} hv => by
      obtain ⟨g', e', hc⟩ := hrow.cell hv
      rw [e] at e'
      simp only [Option.some.injEq, Addr.mk.injEq, and_true] at e'
      rw [e']
      exact hc
    have hm := List.mem_of_getElem? hy
    rw [Nat.zero_add]
    refine ⟨key c0, key c1, key c2, ⟨y.x.a, y.x.c, key c3, ?_⟩, y.x.a, y.x.c, key c3, ?_⟩
    · obtain ⟨l1, l2, el⟩ := List.append_of_mem (h2 y hm)
      have := krow_cap (act_row (l1 := l1) (r := l2) (zs := y.ys) (show Zoo w0 w (l1 ++ ActT y.x.a y.x.c y.ys :: l2) by have z := hz; rw [el] at z; exact z))
      rw [h3 y hm, List.length_map]
      exact this
    rw [h3 y hm]
    exact act_in hz (h2 y hm)
/-- What is so at the heads of List's loops. -/
structure BlO (ds : List Dn) (w wr : World) (al : Option Addr) (cl n k : Nat) (ys : List Dy) : Prop where
  zoo : Zoo w wr (KwT 90 4 al n cl (dxcs (ys.map Dy.x)) :: ys.map dyT)
  nl : n = ys.length
  map : ys.map (fun y => y.x.d) = ds.take k
  acts : ∀ y, y ∈ ys → y.x.d.acts = y.ys.map Ax.x
structure BlI (acts : List Ac) (w wr : World) (aI : Option Addr) (cI m i : Nat) (zs : List Ax) (R : List Thing) : Prop where
  zoo : Zoo w wr (ActT aI cI zs :: R)
  nl : m = zs.length
  map : zs.map Ax.x = acts.take i
theorem BlI.step {acts : List Ac} {w wr w3 W w4 : World} {aI a2 : Option Addr} {cI c2 m i q : Nat} {zs : List Ax} {R : List Thing} {x : Ac} {a3 : Option Addr} {c3 : Nat} (h : BlI acts w wr aI cI m i zs R) (hx : acts[i]? = some x)
    (hW : Zoo w W (axT ⟨x, a3, c3⟩ :: BoxT q (axc ⟨x, a3, c3⟩).toArray 101 :: ActT aI cI zs :: R)) (hk : Kp [] W w3)
    (g1 : KRow 101 6 w.heap.size w4 a2 (m + 1) c2 (axcs zs ++ axc ⟨x, a3, c3⟩)) (g2 : Kp (ob aI) w3 w4) (g3 : ∀ x ∈ ob a2, x ∈ ob aI ∨ w3.heap.size ≤ x) : BlI acts w w4 a2 c2 (m + 1) (i + 1) (zs ++ [⟨x, a3, c3⟩]) R := by
  have h1 := zoo_drop1 (hW.kp0 hk)
  have h2 := act_more h1 (by rw [← h.nl]; exact g1) g2 g3
  refine ⟨h2, by rw [List.length_append, h.nl]; rfl, ?_⟩
  rw [List.map_append, h.map, List.take_add_one, hx]
  rfl
def LiEnd (ds : List Dn) (w : World) (e : Ending) (w' : World) : Prop := ∃ a c, e = .returned (.slice a ds.length c) ∧ DnsIn w' a ds ∧ Kp [] w w'
set_option maxHeartbeats 4000000 in
theorem bk_list {w0 w : World} {bb : Nat} {b : Bk} {r : List Thing} (hz : Zoo w0 w (BkT bb b :: r)) (hok : DnsOk b.dn) :
    Calls Try.prog 79 #[.pointer (some ⟨bb, 0, none⟩)] w (LiEnd b.dn w) := by
  have hu := Try.underlying85
  have hua := Try.underlying88
  obtain ⟨st, a, c, ys, hb5, hbk⟩ := bk_open hz
  have hdn : DnsIn w a b.dn := by
    rw [← hb5.dn]
    exact rows_in hbk (List.Mem.tail _ (List.Mem.head _)) (fun y hy => List.mem_append_left _ (List.mem_cons_of_mem _ (List.mem_cons_of_mem _ (List.mem_append_left _ (List.mem_map_of_mem hy))))) hb5.da
  have hlen : ys.length = b.dn.length := by rw [← hb5.dn, List.length_map]
  have c5 := hbk.c5
  rw [hlen] at c5
  obtain ⟨ds, hds⟩ : ∃ ds, b.dn = ds := ⟨_, rfl⟩
  rw [hds] at hdn hok c5 ⊢
  have HD := hide hdn
  have HO := hide hok
  have hm := hok.1
  obtain ⟨m, hmm⟩ : ∃ m, ds.length = m := ⟨_, rfl⟩
  rw [hmm] at c5 hm
  have HM := hide hmm
  clear hdn hok hb5 hbk hz hlen hds hmm
  go_enter Try.func79, Try.ntmps79
  go_wp2_with fail
  go_loopw [3, 5, 6, 8, 14] (fun x _ _ _ y wr => ∃ (k : Nat) (al : Option Addr) (cl n : Nat), k ≤ m ∧ x = .slice al n cl ∧ y = .int .i64 k ∧ n ≤ k ∧ Hid (∃ ys, BlO ds w wr al cl n k ys)) (fun _ _ _ _ y _ => m - (intOf y).toNat)
  case atStart => exact ⟨0, none, 0, 0, Nat.zero_le _, rfl, rfl, Nat.le_refl _, [], kw_nil _ 4 (zoo_nil (Kp.refl [] w)), rfl, rfl, fun y hy => by simp at hy⟩
  case round =>
    obtain ⟨k, al, cl, n, hk, rfl, rfl, hnk, HI⟩ := hrel
    obtain ⟨ys, hi⟩ := unhide HI
    have HL := hide hi
    clear hi HI
    by_cases hlt : k < m
    · have i1 : (k : Int) < (m : Int) := by omega
      have i0 : (0 : Int) ≤ (k : Int) := by omega
      have hln : k < ds.length := by have := unhide HM; omega
      obtain ⟨g, o, rfl, hb⟩ := (unhide HD) (by omega)
      obtain ⟨x, hx⟩ : ∃ x, ds[k]? = some x := ⟨_, List.getElem?_eq_getElem hln⟩
      have htk : ds.take (k + 1) = ds.take k ++ [x] := by rw [List.take_add_one, hx]; rfl
      have HT := hide htk
      have hxok := (unhide HO).2 x (List.mem_of_getElem? hx)
      have hat := hb k x hx
      have hkw := (unhide HL).zoo.kp
      obtain ⟨la, lc, z3, hls⟩ := hat.ls
      have HLS := hide hls
      have q0 := (hat.kp0 hkw).c0
      have q1 := (hat.kp0 hkw).c1
      have q2 : wr.cell? ⟨g, o + k * 4 + 1 + 1, none⟩ = _ := (hat.kp0 hkw).c2
      have q3 : wr.cell? ⟨g, o + k * 4 + 1 + 1 + 1, none⟩ = _ := hkw.cell (by simp) z3
      clear hat hb hx hls z3 hkw htk
      obtain ⟨xn, xa, xm, xacts⟩ := x
      dsimp only at q0 q1 q2 q3 HLS hxok
      have HXO := hide hxok
      have hlx1 := hxok.1
      obtain ⟨ln, hlen⟩ : ∃ ln, xacts.length = ln := ⟨_, rfl⟩
      rw [hlen] at q3 hlx1
      have HLN := hide hlen
      clear hlen hxok
      have HI0 := hide (show BlI xacts w (wr.alloc (.cells #[.int .i64 xn, .int .i64 xa, .int .i64 xm, .slice la ln lc] 90)) none 0 0 0 [] (BoxT wr.heap.size #[.int .i64 xn, .int .i64 xa, .int .i64 xm, .slice la ln lc] 90 :: (KwT 90 4 al n cl (dxcs (ys.map Dy.x)) :: ys.map dyT)) from ⟨act_close (zs := []) (kw_nil _ 6 ((unhide HL).zoo.box #[.int .i64 xn, .int .i64 xa, .int .i64 xm, .slice la ln lc] 90)), rfl, rfl⟩)
      go_wp2_with fail
      generalize wr.heap.size = q5 at *
      generalize wr.alloc (.cells #[.int .i64 xn, .int .i64 xa, .int .i64 xm, .slice la ln lc] 90) = w5 at *
      clear q0 q1 q2 q3
      go_loopw [6, 8, 21] (fun x _ y wr => ∃ (i : Nat) (aI : Option Addr) (cI n2 : Nat), i ≤ ln ∧ x = .slice aI n2 cI ∧ y = .int .i64 i ∧ n2 ≤ i ∧ Hid (∃ zs, BlI xacts w wr aI cI n2 i zs (BoxT q5 #[.int .i64 xn, .int .i64 xa, .int .i64 xm, .slice la ln lc] 90 :: (KwT 90 4 al n cl (dxcs (ys.map Dy.x)) :: ys.map dyT)))) (fun _ _ y _ => ln - (intOf y).toNat)
      case atStart => exact ⟨0, none, 0, 0, Nat.zero_le _, rfl, rfl, Nat.le_refl _, [], unhide HI0⟩
      case round =>
        obtain ⟨i, aI, cI, n2, hil, rfl, rfl, hn2, HI2⟩ := hrel
        obtain ⟨zs, hi2⟩ := unhide HI2
        have HZI := hide hi2
        clear hi2 HI2 HI0
        by_cases hlt2 : i < ln
        · have j1 : (i : Int) < (ln : Int) := by omega
          have j0 : (0 : Int) ≤ (i : Int) := by omega
          have hln2 : i < xacts.length := by have := unhide HLN; omega
          obtain ⟨b2, o2, rfl, hb2⟩ := (unhide HLS).kp0 (unhide HZI).zoo.kp (by omega)
          obtain ⟨x, hx⟩ : ∃ x, xacts[i]? = some x := ⟨_, List.getElem?_eq_getElem hln2⟩
          have HX := hide hx
          have hxl : x.l.length ≤ 1000 := (unhide HXO).2 x (List.mem_of_getElem? hx)
          have hat := hb2 i x hx
          obtain ⟨la2, lc2, z5, hls2⟩ := hat.ls
          have q0 := hat.c0
          have q1 := hat.c1
          have q2 : wr.cell? ⟨b2, o2 + i * 6 + 1 + 1, none⟩ = _ := hat.c2
          have q3 : wr.cell? ⟨b2, o2 + i * 6 + 1 + 1 + 1, none⟩ = _ := hat.c3
          have q4 : wr.cell? ⟨b2, o2 + i * 6 + 1 + 1 + 1 + 1, none⟩ = _ := hat.c4
          have q5' : wr.cell? ⟨b2, o2 + i * 6 + 1 + 1 + 1 + 1 + 1, none⟩ = _ := z5
          have HL2 := hide hls2
          clear hat hb2 hx hls2 z5
          obtain ⟨kd, key, to_, xt, xs, xl⟩ := x
          dsimp only at q0 q1 q2 q3 q4 q5' hxl HL2
          obtain ⟨l2, hlen2⟩ : ∃ l2, xl.length = l2 := ⟨_, rfl⟩
          rw [hlen2] at q5'
          have HLN2 := hide hlen2
          clear hlen2
          have HB1 := hide ((unhide HZI).zoo.box #[.int .i64 kd, .int .i64 key, .int .i64 to_, .bool xt, .string xs, .slice la2 l2 lc2] 101)
          have HL3 := hide ((unhide HL2).kp0 ((Kp.refl [] wr).alloc (.cells #[.int .i64 kd, .int .i64 key, .int .i64 to_, .bool xt, .string xs, .slice la2 l2 lc2] 101)))
          go_wp2_with fail
          generalize wr.heap.size = q8 at *
          generalize wr.alloc (.cells #[.int .i64 kd, .int .i64 key, .int .i64 to_, .bool xt, .string xs, .slice la2 l2 lc2] 101) = w6 at *
          rw [← unhide HLN2]
          refine (clone118 la2 lc2 xl w6 (unhide HL3) hxl).mono ?_
          rintro e w7 ⟨a3, c3, rfl, hr3, hk3⟩
          rw [unhide HLN2]
          have HB2 := hide ((unhide HB1).cons (o := KwT 79 3 a3 xl.length c3 (vcells xl)) (F := ob a3) ⟨hr3, rfl⟩ hk3)
          clear hr3 hk3 HB1 HL3 HL2 q0 q1 q2 q3 q4 q5'
          obtain ⟨F8, ⟨hbx8, e8, f8⟩, k8⟩ := zoo_at1 (unhide HB2)
          have HB3 := hide (k8 (BoxT q8 #[.int .i64 kd, .int .i64 key, .int .i64 to_, .bool xt, .string xs, .slice a3 l2 c3] 101) (w7.setCell ⟨q8, 5, none⟩ (.slice a3 l2 c3)) ⟨F8, ⟨by rw [heap_setCell_at _ _ hbx8]; rfl, e8, f8⟩, by rw [e8]; exact (Kp.refl [q8] _).setCell (.inl (by simp)) _, fun x hx => .inl hx⟩)
          have y5 : w7.cell? ⟨q8, 5, none⟩ = some (.slice la2 l2 lc2) := cell_of_block hbx8 rfl
          have fy5 := frozen_of_block 5 hbx8
          clear hbx8 e8 f8 k8 HB2
          have hb3 := zoo_varm (unhide HB3) (List.Mem.tail _ (List.Mem.head _))
          have hBw := Zoo.base (unhide HB3)
          have y10 : (w7.setCell ⟨q8, 5, none⟩ (.slice a3 l2 c3)).cell? ⟨q8, 0, none⟩ = some (.int .i64 kd) := cell_of_block hb3 rfl
          have y11 : (w7.setCell ⟨q8, 5, none⟩ (.slice a3 l2 c3)).cell? ⟨q8, 1, none⟩ = some (.int .i64 key) := cell_of_block hb3 rfl
          have y12 : (w7.setCell ⟨q8, 5, none⟩ (.slice a3 l2 c3)).cell? ⟨q8, 2, none⟩ = some (.int .i64 to_) := cell_of_block hb3 rfl
          have y13 : (w7.setCell ⟨q8, 5, none⟩ (.slice a3 l2 c3)).cell? ⟨q8, 3, none⟩ = some (.bool xt) := cell_of_block hb3 rfl
          have y14 : (w7.setCell ⟨q8, 5, none⟩ (.slice a3 l2 c3)).cell? ⟨q8, 4, none⟩ = some (.string xs) := cell_of_block hb3 rfl
          have y15 : (w7.setCell ⟨q8, 5, none⟩ (.slice a3 l2 c3)).cell? ⟨q8, 5, none⟩ = some (.slice a3 l2 c3) := cell_of_block hb3 rfl
          have HW8 : Hid (Zoo w (w7.setCell ⟨q8, 5, none⟩ (.slice a3 l2 c3)) (axT ⟨⟨kd, key, to_, xt, xs, xl⟩, a3, c3⟩ :: BoxT q8 (axc ⟨⟨kd, key, to_, xt, xs, xl⟩, a3, c3⟩).toArray 101 :: ActT aI cI zs :: (BoxT q5 #[.int .i64 xn, .int .i64 xa, .int .i64 xm, .slice (some ⟨b2, o2, none⟩) ln lc] 90 :: (KwT 90 4 al n cl (dxcs (ys.map Dy.x)) :: ys.map dyT)))) := by
            have z := unhide HB3
            rw [← unhide HLN2] at z ⊢
            exact z
          have hrow : KRow 101 6 w.heap.size (w7.setCell ⟨q8, 5, none⟩ (.slice a3 l2 c3)) aI n2 cI (axcs zs) := by
            rw [(unhide HZI).nl]
            exact act_row (l1 := [_, _]) (unhide HW8)
          have HRW := hide hrow
          clear hb3 hrow HB3
          go_wp2_with (at_builtin; refine wpList_krow (by rfl) (.tmp 29) (.tmp 31) 88 (by rfl) hua Try.info101 rfl (by omega) ((unhide HRW).kp0 ((Kp.refl [] _).alloc _)) (by have := hBw; simp at this ⊢; omega) (.slice (some ⟨w7.heap.size, 0, none⟩) 1 1) [.int .i64 kd, .int .i64 key, .int .i64 to_, .bool xt, .string xs, .slice a3 l2 c3] 1 (by rfl) (by rfl) (src_built (cs := #[.int .i64 kd, .int .i64 key, .int .i64 to_, .bool xt, .string xs, .slice a3 l2 c3]) (T := 101) (fr := (0, 0)) hua (heap_alloc_at (by simp)) rfl (by simp [Value.oneCell'])) (by omega) (n2 + 1) rfl ?_; intro a2 c2 w9 g1 g2 g3)
          refine ⟨⟨i + 1, a2, c2, n2 + 1, by omega, rfl, by go_num, by omega, zs ++ [⟨⟨kd, key, to_, xt, xs, xl⟩, a3, c3⟩], ?_⟩, by simp [intOf]; omega⟩
          refine (unhide HZI).step (unhide HX) (unhide HW8) ((Kp.refl [] _).alloc _) ?_ (unhide g2) (unhide g3)
          have z := unhide g1
          rw [← unhide HLN2] at z
          exact z
        · have j1 : ¬ (i : Int) < (ln : Int) := by omega
          have hz5 := (unhide HZI).zoo
          obtain ⟨F5, ⟨hbx5, e5, f5⟩, k5⟩ := zoo_at1 hz5
          have HB6 := hide (k5 (BoxT q5 #[.int .i64 xn, .int .i64 xa, .int .i64 xm, .slice aI n2 cI] 90) (wr.setCell ⟨q5, 3, none⟩ (.slice aI n2 cI)) ⟨F5, ⟨by rw [heap_setCell_at _ _ hbx5]; rfl, e5, f5⟩, by rw [e5]; exact (Kp.refl [q5] _).setCell (.inl (by simp)) _, fun x hx => .inl hx⟩)
          have y3 : wr.cell? ⟨q5, 3, none⟩ = some (.slice la ln lc) := cell_of_block hbx5 rfl
          have fy3 := frozen_of_block 3 hbx5
          clear hbx5 e5 f5 k5 hz5
          have hb6 := zoo_varm (unhide HB6) (List.Mem.tail _ (List.Mem.head _))
          have hBw := Zoo.base (unhide HB6)
          have y10 : (wr.setCell ⟨q5, 3, none⟩ (.slice aI n2 cI)).cell? ⟨q5, 0, none⟩ = some (.int .i64 xn) := cell_of_block hb6 rfl
          have y11 : (wr.setCell ⟨q5, 3, none⟩ (.slice aI n2 cI)).cell? ⟨q5, 1, none⟩ = some (.int .i64 xa) := cell_of_block hb6 rfl
          have y12 : (wr.setCell ⟨q5, 3, none⟩ (.slice aI n2 cI)).cell? ⟨q5, 2, none⟩ = some (.int .i64 xm) := cell_of_block hb6 rfl
          have y13 : (wr.setCell ⟨q5, 3, none⟩ (.slice aI n2 cI)).cell? ⟨q5, 3, none⟩ = some (.slice aI n2 cI) := cell_of_block hb6 rfl
          have HRW := hide (kw_row (l1 := [_, _]) (unhide HB6))
          clear hb6
          go_wp2_with (at_builtin; refine wpList_krow (by rfl) (.tmp 36) (.tmp 38) 85 (by rfl) hu Try.info90 rfl (by omega) ((unhide HRW).kp0 ((Kp.refl [] _).alloc _)) (by have := hBw; simp at this ⊢; omega) (.slice (some ⟨wr.heap.size, 0, none⟩) 1 1) [.int .i64 xn, .int .i64 xa, .int .i64 xm, .slice aI n2 cI] 1 (by rfl) (by rfl) (src_built (cs := #[.int .i64 xn, .int .i64 xa, .int .i64 xm, .slice aI n2 cI]) (T := 90) (fr := (0, 0)) hu (heap_alloc_at (by simp)) rfl (by simp [Value.oneCell'])) (by omega) (n + 1) rfl ?_; intro a2 c2 w9 g1 g2 g3)
          have hzs : zs.map Ax.x = xacts := by rw [(unhide HZI).map, List.take_of_length_le (by have := unhide HLN; omega)]
          have hzl : xacts.length = n2 := by rw [← hzs, List.length_map, (unhide HZI).nl]
          have hz9 := kw_app (l1 := [_, _]) ((unhide HB6).kp0 ((Kp.refl [] _).alloc (.cells #[.int .i64 xn, .int .i64 xa, .int .i64 xm, .slice aI n2 cI] 90))) (unhide g1) (unhide g2) (unhide g3)
          refine ⟨⟨k + 1, a2, c2, n + 1, by omega, rfl, by go_num, by omega, ys ++ [⟨⟨⟨xn, xa, xm, xacts⟩, aI, cI⟩, zs⟩], ?_, ?_, ?_, fun y hy => ?_⟩, by simp [intOf]; omega⟩
          · have hz10 := zoo_drop1 hz9
            have e1 : dxcs ((ys ++ [(⟨⟨⟨xn, xa, xm, xacts⟩, aI, cI⟩, zs⟩ : Dy)]).map Dy.x) = dxcs (ys.map Dy.x) ++ [.int .i64 xn, .int .i64 xa, .int .i64 xm, .slice aI n2 cI] := by
              rw [List.map_append, dxcs_app]
              simp [dxcs, dxc, hzl]
            rw [e1, List.map_append]
            refine hz10.perm ?_
            have p1 : (ActT aI cI zs :: KwT 90 4 a2 (n + 1) c2 (dxcs (ys.map Dy.x) ++ [.int .i64 xn, .int .i64 xa, .int .i64 xm, .slice aI n2 cI]) :: ys.map dyT).Perm (KwT 90 4 a2 (n + 1) c2 (dxcs (ys.map Dy.x) ++ [.int .i64 xn, .int .i64 xa, .int .i64 xm, .slice aI n2 cI]) :: (ActT aI cI zs :: ys.map dyT)) := List.Perm.swap _ _ _
            refine p1.trans (List.Perm.cons _ ?_)
            have p2 := (List.perm_append_comm (l₁ := ys.map dyT) (l₂ := [ActT aI cI zs])).symm
            simpa [dyT] using p2
          · rw [List.length_append, (unhide HL).nl]; rfl
          · rw [List.map_append, (unhide HL).map, unhide HT]; rfl
          · rcases List.mem_append.1 hy with e | e
            · exact (unhide HL).acts y e
            · rw [List.mem_singleton.1 e]; exact hzs.symm
    · have i1 : ¬ (k : Int) < (m : Int) := by omega
      go_wp2_with fail
      go_ret
      have hmp := (unhide HL).map
      rw [List.take_of_length_le (by have := unhide HM; omega)] at hmp
      have hnl := (unhide HL).nl
      have hzl := (unhide HL).zoo
      have hl : n = ds.length := by rw [hnl, ← hmp, List.length_map]
      rw [hnl] at hzl
      refine ⟨al, cl, congrArg (fun z => Ending.returned (Value.slice al z cl)) hl, ?_, hzl.kp⟩
      have z := rows_in hzl (List.Mem.head _) (fun y hy => List.mem_cons_of_mem _ (List.mem_map_of_mem hy)) (unhide HL).acts
      rw [hmp] at z
      exact z
end Go.Proofs.Ytapmlleemopcnac

/- What was done, of steps of a hall: noted, by its contract. -/
namespace Go.Proofs.Ytapmlleemopcnac
open Go.RowKit
set_option maxRecDepth 20000
attribute [local go_sem ↓] Go.wp_at_zero Go.wp_at_succ

/-- How much a book holds behind i steps. -/
structure BkB (i : Nat) (b : Bk) : Prop where
  op : ∀ s o, b.op s = some o → o.acts.length ≤ i ∧ ∀ x, x ∈ o.acts → x.l.length ≤ 8
  len : b.dn.length ≤ i
  dn : ∀ d, d ∈ b.dn → d.acts.length ≤ i ∧ ∀ x, x ∈ d.acts → x.l.length ≤ 8
theorem BkB.le {i j : Nat} {b : Bk} (h : BkB i b) (hij : i ≤ j) : BkB j b :=
  ⟨fun s o ho => ⟨Nat.le_trans (h.op s o ho).1 hij, (h.op s o ho).2⟩, Nat.le_trans h.len hij, fun d hd => ⟨Nat.le_trans (h.dn d hd).1 hij, (h.dn d hd).2⟩⟩
theorem bkb_new : BkB 0 bk0 := ⟨fun s o h => (by cases h), Nat.le_refl _, fun d h => (by cases h)⟩
theorem nact_len {x : HStep} {e : Ev} (h : e.l.length ≤ 8) : (nact x e).l.length ≤ 8 := by
  unfold nact
  repeat' split
  all_goals first | exact Nat.zero_le _ | exact h
theorem BkB.step {i : Nat} {b : Bk} (h : BkB i b) (x : HStep) (e : Ev) (last : Int) (he : e.l.length ≤ 8) : BkB (i + 1) (bnote b x e last) := by
  have h1 := h.le (Nat.le_succ i)
  unfold bnote
  split
  · split
    · refine ⟨fun s o ho => ?_, h1.len, h1.dn⟩
      dsimp only [upd] at ho
      split at ho
      · cases ho
        exact ⟨Nat.zero_le _, fun x hx => (by cases hx)⟩
      · exact h1.op s o ho
    · exact h1
  · split
    · split
      · exact h1
      · rename_i d hd
        split
        · have hdd : b.op x.s.toNat = some d := by
            unfold bat5 at hd
            split at hd
            · exact hd
            · cases hd
          refine ⟨fun s o ho => ?_, h1.len, h1.dn⟩
          dsimp only [upd] at ho
          split at ho
          · cases ho
            refine ⟨by simp only [List.length_append, List.length_cons, List.length_nil]; have := (h.op _ _ hdd).1; omega, fun y hy => ?_⟩
            rcases List.mem_append.1 hy with q | q
            · exact (h.op _ _ hdd).2 y q
            · rw [List.mem_singleton.1 q]; exact nact_len he
          · exact h1.op s o ho
        · exact h1
    · split
      · split
        · exact h1
        · rename_i d hd
          have hdd : b.op x.s.toNat = some d := by
            unfold bat5 at hd
            split at hd
            · exact hd
            · cases hd
          refine ⟨fun s o ho => ?_, ?_, fun y hy => ?_⟩
          · dsimp only at ho
            split at ho
            · cases ho
            · dsimp only [upd] at ho
              split at ho
              · cases ho
              · exact h1.op s o ho
          · dsimp only
            split
            · simp only [List.length_append, List.length_cons, List.length_nil]; have := h.len; omega
            · exact h1.len
          · dsimp only at hy
            split at hy
            · rcases List.mem_append.1 hy with q | q
              · exact h1.dn y q
              · rw [List.mem_singleton.1 q]; exact h1.op x.s.toNat d hdd
            · exact h1.dn y hy
      · split
        · exact ⟨fun s o ho => (by cases ho), h1.len, h1.dn⟩
        · exact h1
theorem BkB.ok {i : Nat} {b : Bk} (h : BkB i b) (hi : i ≤ 1000) : DnsOk b.dn :=
  ⟨Nat.le_trans h.len hi, fun x hx => ⟨Nat.le_trans (h.dn x hx).1 hi, fun y hy => Nat.le_trans ((h.dn x hx).2 y hy) (by omega)⟩⟩
theorem nrun_app (h : HSt) (b : Bk) (l : List HStep) (x : HStep) : nrun h b (l ++ [x]) = (hdo (nrun h b l).1 x, bnote (nrun h b l).2 x (hev (nrun h b l).1 x) (nrun h b l).1.n) := by
  induction l generalizing h b with
  | nil => rfl
  | cons y l ih => exact ih _ _
def hstl (st : Nat → HStep) (n : Nat) : List HStep := (List.range n).map st
theorem hstl_succ (st : Nat → HStep) (n : Nat) : hstl st (n + 1) = hstl st n ++ [st n] := by
  unfold hstl
  rw [List.range_succ, List.map_append]
  rfl
theorem cells8s_kp {w w' : World} {p0 p1 p2 p3 q0 q1 q2 q3 : Addr} {x0 x1 x2 x3 y0 y1 y2 y3 : Value} (h : w.cell? p0 = some x0 ∧ w.cell? p1 = some x1 ∧ w.cell? p2 = some x2 ∧ w.cell? p3 = some x3 ∧ w.cell? q0 = some y0 ∧ w.cell? q1 = some y1 ∧ w.cell? q2 = some y2 ∧ w.cell? q3 = some y3) (hk : Kp [] w w') :
    w'.cell? p0 = some x0 ∧ w'.cell? p1 = some x1 ∧ w'.cell? p2 = some x2 ∧ w'.cell? p3 = some x3 ∧ w'.cell? q0 = some y0 ∧ w'.cell? q1 = some y1 ∧ w'.cell? q2 = some y2 ∧ w'.cell? q3 = some y3 :=
  ⟨hk.cell (by simp) h.1, hk.cell (by simp) h.2.1, hk.cell (by simp) h.2.2.1, hk.cell (by simp) h.2.2.2.1, hk.cell (by simp) h.2.2.2.2.1, hk.cell (by simp) h.2.2.2.2.2.1, hk.cell (by simp) h.2.2.2.2.2.2.1, hk.cell (by simp) h.2.2.2.2.2.2.2⟩
set_option maxHeartbeats 4000000 in
theorem noted (a : Option Addr) (n1 c : Nat) (st : Nat → HStep) (w : World) (h : HSts w a n1 st) (hn : n1 ≤ 900) :
    Calls Try.prog 44 #[.slice a n1 c] w (LiEnd (ntd (hstl st n1)) w) := by
  have HS := hide h
  clear h
  go_enter Try.func44, Try.ntmps44
  go_wp2_with fail
  refine (h_new w).mono ?_
  rintro e w2 ⟨hb, rfl, F, hh, hk⟩
  have HZ0 : Hid (Zoo w w2 [HalT hb hs0]) := (zoo_nil (Kp.refl [] w)).cons hh hk
  clear hh hk
  go_wp2_with fail
  refine (bk_new (unhide HZ0)).mono ?_
  rintro e w3 ⟨bb, rfl, HZ1⟩
  clear HZ0
  have HZ2 := hide (zoo_swap (unhide HZ1))
  clear HZ1
  go_wp2_with fail
  go_loopw [5, 6] (fun i _ wr => ∃ k : Nat, k ≤ n1 ∧ i = .int .i64 k ∧ ∃ h b, Hid (nrun hst0 bk0 (hstl st k) = (h, b)) ∧ Hid (BkB k b) ∧ Hid (Zoo w wr [HalT hb h, BkT bb b])) (fun i _ _ => n1 - (intOf i).toNat)
  case atStart => exact ⟨0, by omega, rfl, _, _, rfl, bkb_new, unhide HZ2⟩
  case round =>
    obtain ⟨k, hk, rfl, h, b, HR, HB, HI⟩ := hrel
    by_cases hlt : k < n1
    · obtain ⟨lb', lo, rfl, hst⟩ := (unhide HS).2 (by omega)
      obtain ⟨q0, q1, q2, q3, q4, q5, q6, q7, hsz⟩ := hst k hlt
      have i0 : (0 : Int) ≤ (k : Int) := by omega
      have i1 : (k : Int) < (n1 : Int) := by omega
      clear hst
      have HR2 : Hid (nrun hst0 bk0 (hstl st (k + 1)) = (hdo h (st k), bnote b (st k) (hev h (st k)) h.n)) := by
        rw [hstl_succ, nrun_app, unhide HR]
        rfl
      clear HR
      generalize (st k) = x at *
      obtain ⟨vb, tb, c0, v0, HLST, -⟩ := hal_view (unhide HI) (List.Mem.head _)
      have HLN := hide (hev_len h x)
      have HD := hide (hal_do x hsz ((unhide HI).kp0 ((Kp.refl [] wr).drew)))
      have HNT := hide (fun (v : Ev) (la : Option Addr) (lc : Nat) (W : World) (r : List Thing) (hls : SlO W la v.l) (hll : v.l.length ≤ 8) (hz : Zoo w W (BkT bb b :: r)) => bk_note x v la lc h.n hls (by omega) (fun s o ho => by have := ((unhide HB).op s o ho).1; omega) (by have := (unhide HB).len; omega) hz)
      have HBS := hide (fun (v : Ev) (hv : v.l.length ≤ 8) => (unhide HB).step x v h.n hv)
      obtain ⟨v, hv⟩ : ∃ v, hev h x = v := ⟨_, rfl⟩
      obtain ⟨h', hh'⟩ : ∃ h', hdo h x = h' := ⟨_, rfl⟩
      rw [hv] at HLN
      rw [hv, hh'] at HD HR2
      clear hv hh'
      obtain ⟨y, hy⟩ : ∃ y, h.n = y := ⟨_, rfl⟩
      rw [hy] at HNT HBS HLST HR2
      have HC8 : Hid (x = x) := rfl
      obtain ⟨xd, xs, xm, xa, xk, xt, xp, xb⟩ := x
      dsimp only at q0 q1 q2 q3 q4 q5 q6 q7
      clear HC8
      have HC8 := hide (And.intro q0 (And.intro q1 (And.intro q2 (And.intro q3 (And.intro q4 (And.intro q5 (And.intro q6 q7)))))))
      clear q0 q1 q2 q3 q4 q5 q6 q7
      go_wp2_with fail
      refine (unhide HLST _ (Kp.refl _ _)).mono ?_
      rintro e w5 ⟨rfl, hw5⟩
      subst w5
      clear c0 v0 HLST
      go_wp2_with fail
      refine wp_region_held_drew (S := fun w' => w'.cell? ⟨lb', lo + k * 8, none⟩ = some (.int .i64 xd) ∧ w'.cell? ⟨lb', lo + k * 8 + 1, none⟩ = some (.int .i64 xs) ∧ w'.cell? ⟨lb', lo + k * 8 + 2, none⟩ = some (.int .i64 xm) ∧ w'.cell? ⟨lb', lo + k * 8 + 3, none⟩ = some (.int .i64 xa) ∧ w'.cell? ⟨lb', lo + k * 8 + 4, none⟩ = some (.int .i64 xk) ∧ w'.cell? ⟨lb', lo + k * 8 + 5, none⟩ = some (.int .i64 xt) ∧ w'.cell? ⟨lb', lo + k * 8 + 6, none⟩ = some (.int .i64 xp) ∧ w'.cell? ⟨lb', lo + k * 8 + 7, none⟩ = some (.string xb)) (by kernel_rfl) (cells8s_kp (unhide HC8) ((unhide HI).kp.drew)) (fun hHeld => ?_)
      refine wpAnyH_tk (i := 0) (v := ?_) rfl (by kernel_rfl) (by kernel_rfl) (by kernel_rfl) (fun _ _ _ h => h) (Or.inl ⟨by rfl, ?_⟩) hHeld ?_
      rotate_left
      · intro w hSw
        try dsimp only at hSw
        go_simp
        try with_reducible rfl
      try simp only [Act.put, List.setIfInBounds_toArray, List.set_cons_zero, List.set_cons_succ]
      refine wpAnyH_tk (i := 1) (v := ?_) rfl (by kernel_rfl) (by kernel_rfl) (by kernel_rfl) (fun _ _ _ h => h) (Or.inl ⟨by rfl, ?_⟩) hHeld ?_
      rotate_left
      · intro w hSw
        try dsimp only at hSw
        go_simp
        try with_reducible rfl
      try simp only [Act.put, List.setIfInBounds_toArray, List.set_cons_zero, List.set_cons_succ]
      refine wpAnyH_tk (i := 2) (v := ?_) rfl (by kernel_rfl) (by kernel_rfl) (by kernel_rfl) (fun _ _ _ h => h) (Or.inl ⟨by rfl, ?_⟩) hHeld ?_
      rotate_left
      · intro w hSw
        try dsimp only at hSw
        go_simp
        try with_reducible rfl
      try simp only [Act.put, List.setIfInBounds_toArray, List.set_cons_zero, List.set_cons_succ]
      refine wpAnyH_tk (i := 3) (v := ?_) rfl (by kernel_rfl) (by kernel_rfl) (by kernel_rfl) (fun _ _ _ h => h) (Or.inl ⟨by rfl, ?_⟩) hHeld ?_
      rotate_left
      · intro w hSw
        try dsimp only at hSw
        go_simp
        try with_reducible rfl
      try simp only [Act.put, List.setIfInBounds_toArray, List.set_cons_zero, List.set_cons_succ]
      refine wpAnyH_tk (i := 4) (v := ?_) rfl (by kernel_rfl) (by kernel_rfl) (by kernel_rfl) (fun _ _ _ h => h) (Or.inl ⟨by rfl, ?_⟩) hHeld ?_
      rotate_left
      · intro w hSw
        try dsimp only at hSw
        go_simp
        try with_reducible rfl
      try simp only [Act.put, List.setIfInBounds_toArray, List.set_cons_zero, List.set_cons_succ]
      refine wpAnyH_tk (i := 5) (v := ?_) rfl (by kernel_rfl) (by kernel_rfl) (by kernel_rfl) (fun _ _ _ h => h) (Or.inl ⟨by rfl, ?_⟩) hHeld ?_
      rotate_left
      · intro w hSw
        try dsimp only at hSw
        go_simp
        try with_reducible rfl
      try simp only [Act.put, List.setIfInBounds_toArray, List.set_cons_zero, List.set_cons_succ]
      refine wpAnyH_tk (i := 6) (v := ?_) rfl (by kernel_rfl) (by kernel_rfl) (by kernel_rfl) (fun _ _ _ h => h) (Or.inl ⟨by rfl, ?_⟩) hHeld ?_
      rotate_left
      · intro w hSw
        try dsimp only at hSw
        go_simp
        try with_reducible rfl
      try simp only [Act.put, List.setIfInBounds_toArray, List.set_cons_zero, List.set_cons_succ]
      refine wpAnyH_tk (i := 7) (v := ?_) rfl (by kernel_rfl) (by kernel_rfl) (by kernel_rfl) (fun _ _ _ h => h) (Or.inl ⟨by rfl, ?_⟩) hHeld ?_
      rotate_left
      · intro w hSw
        try dsimp only at hSw
        go_simp
        try with_reducible rfl
      try simp only [Act.put, List.setIfInBounds_toArray, List.set_cons_zero, List.set_cons_succ]
      refine wpAnyH_tk (i := 8) (v := ?_) rfl (by kernel_rfl) (by kernel_rfl) (by kernel_rfl) (fun _ _ _ h => h) (Or.inl ⟨by rfl, ?_⟩) hHeld ?_
      rotate_left
      · intro w hSw
        try dsimp only at hSw
        go_simp
        try with_reducible rfl
      try simp only [Act.put, List.setIfInBounds_toArray, List.set_cons_zero, List.set_cons_succ]
      refine wpAnyH_tk (i := 9) (v := ?_) rfl (by kernel_rfl) (by kernel_rfl) (by kernel_rfl) (fun _ _ _ h => h) (Or.inl ⟨by rfl, ?_⟩) hHeld ?_
      rotate_left
      · intro w hSw
        try dsimp only at hSw
        go_simp
        try with_reducible rfl
      try simp only [Act.put, List.setIfInBounds_toArray, List.set_cons_zero, List.set_cons_succ]
      refine wpAnyH_tk (i := 11) (v := ?_) rfl (by kernel_rfl) (by kernel_rfl) (by kernel_rfl) (fun _ _ _ h => h) (Or.inl ⟨by rfl, ?_⟩) hHeld ?_
      rotate_left
      · intro w hSw
        try dsimp only at hSw
        go_simp
        try with_reducible rfl
      try simp only [Act.put, List.setIfInBounds_toArray, List.set_cons_zero, List.set_cons_succ]
      refine wpAnyH_only (i := 10) rfl (by kernel_rfl) (fun K hK => ?_)
      go_simp
      refine (unhide HD).mono ?_
      rintro e w6 ⟨a6, c6, rfl, HY⟩
      clear HD
      have HY1 := hide ((unhide HY).perm (show List.Perm [HalT hb h', PsT a6 c6 v.l, BkT bb b] [BkT bb b, HalT hb h', PsT a6 c6 v.l] from (List.perm_append_comm (l₁ := [HalT hb h', PsT a6 c6 v.l]) (l₂ := [BkT bb b]))))
      have HSL := hide (ps_slo (unhide HY) (List.Mem.tail _ (List.Mem.head _)))
      clear HY
      go_wp2_with fail
      refine hK.out _ _ (cells8s_kp (unhide HC8) (unhide HY1).kp) (fun hHeld2 => ?_)
      clear hK K hHeld
      have hHeld := hHeld2
      clear hHeld2
      try simp only [Act.put, List.setIfInBounds_toArray, List.set_cons_zero, List.set_cons_succ]
      refine wpAnyH_only (i := 12) rfl (by kernel_rfl) (fun K hK => ?_)
      go_simp
      refine (unhide HNT v a6 c6 w6 _ (unhide HSL) (unhide HLN) (unhide HY1)).mono ?_
      rintro e w7 ⟨rfl, HY2⟩
      go_wp2_with fail
      refine hK.out _ _ (cells8s_kp (unhide HC8) (unhide HY2).kp) (fun hHeld2 => ?_)
      clear hK K hHeld
      have hHeld := hHeld2
      clear hHeld2
      try simp only [Act.put, List.setIfInBounds_toArray, List.set_cons_zero, List.set_cons_succ]
      refine wpAnyH_done (by kernel_rfl) ?_ _
      go_wp2_with fail
      refine ⟨⟨k + 1, by omega, by go_num, h', _, HR2, unhide HBS v (unhide HLN), ?_⟩, by simp [intOf]; omega⟩
      exact ((unhide HY2).perm (show List.Perm _ [PsT a6 c6 v.l, HalT hb h', BkT bb _] from (List.reverse_perm _).symm)).tail
    · have i1 : ¬ (k : Int) < (n1 : Int) := by omega
      have e1 : k = n1 := by omega
      have HE : Hid (b.dn = ntd (hstl st n1)) := by
        have := unhide HR
        rw [e1] at this
        show _ = (nrun hst0 bk0 (hstl st n1)).2.dn
        rw [this]
      have HL := hide (bk_list (zoo_swap (unhide HI)) ((unhide HB).ok (by omega)))
      rw [unhide HE] at HL
      go_wp2_with fail
      refine (unhide HL).mono ?_
      rintro e w7 ⟨a7, c7, rfl, hd7, hk7⟩
      have HK7 := hide ((unhide HI).kp.trans0 hk7)
      have HD7 := hide hd7
      clear hd7 hk7 HL
      go_wp2_with fail
      go_ret
      exact ⟨a7, c7, rfl, unhide HD7, unhide HK7⟩
end Go.Proofs.Ytapmlleemopcnac

/- serialBegun answers true. -/
namespace Go.Proofs.Ytapmlleemopcnac
open Go.RowKit
set_option maxRecDepth 20000
attribute [local go_sem ↓] Go.wp_at_zero Go.wp_at_succ

def st7 : Nat → HStep
  | 0 => ⟨1, 0, 2, 0, 0, 0, 0, ⟨#[]⟩⟩
  | 1 => ⟨3, 0, 0, 0, 1, 0, 0, ⟨#[120]⟩⟩
  | 2 => ⟨2, 0, 0, 0, 1, 0, 0, ⟨#[]⟩⟩
  | 3 => ⟨6, 0, 0, 0, 0, 0, 0, ⟨#[]⟩⟩
  | 4 => ⟨1, 0, 3, 0, 0, 0, 0, ⟨#[]⟩⟩
  | 5 => ⟨2, 0, 0, 0, 1, 0, 0, ⟨#[]⟩⟩
  | _ => ⟨6, 0, 0, 0, 0, 0, 0, ⟨#[]⟩⟩
def sa0 : List Ac := [⟨3, 1, 0, true, ⟨#[120]⟩, []⟩, ⟨2, 1, 0, true, ⟨#[120]⟩, []⟩]
def sa1 : List Ac := [⟨2, 1, 0, false, ⟨#[]⟩, []⟩]
theorem ntd7 : ntd (hstl st7 7) = [⟨1, 0, 2, sa0⟩, ⟨0, 0, 3, sa1⟩] := by rfl
theorem sa0_o : rpo (fun _ => dv) sa0 = true := by decide
theorem sa0_t : (rpw (fun _ => dv) sa0 1).t = true := by rfl
theorem sa0_s : (rpw (fun _ => dv) sa0 1).s = ⟨#[120]⟩ := by rfl
theorem sa0_n : rpo (fun _ => dv) (sa0.drop 1) = false := by decide
theorem sa_len : sa0.length = 2 := rfl
theorem sa_len1 : sa1.length = 1 := rfl
theorem sa_len2 : (sa0.drop 1).length = 1 := rfl
theorem sa_ok0 : ActsOk sa0 := ⟨by decide, fun x hx => by
  rcases List.mem_cons.1 hx with rfl | hx
  · exact Nat.zero_le _
  · rw [List.mem_singleton.1 hx]; exact Nat.zero_le _⟩
theorem sa_ok1 : ActsOk sa1 := ⟨by decide, fun x hx => by rw [List.mem_singleton.1 hx]; exact Nat.zero_le _⟩
theorem sa_ok2 : ActsOk (sa0.drop 1) := ⟨by decide, fun x hx => by rw [List.mem_singleton.1 hx]; exact Nat.zero_le _⟩
theorem sd_ok : DnsOk [⟨1, 0, 2, sa0⟩, ⟨0, 0, 3, sa1⟩] := ⟨by decide, fun x hx => by
  rcases List.mem_cons.1 hx with rfl | hx
  · exact sa_ok0
  · rw [List.mem_singleton.1 hx]; exact sa_ok1⟩
theorem sd_n : ∀ d, d ∈ [(⟨1, 0, 2, sa0⟩ : Dn), ⟨0, 0, 3, sa1⟩] → d.n ≤ 1000 := fun x hx => by
  rcases List.mem_cons.1 hx with rfl | hx
  · decide
  · rw [List.mem_singleton.1 hx]; decide
theorem c4_kp {w w' : World} {p0 p1 p2 p3 : Addr} {x0 x1 x2 x3 : Value} (h : w.cell? p0 = some x0 ∧ w.cell? p1 = some x1 ∧ w.cell? p2 = some x2 ∧ w.cell? p3 = some x3) (hk : Kp [] w w') : w'.cell? p0 = some x0 ∧ w'.cell? p1 = some x1 ∧ w'.cell? p2 = some x2 ∧ w'.cell? p3 = some x3 :=
  ⟨hk.cell (by simp) h.1, hk.cell (by simp) h.2.1, hk.cell (by simp) h.2.2.1, hk.cell (by simp) h.2.2.2⟩
theorem sts7 {w : World} {b : Nat} {T : TypeId} (h : w.heap[b]? = some (.cells #[.int .i64 1, .int .i64 0, .int .i64 2, .int .i64 0, .int .i64 0, .int .i64 0, .int .i64 0, .string ⟨#[]⟩, .int .i64 3, .int .i64 0, .int .i64 0, .int .i64 0, .int .i64 1, .int .i64 0, .int .i64 0, .string ⟨#[120]⟩, .int .i64 2, .int .i64 0, .int .i64 0, .int .i64 0, .int .i64 1, .int .i64 0, .int .i64 0, .string ⟨#[]⟩, .int .i64 6, .int .i64 0, .int .i64 0, .int .i64 0, .int .i64 0, .int .i64 0, .int .i64 0, .string ⟨#[]⟩, .int .i64 1, .int .i64 0, .int .i64 3, .int .i64 0, .int .i64 0, .int .i64 0, .int .i64 0, .string ⟨#[]⟩, .int .i64 2, .int .i64 0, .int .i64 0, .int .i64 0, .int .i64 1, .int .i64 0, .int .i64 0, .string ⟨#[]⟩, .int .i64 6, .int .i64 0, .int .i64 0, .int .i64 0, .int .i64 0, .int .i64 0, .int .i64 0, .string ⟨#[]⟩] T)) : HSts w (some ⟨b, 0, none⟩) 7 st7 := by
  refine ⟨by unfold maxLen; decide, fun _ => ⟨b, 0, rfl, fun i hi => ?_⟩⟩
  match i with
  | 0 => exact ⟨cell_of_block h rfl, cell_of_block h rfl, cell_of_block h rfl, cell_of_block h rfl, cell_of_block h rfl, cell_of_block h rfl, cell_of_block h rfl, cell_of_block h rfl, by unfold maxLen; decide⟩
  | 1 => exact ⟨cell_of_block h rfl, cell_of_block h rfl, cell_of_block h rfl, cell_of_block h rfl, cell_of_block h rfl, cell_of_block h rfl, cell_of_block h rfl, cell_of_block h rfl, by unfold maxLen; decide⟩
  | 2 => exact ⟨cell_of_block h rfl, cell_of_block h rfl, cell_of_block h rfl, cell_of_block h rfl, cell_of_block h rfl, cell_of_block h rfl, cell_of_block h rfl, cell_of_block h rfl, by unfold maxLen; decide⟩
  | 3 => exact ⟨cell_of_block h rfl, cell_of_block h rfl, cell_of_block h rfl, cell_of_block h rfl, cell_of_block h rfl, cell_of_block h rfl, cell_of_block h rfl, cell_of_block h rfl, by unfold maxLen; decide⟩
  | 4 => exact ⟨cell_of_block h rfl, cell_of_block h rfl, cell_of_block h rfl, cell_of_block h rfl, cell_of_block h rfl, cell_of_block h rfl, cell_of_block h rfl, cell_of_block h rfl, by unfold maxLen; decide⟩
  | 5 => exact ⟨cell_of_block h rfl, cell_of_block h rfl, cell_of_block h rfl, cell_of_block h rfl, cell_of_block h rfl, cell_of_block h rfl, cell_of_block h rfl, cell_of_block h rfl, by unfold maxLen; decide⟩
  | 6 => exact ⟨cell_of_block h rfl, cell_of_block h rfl, cell_of_block h rfl, cell_of_block h rfl, cell_of_block h rfl, cell_of_block h rfl, cell_of_block h rfl, cell_of_block h rfl, by unfold maxLen; decide⟩
  | n + 7 => omega
set_option maxHeartbeats 4000000 in
theorem sbegun (w : World) : Calls Try.prog 43 #[] w fun e w' => e = .returned (.bool true) ∧ Kp [] w w' := by
  have HN := hide (fun c => noted (some ⟨w.heap.size, 0, none⟩) 7 c st7 (w.alloc (.cells #[.int .i64 1, .int .i64 0, .int .i64 2, .int .i64 0, .int .i64 0, .int .i64 0, .int .i64 0, .string ⟨#[]⟩, .int .i64 3, .int .i64 0, .int .i64 0, .int .i64 0, .int .i64 1, .int .i64 0, .int .i64 0, .string ⟨#[120]⟩, .int .i64 2, .int .i64 0, .int .i64 0, .int .i64 0, .int .i64 1, .int .i64 0, .int .i64 0, .string ⟨#[]⟩, .int .i64 6, .int .i64 0, .int .i64 0, .int .i64 0, .int .i64 0, .int .i64 0, .int .i64 0, .string ⟨#[]⟩, .int .i64 1, .int .i64 0, .int .i64 3, .int .i64 0, .int .i64 0, .int .i64 0, .int .i64 0, .string ⟨#[]⟩, .int .i64 2, .int .i64 0, .int .i64 0, .int .i64 0, .int .i64 1, .int .i64 0, .int .i64 0, .string ⟨#[]⟩, .int .i64 6, .int .i64 0, .int .i64 0, .int .i64 0, .int .i64 0, .int .i64 0, .int .i64 0, .string ⟨#[]⟩] 37)) (sts7 (heap_alloc_new w _)) (by omega))
  have hkw := (Kp.refl [] w).alloc (.cells #[.int .i64 1, .int .i64 0, .int .i64 2, .int .i64 0, .int .i64 0, .int .i64 0, .int .i64 0, .string ⟨#[]⟩, .int .i64 3, .int .i64 0, .int .i64 0, .int .i64 0, .int .i64 1, .int .i64 0, .int .i64 0, .string ⟨#[120]⟩, .int .i64 2, .int .i64 0, .int .i64 0, .int .i64 0, .int .i64 1, .int .i64 0, .int .i64 0, .string ⟨#[]⟩, .int .i64 6, .int .i64 0, .int .i64 0, .int .i64 0, .int .i64 0, .int .i64 0, .int .i64 0, .string ⟨#[]⟩, .int .i64 1, .int .i64 0, .int .i64 3, .int .i64 0, .int .i64 0, .int .i64 0, .int .i64 0, .string ⟨#[]⟩, .int .i64 2, .int .i64 0, .int .i64 0, .int .i64 0, .int .i64 1, .int .i64 0, .int .i64 0, .string ⟨#[]⟩, .int .i64 6, .int .i64 0, .int .i64 0, .int .i64 0, .int .i64 0, .int .i64 0, .int .i64 0, .string ⟨#[]⟩] 37)
  have HKW := hide hkw
  clear hkw
  go_enter Try.func43, Try.ntmps43
  go_wp2_with fail
  refine (unhide HN _).mono ?_
  rintro e w1 ⟨a, c, rfl, hd, hk⟩
  have HSER := ntd_ser (hstl st7 7)
  have HK1 := hide ((unhide HKW).trans0 hk)
  rw [ntd7] at hd HSER ⊢
  rw [show List.length [(⟨1, 0, 2, sa0⟩ : Dn), ⟨0, 0, 3, sa1⟩] = 2 from rfl]
  have HD := hide hd
  have HSR := hide HSER
  obtain ⟨g, o, rfl, hb⟩ := hd (by decide)
  have d0 := hb 0 _ rfl
  have d1 := hb 1 _ rfl
  clear hb hd hk HN HKW HSER
  obtain ⟨la, lc, z0, hl0⟩ := d0.ls
  obtain ⟨la1, lc1, z1, hl1⟩ := d1.ls
  have y0 := d0.c0
  have y1 := d1.c0
  dsimp only at hl0 hl1 z0 z1 y0 y1
  rw [sa_len] at z0
  rw [sa_len1] at z1
  rw [show o + 0 * 4 = o by omega] at z0 y0
  rw [show o + 1 * 4 = o + 4 by omega] at z1 y1
  obtain ⟨g0, o0, rfl, hb0⟩ := hl0 (by decide)
  have HL0 : Hid (ActsIn w1 (some ⟨g0, o0, none⟩) sa0) := hl0
  have HL1 : Hid (ActsIn w1 (some ⟨g0, o0 + 6, none⟩) (sa0.drop 1)) := fun _ => ⟨g0, o0 + 6, rfl, fun i x hx => by
    have := ActsIn.drop hb0 1 i x hx
    rwa [show o0 + 1 * 6 + i * 6 = o0 + 6 + i * 6 by omega] at this⟩
  have hlc : 2 ≤ lc := by
    obtain ⟨la', lc', z', h'⟩ := d0.cp
    dsimp only at z' h'
    rw [sa_len] at z' h'
    rw [show o + 0 * 4 = o by omega, z0] at z'
    cases z'
    exact h'
  clear d0 d1 hl0 hl1 hb0
  go_wp2_with fail
  have HR0 := hide (replay (fun _ => dv) (some ⟨g0, o0, none⟩) lc sa0 w1 (unhide HL0) sa_ok0)
  rw [sa_len] at HR0
  rw [← zeros_eq]
  refine (unhide HR0).mono ?_
  rintro e w2 ⟨rfl, hk2⟩
  rw [sa0_o]
  obtain ⟨v, hv⟩ : ∃ v, rpw (fun _ => dv) sa0 = v := ⟨_, rfl⟩
  have ht : (v 1).t = true := by rw [← hv]; exact sa0_t
  have hs : (v 1).s = ⟨#[120]⟩ := by rw [← hv]; exact sa0_s
  rw [hv]
  have HK2 := hide ((unhide HK1).trans0 hk2)
  have HL1b := hide ((unhide HL1).kp0 hk2)
  have HDb := hide ((unhide HD).kp0 hk2)
  have z0b := hk2.cell (by simp) z0
  have y0b := hk2.cell (by simp) y0
  have y1b := hk2.cell (by simp) y1
  clear hk2 HR0 z0 z1 y0 y1 HK1 HL1 HL0 HD hv
  have hg0 := lt_of_cell y0b
  have n0 : g ≠ w2.heap.size := by omega
  have HK3 := hide ((Kp.refl [] w2).alloc (.cells (wagg v) 97))
  go_wp2_with (refine wpList_store_row rfl 97 _ _ rfl w2.heap.size (wagg v) rfl rfl 97 _ (heap_alloc_new w2 _) Try.size97 rfl (wagg_one _) ?_; rw [World.setRow_alloc_new])
  have HR1 := hide (replay (fun _ => dv) (some ⟨g0, o0 + 6, none⟩) (lc - 1) (sa0.drop 1) (w2.alloc (.cells (wagg v) 97)) ((unhide HL1b).kp0 (unhide HK3)) sa_ok2)
  rw [sa_len2] at HR1
  rw [← zeros_eq]
  refine (unhide HR1).mono ?_
  rintro e w3 ⟨rfl, hk3⟩
  rw [sa0_n]
  obtain ⟨v2, hv2⟩ : ∃ v2, rpw (fun _ => dv) (sa0.drop 1) = v2 := ⟨_, rfl⟩
  rw [hv2]
  have HC4 : Hid (w3.cell? ⟨w2.heap.size, 2, none⟩ = some (.bool true) ∧ w3.cell? ⟨w2.heap.size, 3, none⟩ = some (.string ⟨#[120]⟩) ∧ w3.cell? ⟨g, o, none⟩ = some (.int .i64 1) ∧ w3.cell? ⟨g, o + 4, none⟩ = some (.int .i64 0)) := by
    refine ⟨hk3.cell (by simp) ?_, hk3.cell (by simp) ?_, ((unhide HK3).trans0 hk3).cell (by simp) y0b, ((unhide HK3).trans0 hk3).cell (by simp) y1b⟩
    · have q := cell_of_block (heap_alloc_new w2 (.cells (wagg v) 97)) (wagg_at0 v (k := 1) (by omega))
      rw [ht] at q
      exact q
    · have q := cell_of_block (heap_alloc_new w2 (.cells (wagg v) 97)) (wagg_at1 v (k := 1) (by omega))
      rw [hs] at q
      exact q
  have HK4 := hide ((unhide HK2).trans0 ((unhide HK3).trans0 hk3))
  have HD4 := hide ((unhide HDb).kp0 ((unhide HK3).trans0 hk3))
  clear hk3 HR1 hv2 y0b y1b z0b HK2 HK3 HDb HL1b hg0 n0 ht hs hlc
  generalize w2.heap.size = p1 at *
  have heq := eqVal true true ⟨#[120]⟩ ⟨#[120]⟩
  have HK5 := hide (((Kp.refl [] w3).alloc (.cells (wagg v2) 97)).drew)
  go_wp2_with (refine wpList_store_row rfl 97 _ _ rfl w3.heap.size (wagg v2) rfl rfl 97 _ (heap_alloc_new w3 _) Try.size97 rfl (wagg_one _) ?_; rw [World.setRow_alloc_new])
  refine wp_region_held_drew (S := fun w' => w'.cell? ⟨p1, 2, none⟩ = some (.bool true) ∧ w'.cell? ⟨p1, 3, none⟩ = some (.string ⟨#[120]⟩) ∧ w'.cell? ⟨g, o, none⟩ = some (.int .i64 1) ∧ w'.cell? ⟨g, o + 4, none⟩ = some (.int .i64 0)) (by kernel_rfl) (c4_kp (unhide HC4) (unhide HK5)) (fun hHeld => ?_)
  refine wpAnyH_tk (i := 0) (v := ?_) rfl (by kernel_rfl) (by kernel_rfl) (by kernel_rfl) (fun _ _ _ h => h) (Or.inl ⟨by rfl, ?_⟩) hHeld ?_
  rotate_left
  · intro w hSw
    try dsimp only at hSw
    go_simp
    try with_reducible rfl
  try simp only [Act.put, List.setIfInBounds_toArray, List.set_cons_zero, List.set_cons_succ]
  refine wpAnyH_tk (i := 1) (v := ?_) rfl (by kernel_rfl) (by kernel_rfl) (by kernel_rfl) (fun _ _ _ h => h) (Or.inl ⟨by rfl, ?_⟩) hHeld ?_
  rotate_left
  · intro w hSw
    try dsimp only at hSw
    go_simp
    try with_reducible rfl
  try simp only [Act.put, List.setIfInBounds_toArray, List.set_cons_zero, List.set_cons_succ]
  refine wpAnyH_tk (i := 2) (v := ?_) rfl (by kernel_rfl) (by kernel_rfl) (by kernel_rfl) (fun _ _ _ h => h) (Or.inl ⟨by rfl, ?_⟩) hHeld ?_
  rotate_left
  · intro w hSw
    try dsimp only at hSw
    go_simp
    try with_reducible rfl
  try simp only [Act.put, List.setIfInBounds_toArray, List.set_cons_zero, List.set_cons_succ]
  refine wpAnyH_tk (i := 3) (v := ?_) rfl (by kernel_rfl) (by kernel_rfl) (by kernel_rfl) (fun _ _ _ h => h) (Or.inl ⟨by rfl, ?_⟩) hHeld ?_
  rotate_left
  · intro w hSw
    try dsimp only at hSw
    go_simp
    try with_reducible rfl
  try simp only [Act.put, List.setIfInBounds_toArray, List.set_cons_zero, List.set_cons_succ]
  refine wpAnyH_tk (i := 4) (v := ?_) rfl (by kernel_rfl) (by kernel_rfl) (by kernel_rfl) (fun _ _ _ h => h) (Or.inl ⟨by rfl, ?_⟩) hHeld ?_
  rotate_left
  · intro w hSw
    try dsimp only at hSw
    go_simp
    try with_reducible rfl
  try simp only [Act.put, List.setIfInBounds_toArray, List.set_cons_zero, List.set_cons_succ]
  refine wpAnyH_tk (i := 5) (v := ?_) rfl (by kernel_rfl) (by kernel_rfl) (by kernel_rfl) (fun _ _ _ h => h) (Or.inl ⟨by rfl, ?_⟩) hHeld ?_
  rotate_left
  · intro w hSw
    try dsimp only at hSw
    go_simp
    try with_reducible rfl
  try simp only [Act.put, List.setIfInBounds_toArray, List.set_cons_zero, List.set_cons_succ]
  refine wpAnyH_tk (i := 6) (v := ?_) rfl (by kernel_rfl) (by kernel_rfl) (by kernel_rfl) (fun _ _ _ h => h) (Or.inl ⟨by rfl, ?_⟩) hHeld ?_
  rotate_left
  · intro w hSw
    try dsimp only at hSw
    go_simp
    try with_reducible rfl
  try simp only [Act.put, List.setIfInBounds_toArray, List.set_cons_zero, List.set_cons_succ]
  refine wpAnyH_tk (i := 7) (v := ?_) rfl (by kernel_rfl) (by kernel_rfl) (by kernel_rfl) (fun _ _ _ h => h) (Or.inl ⟨by rfl, ?_⟩) hHeld ?_
  rotate_left
  · intro w hSw
    try dsimp only at hSw
    go_simp
    try with_reducible rfl
  try simp only [Act.put, List.setIfInBounds_toArray, List.set_cons_zero, List.set_cons_succ]
  refine wpAnyH_only (i := 8) rfl (by kernel_rfl) (fun K hK => ?_)
  go_simp
  refine (has24 ⟨#[120]⟩ _).mono ?_
  rintro e w5 ⟨rfl, hk5⟩
  have HK6 := hide ((unhide HK5).trans0 hk5)
  clear hk5
  go_wp2_with fail
  refine hK.out _ _ (c4_kp (unhide HC4) (unhide HK6)) (fun hHeld2 => ?_)
  clear hK K hHeld
  have hHeld := hHeld2
  clear hHeld2
  try simp only [Act.put, List.setIfInBounds_toArray, List.set_cons_zero, List.set_cons_succ]
  refine wpAnyH_tk (i := 9) (v := ?_) rfl (by kernel_rfl) (by kernel_rfl) (by kernel_rfl) (fun _ _ _ h => h) (Or.inl ⟨by rfl, ?_⟩) hHeld ?_
  rotate_left
  · intro w hSw
    try dsimp only at hSw
    go_simp
    try with_reducible rfl
  try simp only [Act.put, List.setIfInBounds_toArray, List.set_cons_zero, List.set_cons_succ]
  refine wpAnyH_tk (i := 10) (v := ?_) rfl (by kernel_rfl) (by kernel_rfl) (by kernel_rfl) (fun _ _ _ h => h) (Or.inl ⟨by rfl, ?_⟩) hHeld ?_
  rotate_left
  · intro w hSw
    try dsimp only at hSw
    go_simp
    try with_reducible rfl
  try simp only [Act.put, List.setIfInBounds_toArray, List.set_cons_zero, List.set_cons_succ]
  refine wpAnyH_tk (i := 11) (v := ?_) rfl (by kernel_rfl) (by kernel_rfl) (by kernel_rfl) (fun _ _ _ h => h) (Or.inl ⟨by rfl, ?_⟩) hHeld ?_
  rotate_left
  · intro w hSw
    try dsimp only at hSw
    go_simp
    try with_reducible rfl
  try simp only [Act.put, List.setIfInBounds_toArray, List.set_cons_zero, List.set_cons_succ]
  refine wpAnyH_tk (i := 12) (v := ?_) rfl (by kernel_rfl) (by kernel_rfl) (by kernel_rfl) (fun _ _ _ h => h) (Or.inl ⟨by rfl, ?_⟩) hHeld ?_
  rotate_left
  · intro w hSw
    try dsimp only at hSw
    go_simp
    try with_reducible rfl
  try simp only [Act.put, List.setIfInBounds_toArray, List.set_cons_zero, List.set_cons_succ]
  refine wpAnyH_tk (i := 13) (v := ?_) rfl (by kernel_rfl) (by kernel_rfl) (by kernel_rfl) (fun _ _ _ h => h) (Or.inl ⟨by rfl, ?_⟩) hHeld ?_
  rotate_left
  · intro w hSw
    try dsimp only at hSw
    go_simp
    try with_reducible rfl
  try simp only [Act.put, List.setIfInBounds_toArray, List.set_cons_zero, List.set_cons_succ]
  refine wpAnyH_tk (i := 14) (v := ?_) rfl (by kernel_rfl) (by kernel_rfl) (by kernel_rfl) (fun _ _ _ h => h) (Or.inl ⟨by rfl, ?_⟩) hHeld ?_
  rotate_left
  · intro w hSw
    try dsimp only at hSw
    go_simp
    try with_reducible rfl
  try simp only [Act.put, List.setIfInBounds_toArray, List.set_cons_zero, List.set_cons_succ]
  refine wpAnyH_tk (i := 15) (v := ?_) rfl (by kernel_rfl) (by kernel_rfl) (by kernel_rfl) (fun _ _ _ h => h) (Or.inl ⟨by rfl, ?_⟩) hHeld ?_
  rotate_left
  · intro w hSw
    try dsimp only at hSw
    go_simp
    try with_reducible rfl
  try simp only [Act.put, List.setIfInBounds_toArray, List.set_cons_zero, List.set_cons_succ]
  refine wpAnyH_tk (i := 16) (v := ?_) rfl (by kernel_rfl) (by kernel_rfl) (by kernel_rfl) (fun _ _ _ h => h) (Or.inl ⟨by rfl, ?_⟩) hHeld ?_
  rotate_left
  · intro w hSw
    try dsimp only at hSw
    go_simp
    try with_reducible rfl
  try simp only [Act.put, List.setIfInBounds_toArray, List.set_cons_zero, List.set_cons_succ]
  refine wpAnyH_tk (i := 17) (v := ?_) rfl (by kernel_rfl) (by kernel_rfl) (by kernel_rfl) (fun _ _ _ h => h) (Or.inl ⟨by rfl, ?_⟩) hHeld ?_
  rotate_left
  · intro w hSw
    try dsimp only at hSw
    go_simp
    try with_reducible rfl
  try simp only [Act.put, List.setIfInBounds_toArray, List.set_cons_zero, List.set_cons_succ]
  refine wpAnyH_tk (i := 18) (v := ?_) rfl (by kernel_rfl) (by kernel_rfl) (by kernel_rfl) (fun _ _ _ h => h) (Or.inl ⟨by rfl, ?_⟩) hHeld ?_
  rotate_left
  · intro w hSw
    try dsimp only at hSw
    go_simp
    try with_reducible rfl
  try simp only [Act.put, List.setIfInBounds_toArray, List.set_cons_zero, List.set_cons_succ]
  refine wpAnyH_tk (i := 19) (v := ?_) rfl (by kernel_rfl) (by kernel_rfl) (by kernel_rfl) (fun _ _ _ h => h) (Or.inl ⟨by rfl, ?_⟩) hHeld ?_
  rotate_left
  · intro w hSw
    try dsimp only at hSw
    go_simp
    try with_reducible rfl
  try simp only [Act.put, List.setIfInBounds_toArray, List.set_cons_zero, List.set_cons_succ]
  refine wpAnyH_tk (i := 20) (v := ?_) rfl (by kernel_rfl) (by kernel_rfl) (by kernel_rfl) (fun _ _ _ h => h) (Or.inl ⟨by rfl, ?_⟩) hHeld ?_
  rotate_left
  · intro w hSw
    try dsimp only at hSw
    go_simp
    try with_reducible rfl
  try simp only [Act.put, List.setIfInBounds_toArray, List.set_cons_zero, List.set_cons_succ]
  refine wpAnyH_tk (i := 21) (v := ?_) rfl (by kernel_rfl) (by kernel_rfl) (by kernel_rfl) (fun _ _ _ h => h) (Or.inl ⟨by rfl, ?_⟩) hHeld ?_
  rotate_left
  · intro w hSw
    try dsimp only at hSw
    go_simp
    try with_reducible rfl
  try simp only [Act.put, List.setIfInBounds_toArray, List.set_cons_zero, List.set_cons_succ]
  refine wpAnyH_tk (i := 22) (v := ?_) rfl (by kernel_rfl) (by kernel_rfl) (by kernel_rfl) (fun _ _ _ h => h) (Or.inl ⟨by rfl, ?_⟩) hHeld ?_
  rotate_left
  · intro w hSw
    try dsimp only at hSw
    go_simp
    try with_reducible rfl
  try simp only [Act.put, List.setIfInBounds_toArray, List.set_cons_zero, List.set_cons_succ]
  refine wpAnyH_tk (i := 23) (v := ?_) rfl (by kernel_rfl) (by kernel_rfl) (by kernel_rfl) (fun _ _ _ h => h) (Or.inl ⟨by rfl, ?_⟩) hHeld ?_
  rotate_left
  · intro w hSw
    try dsimp only at hSw
    go_simp
    try with_reducible rfl
  try simp only [Act.put, List.setIfInBounds_toArray, List.set_cons_zero, List.set_cons_succ]
  refine wpAnyH_tk (i := 24) (v := ?_) rfl (by kernel_rfl) (by kernel_rfl) (by kernel_rfl) (fun _ _ _ h => h) (Or.inl ⟨by rfl, ?_⟩) hHeld ?_
  rotate_left
  · intro w hSw
    try dsimp only at hSw
    go_simp
    try with_reducible rfl
  try simp only [Act.put, List.setIfInBounds_toArray, List.set_cons_zero, List.set_cons_succ]
  refine wpAnyH_tk (i := 25) (v := ?_) rfl (by kernel_rfl) (by kernel_rfl) (by kernel_rfl) (fun _ _ _ h => h) (Or.inl ⟨by rfl, ?_⟩) hHeld ?_
  rotate_left
  · intro w hSw
    try dsimp only at hSw
    go_simp
    try with_reducible rfl
  try simp only [Act.put, List.setIfInBounds_toArray, List.set_cons_zero, List.set_cons_succ]
  refine wpAnyH_tk (i := 26) (v := ?_) rfl (by kernel_rfl) (by kernel_rfl) (by kernel_rfl) (fun _ _ _ h => h) (Or.inl ⟨by rfl, ?_⟩) hHeld ?_
  rotate_left
  · intro w hSw
    try dsimp only at hSw
    go_simp
    try with_reducible rfl
  try simp only [Act.put, List.setIfInBounds_toArray, List.set_cons_zero, List.set_cons_succ]
  refine wpAnyH_only (i := 27) rfl (by kernel_rfl) (fun K hK => ?_)
  go_simp
  have HS6 := hide (serial46 (some ⟨g, o, none⟩) c _ w5 ((unhide HD4).kp0 (unhide HK6)) sd_ok sd_n)
  rw [unhide HSR] at HS6
  refine (unhide HS6).mono ?_
  rintro e w6 ⟨rfl, hk6⟩
  have HK7 := hide ((unhide HK6).trans0 hk6)
  clear hk6
  go_wp2_with fail
  refine hK.out _ _ (c4_kp (unhide HC4) (unhide HK7)) (fun hHeld2 => ?_)
  clear hK K hHeld
  have hHeld := hHeld2
  clear hHeld2
  try simp only [Act.put, List.setIfInBounds_toArray, List.set_cons_zero, List.set_cons_succ]
  refine wpAnyH_tk (i := 28) (v := ?_) rfl (by kernel_rfl) (by kernel_rfl) (by kernel_rfl) (fun _ _ _ h => h) (Or.inl ⟨by rfl, ?_⟩) hHeld ?_
  rotate_left
  · intro w hSw
    try dsimp only at hSw
    go_simp
    try with_reducible rfl
  try simp only [Act.put, List.setIfInBounds_toArray, List.set_cons_zero, List.set_cons_succ]
  refine wpAnyH_tk (i := 29) (v := ?_) rfl (by kernel_rfl) (by kernel_rfl) (by kernel_rfl) (fun _ _ _ h => h) (Or.inl ⟨by rfl, ?_⟩) hHeld ?_
  rotate_left
  · intro w hSw
    try dsimp only at hSw
    go_simp
    try with_reducible rfl
  try simp only [Act.put, List.setIfInBounds_toArray, List.set_cons_zero]
  refine wpAnyH_done (by kernel_rfl) ?_ _
  go_wp2_with fail
  go_ret
  exact ⟨rfl, (unhide HK4).trans0 (unhide HK7)⟩
end Go.Proofs.Ytapmlleemopcnac

/- HallCrash, walked. -/
namespace Go.Proofs.Ytapmlleemopcnac
open Go.RowKit
set_option maxRecDepth 20000
attribute [local go_sem ↓] Go.wp_at_zero Go.wp_at_succ

set_option maxHeartbeats 4000000 in
theorem hcrash7 (a : Option Addr) (n1 c : Nat) (st : Nat → HStep) (w : World) (h : HSts w a n1 st) :
    Calls Try.prog 7 #[.slice a n1 c] w fun e w' => e = .returned (.bool true) ∧ Below w.heap.size w w' := by
  have HS := hide h
  clear h
  go_enter Try.func7, Try.ntmps7
  go_wp2_with fail
  refine (hbegun w).mono ?_
  rintro e w1 ⟨rfl, hk1⟩
  have HK1 := hide hk1
  clear hk1
  go_wp2_with fail
  refine (gsteps a n1 c st w1 ((unhide HS).kp0 (unhide HK1))).mono ?_
  rintro e w' ⟨q, rfl, hq, hw'⟩
  subst w'
  cases q with
  | true =>
    clear hq
    go_wp2_with fail
    go_ret
    exact ⟨rfl, (unhide HK1).below (Nat.le_refl _) (by simp)⟩
  | false =>
  have h200 := hq rfl
  clear hq
  go_wp2_with fail
  refine (h_new w1).mono ?_
  rintro e w2 ⟨hb, rfl, F, hh, hk⟩
  have HZ0 : Hid (Zoo w1 w2 [HalT hb hs0]) := (zoo_nil (Kp.refl [] w1)).cons hh hk
  clear hh hk
  go_wp2_with fail
  go_loopw [4] (fun i wr => ∃ k : Nat, k ≤ n1 ∧ i = .int .i64 k ∧ ∃ h, Hid (Zoo w1 wr [HalT hb h])) (fun i _ => n1 - (intOf i).toNat)
  case atStart => exact ⟨0, by omega, rfl, _, HZ0⟩
  case round =>
    obtain ⟨k, hk, rfl, h, HI⟩ := hrel
    by_cases hlt : k < n1
    · obtain ⟨lb', lo, rfl, hst⟩ := (unhide HS).2 (by omega)
      obtain ⟨q0, q1, q2, q3, q4, q5, q6, q7, hsz⟩ := (hst k hlt).kp0 ((unhide HK1).trans0 (unhide HI).kp)
      have i0 : (0 : Int) ≤ (k : Int) := by omega
      have i1 : (k : Int) < (n1 : Int) := by omega
      clear hst
      generalize (st k) = x at *
      have HD := hide (hal_do x hsz (unhide HI))
      obtain ⟨xd, xs, xm, xa, xk, xt, xp, xb⟩ := x
      dsimp only at q0 q1 q2 q3 q4 q5 q6 q7
      go_wp2_with fail
      refine (unhide HD).mono ?_
      rintro e w4 ⟨a4, cap4, rfl, HY⟩
      clear q0 q1 q2 q3 q4 q5 q6 q7 HD
      go_wp2_with fail
      exact ⟨⟨k + 1, by omega, by go_num, _, hal_drop (unhide HY)⟩, by simp [intOf]; omega⟩
    · have i1 : ¬ (k : Int) < (n1 : Int) := by omega
      obtain ⟨vb, tb, gb, sd, hsd, hi, hl⟩ := hal_open (unhide HI)
      have HL := hide hl
      have HSD := hide hsd
      have HI2 := hide hi
      clear hl hsd hi HI
      obtain ⟨v, hv⟩ : ∃ v, shw h.f h.n h.n 8 = v := ⟨_, rfl⟩
      have HV := hide hv
      clear hv
      have c0 := (unhide HL).c0
      have v0 := (unhide HL).v0
      have hl := (unhide HL).lt
      have vl := (unhide HL).vlt_
      go_wp2_with fail
      refine (h_last (unhide HL)).mono ?_
      rintro e w5 ⟨rfl, hw5⟩
      subst w5
      go_wp2_with fail
      refine (h_sheet (shk_last' (unhide HI2)) v (by rw [unhide HV]) (unhide HL)).mono ?_
      rintro e w5 ⟨rfl, HL5⟩
      clear c0 v0 hl vl HL
      have HZ6 := hide (hal_close (unhide HSD) (unhide HI2) ((unhide HL5).new (wagg v) 72))
      have HW5 := hide ((unhide HL5).new (wagg v) 72)
      go_wp2_with (refine wpList_store_row rfl 72 _ _ rfl w5.heap.size (wagg v) rfl rfl 72 _ (heap_alloc_new w5 _) Try.size72 rfl (wagg_one _) ?_; rw [World.setRow_alloc_new])
      clear HL5 HW5
      generalize w5.alloc (.cells (wagg v) 72) = W6 at HZ6 ⊢
      generalize w5.heap.size = p1 at HZ6 ⊢
      have hx9 := (HKind.crash (h := h) (x := ⟨9, 0, 0, 0, 0, 0, 0, ⟨#[]⟩⟩) rfl).eq
      refine (hal_do ⟨9, 0, 0, 0, 0, 0, 0, ⟨#[]⟩⟩ (by unfold maxLen; decide) (unhide HZ6)).mono ?_
      rintro e w7 ⟨a7, cap7, rfl, HY7⟩
      rw [hx9.2]
      rw [hx9.1, hx9.2] at HY7
      clear hx9 HZ6
      dsimp only [ev0, List.length_nil]
      have hlen := (unhide HI2).vi.len
      rw [← hlen] at HY7
      clear hlen
      obtain ⟨vb2, tb2, gb2, sd2, hsd2, hi2, hl2⟩ := hal_open (hal_drop (unhide HY7))
      have HL := hide hl2
      have HSD2 := hide hsd2
      have HI3 := hide hi2
      have hno : ∀ s : Int, dat sd2 s = none := fun s => by
        unfold dat
        split
        · have q := hsd2 s.toNat
          cases hq : sd2 s.toNat with
          | none => rfl
          | some y => rw [hq] at q; cases q
        · rfl
      clear hl2 hsd2 hi2 HY7
      have hfd := ev_code
      have HV2 := hide ((crash_shw (unhide HI2).vi (unhide HI2).li (y := h.n) (fmx_le (unhide HI2).inv 8 (Nat.le_refl _)).2).trans (unhide HV))
      have c0 := (unhide HL).c0
      have v0 := (unhide HL).v0
      have hl := (unhide HL).lt
      have vl := (unhide HL).vlt_
      go_wp2_with fail
      refine (h_sheet (shk_last' (unhide HI3)) v (by rw [unhide HV2]) (unhide HL)).mono ?_
      rintro e w8 ⟨rfl, HL8⟩
      clear c0 v0 hl vl HL
      have HL9 := hide ((unhide HL8).new (wagg v) 72)
      go_wp2_with (refine wpList_store_row rfl 72 _ _ rfl w8.heap.size (wagg v) rfl rfl 72 _ (heap_alloc_new w8 _) Try.size72 rfl (wagg_one _) ?_; rw [World.setRow_alloc_new])
      clear HL8
      generalize w8.alloc (.cells (wagg v) 72) = W9 at HL9 ⊢
      generalize w8.heap.size = p2 at HL9 ⊢
      go_loop [10] (fun i => ∃ s : Nat, s ≤ 5 ∧ i = .int .i64 s) (fun i => 5 - (intOf i).toNat)
      case atStart => exact ⟨0, by omega, rfl⟩
      case round =>
        obtain ⟨s, hs5, rfl⟩ := hrel
        by_cases hlt5 : s < 5
        · have j1 : (s : Int) < 5 := by omega
          go_wp2_with fail
          refine (h_busy (s : Int) (unhide HL9)).mono ?_
          rintro e w' ⟨rfl, hw'⟩
          subst w'
          rw [hno, show Option.isSome (none : Sd) = false from rfl]
          go_wp2_with fail
          exact ⟨⟨s + 1, by omega, by go_num⟩, by simp [intOf]; omega⟩
        · have j1 : ¬ (s : Int) < 5 := by omega
          have c0 := (unhide HL9).c0
          have v0 := (unhide HL9).v0
          have A1 := hide ((unhide HL9).var (List.Mem.tail _ (List.Mem.head _)))
          have A2 := hide ((unhide HL9).var (List.Mem.head _))
          have heq := eq66 v
          go_wp2_with (first | (refine wpList_load66 (by rfl) _ rfl p1 rfl v (unhide A1) ?_) | (refine wpList_load66 (by rfl) _ rfl p2 rfl v (unhide A2) ?_))
          refine (h_last (unhide HL9)).mono ?_
          rintro e w' ⟨rfl, hw'⟩
          subst w'
          go_wp2_with fail
          refine (h_least (unhide HSD2) (unhide HL9)).mono ?_
          rintro e w' ⟨rfl, hw'⟩
          subst w'
          rw [show least h.n (fun _ => none) 5 = (h.n : Int) from rfl]
          go_wp2_with fail
          refine (h_first (unhide HL9)).mono ?_
          rintro e w' ⟨rfl, hw'⟩
          subst w'
          rw [show fmx (wal0 h.cs) 8 = 0 from fmx_wal0 h.cs]
          go_wp2_with fail
          go_ret
          exact ⟨by trivial, ((unhide HK1).trans0 (Zoo.kp (unhide HL9))).below (Nat.le_refl _) (by simp)⟩
end Go.Proofs.Ytapmlleemopcnac

/- A value that came in, opened. -/
namespace Go.Proofs.Ytapmlleemopcnac
open Go.ChangeShapes Go.WideShapes Go.ChangeAt Go.RowKit
set_option maxRecDepth 20000

theorem Try.cells31 : Try.prog.cellsOf 31 = 2 := by kernel_rfl
theorem Try.cells3 : Try.prog.cellsOf 3 = 1 := by kernel_rfl
theorem Try.cells4 : Try.prog.cellsOf 4 = 1 := by kernel_rfl
theorem Try.cells9 : Try.prog.cellsOf 9 = 1 := by kernel_rfl

theorem value_of {H : Type} {enc : TypeId × Value → H} {W : World} {m : Nat} {cs : List Value} {x : DataW H × List MemPlace}
    (h : DataW.trod enc Try.prog W 0 (fun _ => true) true m 31 cs = some x) : ∃ t s, cs = [.bool t, .string s] ∧ s.size ≤ maxLen := by
  obtain ⟨y0, y1, n, _, hl, h0, h1⟩ := trod_struct2 Try.underlying31 h
  rw [Try.cells31] at hl
  match cs, hl with
  | [c0, c1], _ =>
    simp only [Try.cells4, Try.cells9] at h0 h1
    obtain ⟨t, e0, _⟩ := DataW.trod_bool Try.underlying4 h0
    obtain ⟨s, e1, _, hs⟩ := DataW.trod_string Try.underlying9 h1
    simp at e0 e1
    exact ⟨t, s, by rw [e0, e1], hs⟩

end Go.Proofs.Ytapmlleemopcnac

/- Pairs that came in, opened. -/
namespace Go.Proofs.Ytapmlleemopcnac
open Go.ChangeShapes Go.WideShapes Go.ChangeAt Go.RowKit
set_option maxRecDepth 20000

theorem Try.cells79 : Try.prog.cellsOf 79 = 3 := by kernel_rfl
theorem Try.cells32 : Try.prog.cellsOf 32 = 1 := by kernel_rfl

theorem pair_of {H : Type} {enc : TypeId × Value → H} {W : World} {m : Nat} {cs : List Value} {x : DataW H × List MemPlace}
    (h : DataW.trod enc Try.prog W 0 (fun _ => true) true m 79 cs = some x) : ∃ v : Ver, cs = [.int .i64 v.a, .bool v.t, .string v.s] ∧ v.s.size ≤ maxLen := by
  obtain ⟨y0, y1, n, _, hl, h0, h1⟩ := trod_struct2 Try.underlying79 h
  rw [Try.cells79] at hl
  match cs, hl with
  | [c0, c1, c2], _ =>
    simp only [Try.cells3, Try.cells31] at h0 h1
    obtain ⟨k, e0, _⟩ := DataW.trod_int Try.underlying3 h0
    obtain ⟨t, s, e1, hs⟩ := value_of h1
    simp at e0 e1
    exact ⟨⟨k, t, s⟩, by rw [e0, e1.1, e1.2], hs⟩

theorem vers_of (n : Nat) (g : Nat → Ver) : ∃ ps : List Ver, ps.length = n ∧ ∀ i, i < n → va ps i = (g i).a ∧ vt ps i = (g i).t ∧ vb ps i = (g i).s := by
  refine ⟨(List.range n).map g, by simp, fun i hi => ?_⟩
  simp [va, vt, vb, List.getD_eq_getElem?_getD, hi]

theorem sla_of {W : World} {b o : Nat} {ps : List Ver} (h : ∀ i, i < ps.length → W.cell? ⟨b, o + i * 3, none⟩ = some (.int .i64 (va ps i)) ∧ W.cell? ⟨b, o + i * 3 + 1, none⟩ = some (.bool (vt ps i)) ∧ W.cell? ⟨b, o + i * 3 + 2, none⟩ = some (.string (vb ps i))) : SlA W b o ps := by
  intro j u hu
  have hj : j < ps.length * 3 := by rw [← vcells_length]; exact (List.getElem?_eq_some_iff.1 hu).1
  obtain ⟨q0, q1, q2⟩ := vcells_at ps (j / 3) (by omega)
  obtain ⟨r0, r1, r2⟩ := h (j / 3) (by omega)
  have hc : j = j / 3 * 3 ∨ j = j / 3 * 3 + 1 ∨ j = j / 3 * 3 + 2 := by omega
  rcases hc with e | e | e
  · rw [e] at hu; rw [e]; rw [q0] at hu; rw [r0]; exact hu
  · rw [e] at hu; rw [e]; rw [q1] at hu; rw [← Nat.add_assoc, r1]; exact hu
  · rw [e] at hu; rw [e]; rw [q2] at hu; rw [← Nat.add_assoc, r2]; exact hu

theorem prs_of {H : Type} {enc : TypeId × Value → H} {W : World} {fuel : Nat} {v : Value} {x : DataW H × List MemPlace}
    (h : DataW.trod enc Try.prog W 0 (fun _ => true) true fuel 32 [v] = some x) : ∃ a c ps, v = .slice a (List.length ps) c ∧ Prs W a ps := by
  rcases Deep.open_slice Try.underlying32 h with ⟨hcs, _⟩ | ⟨ad, len, cap, m, k, D, Pl, hcs, _, hl, hm, hmm, _, hx⟩
  · simp at hcs
    exact ⟨none, 0, [], by rw [hcs]; rfl, by simp [maxLen], fun k hk => by simp at hk, fun hp => by simp at hp⟩
  · simp at hcs
    simp only [if_true] at hmm
    subst hmm
    rw [Try.cells79] at hx
    have key : ∀ i, i < len → ∃ u : Ver, W.cell? (ad.add (i * 3)) = some (.int .i64 u.a) ∧ W.cell? (ad.add (i * 3 + 1)) = some (.bool u.t) ∧ W.cell? (ad.add (i * 3 + 2)) = some (.string u.s) ∧ u.s.size ≤ maxLen := by
      intro i hi
      obtain ⟨cs, h1, h2⟩ := hx i (by omega)
      obtain ⟨u, rfl, hs⟩ := pair_of h2
      obtain ⟨_, _, hc⟩ := World.cells?_some h1
      have q0 := hc 0 (by omega)
      have q1 := hc 1 (by omega)
      have q2 := hc 2 (by omega)
      rw [Deep.add_add] at q0 q1 q2
      exact ⟨u, by simpa using q0, by simpa using q1, by simpa using q2, hs⟩
    obtain ⟨g, hg⟩ := @Deep.choose_lt Ver ⟨dv⟩ len _ key
    obtain ⟨ps, hlen, hps⟩ := vers_of len g
    refine ⟨some ad, m, ps, by rw [hcs, hlen], by omega, fun i hi => ?_, fun hp => ?_⟩
    · rw [(hps i (by omega)).2.2]; exact (hg i (by omega)).2.2.2
    · obtain ⟨b, o, sp⟩ := ad
      have hsp : sp = none := by
        have := (hg 0 (by omega)).1
        simpa [Addr.add] using World.cell?_spot this
      subst hsp
      refine ⟨b, o, rfl, sla_of (fun i hi => ?_)⟩
      obtain ⟨q0, q1, q2, _⟩ := hg i (by omega)
      obtain ⟨e0, e1, e2⟩ := hps i (by omega)
      rw [addr_add] at q0 q1 q2
      rw [e0, e1, e2]
      exact ⟨q0, q1, q2⟩

theorem prs_of_trod {H : Type} {enc : TypeId × Value → H} {W : World} {a : Option Addr} {n c : Nat} {d : DataW H} {p : List MemPlace}
    (h : DataW.Trod enc Try.prog W 0 (fun _ => true) true 32 (.slice a n c) d p) : ∃ ps, n = List.length ps ∧ Prs W a ps := by
  obtain ⟨fuel, hf⟩ := h
  obtain ⟨a', c', ps, e, hp⟩ := prs_of (by simpa [Value.cells] using hf)
  simp only [Value.slice.injEq] at e
  obtain ⟨rfl, e2, rfl⟩ := e
  exact ⟨ps, e2, hp⟩
end Go.Proofs.Ytapmlleemopcnac

/- Steps of a hall that came in, opened: what the walks are told of them. -/
namespace Go.Proofs.Ytapmlleemopcnac
open Go.ChangeShapes Go.WideShapes Go.ChangeAt Go.RowKit
set_option maxRecDepth 20000

theorem Try.cells37 : Try.prog.cellsOf 37 = 8 := by kernel_rfl

theorem trod_struct8 {H : Type} {enc : TypeId × Value → H} {W : World} {t : TypeId} {f0 f1 f2 f3 f4 f5 f6 f7 : Field} {fuel : Nat} {cs : List Value} {x : DataW H × List MemPlace} (ht : Try.prog.underlying t = some (.struct #[f0, f1, f2, f3, f4, f5, f6, f7])) (h : DataW.trod enc Try.prog W 0 (fun _ => true) true fuel t cs = some x) :
    ∃ y0 y1 y2 y3 y4 y5 y6 y7 n, cs.length = Try.prog.cellsOf t ∧ DataW.trod enc Try.prog W 0 (fun _ => true) true n f0.type ((cs.drop f0.offset).take (Try.prog.cellsOf f0.type)) = some y0 ∧ DataW.trod enc Try.prog W 0 (fun _ => true) true n f1.type ((cs.drop f1.offset).take (Try.prog.cellsOf f1.type)) = some y1 ∧ DataW.trod enc Try.prog W 0 (fun _ => true) true n f2.type ((cs.drop f2.offset).take (Try.prog.cellsOf f2.type)) = some y2 ∧ DataW.trod enc Try.prog W 0 (fun _ => true) true n f3.type ((cs.drop f3.offset).take (Try.prog.cellsOf f3.type)) = some y3 ∧ DataW.trod enc Try.prog W 0 (fun _ => true) true n f4.type ((cs.drop f4.offset).take (Try.prog.cellsOf f4.type)) = some y4 ∧ DataW.trod enc Try.prog W 0 (fun _ => true) true n f5.type ((cs.drop f5.offset).take (Try.prog.cellsOf f5.type)) = some y5 ∧ DataW.trod enc Try.prog W 0 (fun _ => true) true n f6.type ((cs.drop f6.offset).take (Try.prog.cellsOf f6.type)) = some y6 ∧ DataW.trod enc Try.prog W 0 (fun _ => true) true n f7.type ((cs.drop f7.offset).take (Try.prog.cellsOf f7.type)) = some y7 := by
  obtain ⟨xs, n, _, rfl, hl, hlen, hf⟩ := DataW.trod_struct ht h
  match xs, hlen with
  | [y0, y1, y2, y3, y4, y5, y6, y7], _ => exact ⟨y0, y1, y2, y3, y4, y5, y6, y7, n, hl, by simpa using hf 0 f0 rfl, by simpa using hf 1 f1 rfl, by simpa using hf 2 f2 rfl, by simpa using hf 3 f3 rfl, by simpa using hf 4 f4 rfl, by simpa using hf 5 f5 rfl, by simpa using hf 6 f6 rfl, by simpa using hf 7 f7 rfl⟩

theorem hxstep_of {H : Type} {enc : TypeId × Value → H} {W : World} {m : Nat} {cs : List Value} {x : DataW H × List MemPlace}
    (h : DataW.trod enc Try.prog W 0 (fun _ => true) true m 37 cs = some x) : ∃ st : HStep, cs = [.int .i64 st.d, .int .i64 st.s, .int .i64 st.md, .int .i64 st.at_, .int .i64 st.key, .int .i64 st.to_, .int .i64 st.keep, .string st.b] ∧ st.b.size ≤ maxLen := by
  obtain ⟨y0, y1, y2, y3, y4, y5, y6, y7, n, hl, h0, h1, h2, h3, h4, h5, h6, h7⟩ := trod_struct8 Try.underlying37 h
  rw [Try.cells37] at hl
  match cs, hl with
  | [c0, c1, c2, c3, c4, c5, c6, c7], _ =>
    simp only [Try.cells3, Try.cells9] at h0 h1 h2 h3 h4 h5 h6 h7
    obtain ⟨d, e0, _⟩ := DataW.trod_int Try.underlying3 h0
    obtain ⟨s, e1, _⟩ := DataW.trod_int Try.underlying3 h1
    obtain ⟨md, e2, _⟩ := DataW.trod_int Try.underlying3 h2
    obtain ⟨at_, e3, _⟩ := DataW.trod_int Try.underlying3 h3
    obtain ⟨key, e4, _⟩ := DataW.trod_int Try.underlying3 h4
    obtain ⟨to_, e5, _⟩ := DataW.trod_int Try.underlying3 h5
    obtain ⟨keep, e6, _⟩ := DataW.trod_int Try.underlying3 h6
    obtain ⟨b, e7, _, hs⟩ := DataW.trod_string Try.underlying9 h7
    simp at e0 e1 e2 e3 e4 e5 e6 e7
    exact ⟨⟨d, s, md, at_, key, to_, keep, b⟩, by rw [e0, e1, e2, e3, e4, e5, e6, e7], hs⟩

theorem hsts_of {H : Type} {enc : TypeId × Value → H} {W : World} {a : Option Addr} {n c : Nat} {d : DataW H} {p : List MemPlace}
    (h : DataW.Trod enc Try.prog W 0 (fun _ => true) true 22 (.slice a n c) d p) : ∃ st, HSts W a n st := by
  obtain ⟨fuel, hf⟩ := h
  rcases Deep.open_slice Try.underlying22 hf with ⟨hcs, _⟩ | ⟨ad, len, cap, m, k, D, Pl, hcs, _, hl, hm, hmm, _, hx⟩
  · simp [Value.cells] at hcs
    obtain ⟨rfl, rfl, rfl⟩ := hcs
    exact ⟨fun _ => ⟨0, 0, 0, 0, 0, 0, 0, ByteArray.empty⟩, by simp, fun h => by omega⟩
  · simp [Value.cells] at hcs
    obtain ⟨rfl, rfl, rfl⟩ := hcs
    simp only [if_true] at hmm
    subst hmm
    rw [Try.cells37] at hx
    have key : ∀ i, i < n → ∃ st : HStep, W.cell? (ad.add (i * 8)) = some (.int .i64 st.d) ∧ W.cell? (ad.add (i * 8 + 1)) = some (.int .i64 st.s) ∧ W.cell? (ad.add (i * 8 + 2)) = some (.int .i64 st.md) ∧ W.cell? (ad.add (i * 8 + 3)) = some (.int .i64 st.at_) ∧ W.cell? (ad.add (i * 8 + 4)) = some (.int .i64 st.key) ∧ W.cell? (ad.add (i * 8 + 5)) = some (.int .i64 st.to_) ∧ W.cell? (ad.add (i * 8 + 6)) = some (.int .i64 st.keep) ∧ W.cell? (ad.add (i * 8 + 7)) = some (.string st.b) ∧ st.b.size ≤ maxLen := by
      intro i hi
      obtain ⟨cs, h1, h2⟩ := hx i (by omega)
      obtain ⟨st, rfl, hz⟩ := hxstep_of h2
      obtain ⟨_, _, hc⟩ := World.cells?_some h1
      have q0 := hc 0 (by omega)
      have q1 := hc 1 (by omega)
      have q2 := hc 2 (by omega)
      have q3 := hc 3 (by omega)
      have q4 := hc 4 (by omega)
      have q5 := hc 5 (by omega)
      have q6 := hc 6 (by omega)
      have q7 := hc 7 (by omega)
      rw [Deep.add_add] at q0 q1 q2 q3 q4 q5 q6 q7
      exact ⟨st, by simpa using q0, by simpa using q1, by simpa using q2, by simpa using q3, by simpa using q4, by simpa using q5, by simpa using q6, by simpa using q7, hz⟩
    obtain ⟨st, hst⟩ := @Deep.choose_lt HStep ⟨⟨0, 0, 0, 0, 0, 0, 0, ByteArray.empty⟩⟩ n _ key
    refine ⟨st, by omega, fun h0 => ?_⟩
    obtain ⟨b, o, sp⟩ := ad
    have hsp : sp = none := by
      have := (hst 0 h0).1
      simpa [Addr.add] using World.cell?_spot this
    subst hsp
    refine ⟨b, o, rfl, fun i hi => ?_⟩
    obtain ⟨q0, q1, q2, q3, q4, q5, q6, q7, q8⟩ := hst i hi
    rw [addr_add] at q0 q1 q2 q3 q4 q5 q6 q7
    exact ⟨q0, q1, q2, q3, q4, q5, q6, q7, q8⟩
end Go.Proofs.Ytapmlleemopcnac
