/- Hs3, Hs4, An, Hs6, HsX, Hs0, Hs7, Hm, Vb, He, Wv1, Wv4: bound together for a claim. -/
import Derived.Test.YtcfogkdpkpehaabM5
/- A house's step: Commit. -/
namespace Go.Proofs.Ytcfogkdpkpehaab
open Go.RowKit
set_option maxRecDepth 20000
attribute [local go_sem ↓] Go.wp_at_zero Go.wp_at_succ

/-- A house with one deed fewer. -/
theorem hou_less {w0 w : World} {hb vb cb i j tb gb sb : Nat} {f : Nat → List Ver} {n : Nat} {cs : List (List Ver)} {st : Nat → Option Addr} {l1 l2 : List Dd} {b : Thing} (hz : Zoo w0 w (b :: HbT hb vb cb (j + (l2.map Dd.db).length) (j + (l2.map Dd.db).length) (l1.map Dd.db ++ l2.map Dd.db) (l1.map Dd.wb ++ l2.map Dd.wb) :: VltT vb tb gb f n cs [] :: CrtT cb sb f n cs [] st :: (l1.map prt ++ l2.map prt)))
    (hj : l1.length = j) (h6 : j + l2.length ≤ 6) (hv : VI f n cs) (o1 : ∀ x ∈ l1, dOk i x) (o2 : ∀ x ∈ l2, dOk i x) : Hou w0 w hb vb cb (i + 1) := by
  have hl : (l1 ++ l2).length = j + (l2.map Dd.db).length := by simp; omega
  refine ⟨tb, gb, sb, f, n, cs, st, l1 ++ l2, ?_, hv, by simp; omega, fun x hx => ?_⟩
  · rw [hl, List.map_append, List.map_append, List.map_append]
    exact hz.tail
  · rcases List.mem_append.1 hx with e | e
    · exact (o1 x e).mono (by omega)
    · exact (o2 x e).mono (by omega)
theorem five_of {w : World} {p : Nat} {x0 x1 x2 x3 x4 : Value} {T : TypeId} (h : w.heap[p]? = some (.cells #[x0, x1, x2, x3, x4] T (0, 0))) : w.cell? ⟨p, 0, none⟩ = some x0 ∧ w.cell? ⟨p, 1, none⟩ = some x1 := ⟨cell_of_block h rfl, cell_of_block h rfl⟩
theorem hz_seat {w0 w : World} {b h v : Thing} {cb sb m : Nat} {g : Nat → List Ver} {ds : List (List Ver)} {td : List UInt8} {st : Nat → Option Addr} {r : List Thing} (hz : Zoo w0 w (b :: h :: v :: CrtT cb sb g m ds td st :: r)) : w.cell? ⟨cb, 3, none⟩ = some (.pointer (st 0)) ∧ w.frozen? ⟨cb, 3, none⟩ = false := by
  obtain ⟨F3, ⟨Gr, Gs, bx, k3⟩, _⟩ := zoo_at3 hz
  exact ⟨k3.seat (i := 0) (by omega), k3.fz 3⟩

theorem hz_ne {w0 w : World} {q cb sb m hb vb dn wn : Nat} {dbs wbs : List Nat} {xs : Array Value} {T : TypeId} {v : Thing} {g : Nat → List Ver} {ds : List (List Ver)} {td : List UInt8} {st : Nat → Option Addr} {r : List Thing} (hz : Zoo w0 w (BoxT q xs T :: HbT hb vb cb dn wn dbs wbs :: v :: CrtT cb sb g m ds td st :: r)) : hb ≠ cb ∧ cb ≠ hb ∧ q ≠ cb ∧ cb ≠ q := by
  obtain ⟨X, ⟨F1, Y1, h1, ⟨F2, Y2, ⟨da, dc, wa, wc, h2⟩, ⟨F3, Y3, h3, ⟨F4, Y4, ⟨Gr, Gs, bx, h4⟩, h5, d4, e4⟩, d3, e3⟩, d2, e2⟩, d1, e1⟩, _⟩ := hz
  have a : hb ≠ cb := fun e => d2 hb h2.hF (by rw [e3, e4, e]; simp [h4.cG])
  have b : q ≠ cb := fun e => d1 q (by rw [h1.2.1]; simp) (by rw [e2, e3, e4, e]; simp [h4.cG])
  exact ⟨a, fun e => a e.symm, b, fun e => b e.symm⟩

set_option maxHeartbeats 2000000 in
theorem hstep3 {w0 : World} {hb vb cb i tb gb sb : Nat} {f : Nat → List Ver} {n : Nat} {cs : List (List Ver)} {st : Nat → Option Addr} {ds : List Dd} (k md at_ key keep : Int) (t : Bool) (s : ByteArray) (w : World) (h : House w0 w hb vb cb i tb gb sb f n cs st ds) (hN : 0 < ds.length) (hi : i ≤ 150) :
    Calls Try.prog 42 #[.pointer (some ⟨hb, 0, none⟩), .agg #[.int .i64 3, .int .i64 k, .int .i64 md, .int .i64 at_, .int .i64 key, .int .i64 keep, .bool t, .string s]] w fun e w' => e = .returned (.bool true) ∧ Hid (Hou w0 w' hb vb cb (i + 1)) := by
  obtain ⟨M, hM⟩ : ∃ M, ds.length = M + 1 := ⟨ds.length - 1, by omega⟩
  have h6 := h.six
  obtain ⟨j, hj, hjM⟩ := cut_of k (n := M) (by omega)
  rw [show ((M : Int) + 1) = ((ds.length : Nat) : Int) by omega] at hj
  obtain ⟨l1, d, l2, hds, hl1⟩ := split_at ds j (by omega)
  have hok := h.ok
  have hvi := h.vi
  obtain ⟨hz, h0, h1, v0, c0, hl, vl, cl⟩ := st0_of h #[.int .i64 3, .int .i64 k, .int .i64 md, .int .i64 at_, .int .i64 key, .int .i64 keep, .bool t, .string s] 84
  subst hds
  have hlen : (l1 ++ d :: l2).length = j + 1 + l2.length := by simp [hl1]; omega
  simp only [List.map_append, List.map_cons] at hz
  rw [show prt d = PrT d.db d.wb d.md d.y d.rs d.rs d.ws d.ws from rfl] at hz
  generalize (l1 ++ d :: l2).length = N at *
  obtain ⟨hokd, hok1, hok2⟩ : dOk i d ∧ (∀ x ∈ l1, dOk i x) ∧ ∀ x ∈ l2, dOk i x := ⟨hok d (by simp), fun x hx => hok x (by simp [hx]), fun x hx => hok x (by simp [hx])⟩
  have HOK1 := hide hok1
  have HOK2 := hide hok2
  have HVI := hide hvi
  have HOKD := hide hokd
  have HLEN := hide hlen
  have HL1 := hide hl1
  have hNN : ¬ (N : Int) = 0 := by omega
  have hNB : ((N : Int) == 0) = false := beq_eq_false_iff_ne.2 hNN
  have j0 : (0 : Int) ≤ (j : Int) := by omega
  have j1 : (j : Int) < (N : Int) := by omega
  have HZ := hide hz
  have HJ := hide hj
  clear hz h hok hvi hokd hok1 hok2 hlen hl1 hM hjM
  obtain ⟨da0, dc0, wa0, wc0, t2, t3, -, -, -, -, -⟩ := hz_rows (unhide HZ)
  go_enter Try.func42, Try.ntmps42
  go_wp2_with fail
  clear t2 t3 h0 h1 v0 c0
  generalize hW : w.alloc (.cells #[.int .i64 3, .int .i64 k, .int .i64 md, .int .i64 at_, .int .i64 key, .int .i64 keep, .bool t, .string s] 84) = W at HZ ⊢
  generalize hq : w.heap.size = q at HZ ⊢
  clear hW hq
  obtain ⟨h0, h1, v0, c0⟩ := hz_facts (unhide HZ)
  obtain ⟨da, dc, wa, wc, r2, r3, f2, f3, hhl, rowd, roww⟩ := hz_rows (unhide HZ)
  obtain ⟨g1, rfl, e1⟩ := rowd j d.db (by have := unhide HL1; subst this; simp)
  obtain ⟨g2, rfl, e2⟩ := roww j d.wb (by have := unhide HL1; subst this; simp)
  have e1' : W.cell? ⟨g1, 0 + j, none⟩ = some (.pointer (some ⟨d.db, 0, none⟩)) := by rw [Nat.zero_add]; exact e1
  have e2' : W.cell? ⟨g2, 0 + j, none⟩ = some (.pointer (some ⟨d.wb, 0, none⟩)) := by rw [Nat.zero_add]; exact e2
  have xb := (unhide HZ).var
  have x0 : W.cell? ⟨q, 0, none⟩ = some (.int .i64 3) := cell_of_block xb rfl
  have x1 : W.cell? ⟨q, 1, none⟩ = some (.int .i64 k) := cell_of_block xb rfl
  clear rowd roww xb
  obtain ⟨s3, z3⟩ := hz_seat (unhide HZ)
  obtain ⟨hbc, hcb2, hqc, hcq⟩ := hz_ne (unhide HZ)
  go_quiet (fail)
  generalize nq = n1 at *
  go_wp2_with fail
  go_quiet (fail)
  go_wp2_with fail
  have HZ2 := hide (z_sit (some ⟨d.wb, 0, none⟩) ((unhide HZ).kp0 ((Kp.refl [] W).drewN (n1 + nq))))
  generalize (W.drewN (n1 + nq)).setCell ⟨cb, 3, none⟩ (.pointer (some ⟨d.wb, 0, none⟩)) = W2 at HZ2 ⊢
  clear s3 z3 hbc hcb2 hqc hcq
  clear HZ h0 h1 v0 c0 r2 r3 f2 f3 hhl e1 e2 e1' e2' x0 x1 hj hl vl cl
  obtain ⟨h0, h1, v0, c0⟩ := hz_facts (unhide HZ2)
  obtain ⟨ql, hl, vl, cl⟩ := hz_lt (unhide HZ2)
  have xb := (unhide HZ2).var
  clear xb
  obtain ⟨zc, hzc⟩ : ∃ zc, vcode f cs d.md d.y d.rs d.ws = zc := ⟨_, rfl⟩
  obtain ⟨zn, hzn⟩ : ∃ zn, vnum f n cs d.md d.y d.rs d.ws = zn := ⟨_, rfl⟩
  have HZC := hide hzc
  have HZN := hide hzn
  clear hzc hzn
  clear h0 h1 v0 c0
  refine (z_commit (unhide HVI) (zoo_ded (unhide HZ2)) (unhide HOKD).1 (unhide HZ2)).mono ?_
  rintro e w4 ⟨rfl, HZ4⟩
  rw [unhide HZC, unhide HZN]
  clear HZ2
  have p1 := (hz_facts (unhide HZ4)).h1
  obtain ⟨H, hwk⟩ := zoo_wrk (unhide HZ4)
  have HWK := hide hwk
  clear hwk
  go_wp2_with fail
  refine (z_do6 (unhide HVI) (unhide HWK) (unhide HOKD).1 (by have := (unhide HOKD).2.1; omega) (by have := (unhide HOKD).2.2; omega) (upd_same _ _ _) (unhide HZ4)).mono ?_
  rintro e w5 ⟨rfl, HZ5⟩
  rw [unhide HZC, unhide HZN]
  clear p1 HZ4 HWK
  have HZ6 := hide (zoo_side ((unhide HZ5).box #[.int .i64 zc, .int .i64 zn, .bool false, .string ⟨#[]⟩, .slice none 0 0] 127))
  go_wp2_with fail
  generalize w5.alloc (.cells #[.int .i64 zc, .int .i64 zn, .bool false, .string ⟨#[]⟩, .slice none 0 0] 127) = W6 at HZ6 ⊢
  generalize w5.heap.size = p at HZ6 ⊢
  clear HZ5
  rw [unhide HJ]
  refine (z_drop (k := j) (by rw [List.length_map]; exact (unhide HL1).symm) (by rw [List.length_map]; exact (unhide HL1).symm) (by rw [List.length_map]; exact unhide HLEN) (by simp) h6 (unhide HZ6)).mono ?_
  rintro e w7 ⟨rfl, HZ7⟩
  obtain ⟨a0, a1⟩ := five_of (zoo_svar (unhide HZ7))
  clear HZ6
  go_wp2_with fail
  go_ret
  refine ⟨by trivial, ?_⟩
  exact hou_less (zoo_dropD (zoo_sdrop (unhide HZ7))) (unhide HL1) (by have := unhide HLEN; omega) (unhide HVI).done (unhide HOK1) (unhide HOK2)

end Go.Proofs.Ytcfogkdpkpehaab

/- A house's step: Tear. -/
namespace Go.Proofs.Ytcfogkdpkpehaab
open Go.RowKit
set_option maxRecDepth 20000
attribute [local go_sem ↓] Go.wp_at_zero Go.wp_at_succ

theorem evb_of {w : World} {p : Nat} {x0 x1 x2 x3 x4 : Value} {T : TypeId} (h : w.heap[p]? = some (.cells #[x0, x1, x2, x3, x4] T (0, 0))) : w.cell? ⟨p, 0, none⟩ = some x0 ∧ w.cell? ⟨p, 1, none⟩ = some x1 ∧ w.cell? ⟨p, 2, none⟩ = some x2 ∧ w.cell? ⟨p, 3, none⟩ = some x3 ∧ w.cell? ⟨p, 4, none⟩ = some x4 ∧ w.frozen? ⟨p, 0, none⟩ = false ∧ w.frozen? ⟨p, 1, none⟩ = false ∧ w.frozen? ⟨p, 2, none⟩ = false ∧ w.frozen? ⟨p, 3, none⟩ = false ∧ w.frozen? ⟨p, 4, none⟩ = false :=
  ⟨cell_of_block h rfl, cell_of_block h rfl, cell_of_block h rfl, cell_of_block h rfl, cell_of_block h rfl, frozen_of_block _ h, frozen_of_block _ h, frozen_of_block _ h, frozen_of_block _ h, frozen_of_block _ h⟩
theorem keep_set5 {w : World} {p a x : Nat} {v y0 y1 y2 y3 y4 : Value} (h : w.cell? ⟨a, x, none⟩ = some v) (hn : a ≠ p) : (((((w.setCell ⟨p, 0, none⟩ y0).setCell ⟨p, 1, none⟩ y1).setCell ⟨p, 2, none⟩ y2).setCell ⟨p, 3, none⟩ y3).setCell ⟨p, 4, none⟩ y4).cell? ⟨a, x, none⟩ = some v :=
  (ev5 y0 y1 y2 y3 y4).cell (by simpa using hn) h
theorem zoo_set5 {w0 w : World} {b h v c o : Thing} {L1 L2 : List Thing} {p : Nat} {x0 x1 x2 x3 x4 : Value} {T : TypeId} (hz : Zoo w0 w (b :: h :: v :: c :: (L1 ++ o :: BoxT p #[x0, x1, x2, x3, x4] T :: L2))) (y0 y1 y2 y3 y4 : Value) : Zoo w0 (((((w.setCell ⟨p, 0, none⟩ y0).setCell ⟨p, 1, none⟩ y1).setCell ⟨p, 2, none⟩ y2).setCell ⟨p, 3, none⟩ y3).setCell ⟨p, 4, none⟩ y4) (b :: h :: v :: c :: (L1 ++ o :: BoxT p #[y0, y1, y2, y3, y4] T :: L2)) := by
  have e1 : b :: h :: v :: c :: (L1 ++ o :: BoxT p #[x0, x1, x2, x3, x4] T :: L2) = b :: h :: v :: c :: ((L1 ++ [o]) ++ BoxT p #[x0, x1, x2, x3, x4] T :: L2) := by simp
  have e2 : b :: h :: v :: c :: (L1 ++ o :: BoxT p #[y0, y1, y2, y3, y4] T :: L2) = b :: h :: v :: c :: ((L1 ++ [o]) ++ BoxT p #[y0, y1, y2, y3, y4] T :: L2) := by simp
  rw [e1] at hz
  rw [e2]
  obtain ⟨F, ⟨h1, h2, h3⟩, h4⟩ := zoo_atD hz
  refine h4 _ _ ⟨F, ⟨?_, h2, h3⟩, ?_, fun x hx => .inl hx⟩
  · have := heap_setCell_at 4 y4 (heap_setCell_at 3 y3 (heap_setCell_at 2 y2 (heap_setCell_at 1 y1 (heap_setCell_at 0 y0 h1))))
    exact this
  · subst h2
    exact ev5 y0 y1 y2 y3 y4
theorem hz_sne {w0 w : World} {b v c o : Thing} {hb vb cb dn wn : Nat} {dbs wbs : List Nat} {L1 L2 : List Thing} {p : Nat} {cs : Array Value} {T : TypeId} (hz : Zoo w0 w (b :: HbT hb vb cb dn wn dbs wbs :: v :: c :: (L1 ++ o :: BoxT p cs T :: L2))) : p ≠ hb := by
  have e2 : b :: HbT hb vb cb dn wn dbs wbs :: v :: c :: (L1 ++ o :: BoxT p cs T :: L2) = (b :: HbT hb vb cb dn wn dbs wbs :: v :: c :: (L1 ++ [o])) ++ BoxT p cs T :: L2 := by simp
  rw [e2] at hz
  have hp := hz.perm List.perm_middle
  obtain ⟨X, ⟨F1, Y1, h1, ⟨F2, Y2, h2, ⟨F3, Y3, ⟨da, dc, wa, wc, h3⟩, h4, d3, e3⟩, d2, e2⟩, d1, e1⟩, _⟩ := hp
  exact fun e => d1 p (by rw [h1.2.1]; simp) (by rw [e2, e3, e]; simp [h3.hF])

set_option maxHeartbeats 2000000 in
theorem hstep4 {w0 : World} {hb vb cb i tb gb sb : Nat} {f : Nat → List Ver} {n : Nat} {cs : List (List Ver)} {st : Nat → Option Addr} {ds : List Dd} (k md at_ key keep : Int) (t : Bool) (s : ByteArray) (w : World) (h : House w0 w hb vb cb i tb gb sb f n cs st ds) (hN : 0 < ds.length) (hi : i ≤ 150) :
    Calls Try.prog 42 #[.pointer (some ⟨hb, 0, none⟩), .agg #[.int .i64 4, .int .i64 k, .int .i64 md, .int .i64 at_, .int .i64 key, .int .i64 keep, .bool t, .string s]] w fun e w' => e = .returned (.bool true) ∧ Hid (Hou w0 w' hb vb cb (i + 1)) := by
  obtain ⟨M, hM⟩ : ∃ M, ds.length = M + 1 := ⟨ds.length - 1, by omega⟩
  have h6 := h.six
  obtain ⟨j, hj, hjM⟩ := cut_of k (n := M) (by omega)
  rw [show ((M : Int) + 1) = ((ds.length : Nat) : Int) by omega] at hj
  obtain ⟨l1, d, l2, hds, hl1⟩ := split_at ds j (by omega)
  have hok := h.ok
  have hvi := h.vi
  obtain ⟨hz, h0, h1, v0, c0, hl, vl, cl⟩ := st0_of h #[.int .i64 4, .int .i64 k, .int .i64 md, .int .i64 at_, .int .i64 key, .int .i64 keep, .bool t, .string s] 84
  subst hds
  have hlen : (l1 ++ d :: l2).length = j + 1 + l2.length := by simp [hl1]; omega
  simp only [List.map_append, List.map_cons] at hz
  rw [show prt d = PrT d.db d.wb d.md d.y d.rs d.rs d.ws d.ws from rfl] at hz
  generalize (l1 ++ d :: l2).length = N at *
  obtain ⟨hokd, hok1, hok2⟩ : dOk i d ∧ (∀ x ∈ l1, dOk i x) ∧ ∀ x ∈ l2, dOk i x := ⟨hok d (by simp), fun x hx => hok x (by simp [hx]), fun x hx => hok x (by simp [hx])⟩
  have HOK1 := hide hok1
  have HOK2 := hide hok2
  have HVI := hide hvi
  have HOKD := hide hokd
  have HLEN := hide hlen
  have HL1 := hide hl1
  have hNN : ¬ (N : Int) = 0 := by omega
  have hNB : ((N : Int) == 0) = false := beq_eq_false_iff_ne.2 hNN
  have j0 : (0 : Int) ≤ (j : Int) := by omega
  have j1 : (j : Int) < (N : Int) := by omega
  have HZ := hide hz
  have HJ := hide hj
  clear hz h hok hvi hokd hok1 hok2 hlen hl1 hM hjM
  obtain ⟨da0, dc0, wa0, wc0, t2, t3, -, -, -, -, -⟩ := hz_rows (unhide HZ)
  go_enter Try.func42, Try.ntmps42
  go_wp2_with fail
  clear t2 t3 h0 h1 v0 c0
  generalize hW : w.alloc (.cells #[.int .i64 4, .int .i64 k, .int .i64 md, .int .i64 at_, .int .i64 key, .int .i64 keep, .bool t, .string s] 84) = W at HZ ⊢
  generalize hq : w.heap.size = q at HZ ⊢
  clear hW hq
  obtain ⟨h0, h1, v0, c0⟩ := hz_facts (unhide HZ)
  obtain ⟨da, dc, wa, wc, r2, r3, f2, f3, hhl, rowd, roww⟩ := hz_rows (unhide HZ)
  obtain ⟨g1, rfl, e1⟩ := rowd j d.db (by have := unhide HL1; subst this; simp)
  obtain ⟨g2, rfl, e2⟩ := roww j d.wb (by have := unhide HL1; subst this; simp)
  have e1' : W.cell? ⟨g1, 0 + j, none⟩ = some (.pointer (some ⟨d.db, 0, none⟩)) := by rw [Nat.zero_add]; exact e1
  have e2' : W.cell? ⟨g2, 0 + j, none⟩ = some (.pointer (some ⟨d.wb, 0, none⟩)) := by rw [Nat.zero_add]; exact e2
  have xb := (unhide HZ).var
  have x0 : W.cell? ⟨q, 0, none⟩ = some (.int .i64 4) := cell_of_block xb rfl
  have x1 : W.cell? ⟨q, 1, none⟩ = some (.int .i64 k) := cell_of_block xb rfl
  clear rowd roww xb
  obtain ⟨s3, z3⟩ := hz_seat (unhide HZ)
  obtain ⟨hbc, hcb2, hqc, hcq⟩ := hz_ne (unhide HZ)
  go_quiet (fail)
  generalize nq = n1 at *
  go_wp2_with fail
  go_quiet (fail)
  go_wp2_with fail
  have HZ2 := hide (z_sit (some ⟨d.wb, 0, none⟩) ((unhide HZ).kp0 ((Kp.refl [] W).drewN (n1 + nq))))
  generalize (W.drewN (n1 + nq)).setCell ⟨cb, 3, none⟩ (.pointer (some ⟨d.wb, 0, none⟩)) = W2 at HZ2 ⊢
  clear s3 z3 hbc hcb2 hqc hcq
  clear HZ h0 h1 v0 c0 r2 r3 f2 f3 hhl e1 e2 e1' e2' x0 x1 hj hl vl cl
  obtain ⟨h0, h1, v0, c0⟩ := hz_facts (unhide HZ2)
  obtain ⟨ql, hl, vl, cl⟩ := hz_lt (unhide HZ2)
  have xb := (unhide HZ2).var
  have x5 : W2.cell? ⟨q, 5, none⟩ = some (.int .i64 keep) := cell_of_block xb rfl
  clear xb
  obtain ⟨zc, hzc⟩ : ∃ zc, vcode f cs d.md d.y d.rs d.ws = zc := ⟨_, rfl⟩
  obtain ⟨zn, hzn⟩ : ∃ zn, tnum f cs d.md d.y d.rs d.ws keep = zn := ⟨_, rfl⟩
  have HZC := hide hzc
  have HZN := hide hzn
  clear hzc hzn
  have HZ3d := hide ((unhide HZ2).kp0 (Kp.refl [] W2).drew)
  go_region_held3 (fun w' => w'.cell? ⟨hb, 0, none⟩ = some (.pointer (some ⟨vb, 0, none⟩)) ∧ w'.cell? ⟨q, 5, none⟩ = some (.int .i64 keep)) (first | go_keep | exact SA4)
    ((go_at_call 52; refine (z_tear keep (unhide HVI) (zoo_ded (unhide HZ3d)) (unhide HOKD).1 (unhide HZ3d)).mono ?_; rintro e w4 ⟨rfl, tb4, HZ4⟩; have SA4 := And.intro (hz_facts (unhide HZ4)).h0 (cell_of_block (i := 5) (unhide HZ4).var rfl)))
  all_goals
    rw [unhide HZC, unhide HZN]
    clear h0 h1 v0 c0 x5 ql hl vl cl SA4
    obtain ⟨h0, h1, v0, c0⟩ := hz_facts (unhide HZ4)
    obtain ⟨ql, hl, vl, cl⟩ := hz_lt (unhide HZ4)
    have x5 : w4.cell? ⟨q, 5, none⟩ = some (.int .i64 keep) := cell_of_block (unhide HZ4).var rfl
    have HZA5 := hide ((unhide HZ4).kp0 (Kp.refl [] w4).drew)
    have HZB5 := hide ((zoo_side ((unhide HZ4).box #[.int .i64 0, .int .i64 0, .bool false, .string ⟨#[]⟩, .slice none 0 0] 127)).kp0 ((Kp.refl [] (w4.alloc (.cells #[.int .i64 0, .int .i64 0, .bool false, .string ⟨#[]⟩, .slice none 0 0] 127))).drew))
    have ne1 : hb ≠ w4.heap.size := by omega
    have ne4 : q ≠ w4.heap.size := by omega
    obtain ⟨HA, hwA⟩ := zoo_wrk (unhide HZA5)
    obtain ⟨HB, hwB⟩ := zoo_wrk (unhide HZB5)
    have HWA := hide hwA
    have HWB := hide hwB
    clear hwA hwB
    have HCA := hide (z_do10 keep (unhide HVI) (unhide HWA) (unhide HOKD).1 (by have := (unhide HOKD).2.1; omega) (by have := (unhide HOKD).2.2; omega) (upd_same _ _ _) (unhide HZA5))
    have HCB := hide (z_do10 keep (unhide HVI) (unhide HWB) (unhide HOKD).1 (by have := (unhide HOKD).2.1; omega) (by have := (unhide HOKD).2.2; omega) (upd_same _ _ _) (unhide HZB5))
    go_wp2_with fail
    go_region_held3 (fun w' => w'.cell? ⟨hb, 1, none⟩ = some (.pointer (some ⟨cb, 0, none⟩)) ∧ w'.cell? ⟨q, 5, none⟩ = some (.int .i64 keep)) (first | with_reducible exact SA5 | with_reducible exact SB5 | with_reducible exact ⟨keep_set5 SB5.1 ne1, keep_set5 SB5.2 ne4⟩ | go_keep)
      ((first | (go_at_call 75; with_reducible refine (unhide HCA).mono ?_; rintro e w5 ⟨rfl, sb5, HA5⟩; have SA5 : w5.cell? ⟨hb, 1, none⟩ = some (.pointer (some ⟨cb, 0, none⟩)) ∧ w5.cell? ⟨q, 5, none⟩ = some (.int .i64 keep) := And.intro (hz_facts (unhide HA5)).h1 (cell_of_block (i := 5) (unhide HA5).var rfl); obtain ⟨qm, hm, vm, cm⟩ := hz_lt (unhide HA5)) | (go_at_call 75; with_reducible refine (unhide HCB).mono ?_; rintro e w5 ⟨rfl, sb5, HB5⟩; obtain ⟨y0, y1, y2, y3, y4, y5, y6, y7, y8, y9⟩ := evb_of (zoo_svar (unhide HB5)); have SB5 : w5.cell? ⟨hb, 1, none⟩ = some (.pointer (some ⟨cb, 0, none⟩)) ∧ w5.cell? ⟨q, 5, none⟩ = some (.int .i64 keep) := And.intro (hz_facts (unhide HB5)).h1 (cell_of_block (i := 5) (unhide HB5).var rfl); obtain ⟨qm, hm, vm, cm⟩ := hz_lt (unhide HB5))))
    all_goals
      rw [unhide HZC, unhide HZN]
      first | (have HZ6 := hide (zoo_side ((unhide HA5).box #[.int .i64 zc, .int .i64 zn, .bool false, .string ⟨#[]⟩, .slice none 0 0] 127)); clear HA5 SA5; generalize w5.alloc (.cells #[.int .i64 zc, .int .i64 zn, .bool false, .string ⟨#[]⟩, .slice none 0 0] 127) = W6 at HZ6 ⊢; generalize w5.heap.size = p at HZ6 ⊢) | (have HZ6 := hide (zoo_set5 (unhide HB5) (.int .i64 zc) (.int .i64 zn) (.bool false) (.string ⟨#[]⟩) (.slice none 0 0)); clear HB5 SB5 y0 y1 y2 y3 y4 y5 y6 y7 y8 y9; generalize ((((w5.setCell ⟨w4.heap.size, 0, none⟩ (.int .i64 zc)).setCell ⟨w4.heap.size, 1, none⟩ (.int .i64 zn)).setCell ⟨w4.heap.size, 2, none⟩ (.bool false)).setCell ⟨w4.heap.size, 3, none⟩ (.string ⟨#[]⟩)).setCell ⟨w4.heap.size, 4, none⟩ (.slice none 0 0) = W6 at HZ6 ⊢; generalize w4.heap.size = p at HZ6 ⊢)
      clear h0 h1 v0 c0 x5 ql hl vl cl ne1 ne4 qm hm vm cm
      obtain ⟨da, dc, wa, wc, r2, r3, f2, f3, hl, -, -⟩ := hz_rows (unhide HZ6)
      obtain ⟨a0, a1⟩ := five_of (zoo_svar (unhide HZ6))
      have hph : p ≠ hb := hz_sne (unhide HZ6)
      have hhp : hb ≠ p := fun e => hph e.symm
      have HL := hide (zoo_linv (unhide HZ6))
      have HZ7 := hide (zoo_none (hz_nil (unhide HZ6)))
      go_wp2_with fail
      go_ret
      refine ⟨by trivial, ?_⟩
      exact ⟨tb4, gb, sb5, _, _, _, _, [], (unhide HZ7).tail, VI.crash (unhide HL), by simp, fun d hd => by simp at hd⟩

end Go.Proofs.Ytcfogkdpkpehaab

/- A region that draws its order, walked in an order of the prover's own. -/
namespace Go.Proofs.Ytcfogkdpkpehaab
open Go.RowKit
set_option maxRecDepth 20000

/-- A stronger condition serves. -/
theorem wpAnyH_switch {P : Program} {md : Region.Mode} {ops : Array Oper} {Q : Exit → Act → World → Prop} {S S' : World → Prop} (hS : ∀ w, S' w → S w) : ∀ {fuel : Nat} {listed : Array Bool} {a : Act} {w : World}, wpAnyH P md ops Q S' fuel listed a w → wpAnyH P md ops Q S fuel listed a w
  | 0, _, _, _, h => h
  | _ + 1, _, _, _, h => ⟨h.1, fun i hi => wpOp_mono (fun _ _ h' => ⟨hS _ h'.1, wpAnyH_switch hS h'.2⟩) (h.2 i hi)⟩
theorem drop_at {l rest : List Oper} {i : Nat} {o : Oper} (h : l.drop i = o :: rest) : l.toArray[i]? = some o := by
  have := congrArg List.head? h
  rw [List.head?_drop] at this
  simpa using this
theorem wpAnyH_tk {P : Program} {md : Region.Mode} {l rest : List Oper} {Q : Exit → Act → World → Prop} {S : World → Prop} {i : Nat} {oi : Oper} {v : Value} {fuel : Nat} {listed : Array Bool} {a : Act} {w : World} (hi : l.drop i = oi :: rest)
    (hs : Region.noSelect l.toArray = true) (hf : Region.free md l.toArray listed i = true) (hr : (Region.ready md l.toArray listed).contains i = true)
    (hQ : ∀ c a w, Q (.panic c) (a.put oi.dst v) w → Q (.panic c) a w) (hy : YieldsIf P l.toArray S oi v a) (hS : S w)
    (h : wpAnyH P md l.toArray Q S fuel (listed.setIfInBounds i true) (a.put oi.dst v) w) : wpAnyH P md l.toArray Q S (fuel + 1) listed a w := wpAnyH_take (drop_at hi) hs hf hr hQ hy hS h
theorem wpAnyH_only {P : Program} {md : Region.Mode} {l rest : List Oper} {Q : Exit → Act → World → Prop} {S : World → Prop} {i : Nat} {o : Oper} {fuel : Nat} {listed : Array Bool} {a : Act} {w : World} (hi : l.drop i = o :: rest) (hr : Region.ready md l.toArray listed = [i])
    (h : ∀ K' : Act → World → Prop, Shut (∀ a w, S w → (S w → wpAnyH P md l.toArray Q S fuel (listed.setIfInBounds i true) a w) → K' a w) → if Region.wanted o (yielded l.toArray a.tmps) = true then Oper.wp P o a w K' Q else K' (a.put o.dst undef) w) :
    wpAnyH P md l.toArray Q S (fuel + 1) listed a w := wpAnyH_ready hr (by simp) (AllReadyH.cons (drop_at hi) h AllReadyH.nil)
end Go.Proofs.Ytcfogkdpkpehaab

/- A house's step: the table is cleared. -/
namespace Go.Proofs.Ytcfogkdpkpehaab
open Go.RowKit
set_option maxRecDepth 20000
attribute [local go_sem ↓] Go.wp_at_zero Go.wp_at_succ

/-- What stands where the works are: the commit of each. -/
theorem hz_at {w0 w : World} {b v c : Thing} {hb vb cb dn wn : Nat} {dbs : List Nat} {ds : List Dd} (hz : Zoo w0 w (b :: HbT hb vb cb dn wn dbs (ds.map Dd.wb) :: v :: c :: ds.map prt)) {j : Nat} (hj : j < ds.length) : ∃ wa wc g x y, w.cell? ⟨hb, 3, none⟩ = some (.slice wa wn wc) ∧ wa = some ⟨g, 0, none⟩ ∧ w.cell? ⟨g, j, none⟩ = some (.pointer (some ⟨x, 0, none⟩)) ∧ w.cell? ⟨x, 1, none⟩ = some (.int .i64 y) := by
  obtain ⟨l1, d, l2, rfl, hl⟩ := split_at ds j hj
  obtain ⟨da, dc, wa, wc, r2, r3, _, _, _, _, roww⟩ := hz_rows hz
  obtain ⟨g, e1, e2⟩ := roww j d.wb (by subst hl; simp)
  simp only [List.map_append, List.map_cons] at hz
  rw [show prt d = PrT d.db d.wb d.md d.y d.rs d.rs d.ws d.ws from rfl] at hz
  obtain ⟨H, ra, rc, wa2, wc2, hw⟩ := zoo_wrk hz
  exact ⟨wa, wc, g, d.wb, d.y, r3, e1, e2, hw.c1⟩

set_option maxHeartbeats 1000000 in
theorem hstep6 {w0 : World} {hb vb cb i tb gb sb : Nat} {f : Nat → List Ver} {n : Nat} {cs : List (List Ver)} {st : Nat → Option Addr} {ds : List Dd} (k md at_ key keep : Int) (t : Bool) (s : ByteArray) (w : World) (h : House w0 w hb vb cb i tb gb sb f n cs st ds) :
    Calls Try.prog 42 #[.pointer (some ⟨hb, 0, none⟩), .agg #[.int .i64 6, .int .i64 k, .int .i64 md, .int .i64 at_, .int .i64 key, .int .i64 keep, .bool t, .string s]] w fun e w' => e = .returned (.bool true) ∧ Hid (Hou w0 w' hb vb cb (i + 1)) := by
  obtain ⟨hz, h0, h1, v0, c0, hl, vl, cl⟩ := st0_of h #[.int .i64 6, .int .i64 k, .int .i64 md, .int .i64 at_, .int .i64 key, .int .i64 keep, .bool t, .string s] 84
  have HVI := hide h.vi
  have h6 := h.six
  have HOK := hide h.ok
  have HZ := hide hz
  clear hz h
  obtain ⟨FI, hinv⟩ := zoo_tbl (unhide HZ)
  have HI := hide hinv.inv
  clear hinv
  go_enter Try.func42, Try.ntmps42
  go_wp2_with fail
  refine (z_last (unhide HZ)).mono ?_
  rintro e w' ⟨rfl, hw'⟩
  subst w'
  clear h0 h1 v0 c0 hl vl cl
  generalize w.alloc (.cells #[.int .i64 6, .int .i64 k, .int .i64 md, .int .i64 at_, .int .i64 key, .int .i64 keep, .bool t, .string s] 84) = W at HZ ⊢
  generalize w.heap.size = q at HZ ⊢
  obtain ⟨h0, h1, v0, c0⟩ := hz_facts (unhide HZ)
  obtain ⟨da, dc, wa, wc, r2, r3, f2, f3, hhl, -, -⟩ := hz_rows (unhide HZ)
  obtain ⟨N, hNN⟩ : ∃ N, ds.length = N := ⟨_, rfl⟩
  rw [hNN] at r3
  have HN := hide hNN
  have hN6 : N ≤ 6 := by omega
  clear hNN
  go_wp2_with fail
  go_loopw [9, 10] (fun a b wr => ∃ (j : Nat) (l : Int), j ≤ N ∧ a = .int .i64 l ∧ b = .int .i64 j ∧ wr = W) (fun _ b _ => N - (intOf b).toNat)
  case atStart => exact ⟨0, n, by omega, rfl, rfl, rfl⟩
  case round =>
    obtain ⟨j, l, hj, rfl, rfl, hwr⟩ := hrel
    subst wr
    by_cases hlt : j < N
    · obtain ⟨wa', wc', g, x, y, e3, e4, e5, e6⟩ := hz_at (unhide HZ) (j := j) (by have := unhide HN; omega)
      rw [unhide HN, r3] at e3
      simp only [Option.some.injEq, Value.slice.injEq, true_and] at e3
      obtain ⟨rfl, rfl⟩ := e3
      subst e4
      have e5' : W.cell? ⟨g, 0 + j, none⟩ = some (.pointer (some ⟨x, 0, none⟩)) := by rw [Nat.zero_add]; exact e5
      have i0 : (0 : Int) ≤ (j : Int) := by omega
      have i1 : (j : Int) < (N : Int) := by omega
      rcases Int.lt_trichotomy l y with hc | hc | hc
      · go_wp2_with fail
        exact ⟨⟨j + 1, l, by omega, rfl, by go_num, by trivial⟩, by simp [intOf]; omega⟩
      · subst hc
        go_wp2_with fail
        exact ⟨⟨j + 1, l, by omega, by simp, by go_num, by trivial⟩, by simp [intOf]; omega⟩
      · go_wp2_with fail
        exact ⟨⟨j + 1, y, by omega, rfl, by go_num, by trivial⟩, by simp [intOf]; omega⟩
    · have hjN : ¬ (j : Int) < (N : Int) := by omega
      have HZd := hide ((unhide HZ).kp0 (Kp.refl [] W).drew)
      obtain ⟨cn, hcn⟩ : ∃ cn : Nat, cln f l 8 = cn := ⟨_, rfl⟩
      have HCN := hide hcn
      clear hcn
      go_wp2_with fail
      refine wp_region_held_drew (S := fun w' => w'.cell? ⟨hb, 0, none⟩ = some (.pointer (some ⟨vb, 0, none⟩)) ∧ w'.cell? ⟨vb, 0, none⟩ = some (.pointer (some ⟨tb, 0, none⟩)) ∧ w'.cell? ⟨hb, 1, none⟩ = some (.pointer (some ⟨cb, 0, none⟩)) ∧ w'.cell? ⟨cb, 0, none⟩ = some (.pointer (some ⟨sb, 0, none⟩))) (by kernel_rfl) (⟨h0, v0, h1, c0⟩) (fun hHeld => ?_)
      refine wpAnyH_tk (i := 0) (v := ?_) rfl (by kernel_rfl) (by kernel_rfl) (by kernel_rfl) (fun _ _ _ h => h) (Or.inl ⟨by rfl, ?_⟩) hHeld ?_
      rotate_left
      · intro w hSw
        try dsimp only at hSw
        go_simp
        try with_reducible rfl
      try simp only [Act.put, List.setIfInBounds_toArray, List.set_cons_zero, List.set_cons_succ]
      refine wpAnyH_tk (i := 1) (v := ?_) rfl (by kernel_rfl) (by kernel_rfl) (by kernel_rfl) (fun _ _ _ h => h) (Or.inl ⟨by rfl, ?_⟩) hHeld ?_
      rotate_left
      · intro w hSw
        try dsimp only at hSw
        go_simp
        try with_reducible rfl
      try simp only [Act.put, List.setIfInBounds_toArray, List.set_cons_zero, List.set_cons_succ]
      refine wpAnyH_tk (i := 2) (v := ?_) rfl (by kernel_rfl) (by kernel_rfl) (by kernel_rfl) (fun _ _ _ h => h) (Or.inl ⟨by rfl, ?_⟩) hHeld ?_
      rotate_left
      · intro w hSw
        try dsimp only at hSw
        go_simp
        try with_reducible rfl
      try simp only [Act.put, List.setIfInBounds_toArray, List.set_cons_zero, List.set_cons_succ]
      refine wpAnyH_tk (i := 3) (v := ?_) rfl (by kernel_rfl) (by kernel_rfl) (by kernel_rfl) (fun _ _ _ h => h) (Or.inl ⟨by rfl, ?_⟩) hHeld ?_
      rotate_left
      · intro w hSw
        try dsimp only at hSw
        go_simp
        try with_reducible rfl
      try simp only [Act.put, List.setIfInBounds_toArray, List.set_cons_zero, List.set_cons_succ]
      refine wpAnyH_tk (i := 4) (v := ?_) rfl (by kernel_rfl) (by kernel_rfl) (by kernel_rfl) (fun _ _ _ h => h) (Or.inl ⟨by rfl, ?_⟩) hHeld ?_
      rotate_left
      · intro w hSw
        try dsimp only at hSw
        go_simp
        try with_reducible rfl
      try simp only [Act.put, List.setIfInBounds_toArray, List.set_cons_zero, List.set_cons_succ]
      refine wpAnyH_tk (i := 5) (v := ?_) rfl (by kernel_rfl) (by kernel_rfl) (by kernel_rfl) (fun _ _ _ h => h) (Or.inl ⟨by rfl, ?_⟩) hHeld ?_
      rotate_left
      · intro w hSw
        try dsimp only at hSw
        go_simp
        try with_reducible rfl
      try simp only [Act.put, List.setIfInBounds_toArray, List.set_cons_zero, List.set_cons_succ]
      refine wpAnyH_tk (i := 6) (v := ?_) rfl (by kernel_rfl) (by kernel_rfl) (by kernel_rfl) (fun _ _ _ h => h) (Or.inl ⟨by rfl, ?_⟩) hHeld ?_
      rotate_left
      · intro w hSw
        try dsimp only at hSw
        go_simp
        try with_reducible rfl
      try simp only [Act.put, List.setIfInBounds_toArray, List.set_cons_zero, List.set_cons_succ]
      refine wpAnyH_tk (i := 7) (v := ?_) rfl (by kernel_rfl) (by kernel_rfl) (by kernel_rfl) (fun _ _ _ h => h) (Or.inl ⟨by rfl, ?_⟩) hHeld ?_
      rotate_left
      · intro w hSw
        try dsimp only at hSw
        go_simp
        try with_reducible rfl
      try simp only [Act.put, List.setIfInBounds_toArray, List.set_cons_zero, List.set_cons_succ]
      refine wpAnyH_tk (i := 9) (v := ?_) rfl (by kernel_rfl) (by kernel_rfl) (by kernel_rfl) (fun _ _ _ h => h) (Or.inl ⟨by rfl, ?_⟩) hHeld ?_
      rotate_left
      · intro w hSw
        try dsimp only at hSw
        go_simp
        try with_reducible rfl
      try simp only [Act.put, List.setIfInBounds_toArray, List.set_cons_zero, List.set_cons_succ]
      refine wpAnyH_tk (i := 10) (v := ?_) rfl (by kernel_rfl) (by kernel_rfl) (by kernel_rfl) (fun _ _ _ h => h) (Or.inl ⟨by rfl, ?_⟩) hHeld ?_
      rotate_left
      · intro w hSw
        try dsimp only at hSw
        go_simp
        try with_reducible rfl
      try simp only [Act.put, List.setIfInBounds_toArray, List.set_cons_zero, List.set_cons_succ]
      refine wpAnyH_tk (i := 11) (v := ?_) rfl (by kernel_rfl) (by kernel_rfl) (by kernel_rfl) (fun _ _ _ h => h) (Or.inl ⟨by rfl, ?_⟩) hHeld ?_
      rotate_left
      · intro w hSw
        try dsimp only at hSw
        go_simp
        try with_reducible rfl
      try simp only [Act.put, List.setIfInBounds_toArray, List.set_cons_zero, List.set_cons_succ]
      refine wpAnyH_tk (i := 12) (v := ?_) rfl (by kernel_rfl) (by kernel_rfl) (by kernel_rfl) (fun _ _ _ h => h) (Or.inl ⟨by rfl, ?_⟩) hHeld ?_
      rotate_left
      · intro w hSw
        try dsimp only at hSw
        go_simp
        try with_reducible rfl
      try simp only [Act.put, List.setIfInBounds_toArray, List.set_cons_zero, List.set_cons_succ]
      refine wpAnyH_tk (i := 13) (v := ?_) rfl (by kernel_rfl) (by kernel_rfl) (by kernel_rfl) (fun _ _ _ h => h) (Or.inl ⟨by rfl, ?_⟩) hHeld ?_
      rotate_left
      · intro w hSw
        try dsimp only at hSw
        go_simp
        try with_reducible rfl
      try simp only [Act.put, List.setIfInBounds_toArray, List.set_cons_zero, List.set_cons_succ]
      refine wpAnyH_tk (i := 14) (v := ?_) rfl (by kernel_rfl) (by kernel_rfl) (by kernel_rfl) (fun _ _ _ h => h) (Or.inl ⟨by rfl, ?_⟩) hHeld ?_
      rotate_left
      · intro w hSw
        try dsimp only at hSw
        go_simp
        try with_reducible rfl
      try simp only [Act.put, List.setIfInBounds_toArray, List.set_cons_zero, List.set_cons_succ]
      refine wpAnyH_tk (i := 15) (v := ?_) rfl (by kernel_rfl) (by kernel_rfl) (by kernel_rfl) (fun _ _ _ h => h) (Or.inl ⟨by rfl, ?_⟩) hHeld ?_
      rotate_left
      · intro w hSw
        try dsimp only at hSw
        go_simp
        try with_reducible rfl
      try simp only [Act.put, List.setIfInBounds_toArray, List.set_cons_zero, List.set_cons_succ]
      refine wpAnyH_tk (i := 16) (v := ?_) rfl (by kernel_rfl) (by kernel_rfl) (by kernel_rfl) (fun _ _ _ h => h) (Or.inl ⟨by rfl, ?_⟩) hHeld ?_
      rotate_left
      · intro w hSw
        try dsimp only at hSw
        go_simp
        try with_reducible rfl
      try simp only [Act.put, List.setIfInBounds_toArray, List.set_cons_zero, List.set_cons_succ]
      refine wpAnyH_only (i := 8) rfl (by kernel_rfl) (fun K hK => ?_)
      go_simp
      refine (z_clear l (unhide HZd)).mono ?_
      rintro e w2 ⟨rfl, HZ2⟩
      rw [unhide HCN]
      obtain ⟨p0, p1, p2, p3⟩ := hz_facts (unhide HZ2)
      go_wp2_with fail
      refine hK.out _ _ (⟨p0, p2, p1, p3⟩) (fun hHeld2 => ?_)
      clear hK K hHeld
      have hHeld := hHeld2
      clear hHeld2
      try simp only [Act.put, List.setIfInBounds_toArray, List.set_cons_zero, List.set_cons_succ]
      refine wpAnyH_only (i := 17) rfl (by kernel_rfl) (fun K hK => ?_)
      go_simp
      refine (z_sclear l (unhide HZ2)).mono ?_
      rintro e w3 ⟨rfl, HZ3⟩
      rw [unhide HCN]
      obtain ⟨t0, t1, t2, t3⟩ := hz_facts (unhide HZ3)
      go_wp2_with fail
      refine hK.out _ _ (⟨t0, t2, t1, t3⟩) (fun hHeld2 => ?_)
      clear hK K hHeld
      have hHeld := hHeld2
      clear hHeld2
      try simp only [Act.put, List.setIfInBounds_toArray, List.set_cons_zero, List.set_cons_succ]
      refine wpAnyH_tk (i := 18) (v := ?_) rfl (by kernel_rfl) (by kernel_rfl) (by kernel_rfl) (fun _ _ _ h => h) (Or.inl ⟨by rfl, ?_⟩) hHeld ?_
      rotate_left
      · intro w hSw
        try dsimp only at hSw
        go_simp
        try with_reducible rfl
      try simp only [Act.put, List.setIfInBounds_toArray, List.set_cons_zero, List.set_cons_succ]
      refine wpAnyH_tk (i := 19) (v := ?_) rfl (by kernel_rfl) (by kernel_rfl) (by kernel_rfl) (fun _ _ _ h => h) (Or.inl ⟨by rfl, ?_⟩) hHeld ?_
      rotate_left
      · intro w hSw
        try dsimp only at hSw
        go_simp
        try with_reducible rfl
      try simp only [Act.put, List.setIfInBounds_toArray, List.set_cons_zero, List.set_cons_succ]
      refine wpAnyH_done (by kernel_rfl) ?_ _
      go_wp2_with fail
      go_ret
      refine ⟨by trivial, ?_⟩
      exact ⟨tb, gb, sb, _, n, cs, st, ds, (unhide HZ3).tail, (unhide HVI).clear (unhide HI) l, h6, fun d hd => (unhide HOK d hd).mono (by omega)⟩

end Go.Proofs.Ytcfogkdpkpehaab

/- A house's steps that do nothing. -/
namespace Go.Proofs.Ytcfogkdpkpehaab
open Go.RowKit
set_option maxRecDepth 20000
attribute [local go_sem ↓] Go.wp_at_zero Go.wp_at_succ

theorem House.next {w0 w w' : World} {hb vb cb i tb gb sb : Nat} {f : Nat → List Ver} {n : Nat} {cs : List (List Ver)} {st : Nat → Option Addr} {ds : List Dd} (h : House w0 w hb vb cb i tb gb sb f n cs st ds) (hk : Kp [] w w') : Hou w0 w' hb vb cb (i + 1) :=
  ⟨tb, gb, sb, f, n, cs, st, ds, h.zoo.kp0 hk, h.vi, h.six, fun d hd => (h.ok d hd).mono (by omega)⟩

set_option maxHeartbeats 1000000 in
theorem hstepE {w0 : World} {hb vb cb i tb gb sb : Nat} {f : Nat → List Ver} {n : Nat} {cs : List (List Ver)} {st : Nat → Option Addr} {ds : List Dd} (dd k md at_ key keep : Int) (t : Bool) (s : ByteArray) (w : World) (h : House w0 w hb vb cb i tb gb sb f n cs st ds) (hN : ds.length = 0) (d0 : ¬ dd = 0) (d5 : ¬ dd = 5) (d6 : ¬ dd = 6) :
    Calls Try.prog 42 #[.pointer (some ⟨hb, 0, none⟩), .agg #[.int .i64 dd, .int .i64 k, .int .i64 md, .int .i64 at_, .int .i64 key, .int .i64 keep, .bool t, .string s]] w fun e w' => e = .returned (.bool true) ∧ Hid (Hou w0 w' hb vb cb (i + 1)) := by
  obtain ⟨hz, h0, h1, v0, c0, hl, vl, cl⟩ := st0_of h #[.int .i64 dd, .int .i64 k, .int .i64 md, .int .i64 at_, .int .i64 key, .int .i64 keep, .bool t, .string s] 84
  have HH := hide h
  obtain ⟨da, dc, wa, wc, r2, r3, f2, f3, hhl, -, -⟩ := hz_rows (h.zoo.box #[] 84)
  have b0 : (dd == 0) = false := beq_eq_false_iff_ne.2 d0
  have b5 : (dd == 5) = false := beq_eq_false_iff_ne.2 d5
  have b6 : (dd == 6) = false := beq_eq_false_iff_ne.2 d6
  obtain ⟨da', dc', wa', wc', q2, q3, -, -, hhl', -, -⟩ := hz_rows hz
  rw [hN] at q2 q3
  have q2' : w.cell? ⟨hb, 2, none⟩ = some (.slice da' 0 dc') := by
    obtain ⟨F1, ⟨da2, dc2, wa2, wc2, k1⟩, _⟩ := zoo_at0 h.zoo
    have e1 := k1.c2
    have e2 := (show Kp [] w (w.alloc (.cells #[.int .i64 dd, .int .i64 k, .int .i64 md, .int .i64 at_, .int .i64 key, .int .i64 keep, .bool t, .string s] 84)) from (Kp.refl [] w).alloc _).cell (by simp) e1
    rw [e2, hN] at q2
    rw [e1, hN, q2]
  clear hz h r2 r3 f2 f3 hhl q2 q3 hhl'
  go_enter Try.func42, Try.ntmps42
  go_wp2_with fail
  go_ret
  exact ⟨rfl, (unhide HH).next ((Kp.refl [] w).alloc _)⟩

set_option maxHeartbeats 2000000 in
theorem hstepX {w0 : World} {hb vb cb i tb gb sb : Nat} {f : Nat → List Ver} {n : Nat} {cs : List (List Ver)} {st : Nat → Option Addr} {ds : List Dd} (dd k md at_ key keep : Int) (t : Bool) (s : ByteArray) (w : World) (h : House w0 w hb vb cb i tb gb sb f n cs st ds) (hN : 0 < ds.length) (d0 : ¬ dd = 0) (d5 : ¬ dd = 5) (d6 : ¬ dd = 6) (d1 : ¬ dd = 1) (d2 : ¬ dd = 2) (d3 : ¬ dd = 3) (d4 : ¬ dd = 4) :
    Calls Try.prog 42 #[.pointer (some ⟨hb, 0, none⟩), .agg #[.int .i64 dd, .int .i64 k, .int .i64 md, .int .i64 at_, .int .i64 key, .int .i64 keep, .bool t, .string s]] w fun e w' => e = .returned (.bool true) ∧ Hid (Hou w0 w' hb vb cb (i + 1)) := by
  obtain ⟨M, hM⟩ : ∃ M, ds.length = M + 1 := ⟨ds.length - 1, by omega⟩
  have h6 := h.six
  obtain ⟨j, hj, hjM⟩ := cut_of k (n := M) (by omega)
  rw [show ((M : Int) + 1) = ((ds.length : Nat) : Int) by omega] at hj
  obtain ⟨l1, d, l2, hds, hl1⟩ := split_at ds j (by omega)
  have hok := h.ok
  have hvi := h.vi
  obtain ⟨hz, h0, h1, v0, c0, hl, vl, cl⟩ := st0_of h #[.int .i64 dd, .int .i64 k, .int .i64 md, .int .i64 at_, .int .i64 key, .int .i64 keep, .bool t, .string s] 84
  subst hds
  have hlen : (l1 ++ d :: l2).length = j + 1 + l2.length := by simp [hl1]; omega
  simp only [List.map_append, List.map_cons] at hz
  rw [show prt d = PrT d.db d.wb d.md d.y d.rs d.rs d.ws d.ws from rfl] at hz
  generalize (l1 ++ d :: l2).length = N at *
  obtain ⟨hokd, hok1, hok2⟩ : dOk i d ∧ (∀ x ∈ l1, dOk i x) ∧ ∀ x ∈ l2, dOk i x := ⟨hok d (by simp), fun x hx => hok x (by simp [hx]), fun x hx => hok x (by simp [hx])⟩
  have HOK1 := hide hok1
  have HOK2 := hide hok2
  have HVI := hide hvi
  have HOKD := hide hokd
  have HLEN := hide hlen
  have HL1 := hide hl1
  have hNN : ¬ (N : Int) = 0 := by omega
  have hNB : ((N : Int) == 0) = false := beq_eq_false_iff_ne.2 hNN
  have j0 : (0 : Int) ≤ (j : Int) := by omega
  have j1 : (j : Int) < (N : Int) := by omega
  have HZ := hide hz
  have HJ := hide hj
  have b0 : (dd == 0) = false := beq_eq_false_iff_ne.2 d0
  have b1 : (dd == 1) = false := beq_eq_false_iff_ne.2 d1
  have b2 : (dd == 2) = false := beq_eq_false_iff_ne.2 d2
  have b3 : (dd == 3) = false := beq_eq_false_iff_ne.2 d3
  have b4 : (dd == 4) = false := beq_eq_false_iff_ne.2 d4
  have b5 : (dd == 5) = false := beq_eq_false_iff_ne.2 d5
  have b6 : (dd == 6) = false := beq_eq_false_iff_ne.2 d6
  clear hz h hok hvi hokd hok1 hok2 hlen hl1 hM hjM
  obtain ⟨da0, dc0, wa0, wc0, t2, t3, -, -, -, -, -⟩ := hz_rows (unhide HZ)
  go_enter Try.func42, Try.ntmps42
  go_wp2_with fail
  clear t2 t3 h0 h1 v0 c0
  generalize hW : w.alloc (.cells #[.int .i64 dd, .int .i64 k, .int .i64 md, .int .i64 at_, .int .i64 key, .int .i64 keep, .bool t, .string s] 84) = W at HZ ⊢
  generalize hq : w.heap.size = q at HZ ⊢
  clear hW hq
  obtain ⟨h0, h1, v0, c0⟩ := hz_facts (unhide HZ)
  obtain ⟨da, dc, wa, wc, r2, r3, f2, f3, hhl, rowd, roww⟩ := hz_rows (unhide HZ)
  obtain ⟨g1, rfl, e1⟩ := rowd j d.db (by have := unhide HL1; subst this; simp)
  obtain ⟨g2, rfl, e2⟩ := roww j d.wb (by have := unhide HL1; subst this; simp)
  have e1' : W.cell? ⟨g1, 0 + j, none⟩ = some (.pointer (some ⟨d.db, 0, none⟩)) := by rw [Nat.zero_add]; exact e1
  have e2' : W.cell? ⟨g2, 0 + j, none⟩ = some (.pointer (some ⟨d.wb, 0, none⟩)) := by rw [Nat.zero_add]; exact e2
  have xb := (unhide HZ).var
  have x0 : W.cell? ⟨q, 0, none⟩ = some (.int .i64 dd) := cell_of_block xb rfl
  have x1 : W.cell? ⟨q, 1, none⟩ = some (.int .i64 k) := cell_of_block xb rfl
  clear rowd roww xb
  go_quiet (fail)
  generalize nq = n1 at *
  go_wp2_with fail
  go_quiet (fail)
  go_wp2_with fail
  have HZ2 := hide ((unhide HZ).kp0 ((Kp.refl [] W).drewN (n1 + nq)))
  generalize W.drewN (n1 + nq) = W2 at HZ2 ⊢
  clear HZ h0 h1 v0 c0 r2 r3 f2 f3 hhl e1 e2 e1' e2' x0 x1 hj hl vl cl
  obtain ⟨h0, h1, v0, c0⟩ := hz_facts (unhide HZ2)
  obtain ⟨ql, hl, vl, cl⟩ := hz_lt (unhide HZ2)
  have xb := (unhide HZ2).var
  clear xb
  go_ret
  refine ⟨by trivial, ?_⟩
  exact hou_deed (d := d) (d' := d) (unhide HZ2) rfl rfl (unhide HLEN) (unhide HL1) h6 (unhide HVI) ((unhide HOKD).mono (by omega)) (unhide HOK1) (unhide HOK2)

end Go.Proofs.Ytcfogkdpkpehaab

/- A house's step: another deed begins. -/
namespace Go.Proofs.Ytcfogkdpkpehaab
open Go.RowKit
set_option maxRecDepth 20000
attribute [local go_sem ↓] Go.wp_at_zero Go.wp_at_succ

theorem hz_b0 {w0 w : World} {hb vb cb tb gb sb dn wn q n m i j : Nat} {dbs wbs : List Nat} {xs : Array Value} {T : TypeId} {f g : Nat → List Ver} {cs ds : List (List Ver)} {torn td : List UInt8} {st : Nat → Option Addr} {r : List Thing} {x y : Value} (hz : Zoo w0 w (BoxT q xs T :: HbT hb vb cb dn wn dbs wbs :: VltT vb tb gb f n cs torn :: CrtT cb sb g m ds td st :: r)) (hx : xs[i]? = some x) (hy : xs[j]? = some y) : w.cell? ⟨hb, 0, none⟩ = some (.pointer (some ⟨vb, 0, none⟩)) ∧ w.cell? ⟨q, i, none⟩ = some x ∧ w.cell? ⟨q, j, none⟩ = some y :=
  ⟨(hz_facts hz).h0, cell_of_block hz.var hx, cell_of_block hz.var hy⟩
theorem hz_b1 {w0 w : World} {hb vb cb tb gb sb dn wn q n m i j : Nat} {dbs wbs : List Nat} {xs : Array Value} {T : TypeId} {f g : Nat → List Ver} {cs ds : List (List Ver)} {torn td : List UInt8} {st : Nat → Option Addr} {r : List Thing} {x y : Value} (hz : Zoo w0 w (BoxT q xs T :: HbT hb vb cb dn wn dbs wbs :: VltT vb tb gb f n cs torn :: CrtT cb sb g m ds td st :: r)) (hx : xs[i]? = some x) (hy : xs[j]? = some y) : w.cell? ⟨hb, 1, none⟩ = some (.pointer (some ⟨cb, 0, none⟩)) ∧ w.cell? ⟨q, i, none⟩ = some x ∧ w.cell? ⟨q, j, none⟩ = some y :=
  ⟨(hz_facts hz).h1, cell_of_block hz.var hx, cell_of_block hz.var hy⟩
section
variable {w0 w : World} {b h v c : Thing} {r : List Thing} {vb tb gb cb sb : Nat} {f g : Nat → List Ver} {n m : Nat} {cs ds : List (List Ver)} {torn td : List UInt8} {st : Nat → Option Addr}
theorem z_begin_ok {md at_ : Int} (hb : bcode f n md at_ = 0) (hz : Zoo w0 w (b :: h :: VltT vb tb gb f n cs torn :: r)) :
    Calls Try.prog 48 #[.pointer (some ⟨vb, 0, none⟩), .int .i64 md, .int .i64 at_] w fun e w' => ∃ D, e = .returned (.tuple #[.pointer (some ⟨D, 0, none⟩), .int .i64 0]) ∧ Hid (w.heap.size ≤ D ∧ Ded w' D md (bat n md at_) [] []) ∧ Hid (Kp [] w w') := by
  refine (z_begin md at_ hz).mono ?_
  rintro e w' (⟨_, D, rfl, hD, hd, hk⟩ | ⟨h, _⟩)
  · exact ⟨D, rfl, ⟨hD, hd⟩, hk⟩
  · exact absurd hb h
theorem z_begin_no {md at_ z : Int} (hb : bcode f n md at_ = z) (h0 : ¬ z = 0) (hz : Zoo w0 w (b :: h :: VltT vb tb gb f n cs torn :: r)) :
    Calls Try.prog 48 #[.pointer (some ⟨vb, 0, none⟩), .int .i64 md, .int .i64 at_] w fun e w' => e = .returned (.tuple #[.pointer none, .int .i64 z]) ∧ Hid (Kp [] w w') := by
  refine (z_begin md at_ hz).mono ?_
  rintro e w' (⟨h, _⟩ | ⟨_, rfl, hk⟩)
  · exact absurd (hb.symm.trans h) h0
  · exact ⟨by rw [hb], hk⟩
theorem z_cbegin_ok {md at_ : Int} (hb : bcode g m md at_ = 0) (hz : Zoo w0 w (b :: h :: v :: CrtT cb sb g m ds td st :: r)) :
    Calls Try.prog 74 #[.pointer (some ⟨cb, 0, none⟩), .int .i64 md, .int .i64 at_] w fun e w' => ∃ D, e = .returned (.tuple #[.pointer (some ⟨D, 0, none⟩), .int .i64 0]) ∧ Hid (∃ H, Wrk w.heap.size w' D H md (bat m md at_) [] []) ∧ Hid (Kp [] w w') := by
  refine (z_cbegin md at_ hz).mono ?_
  rintro e w' (⟨_, D, H, rfl, hd, hk⟩ | ⟨h, _⟩)
  · exact ⟨D, rfl, ⟨H, hd⟩, hk⟩
  · exact absurd hb h
theorem z_cbegin_no {md at_ z : Int} (hb : bcode g m md at_ = z) (h0 : ¬ z = 0) (hz : Zoo w0 w (b :: h :: v :: CrtT cb sb g m ds td st :: r)) :
    Calls Try.prog 74 #[.pointer (some ⟨cb, 0, none⟩), .int .i64 md, .int .i64 at_] w fun e w' => e = .returned (.tuple #[.pointer none, .int .i64 z]) ∧ Hid (Kp [] w w') := by
  refine (z_cbegin md at_ hz).mono ?_
  rintro e w' (⟨h, _⟩ | ⟨_, rfl, hk⟩)
  · exact absurd (hb.symm.trans h) h0
  · exact ⟨by rw [hb], hk⟩
/-- A new pair of deeds, behind all that is there. -/
theorem zoo_pair {w1 w2 : World} {L : List Thing} {D D2 : Nat} {md y : Int} (hz : Zoo w0 w (b :: h :: v :: c :: L)) (h1 : w.heap.size ≤ D ∧ Ded w1 D md y [] []) (k1 : Kp [] w w1) (h2 : ∃ H, Wrk w1.heap.size w2 D2 H md y [] []) (k2 : Kp [] w1 w2) : Zoo w0 w2 (b :: h :: v :: c :: (L ++ [PrT D D2 md y [] [] [] []])) := by
  obtain ⟨H, h2⟩ := h2
  have hl := h1.2.lt
  have hs1 := k1.size
  have hs2 := k2.size
  refine Zoo.put_ (l1 := b :: h :: v :: c :: L) (l2 := []) (F := D :: H) (by simpa using hz) ⟨H, h1.2.kp0 k2, h2.base hs1, fun hm => ?_, by simp, fun x hx => by simp [hx], fun x hx => ?_⟩ (k1.trans0 k2)
  · have := (h2.lo D hm).1; omega
  · rcases List.mem_cons.1 hx with e | e
    · have := h1.1; omega
    · have := h2.lo x e; omega
end
theorem hou_more {w0 w : World} {hb vb cb i tb gb sb N : Nat} {f : Nat → List Ver} {n : Nat} {cs : List (List Ver)} {st : Nat → Option Addr} {ds : List Dd} {b : Thing} {D D2 : Nat} {md y : Int} (hz : Zoo w0 w (b :: HbT hb vb cb N N (ds.map Dd.db ++ [D]) (ds.map Dd.wb ++ [D2]) :: VltT vb tb gb f n cs [] :: CrtT cb sb f n cs [] st :: (ds.map prt ++ [PrT D D2 md y [] [] [] []])))
    (hN : N = ds.length + 1) (h6 : N ≤ 6) (hv : VI f n cs) (o1 : ∀ x ∈ ds, dOk i x) : Hou w0 w hb vb cb (i + 1) := by
  have hl : (ds ++ [(⟨D, D2, md, y, [], []⟩ : Dd)]).length = N := by simp; omega
  refine ⟨tb, gb, sb, f, n, cs, st, ds ++ [⟨D, D2, md, y, [], []⟩], ?_, hv, by omega, fun x hx => ?_⟩
  · rw [hl, List.map_append, List.map_append, List.map_append]
    exact hz.tail
  · rcases List.mem_append.1 hx with e | e
    · exact (o1 x e).mono (by omega)
    · rw [List.mem_singleton.1 e]; exact ⟨wok_nil, by simp, by simp⟩
theorem src_one {t e : TypeId} (hu : Try.prog.underlying t = some (.slice e)) {w : World} {blk D : Nat} (hb : w.heap[blk]? = some (.cells #[.pointer (some ⟨D, 0, none⟩)] e (0, 0))) : Src Try.prog 1 t (.slice (some ⟨blk, 0, none⟩) 1 1) 1 (ptrs [D]) w :=
  Src.ofSlice w hu ⟨blk, 0, none⟩ 1 1 (ptrs [D]) (by simp [ptrs]) (fun j u hj => by
    have : j = 0 := by
      have := (List.getElem?_eq_some_iff.1 hj).1
      simp [ptrs] at this
      omega
    subst this
    rw [addr_add]
    exact cell_of_block hb (by simpa [ptrs] using hj)) (ptrs_one _)

set_option maxHeartbeats 1000000 in
theorem hstep0n {w0 : World} {hb vb cb i tb gb sb : Nat} {f : Nat → List Ver} {n : Nat} {cs : List (List Ver)} {st : Nat → Option Addr} {ds : List Dd} (k md at_ key keep : Int) (t : Bool) (s : ByteArray) (w : World) (h : House w0 w hb vb cb i tb gb sb f n cs st ds) (hbc : ¬ bcode f n md at_ = 0) :
    Calls Try.prog 42 #[.pointer (some ⟨hb, 0, none⟩), .agg #[.int .i64 0, .int .i64 k, .int .i64 md, .int .i64 at_, .int .i64 key, .int .i64 keep, .bool t, .string s]] w fun e w' => e = .returned (.bool true) ∧ Hid (Hou w0 w' hb vb cb (i + 1)) := by
  obtain ⟨hz, h0, h1, v0, c0, hl, vl, cl⟩ := st0_of h #[.int .i64 0, .int .i64 k, .int .i64 md, .int .i64 at_, .int .i64 key, .int .i64 keep, .bool t, .string s] 84
  have HH := hide h
  have HZ := hide hz
  clear hz h
  go_enter Try.func42, Try.ntmps42
  go_wp2_with fail
  clear h0 h1 v0 c0 hl vl cl
  have hkw : Kp [] w (w.alloc (.cells #[.int .i64 0, .int .i64 k, .int .i64 md, .int .i64 at_, .int .i64 key, .int .i64 keep, .bool t, .string s] 84)) := (Kp.refl [] w).alloc _
  have HKW := hide hkw
  clear hkw
  generalize w.alloc (.cells #[.int .i64 0, .int .i64 k, .int .i64 md, .int .i64 at_, .int .i64 key, .int .i64 keep, .bool t, .string s] 84) = W at HZ HKW ⊢
  generalize w.heap.size = q at HZ ⊢
  obtain ⟨h0, h1, v0, c0⟩ := hz_facts (unhide HZ)
  obtain ⟨ql, hl, vl, cl⟩ := hz_lt (unhide HZ)
  have xb := (unhide HZ).var
  have x2 : W.cell? ⟨q, 2, none⟩ = some (.int .i64 md) := cell_of_block xb rfl
  have x3 : W.cell? ⟨q, 3, none⟩ = some (.int .i64 at_) := cell_of_block xb rfl
  clear xb
  have HZd := hide ((unhide HZ).kp0 (Kp.refl [] W).drew)
  obtain ⟨z, hz⟩ : ∃ z, bcode f n md at_ = z := ⟨_, rfl⟩
  rw [hz] at hbc
  have HB := hide hz
  clear hz
  have HC1 := hide (z_begin_no (unhide HB) hbc (unhide HZd))
  go_region_held3 (fun w' => w'.cell? ⟨hb, 0, none⟩ = some (.pointer (some ⟨vb, 0, none⟩)) ∧ w'.cell? ⟨q, 2, none⟩ = some (.int .i64 md) ∧ w'.cell? ⟨q, 3, none⟩ = some (.int .i64 at_)) (first | go_keep | exact SA)
    ((go_at_call 48; with_reducible refine (unhide HC1).mono ?_; rintro e w3 ⟨rfl, HK3⟩; have SA := hz_b0 ((unhide HZd).kp0 (unhide HK3)) (i := 2) (j := 3) rfl rfl))
  all_goals
    have HZ3 := hide ((unhide HZd).kp0 (unhide HK3))
    clear h0 h1 v0 c0 ql hl vl cl x2 x3 SA
    obtain ⟨h0, h1, v0, c0⟩ := hz_facts (unhide HZ3)
    obtain ⟨ql, hl, vl, cl⟩ := hz_lt (unhide HZ3)
    obtain ⟨-, x2, x3⟩ := hz_b0 (unhide HZ3) (i := 2) (j := 3) rfl rfl
    have HZ3d := hide ((unhide HZ3).kp0 (Kp.refl [] w3).drew)
    have HC2 := hide (z_cbegin_no (unhide HB) hbc (unhide HZ3d))
    go_wp2_with fail
    go_region_held3 (fun w' => w'.cell? ⟨hb, 1, none⟩ = some (.pointer (some ⟨cb, 0, none⟩)) ∧ w'.cell? ⟨q, 2, none⟩ = some (.int .i64 md) ∧ w'.cell? ⟨q, 3, none⟩ = some (.int .i64 at_)) (first | go_keep | exact SB)
      ((go_at_call 74; with_reducible refine (unhide HC2).mono ?_; rintro e w4 ⟨rfl, HK4⟩; have SB := hz_b1 ((unhide HZ3d).kp0 (unhide HK4)) (i := 2) (j := 3) rfl rfl))
    all_goals
      clear h0 h1 v0 c0 ql hl vl cl x2 x3 SB
      go_wp2_with fail
      go_ret
      exact ⟨by trivial, (unhide HH).next ((((unhide HKW).drew.trans0 (unhide HK3)).drew).trans0 (unhide HK4))⟩

set_option maxHeartbeats 1000000 in
theorem hstep0f {w0 : World} {hb vb cb i tb gb sb : Nat} {f : Nat → List Ver} {n : Nat} {cs : List (List Ver)} {st : Nat → Option Addr} {ds : List Dd} (k md at_ key keep : Int) (t : Bool) (s : ByteArray) (w : World) (h : House w0 w hb vb cb i tb gb sb f n cs st ds) (hbc : bcode f n md at_ = 0) (h6 : ¬ ds.length < 6) :
    Calls Try.prog 42 #[.pointer (some ⟨hb, 0, none⟩), .agg #[.int .i64 0, .int .i64 k, .int .i64 md, .int .i64 at_, .int .i64 key, .int .i64 keep, .bool t, .string s]] w fun e w' => e = .returned (.bool true) ∧ Hid (Hou w0 w' hb vb cb (i + 1)) := by
  obtain ⟨hz, h0, h1, v0, c0, hl, vl, cl⟩ := st0_of h #[.int .i64 0, .int .i64 k, .int .i64 md, .int .i64 at_, .int .i64 key, .int .i64 keep, .bool t, .string s] 84
  have HH := hide h
  have HZ := hide hz
  clear hz h
  go_enter Try.func42, Try.ntmps42
  go_wp2_with fail
  clear h0 h1 v0 c0 hl vl cl
  have hkw : Kp [] w (w.alloc (.cells #[.int .i64 0, .int .i64 k, .int .i64 md, .int .i64 at_, .int .i64 key, .int .i64 keep, .bool t, .string s] 84)) := (Kp.refl [] w).alloc _
  have HKW := hide hkw
  clear hkw
  generalize w.alloc (.cells #[.int .i64 0, .int .i64 k, .int .i64 md, .int .i64 at_, .int .i64 key, .int .i64 keep, .bool t, .string s] 84) = W at HZ HKW ⊢
  generalize w.heap.size = q at HZ ⊢
  obtain ⟨h0, h1, v0, c0⟩ := hz_facts (unhide HZ)
  obtain ⟨ql, hl, vl, cl⟩ := hz_lt (unhide HZ)
  have xb := (unhide HZ).var
  have x2 : W.cell? ⟨q, 2, none⟩ = some (.int .i64 md) := cell_of_block xb rfl
  have x3 : W.cell? ⟨q, 3, none⟩ = some (.int .i64 at_) := cell_of_block xb rfl
  clear xb
  have HZd := hide ((unhide HZ).kp0 (Kp.refl [] W).drew)
  have HB := hide hbc
  clear hbc
  have HC1 := hide (z_begin_ok (unhide HB) (unhide HZd))
  go_region_held3 (fun w' => w'.cell? ⟨hb, 0, none⟩ = some (.pointer (some ⟨vb, 0, none⟩)) ∧ w'.cell? ⟨q, 2, none⟩ = some (.int .i64 md) ∧ w'.cell? ⟨q, 3, none⟩ = some (.int .i64 at_)) (first | go_keep | exact SA)
    ((go_at_call 48; with_reducible refine (unhide HC1).mono ?_; rintro e w3 ⟨D, rfl, HD3, HK3⟩; have SA := hz_b0 ((unhide HZd).kp0 (unhide HK3)) (i := 2) (j := 3) rfl rfl))
  all_goals
    have HZ3 := hide ((unhide HZd).kp0 (unhide HK3))
    clear h0 h1 v0 c0 ql hl vl cl x2 x3 SA
    obtain ⟨h0, h1, v0, c0⟩ := hz_facts (unhide HZ3)
    obtain ⟨ql, hl, vl, cl⟩ := hz_lt (unhide HZ3)
    obtain ⟨-, x2, x3⟩ := hz_b0 (unhide HZ3) (i := 2) (j := 3) rfl rfl
    have HZ3d := hide ((unhide HZ3).kp0 (Kp.refl [] w3).drew)
    have HC2 := hide (z_cbegin_ok (unhide HB) (unhide HZ3d))
    go_wp2_with fail
    go_region_held3 (fun w' => w'.cell? ⟨hb, 1, none⟩ = some (.pointer (some ⟨cb, 0, none⟩)) ∧ w'.cell? ⟨q, 2, none⟩ = some (.int .i64 md) ∧ w'.cell? ⟨q, 3, none⟩ = some (.int .i64 at_)) (first | go_keep | exact SB)
      ((go_at_call 74; with_reducible refine (unhide HC2).mono ?_; rintro e w4 ⟨D2, rfl, HD4, HK4⟩; have SB := hz_b1 ((unhide HZ3d).kp0 (unhide HK4)) (i := 2) (j := 3) rfl rfl))
    all_goals
      have HZ4 := hide ((unhide HZ3d).kp0 (unhide HK4))
      clear h0 h1 v0 c0 ql hl vl cl x2 x3 SB
      obtain ⟨da, dc, wa, wc, r2, r3, f2, f3, hhl, -, -⟩ := hz_rows (unhide HZ4)
      have hN : ¬ ((ds.length : Nat) : Int) < 6 := by omega
      generalize ds.length = N at *
      go_wp2_with fail
      go_ret
      exact ⟨by trivial, (unhide HH).next ((((unhide HKW).drew.trans0 (unhide HK3)).drew).trans0 (unhide HK4))⟩

end Go.Proofs.Ytcfogkdpkpehaab

/- A house's step: another deed begins, and there is room. -/
namespace Go.Proofs.Ytcfogkdpkpehaab
open Go.RowKit
set_option maxRecDepth 20000
attribute [local go_sem ↓] Go.wp_at_zero Go.wp_at_succ

theorem far6 {S : List Nat} {W w6 : World} {n : Nat} (hk : Kp S W w6) (hS : ∀ x ∈ S, x < n) {blk : Nat} {o : Obj} (hb : W.heap[blk]? = some o) (hge : n ≤ blk) : w6.heap[blk]? = some o := by
  rw [hk.block blk (lt_of_block hb) (fun hm => by have := hS blk hm; omega)]; exact hb
theorem kp_two {S : List Nat} {w Wa w6 : World} (hKa : Kp [] w Wa) (hk6 : Kp S Wa w6) {p : Addr} {v : Value} (hp : p.block ∉ S) (hc : w.cell? p = some v) : w6.cell? p = some v := hk6.cell hp (hKa.cell (by simp) hc)
theorem kp_size2 {S : List Nat} {w Wa w6 : World} {n : Nat} (hn : n ≤ w.heap.size) (hKa : Kp [] w Wa) (hk6 : Kp S Wa w6) : n ≤ w6.heap.size := Nat.le_trans hn (Nat.le_trans hKa.size hk6.size)
theorem old_alloc (w : World) (o1 o2 : Obj) : ((w.alloc o1).alloc o2).heap[w.heap.size]? = some o1 := by
  rw [Below.heap_alloc _ _ _ (by simp)]
  exact heap_alloc_new _ _
section
variable {B : Nat} {w Wa w6 Wb w7 : World} {hb : Nat} {F : List Nat} {vb cb : Nat} {da a6 : Option Addr} {dc c6 : Nat} {wa a7 : Option Addr} {wc c7 dn wn N : Nat} {dbs wbs l l' : List Nat}
theorem Hbx.both (h : Hbx B w hb F vb cb da dc wa wc dn wn dbs wbs) (hKa : Kp [] w Wa) (hk6 : Kp (ob da) Wa w6) (ho6 : PRow 92 B w6 a6 N c6 (ptrs l)) (hx6 : ∀ x ∈ ob a6, x ∈ ob da ∨ Wa.heap.size ≤ x)
    (hKb : Kp [] w6 Wb) (hk7 : Kp (ob wa) Wb w7) (ho7 : PRow 123 B w7 a7 N c7 (ptrs l')) (hx7 : ∀ x ∈ ob a7, x ∈ ob wa ∨ Wb.heap.size ≤ x) :
    (w7.cell? ⟨hb, 2, none⟩ = some (.slice da dn dc) ∧ w7.cell? ⟨hb, 3, none⟩ = some (.slice wa wn wc) ∧ w7.frozen? ⟨hb, 2, none⟩ = false ∧ w7.frozen? ⟨hb, 3, none⟩ = false) ∧
    Ch (HbT hb vb cb N N l l') B w F ((w7.setCell ⟨hb, 2, none⟩ (.slice a6 N c6)).setCell ⟨hb, 3, none⟩ (.slice a7 N c7)) := by
  have hhb := (h.lo hb h.hF).2
  have s1 := hKa.size
  have s2 := hk6.size
  have s3 := hKb.size
  have s4 := hk7.size
  have hwl : ∀ x ∈ ob wa, x < w.heap.size := fun x hx => (h.lo x (h.wF x hx)).2
  have hdl : ∀ x ∈ ob da, x < w.heap.size := fun x hx => (h.lo x (h.dF x hx)).2
  have hw6 : w6.heap[hb]? = w.heap[hb]? := by rw [hk6.block hb (by omega) h.hd, hKa.block hb hhb (by simp)]
  have hw7 : w7.heap[hb]? = w.heap[hb]? := by rw [hk7.block hb (by omega) h.hw, hKb.block hb (by omega) (by simp), hw6]
  have hbx7 := h.box
  rw [← hw7] at hbx7
  have h67 : ∀ x ∈ ob a6, x ∉ ob wa := fun x hx hm => by
    rcases hx6 x hx with e | e
    · exact h.dw x e hm
    · have := hwl x hm; omega
  have ho6' : PRow 92 B w7 a6 N c6 (ptrs l) := (ho6.kp0 hKb).kp hk7 h67
  have hkw7 : Kp F w w7 := ((hKa.mono (fun x hx => by simp at hx)).trans hk6 (fun x hx => .inl (h.dF x hx))).trans ((hKb.mono (fun x hx => by simp at hx)).trans hk7 (fun x hx => .inl hx)) (fun x hx => .inl (h.wF x hx))
  have hk8 : Kp [hb] w7 ((w7.setCell ⟨hb, 2, none⟩ (.slice a6 N c6)).setCell ⟨hb, 3, none⟩ (.slice a7 N c7)) := ((Kp.refl [hb] w7).setCell (.inl (by simp)) _).setCell (.inl (by simp)) _
  have n6 : hb ∉ ob a6 := fun hm => by
    rcases hx6 hb hm with e | e
    · exact h.hd e
    · omega
  have n7 : hb ∉ ob a7 := fun hm => by
    rcases hx7 hb hm with e | e
    · exact h.hw e
    · omega
  have hkF : Kp F w ((w7.setCell ⟨hb, 2, none⟩ (.slice a6 N c6)).setCell ⟨hb, 3, none⟩ (.slice a7 N c7)) := hkw7.trans hk8 (fun x hx => .inl (by rw [List.mem_singleton.1 hx]; exact h.hF))
  refine ⟨⟨cell_of_block hbx7 rfl, cell_of_block hbx7 rfl, frozen_of_block _ hbx7, frozen_of_block _ hbx7⟩, F ++ ob a6 ++ ob a7, ⟨a6, c6, a7, c7, heap_setCell_at 3 _ (heap_setCell_at 2 _ hbx7), ho6'.kp hk8 (fun x hx e => n6 (by rw [← List.mem_singleton.1 e]; exact hx)), ho7.kp hk8 (fun x hx e => n7 (by rw [← List.mem_singleton.1 e]; exact hx)), n6, n7, fun x hx hm => ?_, by simp [h.hF], fun x hx => by simp [hx], fun x hx => by simp [hx], fun x hx => ?_⟩, hkF, fun x hx => ?_⟩
  · rcases hx7 x hm with e | e
    · exact h67 x hx e
    · have := (ho6.lo x hx).2; omega
  · rcases List.mem_append.1 hx with e | e
    · rcases List.mem_append.1 e with e | e
      · exact ⟨(h.lo x e).1, Nat.lt_of_lt_of_le (h.lo x e).2 hkF.size⟩
      · exact ⟨(ho6'.lo x e).1, Nat.lt_of_lt_of_le (ho6'.lo x e).2 hk8.size⟩
    · exact ⟨(ho7.lo x e).1, Nat.lt_of_lt_of_le (ho7.lo x e).2 hk8.size⟩
  · rcases List.mem_append.1 hx with e | e
    · rcases List.mem_append.1 e with e | e
      · exact .inl e
      · rcases hx6 x e with e | e
        · exact .inl (h.dF x e)
        · exact .inr (by omega)
    · rcases hx7 x e with e | e
      · exact .inl (h.wF x e)
      · exact .inr (by omega)
end

set_option maxHeartbeats 8000000 in
theorem hstep0y {w0 : World} {hb vb cb i tb gb sb : Nat} {f : Nat → List Ver} {n : Nat} {cs : List (List Ver)} {st : Nat → Option Addr} {ds : List Dd} (k md at_ key keep : Int) (t : Bool) (s : ByteArray) (w : World) (h : House w0 w hb vb cb i tb gb sb f n cs st ds) (hbc : bcode f n md at_ = 0) (h6 : ds.length < 6) :
    Calls Try.prog 42 #[.pointer (some ⟨hb, 0, none⟩), .agg #[.int .i64 0, .int .i64 k, .int .i64 md, .int .i64 at_, .int .i64 key, .int .i64 keep, .bool t, .string s]] w fun e w' => e = .returned (.bool true) ∧ Hid (Hou w0 w' hb vb cb (i + 1)) := by
  have HVI := hide h.vi
  have HOK := hide h.ok
  obtain ⟨hz, h0, h1, v0, c0, hl, vl, cl⟩ := st0_of h #[.int .i64 0, .int .i64 k, .int .i64 md, .int .i64 at_, .int .i64 key, .int .i64 keep, .bool t, .string s] 84
  have HH := hide h
  have HZ := hide hz
  clear hz h
  go_enter Try.func42, Try.ntmps42
  go_wp2_with fail
  clear h0 h1 v0 c0 hl vl cl
  have hkw : Kp [] w (w.alloc (.cells #[.int .i64 0, .int .i64 k, .int .i64 md, .int .i64 at_, .int .i64 key, .int .i64 keep, .bool t, .string s] 84)) := (Kp.refl [] w).alloc _
  have HKW := hide hkw
  clear hkw
  generalize w.alloc (.cells #[.int .i64 0, .int .i64 k, .int .i64 md, .int .i64 at_, .int .i64 key, .int .i64 keep, .bool t, .string s] 84) = W at HZ HKW ⊢
  generalize w.heap.size = q at HZ ⊢
  obtain ⟨h0, h1, v0, c0⟩ := hz_facts (unhide HZ)
  obtain ⟨ql, hl, vl, cl⟩ := hz_lt (unhide HZ)
  have xb := (unhide HZ).var
  have x2 : W.cell? ⟨q, 2, none⟩ = some (.int .i64 md) := cell_of_block xb rfl
  have x3 : W.cell? ⟨q, 3, none⟩ = some (.int .i64 at_) := cell_of_block xb rfl
  clear xb
  have HZd := hide ((unhide HZ).kp0 (Kp.refl [] W).drew)
  have HB := hide hbc
  clear hbc
  have HC1 := hide (z_begin_ok (unhide HB) (unhide HZd))
  go_region_held3 (fun w' => w'.cell? ⟨hb, 0, none⟩ = some (.pointer (some ⟨vb, 0, none⟩)) ∧ w'.cell? ⟨q, 2, none⟩ = some (.int .i64 md) ∧ w'.cell? ⟨q, 3, none⟩ = some (.int .i64 at_)) (first | go_keep | exact SA)
    ((go_at_call 48; with_reducible refine (unhide HC1).mono ?_; rintro e w3 ⟨D, rfl, HD3, HK3⟩; have SA := hz_b0 ((unhide HZd).kp0 (unhide HK3)) (i := 2) (j := 3) rfl rfl))
  all_goals
    have HZ3 := hide ((unhide HZd).kp0 (unhide HK3))
    clear h0 h1 v0 c0 ql hl vl cl x2 x3 SA
    obtain ⟨h0, h1, v0, c0⟩ := hz_facts (unhide HZ3)
    obtain ⟨ql, hl, vl, cl⟩ := hz_lt (unhide HZ3)
    obtain ⟨-, x2, x3⟩ := hz_b0 (unhide HZ3) (i := 2) (j := 3) rfl rfl
    have HZ3d := hide ((unhide HZ3).kp0 (Kp.refl [] w3).drew)
    have HC2 := hide (z_cbegin_ok (unhide HB) (unhide HZ3d))
    go_wp2_with fail
    go_region_held3 (fun w' => w'.cell? ⟨hb, 1, none⟩ = some (.pointer (some ⟨cb, 0, none⟩)) ∧ w'.cell? ⟨q, 2, none⟩ = some (.int .i64 md) ∧ w'.cell? ⟨q, 3, none⟩ = some (.int .i64 at_)) (first | go_keep | exact SB)
      ((go_at_call 74; with_reducible refine (unhide HC2).mono ?_; rintro e w4 ⟨D2, rfl, HD4, HK4⟩; have SB := hz_b1 ((unhide HZ3d).kp0 (unhide HK4)) (i := 2) (j := 3) rfl rfl))
    all_goals
      have HZ4 := hide (zoo_pair (unhide HZd) (unhide HD3) (unhide HK3) (by obtain ⟨H, hw⟩ := unhide HD4; exact ⟨H, hw.base (by simp)⟩) ((Kp.refl [] w3).drew.trans0 (unhide HK4)))
      clear h0 h1 v0 c0 ql hl vl cl x2 x3 SB HC1 HC2 HD3 HD4 HK3 HK4 HZ3 HZ3d HZd HZ HKW HH
      obtain ⟨F5, ⟨da, dc, wa, wc, h5⟩, kz⟩ := zoo_at1 (unhide HZ4)
      have HKZ := hide kz
      have r2 := h5.c2
      have r3 := h5.c3
      have f2 := h5.fz 2
      have f3 := h5.fz 3
      have hbl := (h5.lo hb h5.hF).2
      have hBW : w0.heap.size ≤ w4.heap.size := by have := (h5.lo hb h5.hF).1; omega
      have hd5 := h5.hd
      have hw5 := h5.hw
      have H5 := hide h5
      clear h5 kz
      have hN : ((ds.length : Nat) : Int) < 6 := by omega
      obtain ⟨N, hNN⟩ : ∃ N, ds.length = N := ⟨_, rfl⟩
      rw [hNN] at r2 r3 hN h6 H5
      have HNN := hide hNN
      clear hNN
      go_wp2_with fail
      have hlo : ∀ x ∈ ob da, x < w4.heap.size := fun x hx => ((unhide H5).lo x ((unhide H5).dF x hx)).2
      have HLO := hide hlo
      clear hlo
      go_region_law (first | (refine step_prow (by rfl) (.tmp 76) (.tmp 78) 78 (by rfl) Try.underlying78 Try.info92 rfl ((unhide H5).rd.kp0 (by first | exact ((Kp.refl [] w4).alloc _).drew | exact (((Kp.refl [] w4).alloc _).alloc _).drew)) (by simp; omega) _ (ptrs [D]) 1 (by rfl) (by rfl) (by first | exact src_one Try.underlying78 (heap_alloc_new _ _) | exact src_one Try.underlying78 (old_alloc _ _ _) | exact src_one Try.underlying78 (two_alloc _ _ _)) (by omega) (N + 1) rfl ?_; intro a6 c6 w6 ho6 hk6 hx6; have v3 : w6.cell? ⟨hb, 3, none⟩ = some (.slice wa N wc) := kp_two ((by first | exact ((Kp.refl [] w4).alloc _).drew | exact (((Kp.refl [] w4).alloc _).alloc _).drew)) (unhide hk6) hd5 r3; have l6 := World.block_lt_of_cell? _ _ v3; have l0 : w0.heap.size ≤ w6.heap.size := kp_size2 hBW ((by first | exact ((Kp.refl [] w4).alloc _).drew | exact (((Kp.refl [] w4).alloc _).alloc _).drew)) (unhide hk6)) | (refine step_prow (by rfl) (.tmp 83) (.tmp 85) 79 (by rfl) Try.underlying79 Try.info123 rfl (((unhide H5).rw_.kp0 (by first | exact ((Kp.refl [] w4).alloc _).drew | exact (((Kp.refl [] w4).alloc _).alloc _).drew)).kp (unhide hk6) (fun x hx hm => (unhide H5).dw x hm hx) |>.kp0 (by first | exact Kp.refl [] _ | exact (Kp.refl [] _).alloc _)) (by first | exact l0 | (simp; omega)) _ (ptrs [D2]) 1 (by rfl) (by rfl) (by first | exact src_one Try.underlying79 (heap_alloc_new _ _) | exact src_one Try.underlying79 (far6 (unhide hk6) (unhide HLO) (two_alloc _ _ _) (by omega)) | exact src_one Try.underlying79 (far6 (unhide hk6) (unhide HLO) (old_alloc _ _ _) (by omega))) (by omega) (N + 1) rfl ?_; intro a7 c7 w7 ho7 hk7 hx7; obtain ⟨⟨t2, t3, u2, u3⟩, hch⟩ := (unhide H5).both (by first | exact ((Kp.refl [] w4).alloc _).drew | exact (((Kp.refl [] w4).alloc _).alloc _).drew) (unhide hk6) (by rw [ptrs_append]; exact unhide ho6) (unhide hx6) (by first | exact Kp.refl [] _ | exact (Kp.refl [] _).alloc _) (unhide hk7) (by rw [ptrs_append]; exact unhide ho7) (unhide hx7); have HCH := hide hch; clear hch))
      all_goals
        have HZ8 := hide (unhide HKZ _ _ (unhide HCH))
        go_wp2_with fail
        go_ret
        exact ⟨by trivial, hou_more (unhide HZ8) (by have := unhide HNN; omega) (by omega) (unhide HVI) (unhide HOK)⟩

end Go.Proofs.Ytcfogkdpkpehaab

/- Do a vault and the document's court tell the same? The answer is true. -/
namespace Go.Proofs.Ytcfogkdpkpehaab
open Go.RowKit
set_option maxRecDepth 20000
attribute [local go_sem ↓] Go.wp_at_zero Go.wp_at_succ

/-- What the walk of same looks at, in every world that kept what was there. -/
def SmS (w' : World) (hb vb cb tb sb n : Nat) : Prop := w'.cell? ⟨hb, 0, none⟩ = some (.pointer (some ⟨vb, 0, none⟩)) ∧ w'.cell? ⟨hb, 1, none⟩ = some (.pointer (some ⟨cb, 0, none⟩)) ∧ w'.cell? ⟨vb, 0, none⟩ = some (.pointer (some ⟨tb, 0, none⟩)) ∧ w'.cell? ⟨cb, 0, none⟩ = some (.pointer (some ⟨sb, 0, none⟩)) ∧ w'.cell? ⟨sb, 8, none⟩ = some (.int .i64 n)
set_option maxHeartbeats 2000000 in
theorem hsame {B hb vb cb tb gb sb n : Nat} {F1 F2 Ft Fg G Gr Gs : List Nat} {da : Option Addr} {dc : Nat} {wa : Option Addr} {wc dn wn : Nat} {dbs wbs : List Nat} {bx : Array Value} {f : Nat → List Ver} {cs : List (List Ver)} {st : Nat → Option Addr} (w : World)
    (h1 : Hbx B w hb F1 vb cb da dc wa wc dn wn dbs wbs) (h2 : Vlt B w vb tb gb F2 Ft Fg f n cs []) (h3 : Crt B w cb sb G Gr Gs bx f n cs [] st) :
    Calls Try.prog 43 #[.pointer (some ⟨hb, 0, none⟩)] w fun e w' => e = .returned (.bool true) ∧ Kp [] w w' := by
  have HS := hide (fun w' (hk : Kp [] w w') => show SmS w' hb vb cb tb sb n from ⟨(h1.kp0 hk).c0, (h1.kp0 hk).c1, (h2.kp0 hk).c0, (h3.kp0 hk).c0, (h3.kp0 hk).s.ncell⟩)
  have HT := hide (fun w' (hk : Kp [] w w') => h2.t.kp0 hk)
  have HH := hide (fun w' (hk : Kp [] w w') => h3.s.kp0 hk)
  have HL := hide (fun w' (hk : Kp [] w w') => vlog w' (h2.kp0 hk))
  have HB := hide (fun w' (hk : Kp [] w w') => rxbytes w' (h3.kp0 hk).r)
  have hn40 := h2.t.inv.n40
  obtain ⟨bs, hbs⟩ : ∃ bs, lb cs ++ [] = bs := ⟨_, rfl⟩
  rw [hbs] at HL HB
  obtain ⟨c0, c1, c2, c3, c4⟩ := unhide HS w (Kp.refl _ _)
  obtain ⟨fm, hfm⟩ : ∃ fm, fmx f 8 = fm := ⟨_, rfl⟩
  have HFM := hide hfm
  clear h1 h2 h3 hbs hfm
  go_enter Try.func43, Try.ntmps43
  go_wp2_with fail
  refine wp_region_held_drew (S := fun w' => w'.cell? ⟨hb, 0, none⟩ = some (.pointer (some ⟨vb, 0, none⟩)) ∧ w'.cell? ⟨hb, 1, none⟩ = some (.pointer (some ⟨cb, 0, none⟩)) ∧ w'.cell? ⟨vb, 0, none⟩ = some (.pointer (some ⟨tb, 0, none⟩)) ∧ w'.cell? ⟨cb, 0, none⟩ = some (.pointer (some ⟨sb, 0, none⟩)) ∧ w'.cell? ⟨sb, 8, none⟩ = some (.int .i64 n)) (by kernel_rfl) (⟨c0, c1, c2, c3, c4⟩) (fun hHeld => ?_)
  refine wpAnyH_tk (i := 0) (v := ?_) rfl (by kernel_rfl) (by kernel_rfl) (by kernel_rfl) (fun _ _ _ h => h) (Or.inl ⟨by rfl, ?_⟩) hHeld ?_
  rotate_left
  · intro w hSw
    try dsimp only at hSw
    go_simp
    try with_reducible rfl
  try simp only [Act.put, List.setIfInBounds_toArray, List.set_cons_zero, List.set_cons_succ]
  refine wpAnyH_tk (i := 1) (v := ?_) rfl (by kernel_rfl) (by kernel_rfl) (by kernel_rfl) (fun _ _ _ h => h) (Or.inl ⟨by rfl, ?_⟩) hHeld ?_
  rotate_left
  · intro w hSw
    try dsimp only at hSw
    go_simp
    try with_reducible rfl
  try simp only [Act.put, List.setIfInBounds_toArray, List.set_cons_zero, List.set_cons_succ]
  refine wpAnyH_tk (i := 2) (v := ?_) rfl (by kernel_rfl) (by kernel_rfl) (by kernel_rfl) (fun _ _ _ h => h) (Or.inl ⟨by rfl, ?_⟩) hHeld ?_
  rotate_left
  · intro w hSw
    try dsimp only at hSw
    go_simp
    try with_reducible rfl
  try simp only [Act.put, List.setIfInBounds_toArray, List.set_cons_zero, List.set_cons_succ]
  refine wpAnyH_tk (i := 3) (v := ?_) rfl (by kernel_rfl) (by kernel_rfl) (by kernel_rfl) (fun _ _ _ h => h) (Or.inl ⟨by rfl, ?_⟩) hHeld ?_
  rotate_left
  · intro w hSw
    try dsimp only at hSw
    go_simp
    try with_reducible rfl
  try simp only [Act.put, List.setIfInBounds_toArray, List.set_cons_zero, List.set_cons_succ]
  refine wpAnyH_tk (i := 4) (v := ?_) rfl (by kernel_rfl) (by kernel_rfl) (by kernel_rfl) (fun _ _ _ h => h) (Or.inl ⟨by rfl, ?_⟩) hHeld ?_
  rotate_left
  · intro w hSw
    try dsimp only at hSw
    go_simp
    try with_reducible rfl
  try simp only [Act.put, List.setIfInBounds_toArray, List.set_cons_zero, List.set_cons_succ]
  refine wpAnyH_tk (i := 5) (v := ?_) rfl (by kernel_rfl) (by kernel_rfl) (by kernel_rfl) (fun _ _ _ h => h) (Or.inl ⟨by rfl, ?_⟩) hHeld ?_
  rotate_left
  · intro w hSw
    try dsimp only at hSw
    go_simp
    try with_reducible rfl
  try simp only [Act.put, List.setIfInBounds_toArray, List.set_cons_zero, List.set_cons_succ]
  refine wpAnyH_tk (i := 6) (v := ?_) rfl (by kernel_rfl) (by kernel_rfl) (by kernel_rfl) (fun _ _ _ h => h) (Or.inl ⟨by rfl, ?_⟩) hHeld ?_
  rotate_left
  · intro w hSw
    try dsimp only at hSw
    go_simp
    try with_reducible rfl
  try simp only [Act.put, List.setIfInBounds_toArray, List.set_cons_zero, List.set_cons_succ]
  refine wpAnyH_tk (i := 8) (v := ?_) rfl (by kernel_rfl) (by kernel_rfl) (by kernel_rfl) (fun _ _ _ h => h) (Or.inl ⟨by rfl, ?_⟩) hHeld ?_
  rotate_left
  · intro w hSw
    try dsimp only at hSw
    go_simp
    try with_reducible rfl
  try simp only [Act.put, List.setIfInBounds_toArray, List.set_cons_zero, List.set_cons_succ]
  refine wpAnyH_tk (i := 9) (v := ?_) rfl (by kernel_rfl) (by kernel_rfl) (by kernel_rfl) (fun _ _ _ h => h) (Or.inl ⟨by rfl, ?_⟩) hHeld ?_
  rotate_left
  · intro w hSw
    try dsimp only at hSw
    go_simp
    try with_reducible rfl
  try simp only [Act.put, List.setIfInBounds_toArray, List.set_cons_zero, List.set_cons_succ]
  refine wpAnyH_tk (i := 10) (v := ?_) rfl (by kernel_rfl) (by kernel_rfl) (by kernel_rfl) (fun _ _ _ h => h) (Or.inl ⟨by rfl, ?_⟩) hHeld ?_
  rotate_left
  · intro w hSw
    try dsimp only at hSw
    go_simp
    try with_reducible rfl
  try simp only [Act.put, List.setIfInBounds_toArray, List.set_cons_zero, List.set_cons_succ]
  refine wpAnyH_tk (i := 11) (v := ?_) rfl (by kernel_rfl) (by kernel_rfl) (by kernel_rfl) (fun _ _ _ h => h) (Or.inl ⟨by rfl, ?_⟩) hHeld ?_
  rotate_left
  · intro w hSw
    try dsimp only at hSw
    go_simp
    try with_reducible rfl
  try simp only [Act.put, List.setIfInBounds_toArray, List.set_cons_zero, List.set_cons_succ]
  refine wpAnyH_tk (i := 12) (v := ?_) rfl (by kernel_rfl) (by kernel_rfl) (by kernel_rfl) (fun _ _ _ h => h) (Or.inl ⟨by rfl, ?_⟩) hHeld ?_
  rotate_left
  · intro w hSw
    try dsimp only at hSw
    go_simp
    try with_reducible rfl
  try simp only [Act.put, List.setIfInBounds_toArray, List.set_cons_zero, List.set_cons_succ]
  refine wpAnyH_tk (i := 13) (v := ?_) rfl (by kernel_rfl) (by kernel_rfl) (by kernel_rfl) (fun _ _ _ h => h) (Or.inl ⟨by rfl, ?_⟩) hHeld ?_
  rotate_left
  · intro w hSw
    try dsimp only at hSw
    go_simp
    try with_reducible rfl
  try simp only [Act.put, List.setIfInBounds_toArray, List.set_cons_zero, List.set_cons_succ]
  refine wpAnyH_tk (i := 14) (v := ?_) rfl (by kernel_rfl) (by kernel_rfl) (by kernel_rfl) (fun _ _ _ h => h) (Or.inl ⟨by rfl, ?_⟩) hHeld ?_
  rotate_left
  · intro w hSw
    try dsimp only at hSw
    go_simp
    try with_reducible rfl
  try simp only [Act.put, List.setIfInBounds_toArray, List.set_cons_zero, List.set_cons_succ]
  refine wpAnyH_tk (i := 15) (v := ?_) rfl (by kernel_rfl) (by kernel_rfl) (by kernel_rfl) (fun _ _ _ h => h) (Or.inl ⟨by rfl, ?_⟩) hHeld ?_
  rotate_left
  · intro w hSw
    try dsimp only at hSw
    go_simp
    try with_reducible rfl
  try simp only [Act.put, List.setIfInBounds_toArray, List.set_cons_zero, List.set_cons_succ]
  refine wpAnyH_tk (i := 16) (v := ?_) rfl (by kernel_rfl) (by kernel_rfl) (by kernel_rfl) (fun _ _ _ h => h) (Or.inl ⟨by rfl, ?_⟩) hHeld ?_
  rotate_left
  · intro w hSw
    try dsimp only at hSw
    go_simp
    try with_reducible rfl
  try simp only [Act.put, List.setIfInBounds_toArray, List.set_cons_zero, List.set_cons_succ]
  refine wpAnyH_tk (i := 17) (v := ?_) rfl (by kernel_rfl) (by kernel_rfl) (by kernel_rfl) (fun _ _ _ h => h) (Or.inl ⟨by rfl, ?_⟩) hHeld ?_
  rotate_left
  · intro w hSw
    try dsimp only at hSw
    go_simp
    try with_reducible rfl
  try simp only [Act.put, List.setIfInBounds_toArray, List.set_cons_zero, List.set_cons_succ]
  refine wpAnyH_only (i := 7) rfl (by kernel_rfl) (fun K hK => ?_)
  go_simp
  refine (tlast38 _ (unhide HT _ ((Kp.refl [] w).drew))).mono ?_
  rintro e w2 ⟨rfl, hw2⟩
  subst w2
  go_wp2_with fail
  refine hK.out _ _ (⟨c0, c1, c2, c3, c4⟩) (fun hHeld2 => ?_)
  clear hK K hHeld
  have hHeld := hHeld2
  clear hHeld2
  try simp only [Act.put, List.setIfInBounds_toArray, List.set_cons_zero, List.set_cons_succ]
  refine wpAnyH_tk (i := 18) (v := ?_) rfl (by kernel_rfl) (by kernel_rfl) (by kernel_rfl) (fun _ _ _ h => h) (Or.inl ⟨by rfl, ?_⟩) hHeld ?_
  rotate_left
  · intro w hSw
    try dsimp only at hSw
    go_simp
    try with_reducible rfl
  try simp only [Act.put, List.setIfInBounds_toArray, List.set_cons_zero, List.set_cons_succ]
  refine wpAnyH_tk (i := 19) (v := ?_) rfl (by kernel_rfl) (by kernel_rfl) (by kernel_rfl) (fun _ _ _ h => h) (Or.inl ⟨by rfl, ?_⟩) hHeld ?_
  rotate_left
  · intro w hSw
    try dsimp only at hSw
    go_simp
    try with_reducible rfl
  try simp only [Act.put, List.setIfInBounds_toArray, List.set_cons_zero, List.set_cons_succ]
  refine wpAnyH_tk (i := 20) (v := ?_) rfl (by kernel_rfl) (by kernel_rfl) (by kernel_rfl) (fun _ _ _ h => h) (Or.inl ⟨by rfl, ?_⟩) hHeld ?_
  rotate_left
  · intro w hSw
    try dsimp only at hSw
    go_simp
    try with_reducible rfl
  try simp only [Act.put, List.setIfInBounds_toArray, List.set_cons_zero, List.set_cons_succ]
  refine wpAnyH_tk (i := 21) (v := ?_) rfl (by kernel_rfl) (by kernel_rfl) (by kernel_rfl) (fun _ _ _ h => h) (Or.inl ⟨by rfl, ?_⟩) hHeld ?_
  rotate_left
  · intro w hSw
    try dsimp only at hSw
    go_simp
    try with_reducible rfl
  try simp only [Act.put, List.setIfInBounds_toArray, List.set_cons_zero, List.set_cons_succ]
  refine wpAnyH_tk (i := 22) (v := ?_) rfl (by kernel_rfl) (by kernel_rfl) (by kernel_rfl) (fun _ _ _ h => h) (Or.inl ⟨by rfl, ?_⟩) hHeld ?_
  rotate_left
  · intro w hSw
    try dsimp only at hSw
    go_simp
    try with_reducible rfl
  try simp only [Act.put, List.setIfInBounds_toArray, List.set_cons_zero, List.set_cons_succ]
  refine wpAnyH_tk (i := 23) (v := ?_) rfl (by kernel_rfl) (by kernel_rfl) (by kernel_rfl) (fun _ _ _ h => h) (Or.inl ⟨by rfl, ?_⟩) hHeld ?_
  rotate_left
  · intro w hSw
    try dsimp only at hSw
    go_simp
    try with_reducible rfl
  try simp only [Act.put, List.setIfInBounds_toArray, List.set_cons_zero, List.set_cons_succ]
  refine wpAnyH_tk (i := 24) (v := ?_) rfl (by kernel_rfl) (by kernel_rfl) (by kernel_rfl) (fun _ _ _ h => h) (Or.inl ⟨by rfl, ?_⟩) hHeld ?_
  rotate_left
  · intro w hSw
    try dsimp only at hSw
    go_simp
    try with_reducible rfl
  try simp only [Act.put, List.setIfInBounds_toArray, List.set_cons_zero, List.set_cons_succ]
  refine wpAnyH_tk (i := 25) (v := ?_) rfl (by kernel_rfl) (by kernel_rfl) (by kernel_rfl) (fun _ _ _ h => h) (Or.inl ⟨by rfl, ?_⟩) hHeld ?_
  rotate_left
  · intro w hSw
    try dsimp only at hSw
    go_simp
    try with_reducible rfl
  try simp only [Act.put, List.setIfInBounds_toArray, List.set_cons_zero, List.set_cons_succ]
  refine wpAnyH_tk (i := 26) (v := ?_) rfl (by kernel_rfl) (by kernel_rfl) (by kernel_rfl) (fun _ _ _ h => h) (Or.inl ⟨by rfl, ?_⟩) hHeld ?_
  rotate_left
  · intro w hSw
    try dsimp only at hSw
    go_simp
    try with_reducible rfl
  try simp only [Act.put, List.setIfInBounds_toArray, List.set_cons_zero, List.set_cons_succ]
  refine wpAnyH_tk (i := 28) (v := ?_) rfl (by kernel_rfl) (by kernel_rfl) (by kernel_rfl) (fun _ _ _ h => h) (Or.inl ⟨by rfl, ?_⟩) hHeld ?_
  rotate_left
  · intro w hSw
    try dsimp only at hSw
    go_simp
    try with_reducible rfl
  try simp only [Act.put, List.setIfInBounds_toArray, List.set_cons_zero, List.set_cons_succ]
  refine wpAnyH_tk (i := 29) (v := ?_) rfl (by kernel_rfl) (by kernel_rfl) (by kernel_rfl) (fun _ _ _ h => h) (Or.inl ⟨by rfl, ?_⟩) hHeld ?_
  rotate_left
  · intro w hSw
    try dsimp only at hSw
    go_simp
    try with_reducible rfl
  try simp only [Act.put, List.setIfInBounds_toArray, List.set_cons_zero, List.set_cons_succ]
  refine wpAnyH_tk (i := 30) (v := ?_) rfl (by kernel_rfl) (by kernel_rfl) (by kernel_rfl) (fun _ _ _ h => h) (Or.inl ⟨by rfl, ?_⟩) hHeld ?_
  rotate_left
  · intro w hSw
    try dsimp only at hSw
    go_simp
    try with_reducible rfl
  try simp only [Act.put, List.setIfInBounds_toArray, List.set_cons_zero, List.set_cons_succ]
  refine wpAnyH_tk (i := 31) (v := ?_) rfl (by kernel_rfl) (by kernel_rfl) (by kernel_rfl) (fun _ _ _ h => h) (Or.inl ⟨by rfl, ?_⟩) hHeld ?_
  rotate_left
  · intro w hSw
    try dsimp only at hSw
    go_simp
    try with_reducible rfl
  try simp only [Act.put, List.setIfInBounds_toArray, List.set_cons_zero, List.set_cons_succ]
  refine wpAnyH_tk (i := 32) (v := ?_) rfl (by kernel_rfl) (by kernel_rfl) (by kernel_rfl) (fun _ _ _ h => h) (Or.inl ⟨by rfl, ?_⟩) hHeld ?_
  rotate_left
  · intro w hSw
    try dsimp only at hSw
    go_simp
    try with_reducible rfl
  try simp only [Act.put, List.setIfInBounds_toArray, List.set_cons_zero, List.set_cons_succ]
  refine wpAnyH_tk (i := 33) (v := ?_) rfl (by kernel_rfl) (by kernel_rfl) (by kernel_rfl) (fun _ _ _ h => h) (Or.inl ⟨by rfl, ?_⟩) hHeld ?_
  rotate_left
  · intro w hSw
    try dsimp only at hSw
    go_simp
    try with_reducible rfl
  try simp only [Act.put, List.setIfInBounds_toArray, List.set_cons_zero, List.set_cons_succ]
  refine wpAnyH_tk (i := 34) (v := ?_) rfl (by kernel_rfl) (by kernel_rfl) (by kernel_rfl) (fun _ _ _ h => h) (Or.inl ⟨by rfl, ?_⟩) hHeld ?_
  rotate_left
  · intro w hSw
    try dsimp only at hSw
    go_simp
    try with_reducible rfl
  try simp only [Act.put, List.setIfInBounds_toArray, List.set_cons_zero, List.set_cons_succ]
  refine wpAnyH_only (i := 27) rfl (by kernel_rfl) (fun K hK => ?_)
  go_simp
  refine (tfirst42 _ (unhide HT _ ((Kp.refl [] w).drew))).mono ?_
  rintro e w2 ⟨rfl, hw2⟩
  subst w2
  rw [unhide HFM]
  go_wp2_with fail
  refine hK.out _ _ (⟨c0, c1, c2, c3, c4⟩) (fun hHeld2 => ?_)
  clear hK K hHeld
  have hHeld := hHeld2
  clear hHeld2
  try simp only [Act.put, List.setIfInBounds_toArray, List.set_cons_zero, List.set_cons_succ]
  refine wpAnyH_only (i := 35) rfl (by kernel_rfl) (fun K hK => ?_)
  go_simp
  refine (sfirst43 _ (unhide HH _ ((Kp.refl [] w).drew))).mono ?_
  rintro e w2 ⟨rfl, hw2⟩
  subst w2
  rw [unhide HFM]
  go_wp2_with fail
  refine hK.out _ _ (⟨c0, c1, c2, c3, c4⟩) (fun hHeld2 => ?_)
  clear hK K hHeld
  have hHeld := hHeld2
  clear hHeld2
  try simp only [Act.put, List.setIfInBounds_toArray, List.set_cons_zero, List.set_cons_succ]
  refine wpAnyH_tk (i := 36) (v := ?_) rfl (by kernel_rfl) (by kernel_rfl) (by kernel_rfl) (fun _ _ _ h => h) (Or.inl ⟨by rfl, ?_⟩) hHeld ?_
  rotate_left
  · intro w hSw
    try dsimp only at hSw
    go_simp
    try with_reducible rfl
  try simp only [Act.put, List.setIfInBounds_toArray, List.set_cons_zero, List.set_cons_succ]
  refine wpAnyH_tk (i := 37) (v := ?_) rfl (by kernel_rfl) (by kernel_rfl) (by kernel_rfl) (fun _ _ _ h => h) (Or.inl ⟨by rfl, ?_⟩) hHeld ?_
  rotate_left
  · intro w hSw
    try dsimp only at hSw
    go_simp
    try with_reducible rfl
  try simp only [Act.put, List.setIfInBounds_toArray, List.set_cons_zero, List.set_cons_succ]
  refine wpAnyH_tk (i := 38) (v := ?_) rfl (by kernel_rfl) (by kernel_rfl) (by kernel_rfl) (fun _ _ _ h => h) (Or.inl ⟨by rfl, ?_⟩) hHeld ?_
  rotate_left
  · intro w hSw
    try dsimp only at hSw
    go_simp
    try with_reducible rfl
  try simp only [Act.put, List.setIfInBounds_toArray, List.set_cons_zero, List.set_cons_succ]
  refine wpAnyH_tk (i := 39) (v := ?_) rfl (by kernel_rfl) (by kernel_rfl) (by kernel_rfl) (fun _ _ _ h => h) (Or.inl ⟨by rfl, ?_⟩) hHeld ?_
  rotate_left
  · intro w hSw
    try dsimp only at hSw
    go_simp
    try with_reducible rfl
  try simp only [Act.put, List.setIfInBounds_toArray, List.set_cons_zero, List.set_cons_succ]
  refine wpAnyH_tk (i := 40) (v := ?_) rfl (by kernel_rfl) (by kernel_rfl) (by kernel_rfl) (fun _ _ _ h => h) (Or.inl ⟨by rfl, ?_⟩) hHeld ?_
  rotate_left
  · intro w hSw
    try dsimp only at hSw
    go_simp
    try with_reducible rfl
  try simp only [Act.put, List.setIfInBounds_toArray, List.set_cons_zero, List.set_cons_succ]
  refine wpAnyH_tk (i := 41) (v := ?_) rfl (by kernel_rfl) (by kernel_rfl) (by kernel_rfl) (fun _ _ _ h => h) (Or.inl ⟨by rfl, ?_⟩) hHeld ?_
  rotate_left
  · intro w hSw
    try dsimp only at hSw
    go_simp
    try with_reducible rfl
  try simp only [Act.put, List.setIfInBounds_toArray, List.set_cons_zero, List.set_cons_succ]
  refine wpAnyH_tk (i := 42) (v := ?_) rfl (by kernel_rfl) (by kernel_rfl) (by kernel_rfl) (fun _ _ _ h => h) (Or.inl ⟨by rfl, ?_⟩) hHeld ?_
  rotate_left
  · intro w hSw
    try dsimp only at hSw
    go_simp
    try with_reducible rfl
  try simp only [Act.put, List.setIfInBounds_toArray, List.set_cons_zero, List.set_cons_succ]
  refine wpAnyH_tk (i := 45) (v := ?_) rfl (by kernel_rfl) (by kernel_rfl) (by kernel_rfl) (fun _ _ _ h => h) (Or.inl ⟨by rfl, ?_⟩) hHeld ?_
  rotate_left
  · intro w hSw
    try dsimp only at hSw
    go_simp
    try with_reducible rfl
  try simp only [Act.put, List.setIfInBounds_toArray, List.set_cons_zero, List.set_cons_succ]
  refine wpAnyH_tk (i := 46) (v := ?_) rfl (by kernel_rfl) (by kernel_rfl) (by kernel_rfl) (fun _ _ _ h => h) (Or.inl ⟨by rfl, ?_⟩) hHeld ?_
  rotate_left
  · intro w hSw
    try dsimp only at hSw
    go_simp
    try with_reducible rfl
  try simp only [Act.put, List.setIfInBounds_toArray, List.set_cons_zero, List.set_cons_succ]
  refine wpAnyH_tk (i := 47) (v := ?_) rfl (by kernel_rfl) (by kernel_rfl) (by kernel_rfl) (fun _ _ _ h => h) (Or.inl ⟨by rfl, ?_⟩) hHeld ?_
  rotate_left
  · intro w hSw
    try dsimp only at hSw
    go_simp
    try with_reducible rfl
  try simp only [Act.put, List.setIfInBounds_toArray, List.set_cons_zero, List.set_cons_succ]
  refine wpAnyH_tk (i := 48) (v := ?_) rfl (by kernel_rfl) (by kernel_rfl) (by kernel_rfl) (fun _ _ _ h => h) (Or.inl ⟨by rfl, ?_⟩) hHeld ?_
  rotate_left
  · intro w hSw
    try dsimp only at hSw
    go_simp
    try with_reducible rfl
  try simp only [Act.put, List.setIfInBounds_toArray, List.set_cons_zero, List.set_cons_succ]
  refine wpAnyH_tk (i := 49) (v := ?_) rfl (by kernel_rfl) (by kernel_rfl) (by kernel_rfl) (fun _ _ _ h => h) (Or.inl ⟨by rfl, ?_⟩) hHeld ?_
  rotate_left
  · intro w hSw
    try dsimp only at hSw
    go_simp
    try with_reducible rfl
  try simp only [Act.put, List.setIfInBounds_toArray, List.set_cons_zero, List.set_cons_succ]
  refine wpAnyH_tk (i := 50) (v := ?_) rfl (by kernel_rfl) (by kernel_rfl) (by kernel_rfl) (fun _ _ _ h => h) (Or.inl ⟨by rfl, ?_⟩) hHeld ?_
  rotate_left
  · intro w hSw
    try dsimp only at hSw
    go_simp
    try with_reducible rfl
  try simp only [Act.put, List.setIfInBounds_toArray, List.set_cons_zero, List.set_cons_succ]
  refine wpAnyH_only (i := 43) rfl (by kernel_rfl) (fun K hK => ?_)
  go_simp
  refine (unhide HL _ ((Kp.refl [] w).drew)).mono ?_
  rintro e w3 ⟨a3, n3, k3, rfl, hn3, hc3, hb3, hk3⟩
  have K3 := hide ((Kp.refl [] w).drew.trans0 hk3)
  have s3 := unhide HS w3 (unhide K3)
  have v3 := str_of hb3 n3 k3 hn3 w3 (Kp.refl _ _)
  have HB3 := hide (And.intro hb3 hn3)
  clear hn3 hc3 hb3 hk3
  go_wp2_with fail
  refine hK.out _ _ (s3) (fun hHeld2 => ?_)
  clear hK K hHeld
  have hHeld := hHeld2
  clear hHeld2
  try simp only [Act.put, List.setIfInBounds_toArray, List.set_cons_zero, List.set_cons_succ]
  refine wpAnyH_switch (S' := fun w' => (convert 23 9 (.slice a3 n3 k3)).run Try.prog w' = .ok (.string ⟨bs.toArray⟩) w' ∧ w'.cell? ⟨hb, 0, none⟩ = some (.pointer (some ⟨vb, 0, none⟩)) ∧ w'.cell? ⟨hb, 1, none⟩ = some (.pointer (some ⟨cb, 0, none⟩)) ∧ w'.cell? ⟨vb, 0, none⟩ = some (.pointer (some ⟨tb, 0, none⟩)) ∧ w'.cell? ⟨cb, 0, none⟩ = some (.pointer (some ⟨sb, 0, none⟩)) ∧ w'.cell? ⟨sb, 8, none⟩ = some (.int .i64 n)) (fun _ h => h.2) ?_
  clear hHeld
  have hHeld := And.intro v3 s3
  refine wpAnyH_tk (i := 44) (v := ?_) rfl (by kernel_rfl) (by kernel_rfl) (by kernel_rfl) (fun _ _ _ h => h) (Or.inl ⟨by rfl, ?_⟩) hHeld ?_
  rotate_left
  · intro w hSw
    try dsimp only at hSw
    go_simp
    try with_reducible rfl
  try simp only [Act.put, List.setIfInBounds_toArray, List.set_cons_zero, List.set_cons_succ]
  refine wpAnyH_only (i := 51) rfl (by kernel_rfl) (fun K hK => ?_)
  go_simp
  refine (unhide HB _ (unhide K3)).mono ?_
  rintro e w4 ⟨a4, n4, k4, rfl, hn4, hc4, hb4, hk4⟩
  have K4 := hide ((unhide K3).trans0 hk4)
  have s4 := unhide HS w4 (unhide K4)
  have v4 := str_of hb4 n4 k4 hn4 w4 (Kp.refl _ _)
  have u3 := str_of (unhide HB3).1 n3 k3 (unhide HB3).2 w4 hk4
  clear hn4 hc4 hb4 hk4
  go_wp2_with fail
  refine hK.out _ _ (And.intro u3 s4) (fun hHeld2 => ?_)
  clear hK K hHeld
  have hHeld := hHeld2
  clear hHeld2
  try simp only [Act.put, List.setIfInBounds_toArray, List.set_cons_zero, List.set_cons_succ]
  refine wpAnyH_switch (S' := fun w' => (convert 23 9 (.slice a4 n4 k4)).run Try.prog w' = .ok (.string ⟨bs.toArray⟩) w' ∧ (convert 23 9 (.slice a3 n3 k3)).run Try.prog w' = .ok (.string ⟨bs.toArray⟩) w' ∧ w'.cell? ⟨hb, 0, none⟩ = some (.pointer (some ⟨vb, 0, none⟩)) ∧ w'.cell? ⟨hb, 1, none⟩ = some (.pointer (some ⟨cb, 0, none⟩)) ∧ w'.cell? ⟨vb, 0, none⟩ = some (.pointer (some ⟨tb, 0, none⟩)) ∧ w'.cell? ⟨cb, 0, none⟩ = some (.pointer (some ⟨sb, 0, none⟩)) ∧ w'.cell? ⟨sb, 8, none⟩ = some (.int .i64 n)) (fun _ h => h.2) ?_
  clear hHeld
  have hHeld := And.intro v4 (And.intro u3 s4)
  refine wpAnyH_tk (i := 52) (v := ?_) rfl (by kernel_rfl) (by kernel_rfl) (by kernel_rfl) (fun _ _ _ h => h) (Or.inl ⟨by rfl, ?_⟩) hHeld ?_
  rotate_left
  · intro w hSw
    try dsimp only at hSw
    go_simp
    try with_reducible rfl
  try simp only [Act.put, List.setIfInBounds_toArray, List.set_cons_zero, List.set_cons_succ]
  refine wpAnyH_tk (i := 53) (v := ?_) rfl (by kernel_rfl) (by kernel_rfl) (by kernel_rfl) (fun _ _ _ h => h) (Or.inl ⟨by rfl, ?_⟩) hHeld ?_
  rotate_left
  · intro w hSw
    try dsimp only at hSw
    go_simp
    try with_reducible rfl
  try simp only [Act.put, List.setIfInBounds_toArray, List.set_cons_zero, List.set_cons_succ]
  refine wpAnyH_tk (i := 54) (v := ?_) rfl (by kernel_rfl) (by kernel_rfl) (by kernel_rfl) (fun _ _ _ h => h) (Or.inl ⟨by rfl, ?_⟩) hHeld ?_
  rotate_left
  · intro w hSw
    try dsimp only at hSw
    go_simp
    try with_reducible rfl
  try simp only [Act.put, List.setIfInBounds_toArray, List.set_cons_zero, List.set_cons_succ]
  refine wpAnyH_done (by kernel_rfl) ?_ _
  clear hHeld v3 s3 v4 u3 s4
  go_wp2_with fail
  go_loopw [3] (fun i wr => ∃ k : Nat, k ≤ 8 ∧ i = .int .i64 k ∧ Hid (Kp [] w wr)) (fun i _ => 8 - (intOf i).toNat)
  case atStart => exact ⟨0, by omega, rfl, K4⟩
  case round =>
    obtain ⟨k, hk, rfl, HK⟩ := hrel
    by_cases hlk : k < 8
    · have hlk' : (k : Int) < 8 := by omega
      go_wp2_with fail
      go_loopw [4] (fun i wr => ∃ m : Nat, m ≤ n + 1 ∧ i = .int .i64 m ∧ Hid (Kp [] w wr)) (fun i _ => n + 1 - (intOf i).toNat)
      case atStart => exact ⟨0, by omega, rfl, HK⟩
      case round =>
        obtain ⟨m, hm, rfl, HK2⟩ := hrel
        obtain ⟨e0, e1, e2, e3, e4⟩ := unhide HS wr (unhide HK2)
        by_cases hlm : m ≤ n
        · have hlm' : (m : Int) ≤ (n : Int) := by omega
          have hrd := fun W (hk : Kp [] w W) => tread32 (k : Int) (m : Int) W (unhide HT W hk)
          have hsr := fun W (hk : Kp [] w W) => sread33 (k : Int) (m : Int) W (unhide HH W hk)
          generalize tr f n (k : Int) (m : Int) = v at *
          have HRD := hide hrd
          have HSR := hide hsr
          clear hrd hsr
          go_wp2_with fail
          refine (unhide HRD _ (unhide HK2)).mono ?_
          rintro e wa' ⟨rfl, hka⟩
          have HKA := hide (((unhide HK2).trans0 hka).alloc (.cells #[.bool v.t, .string v.s] 38))
          obtain ⟨p0, p1, p2, p3, p4⟩ := unhide HS _ (unhide HKA)
          have d0 : (wa'.alloc (.cells #[.bool v.t, .string v.s] 38)).cell? ⟨wa'.heap.size, 0, none⟩ = some (.bool v.t) := cell_of_block (heap_alloc_new _ _) rfl
          have d1 : (wa'.alloc (.cells #[.bool v.t, .string v.s] 38)).cell? ⟨wa'.heap.size, 1, none⟩ = some (.string v.s) := cell_of_block (heap_alloc_new _ _) rfl
          obtain ⟨t0, t1, t2, t3, t4⟩ := unhide HS _ ((unhide HK2).trans0 hka)
          have l0 := World.block_lt_of_cell? _ _ t0
          have l2 := World.block_lt_of_cell? _ _ t2
          have l3 := World.block_lt_of_cell? _ _ t3
          clear hka HRD e0 e1 e2 e3 e4 p0 p1 p2 p3 p4
          go_wp2_with fail
          clear t0 t1 t2 t3 t4 l0 l2 l3
          generalize wa'.alloc (.cells #[.bool v.t, .string v.s] 38) = WA at HKA d0 d1 ⊢
          generalize wa'.heap.size = pa at d0 d1 ⊢
          refine (unhide HSR _ (unhide HKA)).mono ?_
          rintro e wb ⟨rfl, hkb⟩
          have x0 : wb.cell? ⟨pa, 0, none⟩ = some (.bool v.t) := hkb.cell (by simp) d0
          have x1 : wb.cell? ⟨pa, 1, none⟩ = some (.string v.s) := hkb.cell (by simp) d1
          have x2 := World.block_lt_of_cell? _ _ x0
          have HKB := hide (((unhide HKA).trans0 hkb).alloc (.cells #[.bool v.t, .string v.s] 38))
          clear hkb HSR d0 d1
          go_wp2_with fail
          exact ⟨⟨m + 1, by omega, by go_num, HKB⟩, by simp [intOf]; omega⟩
        · have hlm' : ¬ (m : Int) ≤ (n : Int) := by omega
          go_wp2_with fail
          exact ⟨⟨k + 1, by omega, by go_num, HK2⟩, by simp [intOf]; omega⟩
    · have hlk' : ¬ (k : Int) < 8 := by omega
      go_wp2_with fail
      go_ret
      exact ⟨rfl, unhide HK⟩

end Go.Proofs.Ytcfogkdpkpehaab

/- vaultBegun answers true. -/
namespace Go.Proofs.Ytcfogkdpkpehaab
open Go.RowKit
set_option maxRecDepth 20000
attribute [local go_sem ↓] Go.wp_at_zero Go.wp_at_succ

def vx : ByteArray := ⟨#[120]⟩
def vy : ByteArray := ⟨#[121]⟩
def vw1 : List Ver := [⟨1, true, vx⟩]
def vw2 : List Ver := [⟨1, true, vy⟩]
def vf0 : Nat → List Ver := fun _ => [dv]
def vf1 : Nat → List Ver := wst vf0 0 vw1
theorem vx_le : vx.size ≤ maxLen := by unfold maxLen; decide
theorem vy_le : vy.size ≤ maxLen := by unfold maxLen; decide
theorem vb_b1 : bcode vf0 0 1 9 = 0 := by decide
theorem vb_a1 : bat 0 1 9 = 0 := by decide
theorem vb_b2 : bcode vf0 0 2 0 = 0 := by decide
theorem vb_a2 : bat 0 2 0 = 0 := by decide
theorem vb_p1 : dpc 1 1 true vx = 0 := by decide
theorem vb_q1 : dpw 1 [] 1 true vx = vw1 := by rfl
theorem vb_p2 : dpc 2 1 true vy = 0 := by decide
theorem vb_q2 : dpw 2 [] 1 true vy = vw2 := by rfl
theorem vb_wk : wk vw1 8 = vw1 := by rfl
theorem vb_ok1 : WOk vw1 := fun p hp => by rw [List.mem_singleton.1 hp]; decide
theorem vb_ok2 : WOk vw2 := fun p hp => by rw [List.mem_singleton.1 hp]; decide
theorem vb_dm1 : dm vf0 1 0 [] vw1 = 0 := by rfl
theorem vb_lc : lcode [] vw1 = 0 := by decide
theorem vb_c1 : vcode vf0 [] 1 0 [] vw1 = 0 ∧ vdone vf0 [] 1 0 [] vw1 = true := v_yes vb_dm1 (by rw [vb_wk]; decide) (by rw [vb_wk]; exact vb_lc)
theorem vb_f1 : vf vf0 0 [] 1 0 [] vw1 = vf1 ∧ vn vf0 0 [] 1 0 [] vw1 = 1 ∧ vcs vf0 [] 1 0 [] vw1 = [vw1] ∧ vnum vf0 0 [] 1 0 [] vw1 = 1 := by
  obtain ⟨h1, h2, h3, h4⟩ := v_did (n := 0) vb_c1.2
  rw [vb_wk] at h1 h3
  exact ⟨h1, h2, h3, by rw [h4]; rfl⟩
theorem vb_dm2 : dm vf1 2 0 [] vw2 = 10 := by rfl
theorem vb_c2 : vcode vf1 [vw1] 2 0 [] vw2 = 10 ∧ vdone vf1 [vw1] 2 0 [] vw2 = false := by
  have h : ¬ dm vf1 2 0 [] vw2 = 0 := by rw [vb_dm2]; decide
  obtain ⟨h1, h2⟩ := v_may (cs := [vw1]) h
  exact ⟨by rw [h1, vb_dm2], h2⟩
theorem vb_f2 : vf vf1 1 [vw1] 2 0 [] vw2 = vf1 ∧ vn vf1 1 [vw1] 2 0 [] vw2 = 1 ∧ vcs vf1 [vw1] 2 0 [] vw2 = [vw1] ∧ vnum vf1 1 [vw1] 2 0 [] vw2 = 0 := v_not (n := 1) vb_c2.2
theorem vb_b3 : bcode vf1 1 3 2 = 1 := by decide
theorem vb_vi0 : VI vf0 0 [] := vi_new
theorem vb_vi1 : VI vf1 1 [vw1] := by
  have := vi_new.commit vw1
  exact this
theorem vb_rd : tr (wal0 [vw1]) 1 1 1 = ⟨0, true, ⟨#[120]⟩⟩ := by rfl
theorem vb_len : (lb [vw1] ++ []).length = 5 := by decide

section
variable {w0 w : World} {vb tb gb : Nat} {f : Nat → List Ver} {n : Nat} {cs : List (List Ver)} {r : List Thing} {D D2 : Nat} {md y md2 y2 : Int} {rs rs2 : List Int} {ws ws2 : List Ver}
theorem b_begin {md at_ : Int} (hb : bcode f n md at_ = 0) (hz : Zoo w0 w (VltT vb tb gb f n cs [] :: r)) :
    Calls Try.prog 48 #[.pointer (some ⟨vb, 0, none⟩), .int .i64 md, .int .i64 at_] w fun e w' => ∃ D, e = .returned (.tuple #[.pointer (some ⟨D, 0, none⟩), .int .i64 0]) ∧ Hid (Zoo w0 w' (VltT vb tb gb f n cs [] :: BoxT D (dcells md (bat n md at_) (ncell [] [])) 145 :: r)) := by
  obtain ⟨F, ⟨Ft, Fg, k⟩, _⟩ := zoo_at0 hz
  refine (vbegin md at_ w k).mono ?_
  rintro e w' (⟨_, D, rfl, hD, hd, hk⟩ | ⟨h, _⟩)
  · exact ⟨D, rfl, Zoo.put_ (l1 := [VltT vb tb gb f n cs []]) hz (F := [D]) ⟨hd, rfl, hD⟩ hk⟩
  · exact absurd hb h
theorem b_none {md at_ z : Int} (hb : bcode f n md at_ = z) (h0 : z ≠ 0) (hz : Zoo w0 w (VltT vb tb gb f n cs [] :: r)) :
    Calls Try.prog 48 #[.pointer (some ⟨vb, 0, none⟩), .int .i64 md, .int .i64 at_] w fun e w' => e = .returned (.tuple #[.pointer none, .int .i64 z]) ∧ Hid (Zoo w0 w' (VltT vb tb gb f n cs [] :: r)) := by
  obtain ⟨F, ⟨Ft, Fg, k⟩, _⟩ := zoo_at0 hz
  refine (vbegin md at_ w k).mono ?_
  rintro e w' (⟨h, _⟩ | ⟨_, rfl, hk⟩)
  · exact absurd (hb.symm.trans h) h0
  · exact ⟨by rw [hb], hz.kp0 hk⟩
theorem b_put1 (k : Int) (t : Bool) (s : ByteArray) (hs : s.size ≤ maxLen) (hz : Zoo w0 w (VltT vb tb gb f n cs [] :: BoxT D (dcells md y (ncell rs ws)) 145 :: r)) :
    Calls Try.prog 49 #[.pointer (some ⟨D, 0, none⟩), .int .i64 k, .agg #[.bool t, .string s]] w fun e w' => e = .returned (.int .i64 (dpc md k t s)) ∧ Hid (Zoo w0 w' (VltT vb tb gb f n cs [] :: BoxT D (dcells md y (ncell rs (dpw md ws k t s))) 145 :: r)) := by
  obtain ⟨F, ⟨h1, h2, h3⟩, k2⟩ := zoo_at1 hz
  exact (dput57 k t s w h1 hs).mono (fun e w' ⟨he, hd, hk⟩ => ⟨he, k2 _ _ ⟨F, ⟨hd, h2, h3⟩, by rw [h2]; exact hk, fun x hx => .inl hx⟩⟩)
theorem b_put2 {o : Thing} (k : Int) (t : Bool) (s : ByteArray) (hs : s.size ≤ maxLen) (hz : Zoo w0 w (VltT vb tb gb f n cs [] :: o :: BoxT D (dcells md y (ncell rs ws)) 145 :: r)) :
    Calls Try.prog 49 #[.pointer (some ⟨D, 0, none⟩), .int .i64 k, .agg #[.bool t, .string s]] w fun e w' => e = .returned (.int .i64 (dpc md k t s)) ∧ Hid (Zoo w0 w' (VltT vb tb gb f n cs [] :: o :: BoxT D (dcells md y (ncell rs (dpw md ws k t s))) 145 :: r)) := by
  obtain ⟨F, ⟨h1, h2, h3⟩, k2⟩ := zoo_at2 hz
  exact (dput57 k t s w h1 hs).mono (fun e w' ⟨he, hd, hk⟩ => ⟨he, k2 _ _ ⟨F, ⟨hd, h2, h3⟩, by rw [h2]; exact hk, fun x hx => .inl hx⟩⟩)
theorem b_commit (hv : VI f n cs) (hd : Ded w D md y rs ws) (hw : WOk ws) (hz : Zoo w0 w (VltT vb tb gb f n cs [] :: r)) :
    Calls Try.prog 54 #[.pointer (some ⟨vb, 0, none⟩), .pointer (some ⟨D, 0, none⟩)] w fun e w' => e = .returned (.tuple #[.int .i64 (vnum f n cs md y rs ws), .int .i64 (vcode f cs md y rs ws)]) ∧ Hid (Zoo w0 w' (VltT vb tb gb (vf f n cs md y rs ws) (vn f n cs md y rs ws) (vcs f cs md y rs ws) [] :: r)) := by
  obtain ⟨F, ⟨Ft, Fg, k⟩, k2⟩ := zoo_at0 hz
  exact (vcommit w k hv hd hw).mono (fun e w' ⟨he, hc⟩ => ⟨he, k2 _ _ hc⟩)
theorem b_crash (hz : Zoo w0 w (VltT vb tb gb f n cs [] :: r)) :
    Calls Try.prog 47 #[.pointer (some ⟨vb, 0, none⟩)] w fun e w' => e = .returned (.tuple #[]) ∧ ∃ tb', w'.cell? ⟨vb, 0, none⟩ = some (.pointer (some ⟨tb', 0, none⟩)) ∧ Hid (Zoo w0 w' (VltT vb tb' gb (wal0 cs) cs.length cs [] :: r)) := by
  obtain ⟨F, ⟨Ft, Fg, k⟩, k2⟩ := zoo_at0 hz
  refine (vcrash w k).mono ?_
  rintro e w' ⟨rfl, tb', hc⟩
  have hz' := k2 _ _ hc
  obtain ⟨F', ⟨Ft', Fg', k'⟩, _⟩ := zoo_at0 hz'
  exact ⟨rfl, tb', k'.c0, hz'⟩
theorem b_read (k y : Int) (v : Ver) (hv : tr f n k y = v) (hz : Zoo w0 w (VltT vb tb gb f n cs [] :: r)) :
    Calls Try.prog 32 #[.pointer (some ⟨tb, 0, none⟩), .int .i64 k, .int .i64 y] w fun e w' => e = .returned (.tuple #[.agg #[.bool v.t, .string v.s], .int .i64 v.a]) ∧ Hid (Zoo w0 w' (VltT vb tb gb f n cs [] :: r)) := by
  obtain ⟨F, ⟨Ft, Fg, h⟩, _⟩ := zoo_at0 hz
  subst hv
  exact (tread32 k y w h.t).mono (fun e w' ⟨he, hk⟩ => ⟨he, hz.kp0 hk⟩)
end

set_option maxHeartbeats 2000000 in
theorem vbegun (w : World) : Calls Try.prog 39 #[] w fun e w' => e = .returned (.bool true) ∧ Kp [] w w' := by
  go_enter Try.func39, Try.ntmps39
  go_wp2_with fail
  refine (vnew w).mono ?_
  rintro e w1 ⟨vb, tb, gb, F, rfl, h1, k1⟩
  have HZ : Hid (Zoo w w1 [VltT vb tb gb vf0 0 [] []]) := (zoo_nil (Kp.refl [] w)).cons h1 k1
  clear h1 k1
  go_wp2_with fail
  refine (b_begin vb_b1 (unhide HZ)).mono ?_
  rintro e w2 ⟨D, rfl, HZ2⟩
  rw [vb_a1] at HZ2
  clear HZ
  go_wp2_with fail
  refine (b_begin vb_b2 (unhide HZ2)).mono ?_
  rintro e w3 ⟨D2, rfl, HZ3⟩
  rw [vb_a2] at HZ3
  clear HZ2
  go_wp2_with fail
  refine (has24 ⟨#[120]⟩ w3).mono ?_
  rintro e w4 ⟨rfl, hk⟩
  have HZ4 := hide ((unhide HZ3).kp0 hk)
  clear HZ3 hk
  go_wp2_with fail
  refine (b_put2 1 true vx vx_le (unhide HZ4)).mono ?_
  rintro e w5 ⟨rfl, HZ5⟩
  rw [vb_q1] at HZ5
  clear HZ4
  go_wp2_with fail
  refine (has24 ⟨#[121]⟩ w5).mono ?_
  rintro e w6 ⟨rfl, hk⟩
  have HZ6 := hide ((unhide HZ5).kp0 hk)
  clear HZ5 hk
  go_wp2_with fail
  refine (b_put1 1 true vy vy_le (unhide HZ6)).mono ?_
  rintro e w7 ⟨rfl, HZ7⟩
  rw [vb_q2] at HZ7
  clear HZ6
  go_wp2_with fail
  obtain ⟨F7, ⟨hd7, _, _⟩, _⟩ := zoo_at2 (unhide HZ7)
  have HD7 := hide hd7
  clear hd7
  refine (b_commit (D := D) (md := 1) (y := 0) (rs := []) (ws := vw1) vb_vi0 (unhide HD7) vb_ok1 (unhide HZ7)).mono ?_
  rintro e w8 ⟨rfl, HZ8⟩
  rw [vb_f1.2.2.2, vb_c1.1]
  rw [vb_f1.1, vb_f1.2.1, vb_f1.2.2.1] at HZ8
  clear HZ7 HD7
  go_wp2_with fail
  obtain ⟨F8, ⟨hd8, _, _⟩, _⟩ := zoo_at1 (unhide HZ8)
  have HD8 := hide hd8
  clear hd8
  refine (b_commit (D := D2) (md := 2) (y := 0) (rs := []) (ws := vw2) vb_vi1 (unhide HD8) vb_ok2 (unhide HZ8)).mono ?_
  rintro e w9 ⟨rfl, HZ9⟩
  rw [vb_f2.2.2.2, vb_c2.1]
  rw [vb_f2.1, vb_f2.2.1, vb_f2.2.2.1] at HZ9
  clear HZ8 HD8
  go_wp2_with fail
  refine (b_none vb_b3 (by decide) (unhide HZ9)).mono ?_
  rintro e w10 ⟨rfl, HZ10⟩
  clear HZ9
  go_wp2_with fail
  refine (b_crash (unhide HZ10)).mono ?_
  rintro e w11 ⟨rfl, tb', c0, HZ11⟩
  clear HZ10
  go_wp2_with fail
  refine (b_read 1 1 _ vb_rd (unhide HZ11)).mono ?_
  rintro e w12 ⟨rfl, HZ12⟩
  clear HZ11 c0
  have HZ13 := hide ((unhide HZ12).box #[.bool true, .string ⟨#[120]⟩] 38)
  go_wp2_with fail
  generalize w12.alloc (.cells #[.bool true, .string ⟨#[120]⟩] 38) = W at HZ13 ⊢
  generalize w12.heap.size = p at HZ13 ⊢
  have pb := (unhide HZ13).var
  have a0 : W.cell? ⟨p, 0, none⟩ = some (.bool true) := cell_of_block pb rfl
  have a1 : W.cell? ⟨p, 1, none⟩ = some (.string ⟨#[120]⟩) := cell_of_block pb rfl
  have HL := hide (fun W' (hk : Kp [] W W') => show Calls Try.prog 45 #[.pointer (some ⟨vb, 0, none⟩)] W' _ from (by
    obtain ⟨FL, ⟨FtL, FgL, kL⟩, _⟩ := zoo_at1 ((unhide HZ13).kp0 hk)
    exact vlog W' kL))
  clear pb HZ12
  refine wp_region_held_drew (S := fun w' => w'.cell? ⟨p, 0, none⟩ = some (.bool true) ∧ w'.cell? ⟨p, 1, none⟩ = some (.string ⟨#[120]⟩)) (by kernel_rfl) (⟨a0, a1⟩) (fun hHeld => ?_)
  refine wpAnyH_tk (i := 0) (v := ?_) rfl (by kernel_rfl) (by kernel_rfl) (by kernel_rfl) (fun _ _ _ h => h) (Or.inl ⟨by rfl, ?_⟩) hHeld ?_
  rotate_left
  · intro w hSw
    try dsimp only at hSw
    go_simp
    try with_reducible rfl
  try simp only [Act.put, List.setIfInBounds_toArray, List.set_cons_zero, List.set_cons_succ]
  refine wpAnyH_tk (i := 1) (v := ?_) rfl (by kernel_rfl) (by kernel_rfl) (by kernel_rfl) (fun _ _ _ h => h) (Or.inl ⟨by rfl, ?_⟩) hHeld ?_
  rotate_left
  · intro w hSw
    try dsimp only at hSw
    go_simp
    try with_reducible rfl
  try simp only [Act.put, List.setIfInBounds_toArray, List.set_cons_zero, List.set_cons_succ]
  refine wpAnyH_tk (i := 2) (v := ?_) rfl (by kernel_rfl) (by kernel_rfl) (by kernel_rfl) (fun _ _ _ h => h) (Or.inl ⟨by rfl, ?_⟩) hHeld ?_
  rotate_left
  · intro w hSw
    try dsimp only at hSw
    go_simp
    try with_reducible rfl
  try simp only [Act.put, List.setIfInBounds_toArray, List.set_cons_zero, List.set_cons_succ]
  refine wpAnyH_tk (i := 3) (v := ?_) rfl (by kernel_rfl) (by kernel_rfl) (by kernel_rfl) (fun _ _ _ h => h) (Or.inl ⟨by rfl, ?_⟩) hHeld ?_
  rotate_left
  · intro w hSw
    try dsimp only at hSw
    go_simp
    try with_reducible rfl
  try simp only [Act.put, List.setIfInBounds_toArray, List.set_cons_zero, List.set_cons_succ]
  refine wpAnyH_tk (i := 4) (v := ?_) rfl (by kernel_rfl) (by kernel_rfl) (by kernel_rfl) (fun _ _ _ h => h) (Or.inl ⟨by rfl, ?_⟩) hHeld ?_
  rotate_left
  · intro w hSw
    try dsimp only at hSw
    go_simp
    try with_reducible rfl
  try simp only [Act.put, List.setIfInBounds_toArray, List.set_cons_zero, List.set_cons_succ]
  refine wpAnyH_tk (i := 5) (v := ?_) rfl (by kernel_rfl) (by kernel_rfl) (by kernel_rfl) (fun _ _ _ h => h) (Or.inl ⟨by rfl, ?_⟩) hHeld ?_
  rotate_left
  · intro w hSw
    try dsimp only at hSw
    go_simp
    try with_reducible rfl
  try simp only [Act.put, List.setIfInBounds_toArray, List.set_cons_zero, List.set_cons_succ]
  refine wpAnyH_tk (i := 6) (v := ?_) rfl (by kernel_rfl) (by kernel_rfl) (by kernel_rfl) (fun _ _ _ h => h) (Or.inl ⟨by rfl, ?_⟩) hHeld ?_
  rotate_left
  · intro w hSw
    try dsimp only at hSw
    go_simp
    try with_reducible rfl
  try simp only [Act.put, List.setIfInBounds_toArray, List.set_cons_zero, List.set_cons_succ]
  refine wpAnyH_tk (i := 7) (v := ?_) rfl (by kernel_rfl) (by kernel_rfl) (by kernel_rfl) (fun _ _ _ h => h) (Or.inl ⟨by rfl, ?_⟩) hHeld ?_
  rotate_left
  · intro w hSw
    try dsimp only at hSw
    go_simp
    try with_reducible rfl
  try simp only [Act.put, List.setIfInBounds_toArray, List.set_cons_zero, List.set_cons_succ]
  refine wpAnyH_tk (i := 8) (v := ?_) rfl (by kernel_rfl) (by kernel_rfl) (by kernel_rfl) (fun _ _ _ h => h) (Or.inl ⟨by rfl, ?_⟩) hHeld ?_
  rotate_left
  · intro w hSw
    try dsimp only at hSw
    go_simp
    try with_reducible rfl
  try simp only [Act.put, List.setIfInBounds_toArray, List.set_cons_zero, List.set_cons_succ]
  refine wpAnyH_tk (i := 9) (v := ?_) rfl (by kernel_rfl) (by kernel_rfl) (by kernel_rfl) (fun _ _ _ h => h) (Or.inl ⟨by rfl, ?_⟩) hHeld ?_
  rotate_left
  · intro w hSw
    try dsimp only at hSw
    go_simp
    try with_reducible rfl
  try simp only [Act.put, List.setIfInBounds_toArray, List.set_cons_zero, List.set_cons_succ]
  refine wpAnyH_tk (i := 10) (v := ?_) rfl (by kernel_rfl) (by kernel_rfl) (by kernel_rfl) (fun _ _ _ h => h) (Or.inl ⟨by rfl, ?_⟩) hHeld ?_
  rotate_left
  · intro w hSw
    try dsimp only at hSw
    go_simp
    try with_reducible rfl
  try simp only [Act.put, List.setIfInBounds_toArray, List.set_cons_zero, List.set_cons_succ]
  refine wpAnyH_tk (i := 11) (v := ?_) rfl (by kernel_rfl) (by kernel_rfl) (by kernel_rfl) (fun _ _ _ h => h) (Or.inl ⟨by rfl, ?_⟩) hHeld ?_
  rotate_left
  · intro w hSw
    try dsimp only at hSw
    go_simp
    try with_reducible rfl
  try simp only [Act.put, List.setIfInBounds_toArray, List.set_cons_zero, List.set_cons_succ]
  refine wpAnyH_tk (i := 12) (v := ?_) rfl (by kernel_rfl) (by kernel_rfl) (by kernel_rfl) (fun _ _ _ h => h) (Or.inl ⟨by rfl, ?_⟩) hHeld ?_
  rotate_left
  · intro w hSw
    try dsimp only at hSw
    go_simp
    try with_reducible rfl
  try simp only [Act.put, List.setIfInBounds_toArray, List.set_cons_zero, List.set_cons_succ]
  refine wpAnyH_tk (i := 13) (v := ?_) rfl (by kernel_rfl) (by kernel_rfl) (by kernel_rfl) (fun _ _ _ h => h) (Or.inl ⟨by rfl, ?_⟩) hHeld ?_
  rotate_left
  · intro w hSw
    try dsimp only at hSw
    go_simp
    try with_reducible rfl
  try simp only [Act.put, List.setIfInBounds_toArray, List.set_cons_zero, List.set_cons_succ]
  refine wpAnyH_tk (i := 14) (v := ?_) rfl (by kernel_rfl) (by kernel_rfl) (by kernel_rfl) (fun _ _ _ h => h) (Or.inl ⟨by rfl, ?_⟩) hHeld ?_
  rotate_left
  · intro w hSw
    try dsimp only at hSw
    go_simp
    try with_reducible rfl
  try simp only [Act.put, List.setIfInBounds_toArray, List.set_cons_zero, List.set_cons_succ]
  refine wpAnyH_tk (i := 15) (v := ?_) rfl (by kernel_rfl) (by kernel_rfl) (by kernel_rfl) (fun _ _ _ h => h) (Or.inl ⟨by rfl, ?_⟩) hHeld ?_
  rotate_left
  · intro w hSw
    try dsimp only at hSw
    go_simp
    try with_reducible rfl
  try simp only [Act.put, List.setIfInBounds_toArray, List.set_cons_zero, List.set_cons_succ]
  refine wpAnyH_tk (i := 16) (v := ?_) rfl (by kernel_rfl) (by kernel_rfl) (by kernel_rfl) (fun _ _ _ h => h) (Or.inl ⟨by rfl, ?_⟩) hHeld ?_
  rotate_left
  · intro w hSw
    try dsimp only at hSw
    go_simp
    try with_reducible rfl
  try simp only [Act.put, List.setIfInBounds_toArray, List.set_cons_zero, List.set_cons_succ]
  refine wpAnyH_tk (i := 17) (v := ?_) rfl (by kernel_rfl) (by kernel_rfl) (by kernel_rfl) (fun _ _ _ h => h) (Or.inl ⟨by rfl, ?_⟩) hHeld ?_
  rotate_left
  · intro w hSw
    try dsimp only at hSw
    go_simp
    try with_reducible rfl
  try simp only [Act.put, List.setIfInBounds_toArray, List.set_cons_zero, List.set_cons_succ]
  refine wpAnyH_tk (i := 18) (v := ?_) rfl (by kernel_rfl) (by kernel_rfl) (by kernel_rfl) (fun _ _ _ h => h) (Or.inl ⟨by rfl, ?_⟩) hHeld ?_
  rotate_left
  · intro w hSw
    try dsimp only at hSw
    go_simp
    try with_reducible rfl
  try simp only [Act.put, List.setIfInBounds_toArray, List.set_cons_zero, List.set_cons_succ]
  refine wpAnyH_tk (i := 19) (v := ?_) rfl (by kernel_rfl) (by kernel_rfl) (by kernel_rfl) (fun _ _ _ h => h) (Or.inl ⟨by rfl, ?_⟩) hHeld ?_
  rotate_left
  · intro w hSw
    try dsimp only at hSw
    go_simp
    try with_reducible rfl
  try simp only [Act.put, List.setIfInBounds_toArray, List.set_cons_zero, List.set_cons_succ]
  refine wpAnyH_tk (i := 20) (v := ?_) rfl (by kernel_rfl) (by kernel_rfl) (by kernel_rfl) (fun _ _ _ h => h) (Or.inl ⟨by rfl, ?_⟩) hHeld ?_
  rotate_left
  · intro w hSw
    try dsimp only at hSw
    go_simp
    try with_reducible rfl
  try simp only [Act.put, List.setIfInBounds_toArray, List.set_cons_zero, List.set_cons_succ]
  refine wpAnyH_tk (i := 21) (v := ?_) rfl (by kernel_rfl) (by kernel_rfl) (by kernel_rfl) (fun _ _ _ h => h) (Or.inl ⟨by rfl, ?_⟩) hHeld ?_
  rotate_left
  · intro w hSw
    try dsimp only at hSw
    go_simp
    try with_reducible rfl
  try simp only [Act.put, List.setIfInBounds_toArray, List.set_cons_zero, List.set_cons_succ]
  refine wpAnyH_tk (i := 22) (v := ?_) rfl (by kernel_rfl) (by kernel_rfl) (by kernel_rfl) (fun _ _ _ h => h) (Or.inl ⟨by rfl, ?_⟩) hHeld ?_
  rotate_left
  · intro w hSw
    try dsimp only at hSw
    go_simp
    try with_reducible rfl
  try simp only [Act.put, List.setIfInBounds_toArray, List.set_cons_zero, List.set_cons_succ]
  refine wpAnyH_tk (i := 23) (v := ?_) rfl (by kernel_rfl) (by kernel_rfl) (by kernel_rfl) (fun _ _ _ h => h) (Or.inl ⟨by rfl, ?_⟩) hHeld ?_
  rotate_left
  · intro w hSw
    try dsimp only at hSw
    go_simp
    try with_reducible rfl
  try simp only [Act.put, List.setIfInBounds_toArray, List.set_cons_zero, List.set_cons_succ]
  refine wpAnyH_tk (i := 24) (v := ?_) rfl (by kernel_rfl) (by kernel_rfl) (by kernel_rfl) (fun _ _ _ h => h) (Or.inl ⟨by rfl, ?_⟩) hHeld ?_
  rotate_left
  · intro w hSw
    try dsimp only at hSw
    go_simp
    try with_reducible rfl
  try simp only [Act.put, List.setIfInBounds_toArray, List.set_cons_zero, List.set_cons_succ]
  refine wpAnyH_tk (i := 25) (v := ?_) rfl (by kernel_rfl) (by kernel_rfl) (by kernel_rfl) (fun _ _ _ h => h) (Or.inl ⟨by rfl, ?_⟩) hHeld ?_
  rotate_left
  · intro w hSw
    try dsimp only at hSw
    go_simp
    try with_reducible rfl
  try simp only [Act.put, List.setIfInBounds_toArray, List.set_cons_zero, List.set_cons_succ]
  refine wpAnyH_tk (i := 26) (v := ?_) rfl (by kernel_rfl) (by kernel_rfl) (by kernel_rfl) (fun _ _ _ h => h) (Or.inl ⟨by rfl, ?_⟩) hHeld ?_
  rotate_left
  · intro w hSw
    try dsimp only at hSw
    go_simp
    try with_reducible rfl
  try simp only [Act.put, List.setIfInBounds_toArray, List.set_cons_zero, List.set_cons_succ]
  refine wpAnyH_tk (i := 27) (v := ?_) rfl (by kernel_rfl) (by kernel_rfl) (by kernel_rfl) (fun _ _ _ h => h) (Or.inl ⟨by rfl, ?_⟩) hHeld ?_
  rotate_left
  · intro w hSw
    try dsimp only at hSw
    go_simp
    try with_reducible rfl
  try simp only [Act.put, List.setIfInBounds_toArray, List.set_cons_zero, List.set_cons_succ]
  refine wpAnyH_only (i := 28) rfl (by kernel_rfl) (fun K hK => ?_)
  go_simp
  refine (has24 ⟨#[120]⟩ _).mono ?_
  rintro e w14 ⟨rfl, hk14⟩
  have K14 := hide ((Kp.refl [] W).drew.trans0 hk14)
  have b0 : w14.cell? ⟨p, 0, none⟩ = some (.bool true) := (unhide K14).cell (by simp) a0
  have b1 : w14.cell? ⟨p, 1, none⟩ = some (.string ⟨#[120]⟩) := (unhide K14).cell (by simp) a1
  clear hk14
  go_wp2_with fail
  refine hK.out _ _ (⟨b0, b1⟩) (fun hHeld2 => ?_)
  clear hK K hHeld
  have hHeld := hHeld2
  clear hHeld2
  try simp only [Act.put, List.setIfInBounds_toArray, List.set_cons_zero, List.set_cons_succ]
  refine wpAnyH_tk (i := 29) (v := ?_) rfl (by kernel_rfl) (by kernel_rfl) (by kernel_rfl) (fun _ _ _ h => h) (Or.inl ⟨by rfl, ?_⟩) hHeld ?_
  rotate_left
  · intro w hSw
    try dsimp only at hSw
    go_simp
    try with_reducible rfl
  try simp only [Act.put, List.setIfInBounds_toArray, List.set_cons_zero, List.set_cons_succ]
  refine wpAnyH_tk (i := 30) (v := ?_) rfl (by kernel_rfl) (by kernel_rfl) (by kernel_rfl) (fun _ _ _ h => h) (Or.inl ⟨by rfl, ?_⟩) hHeld ?_
  rotate_left
  · intro w hSw
    try dsimp only at hSw
    go_simp
    try with_reducible rfl
  try simp only [Act.put, List.setIfInBounds_toArray, List.set_cons_zero, List.set_cons_succ]
  refine wpAnyH_tk (i := 31) (v := ?_) rfl (by kernel_rfl) (by kernel_rfl) (by kernel_rfl) (fun _ _ _ h => h) (Or.inl ⟨by rfl, ?_⟩) hHeld ?_
  rotate_left
  · intro w hSw
    try dsimp only at hSw
    go_simp
    try with_reducible rfl
  try simp only [Act.put, List.setIfInBounds_toArray, List.set_cons_zero, List.set_cons_succ]
  refine wpAnyH_tk (i := 32) (v := ?_) rfl (by kernel_rfl) (by kernel_rfl) (by kernel_rfl) (fun _ _ _ h => h) (Or.inl ⟨by rfl, ?_⟩) hHeld ?_
  rotate_left
  · intro w hSw
    try dsimp only at hSw
    go_simp
    try with_reducible rfl
  try simp only [Act.put, List.setIfInBounds_toArray, List.set_cons_zero, List.set_cons_succ]
  refine wpAnyH_only (i := 33) rfl (by kernel_rfl) (fun K hK => ?_)
  go_simp
  refine (unhide HL _ (unhide K14)).mono ?_
  rintro e w15 ⟨aL, nL, cL, rfl, hnL, hcL, _, hk15⟩
  rw [vb_len] at hnL
  subst hnL
  have K15 := hide ((unhide K14).trans0 hk15)
  have d0 : w15.cell? ⟨p, 0, none⟩ = some (.bool true) := (unhide K15).cell (by simp) a0
  have d1 : w15.cell? ⟨p, 1, none⟩ = some (.string ⟨#[120]⟩) := (unhide K15).cell (by simp) a1
  clear hk15 hcL
  go_wp2_with fail
  refine hK.out _ _ (⟨d0, d1⟩) (fun hHeld2 => ?_)
  clear hK K hHeld
  have hHeld := hHeld2
  clear hHeld2
  try simp only [Act.put, List.setIfInBounds_toArray, List.set_cons_zero, List.set_cons_succ]
  refine wpAnyH_tk (i := 34) (v := ?_) rfl (by kernel_rfl) (by kernel_rfl) (by kernel_rfl) (fun _ _ _ h => h) (Or.inl ⟨by rfl, ?_⟩) hHeld ?_
  rotate_left
  · intro w hSw
    try dsimp only at hSw
    go_simp
    try with_reducible rfl
  try simp only [Act.put, List.setIfInBounds_toArray, List.set_cons_zero, List.set_cons_succ]
  refine wpAnyH_tk (i := 35) (v := ?_) rfl (by kernel_rfl) (by kernel_rfl) (by kernel_rfl) (fun _ _ _ h => h) (Or.inl ⟨by rfl, ?_⟩) hHeld ?_
  rotate_left
  · intro w hSw
    try dsimp only at hSw
    go_simp
    try with_reducible rfl
  try simp only [Act.put, List.setIfInBounds_toArray, List.set_cons_zero, List.set_cons_succ]
  refine wpAnyH_tk (i := 36) (v := ?_) rfl (by kernel_rfl) (by kernel_rfl) (by kernel_rfl) (fun _ _ _ h => h) (Or.inl ⟨by rfl, ?_⟩) hHeld ?_
  rotate_left
  · intro w hSw
    try dsimp only at hSw
    go_simp
    try with_reducible rfl
  try simp only [Act.put, List.setIfInBounds_toArray, List.set_cons_zero, List.set_cons_succ]
  refine wpAnyH_tk (i := 37) (v := ?_) rfl (by kernel_rfl) (by kernel_rfl) (by kernel_rfl) (fun _ _ _ h => h) (Or.inl ⟨by rfl, ?_⟩) hHeld ?_
  rotate_left
  · intro w hSw
    try dsimp only at hSw
    go_simp
    try with_reducible rfl
  try simp only [Act.put, List.setIfInBounds_toArray, List.set_cons_zero]
  refine wpAnyH_done (by kernel_rfl) ?_ _
  go_wp2_with fail
  go_ret
  exact ⟨by trivial, (unhide HZ13).kp.trans0 (unhide K15)⟩

end Go.Proofs.Ytcfogkdpkpehaab

/- A house's step, whatever it is; VaultDoes, walked. -/
namespace Go.Proofs.Ytcfogkdpkpehaab
open Go.RowKit
set_option maxRecDepth 20000
attribute [local go_sem ↓] Go.wp_at_zero Go.wp_at_succ

theorem hstep {w0 : World} {hb vb cb i : Nat} (x : VStep) (w : World) (h : Hou w0 w hb vb cb i) (hi : i ≤ 150) (hs : x.s.size ≤ maxLen) :
    Calls Try.prog 42 #[.pointer (some ⟨hb, 0, none⟩), .agg #[.int .i64 x.d, .int .i64 x.k, .int .i64 x.md, .int .i64 x.at_, .int .i64 x.key, .int .i64 x.keep, .bool x.t, .string x.s]] w fun e w' => e = .returned (.bool true) ∧ Hid (Hou w0 w' hb vb cb (i + 1)) := by
  obtain ⟨tb, gb, sb, f, n, cs, st, ds, h⟩ := h
  obtain ⟨d, k, md, at_, key, keep, t, s⟩ := x
  by_cases d0 : d = 0
  · subst d0
    by_cases hb0 : bcode f n md at_ = 0
    · by_cases h6 : ds.length < 6
      · exact hstep0y k md at_ key keep t s w h hb0 h6
      · exact hstep0f k md at_ key keep t s w h hb0 h6
    · exact hstep0n k md at_ key keep t s w h hb0
  by_cases d5 : d = 5
  · subst d5
    exact hstep5 k md at_ key keep t s w h
  by_cases d6 : d = 6
  · subst d6
    exact hstep6 k md at_ key keep t s w h
  by_cases hN : ds.length = 0
  · exact hstepE d k md at_ key keep t s w h hN d0 d5 d6
  have hN' : 0 < ds.length := by omega
  by_cases d1 : d = 1
  · subst d1
    exact hstep1 k md at_ key keep t s w h hN' hi
  by_cases d2 : d = 2
  · subst d2
    exact hstep2 k md at_ key keep t s w h hN' hi hs
  by_cases d3 : d = 3
  · subst d3
    exact hstep3 k md at_ key keep t s w h hN' hi
  by_cases d4 : d = 4
  · subst d4
    exact hstep4 k md at_ key keep t s w h hN' hi
  exact hstepX d k md at_ key keep t s w h hN' d0 d5 d6 d1 d2 d3 d4
theorem hou_same {w0 w : World} {hb vb cb i : Nat} (h : Hou w0 w hb vb cb i) : Calls Try.prog 43 #[.pointer (some ⟨hb, 0, none⟩)] w fun e w' => e = .returned (.bool true) ∧ Hid (Hou w0 w' hb vb cb i) := by
  obtain ⟨tb, gb, sb, f, n, cs, st, ds, h⟩ := h
  obtain ⟨F1, ⟨da, dc, wa, wc, k1⟩, _⟩ := zoo_at0 h.zoo
  obtain ⟨F2, ⟨Ft, Fg, k2⟩, _⟩ := zoo_at1 h.zoo
  obtain ⟨F3, ⟨Gr, Gs, bx, k3⟩, _⟩ := zoo_at2 h.zoo
  exact (hsame w k1 k2 k3).mono (fun e w' ⟨he, hk⟩ => ⟨he, tb, gb, sb, f, n, cs, st, ds, h.zoo.kp0 hk, h.vi, h.six, h.ok⟩)
theorem Hou.kp {w0 w : World} {hb vb cb i : Nat} (h : Hou w0 w hb vb cb i) : Kp [] w0 w := by
  obtain ⟨tb, gb, sb, f, n, cs, st, ds, h⟩ := h
  exact h.zoo.kp

end Go.Proofs.Ytcfogkdpkpehaab

/- VaultDoes, walked. -/
namespace Go.Proofs.Ytcfogkdpkpehaab
open Go.RowKit
set_option maxRecDepth 20000
attribute [local go_sem ↓] Go.wp_at_zero Go.wp_at_succ

theorem rem4 (k : Nat) : ∃ r : Nat, (k : Int).tmod 4 = (r : Int) ∧ r < 4 := ⟨k % 4, by rw [Int.tmod_eq_emod_of_nonneg (by omega)]; omega, by omega⟩
set_option maxHeartbeats 2000000 in
theorem vdoes11 (a : Option Addr) (n1 c : Nat) (st : Nat → VStep) (w : World) (h : VSts w a n1 st) :
    Calls Try.prog 11 #[.slice a n1 c] w fun e w' => e = .returned (.bool true) ∧ Below w.heap.size w w' := by
  have HS := hide h
  clear h
  go_enter Try.func11, Try.ntmps11
  go_wp2_with fail
  refine (vbegun w).mono ?_
  rintro e w1 ⟨rfl, hk1⟩
  have HK1 := hide hk1
  clear hk1
  go_wp2_with fail
  refine (gvault a n1 c st w1 ((unhide HS).kp0 (unhide HK1))).mono ?_
  rintro e w' ⟨q, rfl, hq, hw'⟩
  subst w'
  cases q with
  | true =>
    clear hq
    go_wp2_with fail
    go_ret
    exact ⟨rfl, (unhide HK1).below (Nat.le_refl _) (by simp)⟩
  | false =>
  have h150 := hq rfl
  clear hq
  go_wp2_with fail
  refine (newHouse w1).mono ?_
  rintro e w2 ⟨hb, vb, cb, rfl, c0, HH⟩
  go_wp2_with fail
  clear c0
  go_loopw [4] (fun i wr => ∃ k : Nat, k ≤ n1 ∧ i = .int .i64 k ∧ Hid (Hou w1 wr hb vb cb k)) (fun i _ => n1 - (intOf i).toNat)
  case atStart => exact ⟨0, by omega, rfl, HH⟩
  case round =>
    obtain ⟨k, hk, rfl, HI⟩ := hrel
    by_cases hlt : k < n1
    · obtain ⟨lb', lo, rfl, hst⟩ := (unhide HS).2 (by omega)
      obtain ⟨q0, q1, q2, q3, q4, q5, q6, q7, hsz⟩ := (hst k hlt).kp0 ((unhide HK1).trans0 (unhide HI).kp)
      have q7' : wr.cell? ⟨lb', lo + k * 8 + 7, none⟩ = some (.string (st k).s) := q7
      have i0 : (0 : Int) ≤ (k : Int) := by omega
      have i1 : (k : Int) < (n1 : Int) := by omega
      have HST := hstep (st k) wr (unhide HI) (by omega) hsz
      have HSTP := hide HST
      clear hst HST hsz
      generalize (st k) = x at *
      obtain ⟨xd, xk, xm, xa, xy, xp, xt, xs⟩ := x
      dsimp only at q0 q1 q2 q3 q4 q5 q6 q7 q7' HSTP
      obtain ⟨r, hr, hr4⟩ := rem4 k
      go_wp2_with fail
      refine (unhide HSTP).mono ?_
      rintro e w4 ⟨rfl, HI4⟩
      clear q0 q1 q2 q3 q4 q5 q6 q7 q7' HSTP
      by_cases hr0 : r = 0
      · subst hr0
        have hr' : ((k : Int).tmod 4 == 0) = true := by rw [hr]; rfl
        go_wp2_with fail
        refine (hou_same (unhide HI4)).mono ?_
        rintro e w5 ⟨rfl, HI5⟩
        go_wp2_with fail
        exact ⟨⟨k + 1, by omega, by go_num, HI5⟩, by simp [intOf]; omega⟩
      · have hr' : ((k : Int).tmod 4 == 0) = false := beq_eq_false_iff_ne.2 (by omega)
        go_wp2_with fail
        exact ⟨⟨k + 1, by omega, by go_num, HI4⟩, by simp [intOf]; omega⟩
    · have i1 : ¬ (k : Int) < (n1 : Int) := by omega
      go_wp2_with fail
      refine (hou_same (unhide HI)).mono ?_
      rintro e w5 ⟨rfl, HI5⟩
      go_wp2_with fail
      go_ret
      exact ⟨by trivial, ((unhide HK1).trans0 (unhide HI5).kp).below (Nat.le_refl _) (by simp)⟩
end Go.Proofs.Ytcfogkdpkpehaab

/- A vault among things in whatever order; VaultLooks, walked. -/
namespace Go.Proofs.Ytcfogkdpkpehaab
open Go.RowKit
set_option maxRecDepth 20000
attribute [local go_sem ↓] Go.wp_at_zero Go.wp_at_succ

theorem zoo_mem {w0 w : World} {o : Thing} {os : List Thing} (h : Zoo w0 w os) (hm : o ∈ os) : ∃ F, o.holds w0.heap.size w F := by
  obtain ⟨l1, l2, rfl⟩ := List.append_of_mem hm
  obtain ⟨F, h1, _⟩ := h.at_
  exact ⟨F, h1⟩
theorem lk_facts {w0 w : World} {os : List Thing} {hb vb cb tb gb dn wn n : Nat} {dbs wbs : List Nat} {f : Nat → List Ver} {cs : List (List Ver)} {torn : List UInt8} (hz : Zoo w0 w os) (h1 : HbT hb vb cb dn wn dbs wbs ∈ os) (h2 : VltT vb tb gb f n cs torn ∈ os) :
    w.cell? ⟨hb, 0, none⟩ = some (.pointer (some ⟨vb, 0, none⟩)) ∧ w.cell? ⟨vb, 0, none⟩ = some (.pointer (some ⟨tb, 0, none⟩)) ∧ hb < w.heap.size ∧ vb < w.heap.size := by
  obtain ⟨F1, da, dc, wa, wc, k1⟩ := zoo_mem hz h1
  obtain ⟨F2, Ft, Fg, k2⟩ := zoo_mem hz h2
  exact ⟨k1.c0, k2.c0, (k1.lo hb k1.hF).2, (k2.lo vb k2.vF).2⟩
theorem zoo_swap {w0 w : World} {A V : Thing} {r : List Thing} (hz : Zoo w0 w (A :: V :: r)) : Zoo w0 w (V :: A :: r) := hz.perm (List.Perm.swap V A r)
theorem zoo_in2 {w0 w : World} {B V D : Thing} {r : List Thing} (hz : Zoo w0 w (B :: V :: D :: r)) : Zoo w0 w (V :: D :: B :: r) := hz.perm (List.perm_middle (l₁ := [V, D])).symm
theorem zoo_var2 {w0 w : World} {V D : Thing} {r : List Thing} {p : Nat} {cs : Array Value} {T : TypeId} (hz : Zoo w0 w (V :: D :: BoxT p cs T :: r)) : w.heap[p]? = some (.cells cs T (0, 0)) := by
  obtain ⟨F, h1, _⟩ := zoo_at2 hz
  exact h1.1
theorem zoo_var3 {w0 w : World} {V D E : Thing} {r : List Thing} {p : Nat} {cs : Array Value} {T : TypeId} (hz : Zoo w0 w (V :: D :: E :: BoxT p cs T :: r)) : w.heap[p]? = some (.cells cs T (0, 0)) := by
  obtain ⟨F, h1, _⟩ := zoo_at3 hz
  exact h1.1
section
variable {w0 w : World} {vb tb gb : Nat} {f : Nat → List Ver} {n : Nat} {cs : List (List Ver)} {r : List Thing} {D : Nat} {md y : Int} {rs : List Int} {ws : List Ver}
theorem l_get (k : Int) (hz : Zoo w0 w (VltT vb tb gb f n cs [] :: BoxT D (dcells md y (ncell rs ws)) 145 :: r)) :
    Calls Try.prog 53 #[.pointer (some ⟨D, 0, none⟩), .pointer (some ⟨tb, 0, none⟩), .int .i64 k] w fun e w' => e = .returned (.tuple #[.agg #[.bool (dg f n y ws k).t, .string (dg f n y ws k).s], .int .i64 (dg f n y ws k).a]) ∧
      Hid (Zoo w0 w' (VltT vb tb gb f n cs [] :: BoxT D (dcells md y (ncell (dr f n y rs ws k) ws)) 145 :: r)) := by
  obtain ⟨F1, ⟨Ft, Fg, k1⟩, _⟩ := zoo_at0 hz
  obtain ⟨F, ⟨h1, h2, h3⟩, k2⟩ := zoo_at1 hz
  exact (dget55 k w k1.t h1).mono (fun e w' ⟨he, hd, hk⟩ => ⟨he, k2 _ _ ⟨F, ⟨hd, h2, h3⟩, by rw [h2]; exact hk, fun x hx => .inl hx⟩⟩)
theorem l_ded (hz : Zoo w0 w (VltT vb tb gb f n cs [] :: BoxT D (dcells md y (ncell rs ws)) 145 :: r)) : Ded w D md y rs ws := by
  obtain ⟨F, ⟨h1, h2, h3⟩, k2⟩ := zoo_at1 hz
  exact h1
theorem l_last (hz : Zoo w0 w (VltT vb tb gb f n cs [] :: r)) : Calls Try.prog 31 #[.pointer (some ⟨tb, 0, none⟩)] w fun e w' => e = .returned (.int .i64 n) ∧ w' = w := by
  obtain ⟨F1, ⟨Ft, Fg, k1⟩, _⟩ := zoo_at0 hz
  exact tlast38 w k1.t
theorem l_first (hz : Zoo w0 w (VltT vb tb gb f n cs [] :: r)) : Calls Try.prog 44 #[.pointer (some ⟨tb, 0, none⟩)] w fun e w' => e = .returned (.int .i64 (fmx f 8)) ∧ w' = w := by
  obtain ⟨F1, ⟨Ft, Fg, k1⟩, _⟩ := zoo_at0 hz
  exact tfirst42 w k1.t
theorem l_inv (hz : Zoo w0 w (VltT vb tb gb f n cs [] :: r)) : Inv f n ∧ LInv cs := by
  obtain ⟨F1, ⟨Ft, Fg, k1⟩, _⟩ := zoo_at0 hz
  exact ⟨k1.t.inv, k1.g.inv⟩
end
theorem dg_nil (f : Nat → List Ver) (n : Nat) (y k : Int) : dg f n y [] k = tr f n k y := by
  unfold dg
  rw [lwr_nil]
  split
  · rfl
  · rename_i h
    unfold tr
    rw [if_neg (fun q => h q.1)]
theorem cls_nil (f : Nat → List Ver) (y : Int) : ∀ m, cls f y [] m = false := by
  intro m
  induction m with
  | zero => rfl
  | succ m ih => rw [cls_no (lwr_nil _)]; exact ih
theorem dm_look (f : Nat → List Ver) (y : Int) (rs : List Int) : dm f 3 y rs [] = 0 := by
  unfold dm
  rw [cls_nil]
  simp
theorem v_look (f : Nat → List Ver) (n : Nat) (cs : List (List Ver)) (y : Int) (rs : List Int) : vcode f cs 3 y rs [] = 0 ∧ vnum f n cs 3 y rs [] = 0 ∧ vf f n cs 3 y rs [] = f ∧ vn f n cs 3 y rs [] = n ∧ vcs f cs 3 y rs [] = cs := by
  obtain ⟨h1, h2⟩ := v_none (cs := cs) (dm_look f y rs) (show (wk [] 8).length = 0 from rfl)
  obtain ⟨h3, h4, h5, h6⟩ := v_not (n := n) h2
  exact ⟨h1, h6, h3, h4, h5⟩
theorem put_look (k : Int) : ∃ z, dpc 3 k true vx = z ∧ ¬ z = 0 ∧ dpw 3 [] k true vx = [] := by
  have h : ¬ dpc 3 k true vx = 0 := by
    unfold dpc
    split
    · rw [if_pos rfl]; decide
    · decide
  exact ⟨_, rfl, h, by unfold dpw; rw [if_neg h]⟩

set_option maxHeartbeats 800000 in
theorem vlooks14 (a : Option Addr) (n1 c : Nat) (st : Nat → VStep) (at_ key : Int) (w : World) (h : VSts w a n1 st) :
    Calls Try.prog 14 #[.slice a n1 c, .int .i64 at_, .int .i64 key] w fun e w' => e = .returned (.bool true) ∧ Below w.heap.size w w' := by
  have HS := hide h
  clear h
  go_enter Try.func14, Try.ntmps14
  go_wp2_with fail
  refine (vbegun w).mono ?_
  rintro e w1 ⟨rfl, hk1⟩
  have HK1 := hide hk1
  clear hk1
  go_wp2_with fail
  refine (gvault a n1 c st w1 ((unhide HS).kp0 (unhide HK1))).mono ?_
  rintro e w' ⟨q, rfl, hq, hw'⟩
  subst w'
  cases q with
  | true =>
    clear hq
    go_wp2_with fail
    go_ret
    exact ⟨rfl, (unhide HK1).below (Nat.le_refl _) (by simp)⟩
  | false =>
  have h150 := hq rfl
  clear hq
  go_wp2_with fail
  refine (newHouse w1).mono ?_
  rintro e w2 ⟨hb, vb, cb, rfl, c0, HH⟩
  go_wp2_with fail
  clear c0
  go_loopw [8] (fun i wr => ∃ k : Nat, k ≤ n1 ∧ i = .int .i64 k ∧ Hid (Hou w1 wr hb vb cb k)) (fun i _ => n1 - (intOf i).toNat)
  case atStart => exact ⟨0, by omega, rfl, HH⟩
  case round =>
    obtain ⟨k, hk, rfl, HI⟩ := hrel
    by_cases hlt : k < n1
    · obtain ⟨lb', lo, rfl, hst⟩ := (unhide HS).2 (by omega)
      obtain ⟨q0, q1, q2, q3, q4, q5, q6, q7, hsz⟩ := (hst k hlt).kp0 ((unhide HK1).trans0 (unhide HI).kp)
      have q7' : wr.cell? ⟨lb', lo + k * 8 + 7, none⟩ = some (.string (st k).s) := q7
      have i0 : (0 : Int) ≤ (k : Int) := by omega
      have i1 : (k : Int) < (n1 : Int) := by omega
      have HST := hstep (st k) wr (unhide HI) (by omega) hsz
      have HSTP := hide HST
      clear hst HST hsz
      generalize (st k) = x at *
      obtain ⟨xd, xk, xm, xa, xy, xp, xt, xs⟩ := x
      dsimp only at q0 q1 q2 q3 q4 q5 q6 q7 q7' HSTP
      go_wp2_with fail
      refine (unhide HSTP).mono ?_
      rintro e w4 ⟨rfl, HI4⟩
      clear q0 q1 q2 q3 q4 q5 q6 q7 q7' HSTP
      go_wp2_with fail
      exact ⟨⟨k + 1, by omega, by go_num, HI4⟩, by simp [intOf]; omega⟩
    · have i1 : ¬ (k : Int) < (n1 : Int) := by omega
      obtain ⟨tb, gb, sb, f, n, cs, sts, ds, hh⟩ := unhide HI
      have HVI := hide hh.vi
      have HZ := hide (zoo_swap hh.zoo)
      have hinv := (l_inv (unhide HZ)).1
      obtain ⟨x0, x1⟩ := fmx_le hinv 8 (Nat.le_refl _)
      clear hh hinv
      obtain ⟨h0, v0, hl, vl⟩ := lk_facts (unhide HZ) (List.Mem.tail _ (List.Mem.head _)) (List.Mem.head _)
      have HKW := HK1
      by_cases hr : at_ < 0 ∨ (n : Int) < at_
      · have hb1 : bcode f n 3 at_ = 1 := by unfold bcode; rw [if_pos (by omega), if_pos rfl, if_pos hr]
        have HB := hide hb1
        clear hb1
        go_wp2_with fail
        refine (b_none (unhide HB) (by decide) (unhide HZ)).mono ?_
        rintro e w5 ⟨rfl, HZ5⟩
        clear h0 v0 hl vl
        obtain ⟨h0, v0, hl, vl⟩ := lk_facts (unhide HZ5) (List.Mem.tail _ (List.Mem.head _)) (List.Mem.head _)
        rcases hr with hr | hr
        · go_wp2_with fail
          go_ret
          exact ⟨by trivial, ((unhide HK1).trans0 (unhide HZ5).kp).below (Nat.le_refl _) (by simp)⟩
        · have hr0 : ¬ at_ < 0 := by omega
          go_wp2_with fail
          refine (l_last (unhide HZ5)).mono ?_
          rintro e w6 ⟨rfl, hw6⟩
          subst w6
          go_wp2_with fail
          go_ret
          exact ⟨by trivial, ((unhide HK1).trans0 (unhide HZ5).kp).below (Nat.le_refl _) (by simp)⟩
      · have hr0 : ¬ at_ < 0 := by omega
        have hr1 : ¬ (n : Int) < at_ := by omega
        by_cases ho : at_ < fmx f 8
        · have hb1 : bcode f n 3 at_ = 12 := by unfold bcode; rw [if_pos (by omega), if_pos rfl, if_neg hr, if_pos ho]
          have HB := hide hb1
          clear hb1
          go_wp2_with fail
          refine (b_none (unhide HB) (by decide) (unhide HZ)).mono ?_
          rintro e w5 ⟨rfl, HZ5⟩
          clear h0 v0 hl vl
          obtain ⟨h0, v0, hl, vl⟩ := lk_facts (unhide HZ5) (List.Mem.tail _ (List.Mem.head _)) (List.Mem.head _)
          go_wp2_with fail
          refine (l_last (unhide HZ5)).mono ?_
          rintro e w6 ⟨rfl, hw6⟩
          subst w6
          go_wp2_with fail
          refine (l_first (unhide HZ5)).mono ?_
          rintro e w6 ⟨rfl, hw6⟩
          subst w6
          go_wp2_with fail
          go_ret
          exact ⟨by trivial, ((unhide HK1).trans0 (unhide HZ5).kp).below (Nat.le_refl _) (by simp)⟩
        · have hb1 : bcode f n 3 at_ = 0 := by unfold bcode; rw [if_pos (by omega), if_pos rfl, if_neg hr, if_neg ho]
          have hbat : bat n 3 at_ = at_ := if_pos rfl
          have HB := hide hb1
          have HBA := hide hbat
          clear hb1 hbat
          go_wp2_with fail
          refine (b_begin (unhide HB) (unhide HZ)).mono ?_
          rintro e w5 ⟨D, rfl, HZ5⟩
          rw [unhide HBA] at HZ5
          clear h0 v0 hl vl
          obtain ⟨h0, v0, hl, vl⟩ := lk_facts (unhide HZ5) (List.Mem.tail _ (List.Mem.tail _ (List.Mem.head _))) (List.Mem.head _)
          go_wp2_with fail
          refine (l_last (unhide HZ5)).mono ?_
          rintro e w6 ⟨rfl, hw6⟩
          subst w6
          go_wp2_with fail
          refine (l_first (unhide HZ5)).mono ?_
          rintro e w6 ⟨rfl, hw6⟩
          subst w6
          go_wp2_with fail
          obtain ⟨v, hv⟩ : ∃ v, tr f n key at_ = v := ⟨_, rfl⟩
          have HV := hide hv
          have HDG := hide ((dg_nil f n at_ key).trans hv)
          clear hv
          refine (l_get key (unhide HZ5)).mono ?_
          rintro e w6 ⟨rfl, HZ6⟩
          rw [unhide HDG]
          generalize dr f n at_ [] [] key = rs at HZ6
          clear h0 v0 hl vl
          obtain ⟨h0, v0, hl, vl⟩ := lk_facts (unhide HZ6) (List.Mem.tail _ (List.Mem.tail _ (List.Mem.head _))) (List.Mem.head _)
          have HZ7 := hide (zoo_in2 ((unhide HZ6).box #[.bool v.t, .string v.s] 38))
          go_wp2_with fail
          clear h0 v0 hl vl HZ6
          generalize w6.alloc (.cells #[.bool v.t, .string v.s] 38) = W7 at HZ7 ⊢
          generalize w6.heap.size = p1 at HZ7 ⊢
          refine (b_read key at_ v (unhide HV) (unhide HZ7)).mono ?_
          rintro e w8 ⟨rfl, HZ8⟩
          obtain ⟨h0, v0, hl, vl⟩ := lk_facts (unhide HZ8) (List.Mem.tail _ (List.Mem.tail _ (List.Mem.tail _ (List.Mem.head _)))) (List.Mem.head _)
          have HZ9 := hide (zoo_in2 ((unhide HZ8).box #[.bool v.t, .string v.s] 38))
          go_wp2_with fail
          clear h0 v0 hl vl HZ8 HZ7
          generalize w8.alloc (.cells #[.bool v.t, .string v.s] 38) = W9 at HZ9 ⊢
          generalize w8.heap.size = p2 at HZ9 ⊢
          obtain ⟨h0, v0, hl, vl⟩ := lk_facts (unhide HZ9) (List.Mem.tail _ (List.Mem.tail _ (List.Mem.tail _ (List.Mem.tail _ (List.Mem.head _))))) (List.Mem.head _)
          refine (l_last (unhide HZ9)).mono ?_
          rintro e wx ⟨rfl, hwx⟩
          subst wx
          go_wp2_with fail
          obtain ⟨q1, q2, q3, q4, q5⟩ := v_look f n cs at_ rs
          refine (b_commit (unhide HVI) (l_ded (unhide HZ9)) wok_nil (unhide HZ9)).mono ?_
          rintro e w10 ⟨rfl, HZ10⟩
          rw [q1, q2]
          rw [q3, q4, q5] at HZ10
          clear h0 v0 hl vl HZ9 q1 q2 q3 q4 q5
          obtain ⟨a0, a1, -, -⟩ := two_of (zoo_var2 (unhide HZ10))
          obtain ⟨b0, b1, -, -⟩ := two_of (zoo_var3 (unhide HZ10))
          go_wp2_with fail
          refine (has24 ⟨#[120]⟩ w10).mono ?_
          rintro e w11 ⟨rfl, hk11⟩
          have HZ11 := hide ((unhide HZ10).kp0 hk11)
          clear hk11 HZ10 a0 a1 b0 b1
          go_wp2_with fail
          obtain ⟨z, hz1, hz0, hz2⟩ := put_look key
          have hzn : (z != 0) = true := by simpa using hz0
          refine (b_put1 key true vx vx_le (unhide HZ11)).mono ?_
          rintro e w12 ⟨rfl, HZ12⟩
          rw [hz1]
          clear hz1 hz2 HZ11
          obtain ⟨h0, v0, hl, vl⟩ := lk_facts (unhide HZ12) (List.Mem.tail _ (List.Mem.tail _ (List.Mem.tail _ (List.Mem.tail _ (List.Mem.head _))))) (List.Mem.head _)
          go_wp2_with fail
          refine (l_last (unhide HZ12)).mono ?_
          rintro e wx ⟨rfl, hwx⟩
          subst wx
          go_wp2_with fail
          go_ret
          exact ⟨by first | trivial | rw [hzn], ((unhide HK1).trans0 (unhide HZ12).kp).below (Nat.le_refl _) (by simp)⟩
end Go.Proofs.Ytcfogkdpkpehaab
