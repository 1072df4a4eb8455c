/- tables: a table and a sheet, by steps, tell the same, step by step. -/
import Derived.Test.YtainekjcdmabbaaE2
namespace Go.Proofs.Ytainekjcdmabbaa
open Go.RowKit
set_option maxRecDepth 20000
attribute [local go_sem ↓] Go.wp_at_zero Go.wp_at_succ

theorem Sht.base {B C : Nat} {w : World} {sb : Nat} {G : List Nat} {f : Nat → List Ver} {n : Nat} (h : Sht B w sb G f n) (hC : C ≤ B) : Sht C w sb G f n := by
  obtain ⟨g, o, cap, h⟩ := h
  exact ⟨g, o, cap, h.box, h.sla, h.cap, h.ne, h.sG, h.gG, fun x hx => ⟨Nat.le_trans hC (h.lo x hx).1, (h.lo x hx).2⟩, h.inv, Nat.le_trans hC h.hB⟩

/-- A table and a sheet beside it that share no memory, both made since w0, all that was there as it was. -/
def Bth (w0 wr : World) (tb sb : Nat) (f g : Nat → List Ver) (n m : Nat) : Prop :=
  ∃ F G, Tbl w0.heap.size wr tb F f n ∧ Sht w0.heap.size wr sb G g m ∧ (∀ x, x ∈ F → x ∉ G) ∧ Kp [] w0 wr

theorem Bth.kp {w0 wr : World} {tb sb : Nat} {f g : Nat → List Ver} {n m : Nat} (h : Bth w0 wr tb sb f g n m) : Kp [] w0 wr := by
  obtain ⟨_, _, _, _, _, h⟩ := h
  exact h
theorem Bth.kp0 {w0 wr wr' : World} {tb sb : Nat} {f g : Nat → List Ver} {n m : Nat} (h : Bth w0 wr tb sb f g n m) (hk : Kp [] wr wr') : Bth w0 wr' tb sb f g n m := by
  obtain ⟨F, G, h1, h2, h3, h4⟩ := h
  exact ⟨F, G, h1.kp0 hk, h2.kp0 hk, h3, h4.trans0 hk⟩

theorem bth_start {w0 w1 w2 : World} {F G : List Nat} {tb sb : Nat} {f g : Nat → List Ver} {n m : Nat} (h1 : Tbl w0.heap.size w1 tb F f n) (k1 : Kp [] w0 w1) (h2 : Sht w1.heap.size w2 sb G g m) (k2 : Kp [] w1 w2) : Bth w0 w2 tb sb f g n m := by
  refine ⟨F, G, h1.kp0 k2, h2.base k1.size, fun x hx hg => ?_, k1.trans0 k2⟩
  have := (h1.lo x hx).2
  have := (h2.lo x hg).1
  omega

theorem bth_table {w0 wr w' : World} {tb sb : Nat} {F G F' : List Nat} {f' g : Nat → List Ver} {n' m : Nat} (hF : ∀ x, x ∈ F → w0.heap.size ≤ x) (h2 : Sht w0.heap.size wr sb G g m) (h3 : ∀ x, x ∈ F → x ∉ G) (h4 : Kp [] w0 wr)
    (k1 : Tbl w0.heap.size w' tb F' f' n') (k2 : Kp F wr w') (k3 : ∀ x, x ∈ F' → x ∈ F ∨ wr.heap.size ≤ x) : Bth w0 w' tb sb f' g n' m := by
  refine ⟨F', G, k1, h2.kp k2 (fun x hx hf => h3 x hf hx), fun x hx hg => ?_, h4.trans k2 (fun x hx => .inr (hF x hx))⟩
  rcases k3 x hx with e | e
  · exact h3 x e hg
  · have := (h2.lo x hg).2; omega
theorem bth_sheet {w0 wr w' : World} {tb sb : Nat} {F G G' : List Nat} {f g' : Nat → List Ver} {n m' : Nat} (hG : ∀ x, x ∈ G → w0.heap.size ≤ x) (h1 : Tbl w0.heap.size wr tb F f n) (h3 : ∀ x, x ∈ F → x ∉ G) (h4 : Kp [] w0 wr)
    (k1 : Sht w0.heap.size w' sb G' g' m') (k2 : Kp G wr w') (k3 : ∀ x, x ∈ G' → x ∈ G ∨ wr.heap.size ≤ x) : Bth w0 w' tb sb f g' n m' := by
  refine ⟨F, G', h1.kp k2 h3, k1, fun x hx hg => ?_, h4.trans k2 (fun x hx => .inr (hG x hx))⟩
  rcases k3 x hg with e | e
  · exact h3 x hx e
  · have := (h1.lo x hx).2; omega

theorem Prs.far {w0 : World} {a : Option Addr} {ps : List Ver} {F : List Nat} (h : Prs w0 a ps) (hF : ∀ x, x ∈ F → w0.heap.size ≤ x) : 0 < ps.length → ∀ g o, a = some ⟨g, o, none⟩ → g ∉ F := by
  intro hp g o e hg
  obtain ⟨g', o', e', hs⟩ := h.mem hp
  rw [e] at e'
  simp only [Option.some.injEq, Addr.mk.injEq, and_true] at e'
  have := hs.lt hp
  have := hF g hg
  omega

theorem bth_write {w0 wr : World} {tb sb : Nat} {f g : Nat → List Ver} {n m : Nat} (a : Option Addr) (c : Nat) (ps : List Ver) (h : Bth w0 wr tb sb f g n m) (hp : Prs w0 a ps) (hm : ps.length ≤ 1000) :
    Calls Try.prog 49 #[.pointer (some ⟨tb, 0, none⟩), .slice a ps.length c] wr fun e w' => e = .returned (.tuple #[.int .i64 (wnum n ps), .int .i64 (wcode n ps)]) ∧ Hid (Bth w0 w' tb sb (wst f n ps) g (wn n ps) m) := by
  obtain ⟨F, G, h1, h2, h3, h4⟩ := h
  have hF : ∀ x, x ∈ F → w0.heap.size ≤ x := fun x hx => (h1.lo x hx).1
  refine (twrite45 a c ps wr h1 (hp.kp0 h4) (hp.far hF) hm).mono ?_
  rintro e w' ⟨rfl, F', k1, k2, k3⟩
  exact ⟨rfl, bth_table hF h2 h3 h4 k1 k2 k3⟩
theorem bth_swrite {w0 wr : World} {tb sb : Nat} {f g : Nat → List Ver} {n m : Nat} (a : Option Addr) (c : Nat) (ps : List Ver) (h : Bth w0 wr tb sb f g n m) (hp : Prs w0 a ps) (hm : ps.length ≤ 1000) :
    Calls Try.prog 61 #[.pointer (some ⟨sb, 0, none⟩), .slice a ps.length c] wr fun e w' => e = .returned (.tuple #[.int .i64 (wnum m ps), .int .i64 (wcode m ps)]) ∧ Hid (Bth w0 w' tb sb f (wst g m ps) n (wn m ps)) := by
  obtain ⟨F, G, h1, h2, h3, h4⟩ := h
  have hG : ∀ x, x ∈ G → w0.heap.size ≤ x := fun x hx => (h2.lo x hx).1
  refine (swrite56 a c ps wr h2 (hp.kp0 h4) (hp.far hG) hm).mono ?_
  rintro e w' ⟨rfl, G', k1, k2, k3⟩
  exact ⟨rfl, bth_sheet hG h1 h3 h4 k1 k2 k3⟩
theorem bth_clear {w0 wr : World} {tb sb : Nat} {f g : Nat → List Ver} {n m : Nat} (y : Int) (h : Bth w0 wr tb sb f g n m) :
    Calls Try.prog 50 #[.pointer (some ⟨tb, 0, none⟩), .int .i64 y] wr fun e w' => e = .returned (.int .i64 (cln f y 8 : Nat)) ∧ Hid (Bth w0 w' tb sb (clm f y 8) g n m) := by
  obtain ⟨F, G, h1, h2, h3, h4⟩ := h
  have hF : ∀ x, x ∈ F → w0.heap.size ≤ x := fun x hx => (h1.lo x hx).1
  refine (tclear46 y wr h1).mono ?_
  rintro e w' ⟨rfl, F', k1, k2, k3⟩
  exact ⟨rfl, bth_table hF h2 h3 h4 k1 k2 k3⟩
theorem bth_sclear {w0 wr : World} {tb sb : Nat} {f g : Nat → List Ver} {n m : Nat} (y : Int) (h : Bth w0 wr tb sb f g n m) :
    Calls Try.prog 62 #[.pointer (some ⟨sb, 0, none⟩), .int .i64 y] wr fun e w' => e = .returned (.int .i64 (cln g y 8 : Nat)) ∧ Hid (Bth w0 w' tb sb f (clm g y 8) n m) := by
  obtain ⟨F, G, h1, h2, h3, h4⟩ := h
  have hG : ∀ x, x ∈ G → w0.heap.size ≤ x := fun x hx => (h2.lo x hx).1
  refine (sclear57 y wr h2).mono ?_
  rintro e w' ⟨rfl, G', k1, k2, k3⟩
  exact ⟨rfl, bth_sheet hG h1 h3 h4 k1 k2 k3⟩

theorem rclearT {w0 wr : World} {tb sb lb lo k n1 : Nat} {st : Nat → TStep} {f : Nat → List Ver} {n : Nat} (h : Bth w0 wr tb sb f f n n) (hs : StT w0 lb lo n1 st) (hk : k < n1) :
    Calls Try.prog 50 #[.pointer (some ⟨tb, 0, none⟩), .int .i64 (st k).l] wr fun e w' => e = .returned (.int .i64 (cln f (st k).l 8 : Nat)) ∧ w'.cell? ⟨lb, lo + k * 3 + 1, none⟩ = some (.int .i64 (st k).l) ∧ Hid (Bth w0 w' tb sb (clm f (st k).l 8) f n n) := by
  refine (bth_clear (st k).l h).mono ?_
  rintro e w' ⟨rfl, hb⟩
  exact ⟨rfl, ((hs.kp0 (unhide hb).kp) k hk).2.1, hb⟩
theorem rclearS {w0 wr : World} {tb sb lb lo k n1 : Nat} {st : Nat → TStep} {f : Nat → List Ver} {n : Nat} (h : Bth w0 wr tb sb (clm f (st k).l 8) f n n) (hs : StT w0 lb lo n1 st) (hk : k < n1) :
    Calls Try.prog 62 #[.pointer (some ⟨sb, 0, none⟩), .int .i64 (st k).l] wr fun e w' => e = .returned (.int .i64 (cln f (st k).l 8 : Nat)) ∧ w'.cell? ⟨lb, lo + k * 3 + 1, none⟩ = some (.int .i64 (st k).l) ∧ Hid (Bth w0 w' tb sb (clm f (st k).l 8) (clm f (st k).l 8) n n) := by
  refine (bth_sclear (st k).l h).mono ?_
  rintro e w' ⟨rfl, hb⟩
  exact ⟨rfl, ((hs.kp0 (unhide hb).kp) k hk).2.1, hb⟩

def TbEnd (w : World) (e : Ending) (w' : World) : Prop := ∃ tb sb f n, e = .returned (.tuple #[.pointer (some ⟨tb, 0, none⟩), .pointer (some ⟨sb, 0, none⟩), .bool true]) ∧ Hid (Bth w w' tb sb f f n n)

set_option maxHeartbeats 2000000 in
theorem tables31 (a : Option Addr) (n1 c : Nat) (st : Nat → TStep) (w : World) (h : TSts w a n1 st) (hn : n1 ≤ 80) (hps : ∀ i, i < n1 → (st i).ps.length ≤ 50) :
    Calls Try.prog 35 #[.slice a n1 c] w fun e w' => TbEnd w e w' := by
  have HS := hide h
  have HPS := hide hps
  clear h hps
  go_enter Try.func35, Try.ntmps35
  go_wp2_with fail
  refine (tnew47 w).mono ?_
  rintro e w1 ⟨rfl, ⟨F, ht⟩, hk⟩
  have HT := hide ht
  have HK := hide hk
  clear ht hk
  go_wp2_with fail
  refine (snew55 w1).mono ?_
  rintro e w2 ⟨rfl, ⟨G, hs⟩, hk2⟩
  have HB := hide (bth_start (unhide HT) (unhide HK) hs hk2)
  clear hs hk2 HT HK
  generalize htb : w.heap.size = tb at *
  clear htb
  generalize w1.heap.size = sb at *
  go_wp2_with fail
  go_loopw [7, 8] (fun ok i wr => ∃ (k : Nat) (f : Nat → List Ver) (n : Nat), k ≤ n1 ∧ ok = .bool true ∧ i = .int .i64 k ∧ Hid (Bth w wr tb sb f f n n)) (fun _ i _ => n1 - (intOf i).toNat)
  case atStart => exact ⟨0, _, _, Nat.zero_le _, rfl, rfl, HB⟩
  case round =>
    obtain ⟨k, f, n, hk, rfl, rfl, HB⟩ := hrel
    by_cases hlt : k < n1
    · obtain ⟨lb, lo, rfl, hst⟩ := (unhide HS).2 (by omega)
      have hi0 : (0 : Int) ≤ (k : Int) := by omega
      have hi1 : (k : Int) < (n1 : Int) := by omega
      obtain ⟨q0, q1, q2, _⟩ := (hst.kp0 (unhide HB).kp) k hlt
      have q2' : wr.cell? ⟨lb, lo + k * 3 + 1 + 1, none⟩ = some (.slice (st k).a (st k).ps.length (st k).c) := q2
      have HST := hide hst
      have hp50 := (unhide HPS) k hlt
      clear hst q2
      by_cases hd : (st k).d = 0
      · rw [hd] at q0
        clear hd
        go_wp2_with fail
        refine (bth_write (st k).a (st k).c (st k).ps (unhide HB) ((unhide HST) k hlt).2.2.2 (by omega)).mono ?_
        rintro e w3 ⟨rfl, HB3⟩
        have r2 : w3.cell? ⟨lb, lo + k * 3 + 1 + 1, none⟩ = some (.slice (st k).a (st k).ps.length (st k).c) := (((unhide HST).kp0 (unhide HB3).kp) k hlt).2.2.1
        clear q0 q1 q2'
        go_wp2_with fail
        refine (bth_swrite (st k).a (st k).c (st k).ps (unhide HB3) ((unhide HST) k hlt).2.2.2 (by omega)).mono ?_
        rintro e w4 ⟨rfl, HB4⟩
        clear r2
        go_wp2_with fail
        exact ⟨⟨k + 1, _, _, by omega, by simp, by go_num, HB4⟩, by simp [intOf]; omega⟩
      · by_cases hd1 : (st k).d = 1
        · rw [hd1] at q0
          clear hd hd1
          go_wp2_with fail
          go_region_held3 (fun w' => w'.cell? ⟨lb, lo + k * 3 + 1, none⟩ = some (.int .i64 (st k).l)) (first | go_keep | exact z1 | exact y1)
            ((first | (go_at_call 50; refine (rclearT ((unhide HB).kp0 (Kp.refl [] _).drew) (unhide HST) hlt).mono ?_; rintro e w4 ⟨rfl, y1, HM⟩) | (go_at_call 62; refine (rclearS (unhide HM) (unhide HST) hlt).mono ?_; rintro e w5 ⟨rfl, z1, HR2⟩)))
          go_wp2_with fail
          exact ⟨⟨k + 1, _, _, by omega, by simp, by go_num, HR2⟩, by simp [intOf]; omega⟩
        · generalize (st k).d = d at *
          have e0 : (d == 0) = false := beq_eq_false_iff_ne.2 hd
          have e1 : (d == 1) = false := beq_eq_false_iff_ne.2 hd1
          clear hd hd1
          go_wp2_with fail
          exact ⟨⟨k + 1, _, _, by omega, rfl, by go_num, HB⟩, by simp [intOf]; omega⟩
    · go_wp2_with fail
      go_ret3
      exact ⟨tb, sb, f, n, rfl, HB⟩
end Go.Proofs.Ytainekjcdmabbaa
