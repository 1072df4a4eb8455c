/- A roll, a table and a sheet beside each other: what LogTable's loops keep. -/
import Derived.Test.YtfcfoabdangfhabJ10
import Derived.Test.YtfcfoabdangfhabJ11
namespace Go.Proofs.Ytfcfoabdangfhab
open Go.RowKit
set_option maxRecDepth 20000

theorem Tbl.base {B C : Nat} {w : World} {tb : Nat} {F : List Nat} {f : Nat → List Ver} {n : Nat} (h : Tbl B w tb F f n) (hC : C ≤ B) : Tbl C w tb F f n := by
  obtain ⟨b, g, cap, h⟩ := h
  refine ⟨b, g, cap, h.box, fun k hk8 => ?_, h.bb, h.gg, h.bg, h.tne, h.tF, h.bF, h.gF, fun x hx => ⟨Nat.le_trans hC (h.lo x hx).1, (h.lo x hx).2⟩, h.inv, Nat.le_trans hC h.hB⟩
  have hc := h.chn k hk8
  exact ⟨own_base hc.own hC, hc.box, hc.ne, Nat.le_trans hC hc.hb, hc.pos⟩

/-- The roll of xs, the table of D, and a sheet of the first i commits; the sheet shares no memory with the others. -/
def Lt (w0 wr : World) (rb tb sb : Nat) (aL : Option Addr) (capL : Nat) (xs : List El) (D : List (List Ver)) (i : Nat) : Prop :=
  ∃ G F H, RlL w0.heap.size wr rb G aL capL xs none 0 [] ∧ Tbl w0.heap.size wr tb F (wal0 D) D.length ∧ Sht w0.heap.size wr sb H (wal0 ((cps xs).take i)) i ∧ (∀ x, x ∈ H → x ∉ G ∧ x ∉ F) ∧ Kp [] w0 wr

section
variable {w0 wr w' : World} {rb tb sb : Nat} {aL : Option Addr} {capL : Nat} {xs : List El} {D : List (List Ver)} {i : Nat}
theorem Lt.kp (h : Lt w0 wr rb tb sb aL capL xs D i) : Kp [] w0 wr := by
  obtain ⟨_, _, _, _, _, _, _, h⟩ := h
  exact h
theorem Lt.kp0 (h : Lt w0 wr rb tb sb aL capL xs D i) (hk : Kp [] wr w') : Lt w0 w' rb tb sb aL capL xs D i := by
  obtain ⟨G, F, H, h1, h2, h3, h4, h5⟩ := h
  exact ⟨G, F, H, h1.kp hk (fun _ _ => by simp), h2.kp0 hk, h3.kp0 hk, h4, h5.trans0 hk⟩
theorem Lt.c0 (h : Lt w0 wr rb tb sb aL capL xs D i) : wr.cell? ⟨rb, 0, none⟩ = some (.slice aL xs.length capL) := by
  obtain ⟨_, _, _, h, _⟩ := h
  exact h.c0
theorem Lt.at_ (h : Lt w0 wr rb tb sb aL capL xs D i) {k : Nat} (hk : k < xs.length) : ∃ g, aL = some ⟨g, 0, none⟩ ∧ wr.cell? ⟨g, k, none⟩ = some (.slice (eat xs k).a (eat xs k).ps.length (eat xs k).c) := by
  obtain ⟨_, _, _, h, _⟩ := h
  exact h.own.cell hk
theorem Lt.pf (h : Lt w0 wr rb tb sb aL capL xs D i) {k : Nat} (hk : k < xs.length) : Ytfcfoabdangfhab.pf (-1) (eat xs k).ps = 0 := by
  obtain ⟨_, _, _, h, _⟩ := h
  rw [← cps_at hk]
  exact h.inv.at_ (by rw [cps_length]; exact hk)
theorem Lt.prs (h : Lt w0 wr rb tb sb aL capL xs D i) {k : Nat} (hk : k < xs.length) : Prs wr (eat xs k).a (eat xs k).ps := by
  have hp := h.pf hk
  obtain ⟨_, _, _, h, _⟩ := h
  exact slo_prs (h.els _ (eat_mem hk)).1 hp
theorem lt_last (h : Lt w0 wr rb tb sb aL capL xs D i) : Calls Try.prog 27 #[.pointer (some ⟨tb, 0, none⟩)] wr fun e w' => e = .returned (.int .i64 D.length) ∧ w' = wr := by
  obtain ⟨_, _, _, _, h, _⟩ := h
  exact tlast38 wr h
theorem lt_bytes (h : Lt w0 wr rb tb sb aL capL xs D i) {k : Nat} (hk : k < xs.length) : Calls Try.prog 15 #[.slice (eat xs k).a (eat xs k).ps.length (eat xs k).c] wr fun e w' => ApEnd wr (enc (eat xs k).ps) e w' :=
  bytesOf11 _ _ _ wr (h.prs hk) (h.pf hk)
theorem lt_write (h : Lt w0 wr rb tb sb aL capL xs D i) (hi : i < xs.length) :
    Calls Try.prog 34 #[.pointer (some ⟨sb, 0, none⟩), .slice (eat xs i).a (eat xs i).ps.length (eat xs i).c] wr fun e w' => e = .returned (.tuple #[.int .i64 (wnum i (eat xs i).ps), .int .i64 (wcode i (eat xs i).ps)]) ∧ Hid (Lt w0 w' rb tb sb aL capL xs D (i + 1)) := by
  have hpr := h.prs hi
  have hpf := h.pf hi
  obtain ⟨G, F, H, h1, h2, h3, h4, h5⟩ := h
  have h8 := pf_len8 hpf
  have hn40 := h1.inv.n40
  rw [cps_length] at hn40
  refine (swrite56 _ _ _ wr h3 hpr (fun _ g o e hg => ?_) (by omega)).mono ?_
  · have := ((h1.els _ (eat_mem hi)).2 g (by rw [e]; simp [ob])).1
    exact (h4 g hg).1 this
  · rintro e w' ⟨rfl, H', k1, k2, k3⟩
    refine ⟨rfl, G, F, H', h1.kp k2 (fun x hx hh => (h4 x hh).1 hx), h2.kp k2 (fun x hx hh => (h4 x hh).2 hx), ?_, fun x hx => ?_, h5.trans k2 (fun x hx => .inr (h3.lo x hx).1)⟩
    · have e1 : (cps xs).take (i + 1) = (cps xs).take i ++ [(eat xs i).ps] := by
        rw [List.take_succ_eq_append_getElem (by rw [cps_length]; exact hi), ← cps_at hi]
        simp [List.getD_eq_getElem?_getD, List.getElem?_eq_getElem (show i < (cps xs).length by rw [cps_length]; exact hi)]
      have e2 : ((cps xs).take i).length = i := by rw [List.length_take, cps_length]; omega
      rw [e1, wal0_snoc, e2]
      rw [(wcode_ok hpf (by omega : i < 40)).2] at k1
      exact k1
    · rcases k3 x hx with e | e
      · exact h4 x e
      · have := h1.lo x
        have := h2.lo x
        exact ⟨fun hg => by have := (h1.lo x hg).2; omega, fun hf => by have := (h2.lo x hf).2; omega⟩
theorem lt_read (h : Lt w0 wr rb tb sb aL capL xs D i) (k y : Int) : Calls Try.prog 28 #[.pointer (some ⟨tb, 0, none⟩), .int .i64 k, .int .i64 y] wr fun e w' => e = .returned (.tuple #[.agg #[.bool (tr (wal0 D) D.length k y).t, .string (tr (wal0 D) D.length k y).s], .int .i64 (tr (wal0 D) D.length k y).a]) ∧ Kp [] wr w' := by
  obtain ⟨_, _, _, _, h, _⟩ := h
  exact tread32 k y wr h
theorem lt_sread (h : Lt w0 wr rb tb sb aL capL xs D i) (hD : (cps xs).take i = D) (hi : D.length = i) (k y : Int) : Calls Try.prog 29 #[.pointer (some ⟨sb, 0, none⟩), .int .i64 k, .int .i64 y] wr fun e w' => e = .returned (.tuple #[.agg #[.bool (tr (wal0 D) D.length k y).t, .string (tr (wal0 D) D.length k y).s], .int .i64 (tr (wal0 D) D.length k y).a]) ∧ Kp [] wr w' := by
  obtain ⟨_, _, _, _, _, h, _⟩ := h
  rw [hi, ← hD]
  exact sread33 k y wr h
/-- The beginning. -/
theorem lt_start {gb : Nat} {cs : List (List Ver)} (h : Duo w0 wr gb rb cs [] cs []) : ∃ aL capL xs, cs = cps xs ∧ wr.cell? ⟨rb, 0, none⟩ = some (.slice aL xs.length capL) ∧ ∀ w1 F, Kp [] wr w1 → Tbl wr.heap.size w1 tb F (wal0 D) D.length → ∀ w2 sb H, Kp [] w1 w2 → Sht w1.heap.size w2 sb H (fun _ => [dv]) 0 → Lt w0 w2 rb tb sb aL capL xs D 0 := by
  obtain ⟨_, G, _, ⟨aL, capL, xs, aT, cT, h1, h2⟩, _, h4⟩ := h
  obtain ⟨rfl, rfl⟩ := h1.tn rfl
  refine ⟨aL, capL, xs, h2, h1.c0, fun w1 F k1 ht w2 sb H k2 hs => ⟨G, F, H, (h1.kp k1 (fun _ _ => by simp)).kp k2 (fun _ _ => by simp), (ht.base h4.size).kp0 k2, ?_, fun x hx => ⟨fun hg => ?_, fun hf => ?_⟩, (h4.trans0 k1).trans0 k2⟩⟩
  · have := hs.base (C := w0.heap.size) (Nat.le_trans h4.size k1.size)
    simpa [wal0, wal] using this
  · have := (h1.lo x hg).2
    have := (hs.lo x hx).1
    have := k1.size
    omega
  · have := (ht.lo x hf).2
    have := (hs.lo x hx).1
    omega
end

/-- 'int(uint(cut) % uint(n + 1))'. -/
theorem cut_of (cut : Int) {n : Nat} (h2 : n ≤ 100000) : ∃ k : Nat, wrap64 ((IntKind.u64.wrap cut).tmod ((n : Int) + 1)) = (k : Int) ∧ k ≤ n := by
  have e : IntKind.u64.wrap cut = cut % 18446744073709551616 := by simp [IntKind.wrap, IntKind.bits, IntKind.signed]
  have h0 : 0 ≤ cut % 18446744073709551616 := Int.emod_nonneg _ (by omega)
  rw [e, Int.tmod_eq_emod_of_nonneg h0]
  generalize cut % 18446744073709551616 = x at *
  have h3 := Int.emod_nonneg x (show (n : Int) + 1 ≠ 0 by omega)
  have h4 := Int.emod_lt_of_pos x (show (0 : Int) < (n : Int) + 1 by omega)
  refine ⟨(x % ((n : Int) + 1)).toNat, ?_, by omega⟩
  unfold wrap64
  omega
end Go.Proofs.Ytfcfoabdangfhab
