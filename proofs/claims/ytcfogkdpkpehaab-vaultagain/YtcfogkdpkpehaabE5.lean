/- A table since w0, and blocks beside it that are not its own; each call with what it keeps of them. -/
import Derived.Test.YtcfogkdpkpehaabE4
namespace Go.Proofs.Ytcfogkdpkpehaab
open Go.RowKit
set_option maxRecDepth 20000

/-- A table that was made since w0, all that was there as it was; the blocks of X are later ones, and none of its own. -/
def Tbx (w0 w : World) (tb : Nat) (f : Nat → List Ver) (n : Nat) (X : List Nat) : Prop :=
  ∃ F, Tbl w0.heap.size w tb F f n ∧ Kp [] w0 w ∧ ∀ x, x ∈ X → x ∉ F ∧ w0.heap.size ≤ x ∧ x < w.heap.size
/-- The blocks of X are as they were. -/
def SameX (X : List Nat) (w w' : World) : Prop := ∀ x, x ∈ X → w'.heap[x]? = w.heap[x]?

section
variable {w0 w w' : World} {tb : Nat} {f : Nat → List Ver} {n : Nat} {X : List Nat}
theorem Tbx.kp (h : Tbx w0 w tb f n X) : Kp [] w0 w := by
  obtain ⟨_, _, h, _⟩ := h
  exact h
theorem Tbx.inv (h : Tbx w0 w tb f n X) : Inv f n := by
  obtain ⟨_, h, _, _⟩ := h
  exact h.inv
theorem Tbx.lo (h : Tbx w0 w tb f n X) : ∀ x, x ∈ X → w0.heap.size ≤ x ∧ x < w.heap.size := by
  obtain ⟨F, h1, h2, h3⟩ := h
  exact fun x hx => (h3 x hx).2
theorem Tbx.kp0 (h : Tbx w0 w tb f n X) (hk : Kp [] w w') : Tbx w0 w' tb f n X := by
  obtain ⟨F, h1, h2, h3⟩ := h
  exact ⟨F, h1.kp0 hk, h2.trans0 hk, fun x hx => ⟨(h3 x hx).1, (h3 x hx).2.1, Nat.lt_of_lt_of_le (h3 x hx).2.2 hk.size⟩⟩
theorem Tbx.sub {Y : List Nat} (h : Tbx w0 w tb f n X) (hY : ∀ x, x ∈ Y → x ∈ X) : Tbx w0 w tb f n Y := by
  obtain ⟨F, h1, h2, h3⟩ := h
  exact ⟨F, h1, h2, fun x hx => h3 x (hY x hx)⟩
theorem Tbx.fresh (h : Tbx w0 w tb f n X) (hk : Kp [] w w') {b : Nat} (hb : w.heap.size ≤ b) (hb' : b < w'.heap.size) : Tbx w0 w' tb f n (b :: X) := by
  obtain ⟨F, h1, h2, h3⟩ := h
  refine ⟨F, h1.kp0 hk, h2.trans0 hk, fun x hx => ?_⟩
  rcases List.mem_cons.1 hx with e | e
  · subst e
    refine ⟨fun hF => ?_, Nat.le_trans h2.size hb, hb'⟩
    have := (h1.lo x hF).2
    omega
  · exact ⟨(h3 x e).1, (h3 x e).2.1, Nat.lt_of_lt_of_le (h3 x e).2.2 hk.size⟩
theorem Tbx.alloc (h : Tbx w0 w tb f n X) (o : Obj) : Tbx w0 (w.alloc o) tb f n (w.heap.size :: X) := h.fresh ((Kp.refl [] w).alloc o) (Nat.le_refl _) (by simp)
theorem Tbx.set (h : Tbx w0 w tb f n X) {S : List Nat} (hk : Kp S w w') (hS : ∀ x, x ∈ S → x ∈ X) : Tbx w0 w' tb f n X := by
  obtain ⟨F, h1, h2, h3⟩ := h
  exact ⟨F, h1.kp hk (fun x hx hs => (h3 x (hS x hs)).1 hx), h2.trans hk (fun x hx => .inr (h3 x (hS x hx)).2.1), fun x hx => ⟨(h3 x hx).1, (h3 x hx).2.1, Nat.lt_of_lt_of_le (h3 x hx).2.2 hk.size⟩⟩
theorem SameX.of_kp (h : Tbx w0 w tb f n X) (hk : Kp [] w w') : SameX X w w' := fun x hx => hk.block x (h.lo x hx).2 (by simp)
theorem tbx_turn {F F' : List Nat} {f' : Nat → List Ver} {n' : Nat} (h1 : Tbl w0.heap.size w tb F f n) (h2 : Kp [] w0 w) (h3 : ∀ x, x ∈ X → x ∉ F ∧ w0.heap.size ≤ x ∧ x < w.heap.size)
    (k1 : Tbl w0.heap.size w' tb F' f' n') (k2 : Kp F w w') (k3 : ∀ x, x ∈ F' → x ∈ F ∨ w.heap.size ≤ x) : Tbx w0 w' tb f' n' X ∧ SameX X w w' := by
  refine ⟨⟨F', k1, h2.trans k2 (fun x hx => .inr (h1.lo x hx).1), fun x hx => ⟨fun hf => ?_, (h3 x hx).2.1, Nat.lt_of_lt_of_le (h3 x hx).2.2 k2.size⟩⟩, fun x hx => k2.block x (h3 x hx).2.2 (h3 x hx).1⟩
  rcases k3 x hf with e | e
  · exact (h3 x hx).1 e
  · have := (h3 x hx).2.2; omega
end
theorem Bth.tbx {w0 wr : World} {tb sb : Nat} {f g : Nat → List Ver} {n m : Nat} (h : Bth w0 wr tb sb f g n m) : Tbx w0 wr tb f n [] := by
  obtain ⟨F, G, h1, h2, h3, h4⟩ := h
  exact ⟨F, h1, h4, fun x hx => by simp at hx⟩

theorem tbx_new (w0 w : World) (h : Kp [] w0 w) : Calls Try.prog 65 #[] w fun e w' => ∃ tb, e = .returned (.pointer (some ⟨tb, 0, none⟩)) ∧ Hid (Tbx w0 w' tb (fun _ => [dv]) 0 []) := by
  refine (tnew47 w).mono ?_
  rintro e w' ⟨rfl, ⟨F, b, g, cap, ht⟩, hk⟩
  have hs := h.size
  refine ⟨_, rfl, F, ⟨b, g, cap, ht.box, fun k hk8 => ?_, ht.bb, ht.gg, ht.bg, ht.tne, ht.tF, ht.bF, ht.gF, fun x hx => ⟨Nat.le_trans hs (ht.lo x hx).1, (ht.lo x hx).2⟩, ht.inv, Nat.le_trans hs ht.hB⟩, h.trans0 hk, fun x hx => by simp at hx⟩
  have hc := ht.chn k hk8
  exact ⟨own_base hc.own hs, hc.box, hc.ne, Nat.le_trans hs hc.hb, hc.pos⟩

section
variable {w0 w : World} {tb : Nat} {f : Nat → List Ver} {n : Nat} {X : List Nat}
theorem tbx_write (a : Option Addr) (c : Nat) (ps : List Ver) (h : Tbx w0 w tb f n X) (hp : Prs w a ps) (hm : ps.length ≤ 1000) (hf : 0 < ps.length → ∀ g o, a = some ⟨g, o, none⟩ → g < w0.heap.size ∨ g ∈ X) :
    Calls Try.prog 66 #[.pointer (some ⟨tb, 0, none⟩), .slice a ps.length c] w fun e w' => e = .returned (.tuple #[.int .i64 (wnum n ps), .int .i64 (wcode n ps)]) ∧ Hid (Tbx w0 w' tb (wst f n ps) (wn n ps) X) ∧ Hid (SameX X w w') := by
  obtain ⟨F, h1, h2, h3⟩ := h
  refine (twrite45 a c ps w h1 hp (fun hp0 g o e hg => ?_) hm).mono ?_
  · rcases hf hp0 g o e with q | q
    · have := (h1.lo g hg).1; omega
    · exact (h3 g q).1 hg
  · rintro e w' ⟨rfl, F', k1, k2, k3⟩
    exact ⟨rfl, tbx_turn h1 h2 h3 k1 k2 k3⟩
theorem tbx_clear (y : Int) (h : Tbx w0 w tb f n X) :
    Calls Try.prog 76 #[.pointer (some ⟨tb, 0, none⟩), .int .i64 y] w fun e w' => e = .returned (.int .i64 (cln f y 8 : Nat)) ∧ Hid (Tbx w0 w' tb (clm f y 8) n X) ∧ Hid (SameX X w w') := by
  obtain ⟨F, h1, h2, h3⟩ := h
  refine (tclear46 y w h1).mono ?_
  rintro e w' ⟨rfl, F', k1, k2, k3⟩
  exact ⟨rfl, tbx_turn h1 h2 h3 k1 k2 k3⟩
theorem tbx_read (k y : Int) (h : Tbx w0 w tb f n X) (v : Ver) (hv : tr f n k y = v) :
    Calls Try.prog 32 #[.pointer (some ⟨tb, 0, none⟩), .int .i64 k, .int .i64 y] w fun e w' => e = .returned (.tuple #[.agg #[.bool v.t, .string v.s], .int .i64 v.a]) ∧ Hid (Tbx w0 w' tb f n X) ∧ Hid (Kp [] w w') := by
  obtain ⟨F, h1, h2⟩ := h
  refine (tread32 k y w h1).mono ?_
  rintro e w' ⟨rfl, hk⟩
  exact ⟨by rw [hv], Tbx.kp0 ⟨F, h1, h2⟩ hk, hk⟩
theorem tbx_since (k : Int) (h : Tbx w0 w tb f n X) (v : Int) (hv : snc f k = v) :
    Calls Try.prog 109 #[.pointer (some ⟨tb, 0, none⟩), .int .i64 k] w fun e w' => e = .returned (.int .i64 v) ∧ Hid (Tbx w0 w' tb f n X) ∧ Hid (Kp [] w w') := by
  obtain ⟨F, h1, h2⟩ := h
  refine (tsince40 k w h1).mono ?_
  rintro e w' ⟨rfl, hk⟩
  exact ⟨by rw [hv], Tbx.kp0 ⟨F, h1, h2⟩ hk, hk⟩
theorem tbx_last (h : Tbx w0 w tb f n X) : Calls Try.prog 31 #[.pointer (some ⟨tb, 0, none⟩)] w fun e w' => e = .returned (.int .i64 n) ∧ w' = w := by
  obtain ⟨F, h1, h2⟩ := h
  exact tlast38 w h1
theorem tbx_first (h : Tbx w0 w tb f n X) (v : Int) (hv : fmx f 8 = v) : Calls Try.prog 44 #[.pointer (some ⟨tb, 0, none⟩)] w fun e w' => e = .returned (.int .i64 v) ∧ w' = w := by
  obtain ⟨F, h1, h2⟩ := h
  subst hv
  exact tfirst42 w h1
theorem tbx_sheet (y : Int) (h : Tbx w0 w tb f n X) :
    Calls Try.prog 46 #[.pointer (some ⟨tb, 0, none⟩), .int .i64 y] w fun e w' => ∃ k, Hid (ShK f n y k) ∧ e = .returned (.tuple #[.agg (wagg (shw f n y k)), .bool (decide (k = 8))]) ∧ Hid (Tbx w0 w' tb f n X) ∧ Hid (Kp [] w w') := by
  obtain ⟨F, h1, h2⟩ := h
  refine (sheet44 y w h1).mono ?_
  rintro e w' ⟨k, hk, rfl, hkp⟩
  exact ⟨k, hk, rfl, Tbx.kp0 ⟨F, h1, h2⟩ hkp, hkp⟩
end

theorem prs_one {w : World} {b : Nat} (k : Int) (t : Bool) (s : ByteArray) (hs : s.size ≤ maxLen) (h : w.heap[b]? = some (.cells #[.int .i64 k, .bool t, .string s] 40 (0, 0))) : Prs w (some ⟨b, 0, none⟩) [⟨k, t, s⟩] := by
  refine ⟨by simp [maxLen], fun j hj => ?_, fun _ => ⟨b, 0, rfl, fun j u hu => ?_⟩⟩
  · have : j = 0 := by simp at hj; omega
    subst this; exact hs
  · rw [Nat.zero_add]
    refine cell_of_block h ?_
    have e : (#[Value.int IntKind.i64 k, Value.bool t, Value.string s] : Array Value)[j]? = [Value.int IntKind.i64 k, Value.bool t, Value.string s][j]? := by simp
    exact e.trans hu

theorem tbx_write_lit {w0 W : World} {tb : Nat} {f : Nat → List Ver} {n : Nat} {X : List Nat} (k : Int) (t : Bool) (s : ByteArray) (hs : s.size ≤ maxLen) (h : Tbx w0 W tb f n X) :
    Calls Try.prog 66 #[.pointer (some ⟨tb, 0, none⟩), .slice (some ⟨W.heap.size, 0, none⟩) 1 1] (W.alloc (.cells #[.int .i64 k, .bool t, .string s] 40)) fun e w' =>
      e = .returned (.tuple #[.int .i64 (wnum n [⟨k, t, s⟩]), .int .i64 (wcode n [⟨k, t, s⟩])]) ∧ Hid (Tbx w0 w' tb (wst f n [⟨k, t, s⟩]) (wn n [⟨k, t, s⟩]) X) := by
  refine (tbx_write (some ⟨W.heap.size, 0, none⟩) 1 [⟨k, t, s⟩] (h.alloc (.cells #[.int .i64 k, .bool t, .string s] 40)) (prs_one k t s hs (heap_alloc_new _ _)) (by simp) (fun _ g o e => ?_)).mono ?_
  · right
    simp only [Option.some.injEq, Addr.mk.injEq, and_true] at e
    simp [e.1]
  · rintro e w' ⟨rfl, h1, _⟩
    exact ⟨rfl, (unhide h1).sub (fun x hx => by simp [hx])⟩
end Go.Proofs.Ytcfogkdpkpehaab
