/- A table, a sheet, a deed and the document's deed beside each other, since w0; each call with what it keeps. -/
import Derived.Test.YtainekjcdmabbaaY1
import Derived.Test.YtainekjcdmabbaaG4
import Derived.Test.YtainekjcdmabbaaG5
namespace Go.Proofs.Ytainekjcdmabbaa
open Go.RowKit

/-- All four, that share no memory; the blocks of X are later ones than w0, and none of theirs. -/
structure FurL (w0 w : World) (tb sb db wb : Nat) (f g : Nat → List Ver) (n m : Nat) (md y : Int) (rs rs2 : List Int) (ws ws2 : List Ver) (X F G H : List Nat) : Prop where
  t : Tbl w0.heap.size w tb F f n
  s : Sht w0.heap.size w sb G g m
  d : Ded w db md y rs ws
  k : Wrk w0.heap.size w wb H md y rs2 ws2
  fg : ∀ x, x ∈ F → x ∉ G
  fh : ∀ x, x ∈ F → x ∉ H
  gh : ∀ x, x ∈ G → x ∉ H
  dx : db ∉ F ∧ db ∉ G ∧ db ∉ H ∧ w0.heap.size ≤ db
  kp : Kp [] w0 w
  x : ∀ x, x ∈ X → x ∉ F ∧ x ∉ G ∧ x ∉ H ∧ x ≠ db ∧ w0.heap.size ≤ x ∧ x < w.heap.size
def Fur (w0 w : World) (tb sb db wb : Nat) (f g : Nat → List Ver) (n m : Nat) (md y : Int) (rs rs2 : List Int) (ws ws2 : List Ver) (X : List Nat) : Prop := ∃ F G H, FurL w0 w tb sb db wb f g n m md y rs rs2 ws ws2 X F G H

section
variable {w0 w w' : World} {tb sb db wb : Nat} {f g f' g' : Nat → List Ver} {n m n' m' : Nat} {md y : Int} {rs rs2 rs' : List Int} {ws ws2 ws' : List Ver} {X F G H F' G' H' : List Nat}
theorem FurL.size (h : FurL w0 w tb sb db wb f g n m md y rs rs2 ws ws2 X F G H) (hs : w.heap.size ≤ w'.heap.size) : ∀ x, x ∈ X → x ∉ F ∧ x ∉ G ∧ x ∉ H ∧ x ≠ db ∧ w0.heap.size ≤ x ∧ x < w'.heap.size :=
  fun x hx => by obtain ⟨h1, h2, h3, h4, h5, h6⟩ := h.x x hx; exact ⟨h1, h2, h3, h4, h5, by omega⟩
theorem not_one {x d : Nat} {F : List Nat} (hx : x ∈ F) (hd : d ∉ F) : x ∉ [d] := fun hm => hd (by have e : x = d := by simpa using hm
                                                                                                   rw [← e]; exact hx)
theorem FurL.turnD (h : FurL w0 w tb sb db wb f g n m md y rs rs2 ws ws2 X F G H) (hk : Kp [db] w w') (hd : Ded w' db md y rs' ws') : FurL w0 w' tb sb db wb f g n m md y rs' rs2 ws' ws2 X F G H ∧ SameX X w w' :=
  ⟨⟨h.t.kp hk (fun x hx => not_one hx h.dx.1), h.s.kp hk (fun x hx => not_one hx h.dx.2.1), hd, h.k.kp hk (fun x hx => not_one hx h.dx.2.2.1), h.fg, h.fh, h.gh, h.dx, h.kp.trans hk (by simp; exact h.dx.2.2.2), h.size hk.size⟩,
    fun x hx => hk.block x (h.x x hx).2.2.2.2.2 (by simp; exact (h.x x hx).2.2.2.1)⟩
theorem FurL.turn0 (h : FurL w0 w tb sb db wb f g n m md y rs rs2 ws ws2 X F G H) (hk : Kp [] w w') : FurL w0 w' tb sb db wb f g n m md y rs rs2 ws ws2 X F G H :=
  (h.turnD (hk.mono (by simp)) (h.d.kp0 hk)).1
theorem FurL.turnH (h : FurL w0 w tb sb db wb f g n m md y rs rs2 ws ws2 X F G H) (hk : Kp H w w') (hw : Wrk w0.heap.size w' wb H' md y rs' ws') (hs : ∀ x, x ∈ H' → x ∈ H ∨ w.heap.size ≤ x) :
    FurL w0 w' tb sb db wb f g n m md y rs rs' ws ws' X F G H' ∧ SameX X w w' := by
  refine ⟨⟨h.t.kp hk h.fh, h.s.kp hk h.gh, h.d.kp hk h.dx.2.2.1, hw, h.fg, fun x hx hm => ?_, fun x hx hm => ?_, ⟨h.dx.1, h.dx.2.1, fun hm => ?_, h.dx.2.2.2⟩, h.kp.trans hk (fun x hx => .inr (h.k.lo x hx).1), fun x hx => ?_⟩, fun x hx => hk.block x (h.x x hx).2.2.2.2.2 (h.x x hx).2.2.1⟩
  · rcases hs x hm with e | e
    · exact h.fh x hx e
    · have := (h.t.lo x hx).2; omega
  · rcases hs x hm with e | e
    · exact h.gh x hx e
    · have := (h.s.lo x hx).2; omega
  · rcases hs db hm with e | e
    · exact h.dx.2.2.1 e
    · have := h.d.lt; omega
  · obtain ⟨h1, h2, h3, h4, h5, h6⟩ := h.x x hx
    refine ⟨h1, h2, fun hm => ?_, h4, h5, by have := hk.size; omega⟩
    rcases hs x hm with e | e
    · exact h3 e
    · omega
theorem FurL.turnF (h : FurL w0 w tb sb db wb f g n m md y rs rs2 ws ws2 X F G H) (hk : Kp F w w') (ht : Tbl w0.heap.size w' tb F' f' n') (hs : ∀ x, x ∈ F' → x ∈ F ∨ w.heap.size ≤ x) :
    FurL w0 w' tb sb db wb f' g n' m md y rs rs2 ws ws2 X F' G H ∧ SameX X w w' := by
  refine ⟨⟨ht, h.s.kp hk (fun x hx hm => h.fg x hm hx), h.d.kp hk h.dx.1, h.k.kp hk (fun x hx hm => h.fh x hm hx), fun x hx hm => ?_, fun x hx hm => ?_, h.gh, ⟨fun hm => ?_, h.dx.2.1, h.dx.2.2.1, h.dx.2.2.2⟩, h.kp.trans hk (fun x hx => .inr (h.t.lo x hx).1), fun x hx => ?_⟩, fun x hx => hk.block x (h.x x hx).2.2.2.2.2 (h.x x hx).1⟩
  · rcases hs x hx with e | e
    · exact h.fg x e hm
    · have := (h.s.lo x hm).2; omega
  · rcases hs x hx with e | e
    · exact h.fh x e hm
    · have := (h.k.lo x hm).2; omega
  · rcases hs db hm with e | e
    · exact h.dx.1 e
    · have := h.d.lt; omega
  · obtain ⟨h1, h2, h3, h4, h5, h6⟩ := h.x x hx
    refine ⟨fun hm => ?_, h2, h3, h4, h5, by have := hk.size; omega⟩
    rcases hs x hm with e | e
    · exact h1 e
    · omega
theorem FurL.turnG (h : FurL w0 w tb sb db wb f g n m md y rs rs2 ws ws2 X F G H) (hk : Kp G w w') (ht : Sht w0.heap.size w' sb G' g' m') (hs : ∀ x, x ∈ G' → x ∈ G ∨ w.heap.size ≤ x) :
    FurL w0 w' tb sb db wb f g' n m' md y rs rs2 ws ws2 X F G' H ∧ SameX X w w' := by
  refine ⟨⟨h.t.kp hk h.fg, ht, h.d.kp hk h.dx.2.1, h.k.kp hk (fun x hx hm => h.gh x hm hx), fun x hx hm => ?_, h.fh, fun x hx hm => ?_, ⟨h.dx.1, fun hm => ?_, h.dx.2.2.1, h.dx.2.2.2⟩, h.kp.trans hk (fun x hx => .inr (h.s.lo x hx).1), fun x hx => ?_⟩, fun x hx => hk.block x (h.x x hx).2.2.2.2.2 (h.x x hx).2.1⟩
  · rcases hs x hm with e | e
    · exact h.fg x hx e
    · have := (h.t.lo x hx).2; omega
  · rcases hs x hx with e | e
    · exact h.gh x e hm
    · have := (h.k.lo x hm).2; omega
  · rcases hs db hm with e | e
    · exact h.dx.2.1 e
    · have := h.d.lt; omega
  · obtain ⟨h1, h2, h3, h4, h5, h6⟩ := h.x x hx
    refine ⟨h1, fun hm => ?_, h3, h4, h5, by have := hk.size; omega⟩
    rcases hs x hm with e | e
    · exact h2 e
    · omega
theorem FurL.fresh0 (h : FurL w0 w tb sb db wb f g n m md y rs rs2 ws ws2 X F G H) (h' : FurL w0 w' tb sb db wb f' g' n' m' md y rs' rs2 ws' ws2 X F G H) {b : Nat} (hb : w.heap.size ≤ b) (hb' : b < w'.heap.size) : FurL w0 w' tb sb db wb f' g' n' m' md y rs' rs2 ws' ws2 (b :: X) F G H := by
  refine ⟨h'.t, h'.s, h'.d, h'.k, h'.fg, h'.fh, h'.gh, h'.dx, h'.kp, fun x hx => ?_⟩
  rcases List.mem_cons.1 hx with e | e
  · subst e
    refine ⟨fun hm => ?_, fun hm => ?_, fun hm => ?_, ?_, ?_, hb'⟩
    · have := (h.t.lo x hm).2; omega
    · have := (h.s.lo x hm).2; omega
    · have := (h.k.lo x hm).2; omega
    · have := h.d.lt; omega
    · have := h.kp.size; omega
  · exact h'.x x e

theorem Fur.kp (h : Fur w0 w tb sb db wb f g n m md y rs rs2 ws ws2 X) : Kp [] w0 w := by
  obtain ⟨F, G, H, h⟩ := h
  exact h.kp
theorem Fur.kp0 (h : Fur w0 w tb sb db wb f g n m md y rs rs2 ws ws2 X) (hk : Kp [] w w') : Fur w0 w' tb sb db wb f g n m md y rs rs2 ws ws2 X := by
  obtain ⟨F, G, H, h⟩ := h
  exact ⟨F, G, H, h.turn0 hk⟩
theorem Fur.sub {Z : List Nat} (h : Fur w0 w tb sb db wb f g n m md y rs rs2 ws ws2 X) (hZ : ∀ x, x ∈ Z → x ∈ X) : Fur w0 w tb sb db wb f g n m md y rs rs2 ws ws2 Z := by
  obtain ⟨F, G, H, h⟩ := h
  exact ⟨F, G, H, h.t, h.s, h.d, h.k, h.fg, h.fh, h.gh, h.dx, h.kp, fun x hx => h.x x (hZ x hx)⟩
theorem Fur.alloc (h : Fur w0 w tb sb db wb f g n m md y rs rs2 ws ws2 X) (o : Obj) : Fur w0 (w.alloc o) tb sb db wb f g n m md y rs rs2 ws ws2 (w.heap.size :: X) := by
  obtain ⟨F, G, H, h⟩ := h
  exact ⟨F, G, H, h.fresh0 (h.turn0 ((Kp.refl [] w).alloc o)) (Nat.le_refl _) (by simp)⟩
theorem Fur.lt (h : Fur w0 w tb sb db wb f g n m md y rs rs2 ws ws2 X) : ∀ x, x ∈ X → x < w.heap.size := by
  obtain ⟨F, G, H, h⟩ := h
  exact fun x hx => (h.x x hx).2.2.2.2.2

theorem fur_get (k : Int) (h : Fur w0 w tb sb db wb f g n m md y rs rs2 ws ws2 X) :
    Calls Try.prog 55 #[.pointer (some ⟨db, 0, none⟩), .pointer (some ⟨tb, 0, none⟩), .int .i64 k] w fun e w' => e = .returned (.tuple #[.agg #[.bool (dg f n y ws k).t, .string (dg f n y ws k).s], .int .i64 (dg f n y ws k).a]) ∧
      Hid (Fur w0 w' tb sb db wb f g n m md y (dr f n y rs ws k) rs2 ws ws2 X) ∧ Hid (SameX X w w') := by
  obtain ⟨F, G, H, h⟩ := h
  refine (dget55 k w h.t h.d).mono ?_
  rintro e w' ⟨rfl, hd, hk⟩
  exact ⟨rfl, ⟨F, G, H, (h.turnD hk hd).1⟩, (h.turnD hk hd).2⟩
theorem fur_wget (k : Int) (h : Fur w0 w tb sb db wb f g n m md y rs rs2 ws ws2 X) (hrl : rs2.length ≤ 900) (hwl : ws2.length ≤ 900) :
    Calls Try.prog 56 #[.pointer (some ⟨wb, 0, none⟩), .pointer (some ⟨sb, 0, none⟩), .int .i64 k] w fun e w' => e = .returned (.tuple #[.agg #[.bool (dg g m y ws2 k).t, .string (dg g m y ws2 k).s], .int .i64 (dg g m y ws2 k).a]) ∧
      Hid (Fur w0 w' tb sb db wb f g n m md y rs (dr g m y rs2 ws2 k) ws ws2 X) ∧ Hid (SameX X w w') := by
  obtain ⟨F, G, H, h⟩ := h
  refine (wget56 k w h.s h.k hrl hwl).mono ?_
  rintro e w' ⟨rfl, H', hd, hk, hs⟩
  exact ⟨rfl, ⟨F, G, H', (h.turnH hk hd hs).1⟩, (h.turnH hk hd hs).2⟩
theorem fur_put (k : Int) (t : Bool) (s : ByteArray) (h : Fur w0 w tb sb db wb f g n m md y rs rs2 ws ws2 X) (hs : s.size ≤ maxLen) :
    Calls Try.prog 57 #[.pointer (some ⟨db, 0, none⟩), .int .i64 k, .agg #[.bool t, .string s]] w fun e w' => e = .returned (.int .i64 (dpc md k t s)) ∧ Hid (Fur w0 w' tb sb db wb f g n m md y rs rs2 (dpw md ws k t s) ws2 X) ∧ Hid (SameX X w w') := by
  obtain ⟨F, G, H, h⟩ := h
  refine (dput57 k t s w h.d hs).mono ?_
  rintro e w' ⟨rfl, hd, hk⟩
  exact ⟨rfl, ⟨F, G, H, (h.turnD hk hd).1⟩, (h.turnD hk hd).2⟩
theorem fur_wput (k : Int) (t : Bool) (s : ByteArray) (h : Fur w0 w tb sb db wb f g n m md y rs rs2 ws ws2 X) (hs : s.size ≤ maxLen) (hwl : ws2.length ≤ 900) :
    Calls Try.prog 58 #[.pointer (some ⟨wb, 0, none⟩), .int .i64 k, .agg #[.bool t, .string s]] w fun e w' => e = .returned (.int .i64 (dpc md k t s)) ∧ Hid (Fur w0 w' tb sb db wb f g n m md y rs rs2 ws (dpw md ws2 k t s) X) ∧ Hid (SameX X w w') := by
  obtain ⟨F, G, H, h⟩ := h
  refine (wput58 k t s w h.k hs hwl).mono ?_
  rintro e w' ⟨rfl, H', hd, hk, hs⟩
  exact ⟨rfl, ⟨F, G, H', (h.turnH hk hd hs).1⟩, (h.turnH hk hd hs).2⟩
/-- The pairs lie in a block of X. -/
def SlX (w : World) (a : Option Addr) (L : List Ver) (X : List Nat) : Prop := 0 < L.length → ∃ g o, a = some ⟨g, o, none⟩ ∧ g ∈ X ∧ SlA w g o L
theorem SlX.same {a : Option Addr} {L : List Ver} (h : SlX w a L X) (hs : SameX X w w') : SlX w' a L X := fun hp => by
  obtain ⟨g, o, e, hg, hs'⟩ := h hp
  refine ⟨g, o, e, hg, fun j u hu => ?_⟩
  have := hs' j u hu
  rw [World.cell?_of_block (w := w) (hs g hg)]; exact this
theorem SlX.slo {a : Option Addr} {L : List Ver} (h : SlX w a L X) : SlO w a L := fun hp => by
  obtain ⟨g, o, e, _, hs⟩ := h hp
  exact ⟨g, o, e, hs⟩
theorem own_addr0 {B : Nat} {e : TypeId} {size n cap : Nat} {a : Option Addr} {xs : List Value} (h : w.ownsRow B e size (.slice a n cap) n xs) : ∀ g o, a = some ⟨g, o, none⟩ → B ≤ g ∧ g < w.heap.size := by
  intro g o ha
  rcases h.2 with ⟨e, _⟩ | ⟨g', c, cur, e, h2, h3, _⟩
  · simp only [Value.slice.injEq] at e
    rw [e.1] at ha; cases ha
  · simp only [Value.slice.injEq] at e
    rw [e.1] at ha
    simp only [Option.some.injEq, Addr.mk.injEq] at ha
    have := lt_of_block h3
    omega
theorem fur_list (fr to_ : Int) (h : Fur w0 w tb sb db wb f g n m md y rs rs2 ws ws2 X) (L : List Ver × Int × List Int) (hL : dls f n y ws rs fr to_ = L) :
    Calls Try.prog 59 #[.pointer (some ⟨db, 0, none⟩), .pointer (some ⟨tb, 0, none⟩), .int .i64 fr, .int .i64 to_] w fun e w' => ∃ a cap, e = .returned (.tuple #[.slice a L.1.length cap, .int .i64 L.2.1]) ∧
      ∃ Bs, Hid (Fur w0 w' tb sb db wb f g n m md y L.2.2 rs2 ws ws2 (Bs ++ X)) ∧ Hid (SameX X w w') ∧ Hid (SlX w' a L.1 (Bs ++ X)) := by
  obtain ⟨F, G, H, h⟩ := h
  refine (dlist59 fr to_ w h.t h.d h.dx.1).mono ?_
  rw [hL]
  rintro e w' ⟨a, cap, rfl, ho, hd, hk⟩
  obtain ⟨z1, z2⟩ := h.turnD hk hd
  by_cases hp : 0 < L.1.length
  · obtain ⟨g', o, e', hs⟩ := slo_own ho rfl hp
    have hb := own_addr0 ho g' o e'
    exact ⟨a, cap, rfl, [g'], ⟨F, G, H, h.fresh0 z1 hb.1 hb.2⟩, z2, fun _ => ⟨g', o, e', by simp, hs⟩⟩
  · exact ⟨a, cap, rfl, [], ⟨F, G, H, z1⟩, z2, fun q => absurd q hp⟩
theorem fur_wlist (fr to_ : Int) (h : Fur w0 w tb sb db wb f g n m md y rs rs2 ws ws2 X) (hrl : rs2.length ≤ 800) (hwl : ws2.length ≤ 900) (L : List Ver × Int × List Int) (hL : dls g m y ws2 rs2 fr to_ = L) :
    Calls Try.prog 60 #[.pointer (some ⟨wb, 0, none⟩), .pointer (some ⟨sb, 0, none⟩), .int .i64 fr, .int .i64 to_] w fun e w' => ∃ a cap, e = .returned (.tuple #[.slice a L.1.length cap, .int .i64 L.2.1]) ∧
      Hid (Fur w0 w' tb sb db wb f g n m md y rs L.2.2 ws ws2 X) ∧ Hid (SameX X w w') ∧ Hid (SlO w' a L.1) := by
  obtain ⟨F, G, H, h⟩ := h
  refine (wlist60 fr to_ w h.s h.k h.gh hrl hwl).mono ?_
  rw [hL]
  rintro e w' ⟨a, cap, rfl, ho, H', hd, hk, hs⟩
  obtain ⟨z1, z2⟩ := h.turnH hk hd hs
  exact ⟨a, cap, rfl, ⟨F, G, H', z1⟩, z2, slo_own ho rfl⟩
theorem fur_twrite (a : Option Addr) (c : Nat) (ps : List Ver) (h : Fur w0 w tb sb db wb f g n m md y rs rs2 ws ws2 X) (hp : Prs w0 a ps) (hm : ps.length ≤ 1000) :
    Calls Try.prog 49 #[.pointer (some ⟨tb, 0, none⟩), .slice a ps.length c] w fun e w' => ∃ x z, e = .returned (.tuple #[.int .i64 x, .int .i64 z]) ∧ Hid (Fur w0 w' tb sb db wb (wst f n ps) g (wn n ps) m md y rs rs2 ws ws2 X) ∧ Hid (SameX X w w') := by
  obtain ⟨F, G, H, h⟩ := h
  refine (twrite45 a c ps w h.t (hp.kp0 h.kp) (hp.far (fun x hx => (h.t.lo x hx).1)) hm).mono ?_
  rintro e w' ⟨rfl, F', k1, k2, k3⟩
  exact ⟨_, _, rfl, ⟨F', G, H, (h.turnF k2 k1 k3).1⟩, (h.turnF k2 k1 k3).2⟩
theorem fur_swrite (a : Option Addr) (c : Nat) (ps : List Ver) (h : Fur w0 w tb sb db wb f g n m md y rs rs2 ws ws2 X) (hp : Prs w0 a ps) (hm : ps.length ≤ 1000) :
    Calls Try.prog 61 #[.pointer (some ⟨sb, 0, none⟩), .slice a ps.length c] w fun e w' => ∃ x z, e = .returned (.tuple #[.int .i64 x, .int .i64 z]) ∧ Hid (Fur w0 w' tb sb db wb f (wst g m ps) n (wn m ps) md y rs rs2 ws ws2 X) ∧ Hid (SameX X w w') := by
  obtain ⟨F, G, H, h⟩ := h
  refine (swrite56 a c ps w h.s (hp.kp0 h.kp) (hp.far (fun x hx => (h.s.lo x hx).1)) hm).mono ?_
  rintro e w' ⟨rfl, G', k1, k2, k3⟩
  exact ⟨_, _, rfl, ⟨F, G', H, (h.turnG k2 k1 k3).1⟩, (h.turnG k2 k1 k3).2⟩
theorem fur_tclear (l : Int) (h : Fur w0 w tb sb db wb f g n m md y rs rs2 ws ws2 X) :
    Calls Try.prog 50 #[.pointer (some ⟨tb, 0, none⟩), .int .i64 l] w fun e w' => ∃ x, e = .returned (.int .i64 x) ∧ Hid (Fur w0 w' tb sb db wb (clm f l 8) g n m md y rs rs2 ws ws2 X) := by
  obtain ⟨F, G, H, h⟩ := h
  refine (tclear46 l w h.t).mono ?_
  rintro e w' ⟨rfl, F', k1, k2, k3⟩
  exact ⟨_, rfl, F', G, H, (h.turnF k2 k1 k3).1⟩
theorem fur_sclear (l : Int) (h : Fur w0 w tb sb db wb f g n m md y rs rs2 ws ws2 X) :
    Calls Try.prog 62 #[.pointer (some ⟨sb, 0, none⟩), .int .i64 l] w fun e w' => ∃ x, e = .returned (.int .i64 x) ∧ Hid (Fur w0 w' tb sb db wb f (clm g l 8) n m md y rs rs2 ws ws2 X) := by
  obtain ⟨F, G, H, h⟩ := h
  refine (sclear57 l w h.s).mono ?_
  rintro e w' ⟨rfl, G', k1, k2, k3⟩
  exact ⟨_, rfl, F, G', H, (h.turnG k2 k1 k3).1⟩
theorem fur_reads (h : Fur w0 w tb sb db wb f g n m md y rs rs2 ws ws2 X) (L : List Int) (hL : rk rs 8 = L) :
    Calls Try.prog 64 #[.pointer (some ⟨db, 0, none⟩)] w fun e w' => ∃ a cap, e = .returned (.slice a L.length cap) ∧ Hid (SlI w' a L) ∧ Hid (Fur w0 w' tb sb db wb f g n m md y rs rs2 ws ws2 X) ∧ Hid (Kp [] w w') := by
  subst hL
  obtain ⟨F, G, H, h⟩ := h
  refine (dreads64 w h.d).mono ?_
  rintro e w' ⟨a, cap, rfl, ho, hk⟩
  exact ⟨a, cap, rfl, sli_own ho rfl, ⟨F, G, H, h.turn0 hk⟩, hk⟩
theorem fur_wreads (h : Fur w0 w tb sb db wb f g n m md y rs rs2 ws ws2 X) (hrl : rs2.length ≤ 900) (L : List Int) (hL : rk rs2 8 = L) :
    Calls Try.prog 65 #[.pointer (some ⟨wb, 0, none⟩)] w fun e w' => ∃ a cap, e = .returned (.slice a L.length cap) ∧ Hid (SlI w' a L) ∧ Hid (Fur w0 w' tb sb db wb f g n m md y rs rs2 ws ws2 X) ∧ Hid (Kp [] w w') := by
  subst hL
  obtain ⟨F, G, H, h⟩ := h
  refine (wreads65 w h.k hrl).mono ?_
  rintro e w' ⟨a, cap, rfl, ho, hk⟩
  exact ⟨a, cap, rfl, sli_own ho rfl, ⟨F, G, H, h.turn0 hk⟩, hk⟩
theorem fur_writes (h : Fur w0 w tb sb db wb f g n m md y rs rs2 ws ws2 X) (L : List Ver) (hL : wk ws 8 = L) :
    Calls Try.prog 66 #[.pointer (some ⟨db, 0, none⟩)] w fun e w' => ∃ a cap, e = .returned (.slice a L.length cap) ∧ Hid (SlO w' a L) ∧ Hid (Fur w0 w' tb sb db wb f g n m md y rs rs2 ws ws2 X) ∧ Hid (Kp [] w w') := by
  subst hL
  obtain ⟨F, G, H, h⟩ := h
  refine (dwrites66 w h.d).mono ?_
  rintro e w' ⟨a, cap, rfl, ho, hk⟩
  exact ⟨a, cap, rfl, slo_own ho rfl, ⟨F, G, H, h.turn0 hk⟩, hk⟩
theorem fur_wwrites (h : Fur w0 w tb sb db wb f g n m md y rs rs2 ws ws2 X) (hwl : ws2.length ≤ 900) (L : List Ver) (hL : wk ws2 8 = L) :
    Calls Try.prog 67 #[.pointer (some ⟨wb, 0, none⟩)] w fun e w' => ∃ a cap, e = .returned (.slice a L.length cap) ∧ Hid (SlO w' a L) ∧ Hid (Fur w0 w' tb sb db wb f g n m md y rs rs2 ws ws2 X) ∧ Hid (Kp [] w w') := by
  subst hL
  obtain ⟨F, G, H, h⟩ := h
  refine (wwrites67 w h.k hwl).mono ?_
  rintro e w' ⟨a, cap, rfl, ho, hk⟩
  exact ⟨a, cap, rfl, slo_own ho rfl, ⟨F, G, H, h.turn0 hk⟩, hk⟩
theorem fur_may (h : Fur w0 w tb sb db wb f g n m md y rs rs2 ws ws2 X) (c : Int) (hc : dm f md y rs ws = c) :
    Calls Try.prog 68 #[.pointer (some ⟨db, 0, none⟩), .pointer (some ⟨tb, 0, none⟩)] w fun e w' => e = .returned (.int .i64 c) ∧ Hid (Fur w0 w' tb sb db wb f g n m md y rs rs2 ws ws2 X) := by
  subst hc
  obtain ⟨F, G, H, h⟩ := h
  refine (dmay68 w h.t h.d).mono ?_
  rintro e w' ⟨rfl, hk⟩
  exact ⟨rfl, F, G, H, h.turn0 hk⟩
theorem fur_wmay (h : Fur w0 w tb sb db wb f g n m md y rs rs2 ws ws2 X) (hrl : rs2.length ≤ 900) (hwl : ws2.length ≤ 900) (c : Int) (hc : dm g md y rs2 ws2 = c) :
    Calls Try.prog 69 #[.pointer (some ⟨wb, 0, none⟩), .pointer (some ⟨sb, 0, none⟩)] w fun e w' => e = .returned (.int .i64 c) ∧ Hid (Fur w0 w' tb sb db wb f g n m md y rs rs2 ws ws2 X) := by
  subst hc
  obtain ⟨F, G, H, h⟩ := h
  refine (wmay69 w h.s h.k hrl hwl).mono ?_
  rintro e w' ⟨rfl, hk⟩
  exact ⟨rfl, F, G, H, h.turn0 hk⟩
theorem fur_mode (h : Fur w0 w tb sb db wb f g n m md y rs rs2 ws ws2 X) : Calls Try.prog 70 #[.pointer (some ⟨db, 0, none⟩)] w fun e w' => e = .returned (.int .i64 md) ∧ w' = w := by
  obtain ⟨F, G, H, h⟩ := h
  exact dmode70 w h.d
theorem fur_at (h : Fur w0 w tb sb db wb f g n m md y rs rs2 ws ws2 X) : Calls Try.prog 71 #[.pointer (some ⟨db, 0, none⟩)] w fun e w' => e = .returned (.int .i64 y) ∧ w' = w := by
  obtain ⟨F, G, H, h⟩ := h
  exact dat71 w h.d
end
/-- All four, at their beginning. -/
theorem fur_start {w0 w2 w3 : World} {tb sb : Nat} {f : Nat → List Ver} {n : Nat} {md y : Int} (h : Bth w0 w2 tb sb f f n n) (hd : Ded w3 w2.heap.size md y [] []) (hk : Kp [] w2 w3) :
    Fur w0 (w3.alloc (.cells #[.int .i64 md, .int .i64 y, .slice none 0 0, .slice none 0 0] 87)) tb sb w2.heap.size w3.heap.size f f n n md y [] [] [] [] [] := by
  obtain ⟨F, G, h1, h2, h3, h4⟩ := h
  have hk' := hk.alloc (.cells #[.int .i64 md, .int .i64 y, .slice none 0 0, .slice none 0 0] 87)
  have hs := h4.size
  have hs2 := hk.size
  have hlt := hd.lt
  refine ⟨F, G, [w3.heap.size], h1.kp0 hk', h2.kp0 hk', hd.kp0 ((Kp.refl [] w3).alloc _), ⟨none, 0, none, 0, heap_alloc_new _ _, World.ownsRow_nil _ _ _ _, World.ownsRow_nil _ _ _ _, fun g hg => by simp [Value.ownBlock] at hg, fun g hg => by simp [Value.ownBlock] at hg, fun g g' hg => by simp [Value.ownBlock] at hg, by simp, fun x hx => ?_⟩, h3, fun x hx hm => ?_, fun x hx hm => ?_, ⟨fun hm => ?_, fun hm => ?_, fun hm => ?_, hs⟩, h4.trans0 hk', fun x hx => by simp at hx⟩
  · have : x = w3.heap.size := by simpa using hx
    subst this
    exact ⟨by omega, by simp⟩
  · have := (h1.lo x hx).2
    simp at hm
    omega
  · have := (h2.lo x hx).2
    simp at hm
    omega
  · have := (h1.lo _ hm).2
    omega
  · have := (h2.lo _ hm).2
    omega
  · simp at hm
    omega
end Go.Proofs.Ytainekjcdmabbaa
