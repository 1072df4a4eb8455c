/- Th, D4, Vc, G5, Cc, Cd, Ce, Ho, An, Vb, Lz, V3: bound together for a claim. -/
import Derived.Test.YtehhpmfeaeabgacM4
import Derived.Deep.RegionWith
/- The things of a vault's world: a vault, a court, a house, a deed with the document's deed; what a call leaves of them. -/
namespace Go.Proofs.Ytehhpmfeaeabgac
open Go.RowKit
set_option maxRecDepth 20000

/-- What a call that changes a thing leaves of it. -/
def Ch (o' : Thing) (B : Nat) (w : World) (F : List Nat) (w' : World) : Prop := ∃ F', o'.holds B w' F' ∧ Kp F w w' ∧ ∀ x, x ∈ F' → x ∈ F ∨ w.heap.size ≤ x

section
variable {w0 w w' : World} {o o1 o2 o3 : Thing} {r : List Thing}
theorem zoo_at0 (h : Zoo w0 w (o :: r)) : ∃ F, o.holds w0.heap.size w F ∧ ∀ (o' : Thing) (w' : World), Ch o' w0.heap.size w F w' → Zoo w0 w' (o' :: r) := h.head
theorem zoo_at1 (h : Zoo w0 w (o1 :: o :: r)) : ∃ F, o.holds w0.heap.size w F ∧ ∀ (o' : Thing) (w' : World), Ch o' w0.heap.size w F w' → Zoo w0 w' (o1 :: o' :: r) := Zoo.at_ (l1 := [o1]) h
theorem zoo_at2 (h : Zoo w0 w (o1 :: o2 :: o :: r)) : ∃ F, o.holds w0.heap.size w F ∧ ∀ (o' : Thing) (w' : World), Ch o' w0.heap.size w F w' → Zoo w0 w' (o1 :: o2 :: o' :: r) := Zoo.at_ (l1 := [o1, o2]) h
theorem Ch.same {o : Thing} {B : Nat} {F : List Nat} (h : o.holds B w F) (hk : Kp [] w w') : Ch o B w F w' := ⟨F, o.kp h hk (fun _ _ => by simp), hk.mono (fun x hx => by simp at hx), fun x hx => .inl hx⟩
theorem Ch.trans {o' : Thing} {B : Nat} {F F1 : List Nat} {w1 : World} (h2 : Kp F w w1) (h3 : ∀ x, x ∈ F1 → x ∈ F ∨ w.heap.size ≤ x) (k : Ch o' B w1 F1 w') : Ch o' B w F w' := by
  obtain ⟨F2, k1, k2, k3⟩ := k
  refine ⟨F2, k1, h2.trans k2 h3, fun x hx => ?_⟩
  rcases k3 x hx with e | e
  · exact h3 x e
  · exact .inr (Nat.le_trans h2.size e)
theorem Ch.to {o o' : Thing} {B : Nat} {F : List Nat} {w1 : World} (h : Ch o B w F w1) (k : ∀ F1, o.holds B w1 F1 → Ch o' B w1 F1 w') : Ch o' B w F w' := by
  obtain ⟨F1, h1, h2, h3⟩ := h
  exact Ch.trans h2 h3 (k F1 h1)
theorem Ch.kp0 {o' : Thing} {B : Nat} {F : List Nat} {w1 : World} (h : Ch o' B w F w1) (hk : Kp [] w1 w') : Ch o' B w F w' := h.to (fun _ h1 => Ch.same h1 hk)
theorem Ch.after {o' : Thing} {B : Nat} {F : List Nat} {w1 : World} (hk : Kp [] w w1) (h : Ch o' B w1 F w') : Ch o' B w F w' := by
  obtain ⟨F1, h1, h2, h3⟩ := h
  refine ⟨F1, h1, (hk.mono (fun x hx => by simp at hx)).trans h2 (fun x hx => .inl hx), fun x hx => ?_⟩
  rcases h3 x hx with e | e
  · exact .inl e
  · exact .inr (Nat.le_trans hk.size e)
end

/-- A vault's memory: its box holds the table's and the log's. -/
structure Vlt (B : Nat) (w : World) (vb tb gb : Nat) (F Ft Fg : List Nat) (f : Nat → List Ver) (n : Nat) (cs : List (List Ver)) (torn : List UInt8) : Prop where
  box : w.heap[vb]? = some (.cells #[.pointer (some ⟨tb, 0, none⟩), .pointer (some ⟨gb, 0, none⟩)] 47 (0, 0))
  t : Tbl B w tb Ft f n
  g : Lg B w gb Fg cs torn
  vt : vb ∉ Ft
  vg : vb ∉ Fg
  tg : ∀ x, x ∈ Ft → x ∉ Fg
  vF : vb ∈ F
  tF : ∀ x, x ∈ Ft → x ∈ F
  gF : ∀ x, x ∈ Fg → x ∈ F
  lo : ∀ x, x ∈ F → B ≤ x ∧ x < w.heap.size
section
variable {B : Nat} {w w' : World} {vb tb gb : Nat} {F Ft Fg S : List Nat} {f f' : Nat → List Ver} {n n' : Nat} {cs cs' : List (List Ver)} {torn torn' : List UInt8}
theorem Vlt.kp (h : Vlt B w vb tb gb F Ft Fg f n cs torn) (hk : Kp S w w') (hS : ∀ x, x ∈ F → x ∉ S) : Vlt B w' vb tb gb F Ft Fg f n cs torn :=
  ⟨by rw [hk.block vb (h.lo vb h.vF).2 (hS _ h.vF)]; exact h.box, h.t.kp hk (fun x hx => hS x (h.tF x hx)), h.g.kp hk (fun x hx => hS x (h.gF x hx)), h.vt, h.vg, h.tg, h.vF, h.tF, h.gF, fun x hx => ⟨(h.lo x hx).1, Nat.lt_of_lt_of_le (h.lo x hx).2 hk.size⟩⟩
theorem Vlt.kp0 (h : Vlt B w vb tb gb F Ft Fg f n cs torn) (hk : Kp [] w w') : Vlt B w' vb tb gb F Ft Fg f n cs torn := h.kp hk (fun _ _ => by simp)
theorem Vlt.base {C : Nat} (h : Vlt B w vb tb gb F Ft Fg f n cs torn) (hC : C ≤ B) : Vlt C w vb tb gb F Ft Fg f n cs torn :=
  ⟨h.box, h.t.base hC, h.g.base hC, h.vt, h.vg, h.tg, h.vF, h.tF, h.gF, fun x hx => ⟨Nat.le_trans hC (h.lo x hx).1, (h.lo x hx).2⟩⟩
theorem Vlt.c0 (h : Vlt B w vb tb gb F Ft Fg f n cs torn) : w.cell? ⟨vb, 0, none⟩ = some (.pointer (some ⟨tb, 0, none⟩)) := cell_of_block h.box rfl
theorem Vlt.c1 (h : Vlt B w vb tb gb F Ft Fg f n cs torn) : w.cell? ⟨vb, 1, none⟩ = some (.pointer (some ⟨gb, 0, none⟩)) := cell_of_block h.box rfl
theorem Vlt.fz (h : Vlt B w vb tb gb F Ft Fg f n cs torn) (i : Nat) : w.frozen? ⟨vb, i, none⟩ = false := frozen_of_block i h.box
end
def VltT (vb tb gb : Nat) (f : Nat → List Ver) (n : Nat) (cs : List (List Ver)) (torn : List UInt8) : Thing where
  holds B w F := ∃ Ft Fg, Vlt B w vb tb gb F Ft Fg f n cs torn
  kp := fun ⟨Ft, Fg, h⟩ hk hS => ⟨Ft, Fg, h.kp hk hS⟩
  lo := fun ⟨_, _, h⟩ => h.lo
  base := fun ⟨Ft, Fg, h⟩ hC => ⟨Ft, Fg, h.base hC⟩
section
variable {B : Nat} {w w' : World} {vb tb gb : Nat} {F Ft Fg S : List Nat} {f f' : Nat → List Ver} {n n' : Nat} {cs cs' : List (List Ver)} {torn torn' : List UInt8}
/-- Another log of the vault. -/
theorem Vlt.log (h : Vlt B w vb tb gb F Ft Fg f n cs torn) (k : LgTo B w gb Fg cs' torn' w') : Ch (VltT vb tb gb f n cs' torn') B w F w' := by
  obtain ⟨Fg', k1, k2, k3⟩ := k
  have hvb := (h.lo vb h.vF).2
  refine ⟨F ++ Fg', ⟨Ft, Fg', ?_, h.t.kp k2 h.tg, k1, h.vt, fun hm => ?_, fun x hx hm => ?_, by simp [h.vF], fun x hx => by simp [h.tF x hx], fun x hx => by simp [hx], fun x hx => ?_⟩, k2.mono (fun x hx => .inl (h.gF x hx)), fun x hx => ?_⟩
  · rw [k2.block vb hvb h.vg]; exact h.box
  · rcases k3 vb hm with e | e
    · exact h.vg e
    · omega
  · rcases k3 x hm with e | e
    · exact h.tg x hx e
    · have := (h.lo x (h.tF x hx)).2; omega
  · rcases List.mem_append.1 hx with e | e
    · exact ⟨(h.lo x e).1, Nat.lt_of_lt_of_le (h.lo x e).2 k2.size⟩
    · exact k1.lo x e
  · rcases List.mem_append.1 hx with e | e
    · exact .inl e
    · rcases k3 x e with e | e
      · exact .inl (h.gF x e)
      · exact .inr e
/-- Its table changed. -/
theorem Vlt.table (h : Vlt B w vb tb gb F Ft Fg f n cs torn) {Ft' : List Nat} (k1 : Tbl B w' tb Ft' f' n') (k2 : Kp Ft w w') (k3 : ∀ x, x ∈ Ft' → x ∈ Ft ∨ w.heap.size ≤ x) : Ch (VltT vb tb gb f' n' cs torn) B w F w' := by
  have hvb := (h.lo vb h.vF).2
  refine ⟨F ++ Ft', ⟨Ft', Fg, ?_, k1, h.g.kp k2 (fun x hx hm => h.tg x hm hx), fun hm => ?_, h.vg, fun x hx hm => ?_, by simp [h.vF], fun x hx => by simp [hx], fun x hx => by simp [h.gF x hx], fun x hx => ?_⟩, k2.mono (fun x hx => .inl (h.tF x hx)), fun x hx => ?_⟩
  · rw [k2.block vb hvb h.vt]; exact h.box
  · rcases k3 vb hm with e | e
    · exact h.vt e
    · omega
  · rcases k3 x hx with e | e
    · exact h.tg x e hm
    · have := (h.lo x (h.gF x hm)).2; omega
  · rcases List.mem_append.1 hx with e | e
    · exact ⟨(h.lo x e).1, Nat.lt_of_lt_of_le (h.lo x e).2 k2.size⟩
    · exact k1.lo x e
  · rcases List.mem_append.1 hx with e | e
    · exact .inl e
    · rcases k3 x e with e | e
      · exact .inl (h.tF x e)
      · exact .inr e
/-- Another table in its place. -/
theorem Vlt.put (h : Vlt B w vb tb gb F Ft Fg f n cs torn) {W : World} (hW : Kp [] w W) {tb' : Nat} {Ft' : List Nat} (k1 : Tbl w.heap.size W tb' Ft' f' n') : Ch (VltT vb tb' gb f' n' cs torn) B w F (W.setCell ⟨vb, 0, none⟩ (.pointer (some ⟨tb', 0, none⟩))) := by
  have hvb := (h.lo vb h.vF).2
  have hBw : B ≤ w.heap.size := by have := (h.lo vb h.vF).1; omega
  have hk3 : Kp [vb] W (W.setCell ⟨vb, 0, none⟩ (.pointer (some ⟨tb', 0, none⟩))) := (Kp.refl [vb] W).setCell (.inl (by simp)) _
  have hW1 := h.kp0 hW
  have hne : ∀ x, x ∈ Ft' → x ≠ vb := fun x hx e => by have := (k1.lo x hx).1; omega
  refine ⟨vb :: (Fg ++ Ft'), ⟨Ft', Fg, ?_, (k1.base hBw).kp hk3 (fun x hx e => hne x hx (List.mem_singleton.1 e)), hW1.g.kp hk3 (fun x hx e => h.vg (by rw [← List.mem_singleton.1 e]; exact hx)), fun hm => hne vb hm rfl, h.vg, fun x hx hm => ?_, by simp, fun x hx => by simp [hx], fun x hx => by simp [hx], fun x hx => ?_⟩, (hW.mono (fun x hx => by simp at hx)).trans hk3 (fun x hx => .inl (by rw [List.mem_singleton.1 hx]; exact h.vF)), fun x hx => ?_⟩
  · exact heap_setCell_at 0 _ hW1.box
  · have h1 := (k1.lo x hx).1
    have h2 := (h.lo x (h.gF x hm)).2
    omega
  · rcases List.mem_cons.1 hx with e | e
    · subst e; exact ⟨(h.lo _ h.vF).1, Nat.lt_of_lt_of_le (hW1.lo _ h.vF).2 hk3.size⟩
    · rcases List.mem_append.1 e with e | e
      · exact ⟨(h.lo x (h.gF x e)).1, Nat.lt_of_lt_of_le (hW1.lo x (h.gF x e)).2 hk3.size⟩
      · exact ⟨Nat.le_trans hBw (k1.lo x e).1, Nat.lt_of_lt_of_le (k1.lo x e).2 hk3.size⟩
  · rcases List.mem_cons.1 hx with e | e
    · subst e; exact .inl h.vF
    · rcases List.mem_append.1 e with e | e
      · exact .inl (h.gF x e)
      · exact .inr (k1.lo x e).1
end

/-- The document's court: its box holds the sheet's, the roll, and the seats. -/
structure Crt (B : Nat) (w : World) (cb sb : Nat) (G Gr Gs : List Nat) (bx : Array Value) (f : Nat → List Ver) (n : Nat) (cs : List (List Ver)) (torn : List UInt8) (st : Nat → Option Addr) : Prop where
  r : Rx B w cb 1 bx 61 Gr cs torn
  b0 : bx[0]? = some (.pointer (some ⟨sb, 0, none⟩))
  bs : ∀ i, i < 5 → bx[3 + i]? = some (.pointer (st i))
  sz : bx.size = 8
  s : Sht B w sb Gs f n
  rs : ∀ x, x ∈ Gr → x ∉ Gs
  rG : ∀ x, x ∈ Gr → x ∈ G
  sG : ∀ x, x ∈ Gs → x ∈ G
  lo : ∀ x, x ∈ G → B ≤ x ∧ x < w.heap.size
section
variable {B : Nat} {w w' W : World} {cb sb : Nat} {G Gr Gs S : List Nat} {bx : Array Value} {f f' : Nat → List Ver} {n n' : Nat} {cs cs' : List (List Ver)} {torn torn' : List UInt8} {st : Nat → Option Addr}
theorem Crt.kp (h : Crt B w cb sb G Gr Gs bx f n cs torn st) (hk : Kp S w w') (hS : ∀ x, x ∈ G → x ∉ S) : Crt B w' cb sb G Gr Gs bx f n cs torn st :=
  ⟨h.r.kp hk (fun x hx => hS x (h.rG x hx)), h.b0, h.bs, h.sz, h.s.kp hk (fun x hx => hS x (h.sG x hx)), h.rs, h.rG, h.sG, fun x hx => ⟨(h.lo x hx).1, Nat.lt_of_lt_of_le (h.lo x hx).2 hk.size⟩⟩
theorem Crt.kp0 (h : Crt B w cb sb G Gr Gs bx f n cs torn st) (hk : Kp [] w w') : Crt B w' cb sb G Gr Gs bx f n cs torn st := h.kp hk (fun _ _ => by simp)
theorem Crt.base {C : Nat} (h : Crt B w cb sb G Gr Gs bx f n cs torn st) (hC : C ≤ B) : Crt C w cb sb G Gr Gs bx f n cs torn st :=
  ⟨h.r.base hC, h.b0, h.bs, h.sz, h.s.base hC, h.rs, h.rG, h.sG, fun x hx => ⟨Nat.le_trans hC (h.lo x hx).1, (h.lo x hx).2⟩⟩
theorem Rx.box {o : Nat} {T : TypeId} (h : Rx B w cb o bx T Gr cs torn) : w.heap[cb]? = some (.cells bx T (0, 0)) := by
  obtain ⟨aL, capL, xs, aT, cT, h, e⟩ := h
  exact h.box
theorem Rx.rG {o : Nat} {T : TypeId} (h : Rx B w cb o bx T Gr cs torn) : cb ∈ Gr := by
  obtain ⟨aL, capL, xs, aT, cT, h, e⟩ := h
  exact h.rG
theorem Crt.c0 (h : Crt B w cb sb G Gr Gs bx f n cs torn st) : w.cell? ⟨cb, 0, none⟩ = some (.pointer (some ⟨sb, 0, none⟩)) := cell_of_block h.r.box h.b0
theorem Crt.seat (h : Crt B w cb sb G Gr Gs bx f n cs torn st) {i : Nat} (hi : i < 5) : w.cell? ⟨cb, 3 + i, none⟩ = some (.pointer (st i)) := cell_of_block h.r.box (h.bs i hi)
theorem Crt.fz (h : Crt B w cb sb G Gr Gs bx f n cs torn st) (i : Nat) : w.frozen? ⟨cb, i, none⟩ = false := frozen_of_block i h.r.box
theorem Crt.cG (h : Crt B w cb sb G Gr Gs bx f n cs torn st) : cb ∈ G := h.rG _ h.r.rG
/-- Another cell of the box than the roll's. -/
theorem RxL.other {o : Nat} {T : TypeId} {aL : Option Addr} {capL : Nat} {xs : List El} {aT : Option Addr} {cT : Nat} (h : RxL B w cb o bx T Gr aL capL xs aT cT torn) (i : Nat) (v : Value) (h0 : i ≠ o) (h1 : i ≠ o + 1) :
    RxL B (w.setCell ⟨cb, i, none⟩ v) cb o (bx.setIfInBounds i v) T Gr aL capL xs aT cT torn := by
  have hk : Kp [cb] w (w.setCell ⟨cb, i, none⟩ v) := (Kp.refl [cb] w).setCell (.inl (by simp)) _
  refine ⟨heap_setCell_at i _ h.box, set_there h.b0 h0 _, set_there h.b1 h1 _, h.own.kp hk (fun x hx e => h.ne (by rw [← List.mem_singleton.1 e]; exact hx)), fun e he => ⟨(h.els e he).1.kp hk (fun x hx e2 => ((h.els e he).2 x hx).2.1 (List.mem_singleton.1 e2)), (h.els e he).2⟩, h.tb.kpo hk (fun x hx e => (h.tG x hx).2 (List.mem_singleton.1 e)), h.tn, h.tG, h.ne, h.rG, h.aG, fun x hx => ⟨(h.lo x hx).1, Nat.lt_of_lt_of_le (h.lo x hx).2 hk.size⟩, h.inv, h.tl, Nat.le_trans h.hB hk.size⟩
theorem Rx.other {o : Nat} {T : TypeId} (h : Rx B w cb o bx T Gr cs torn) (i : Nat) (v : Value) (h0 : i ≠ o) (h1 : i ≠ o + 1) : Rx B (w.setCell ⟨cb, i, none⟩ v) cb o (bx.setIfInBounds i v) T Gr cs torn := by
  obtain ⟨aL, capL, xs, aT, cT, h, e⟩ := h
  exact ⟨aL, capL, xs, aT, cT, h.other i v h0 h1, e⟩
end
def CrtT (cb sb : Nat) (f : Nat → List Ver) (n : Nat) (cs : List (List Ver)) (torn : List UInt8) (st : Nat → Option Addr) : Thing where
  holds B w G := ∃ Gr Gs bx, Crt B w cb sb G Gr Gs bx f n cs torn st
  kp := fun ⟨Gr, Gs, bx, h⟩ hk hS => ⟨Gr, Gs, bx, h.kp hk hS⟩
  lo := fun ⟨_, _, _, h⟩ => h.lo
  base := fun ⟨Gr, Gs, bx, h⟩ hC => ⟨Gr, Gs, bx, h.base hC⟩
section
variable {B : Nat} {w w' W : World} {cb sb : Nat} {G Gr Gs S : List Nat} {bx : Array Value} {f f' : Nat → List Ver} {n n' : Nat} {cs cs' : List (List Ver)} {torn torn' : List UInt8} {st : Nat → Option Addr}
/-- Another one at a seat. -/
theorem Crt.sit (h : Crt B w cb sb G Gr Gs bx f n cs torn st) {i : Nat} (hi : i < 5) (p : Option Addr) : Ch (CrtT cb sb f n cs torn (upd st i p)) B w G (w.setCell ⟨cb, 3 + i, none⟩ (.pointer p)) := by
  have hk : Kp [cb] w (w.setCell ⟨cb, 3 + i, none⟩ (.pointer p)) := (Kp.refl [cb] w).setCell (.inl (by simp)) _
  refine ⟨G, ⟨Gr, Gs, bx.setIfInBounds (3 + i) (.pointer p), h.r.other _ _ (by omega) (by omega), set_there h.b0 (by omega) _, fun j hj => ?_, by simp [h.sz], h.s.kp hk (fun x hx e => h.rs cb h.r.rG (by rw [← List.mem_singleton.1 e]; exact hx)), h.rs, h.rG, h.sG, fun x hx => ⟨(h.lo x hx).1, Nat.lt_of_lt_of_le (h.lo x hx).2 hk.size⟩⟩, hk.mono (fun x hx => .inl (by rw [List.mem_singleton.1 hx]; exact h.cG)), fun x hx => .inl hx⟩
  by_cases e : j = i
  · subst e
    rw [set_here (h.bs j hj), upd_same]
  · rw [set_there (h.bs j hj) (by omega), upd_other _ _ _ e]
/-- Another roll. -/
theorem Crt.roll (h : Crt B w cb sb G Gr Gs bx f n cs torn st) (k : RxTo B w cb 1 bx 61 Gr cs' torn' w') : Ch (CrtT cb sb f n cs' torn' st) B w G w' := by
  obtain ⟨Gr', bx', k1, kb, k2, k3⟩ := k
  refine ⟨G ++ Gr', ⟨Gr', Gs, bx', k1, by rw [kb.2 0 (by omega) (by omega)]; exact h.b0, fun i hi => by rw [kb.2 (3 + i) (by omega) (by omega)]; exact h.bs i hi, by rw [kb.1]; exact h.sz, h.s.kp k2 (fun x hx hm => h.rs x hm hx), fun x hx hm => ?_, fun x hx => by simp [hx], fun x hx => by simp [h.sG x hx], fun x hx => ?_⟩, k2.mono (fun x hx => .inl (h.rG x hx)), fun x hx => ?_⟩
  · rcases k3 x hx with e | e
    · exact h.rs x e hm
    · have := (h.lo x (h.sG x hm)).2; omega
  · rcases List.mem_append.1 hx with e | e
    · exact ⟨(h.lo x e).1, Nat.lt_of_lt_of_le (h.lo x e).2 k2.size⟩
    · exact k1.lo x e
  · rcases List.mem_append.1 hx with e | e
    · exact .inl e
    · rcases k3 x e with e | e
      · exact .inl (h.rG x e)
      · exact .inr e
/-- Its sheet changed. -/
theorem Crt.sheet (h : Crt B w cb sb G Gr Gs bx f n cs torn st) {Gs' : List Nat} (k1 : Sht B w' sb Gs' f' n') (k2 : Kp Gs w w') (k3 : ∀ x, x ∈ Gs' → x ∈ Gs ∨ w.heap.size ≤ x) : Ch (CrtT cb sb f' n' cs torn st) B w G w' := by
  refine ⟨G ++ Gs', ⟨Gr, Gs', bx, h.r.kp k2 h.rs, h.b0, h.bs, h.sz, k1, fun x hx hm => ?_, fun x hx => by simp [h.rG x hx], fun x hx => by simp [hx], fun x hx => ?_⟩, k2.mono (fun x hx => .inl (h.sG x hx)), fun x hx => ?_⟩
  · rcases k3 x hm with e | e
    · exact h.rs x hx e
    · have := (h.lo x (h.rG x hx)).2; omega
  · rcases List.mem_append.1 hx with e | e
    · exact ⟨(h.lo x e).1, Nat.lt_of_lt_of_le (h.lo x e).2 k2.size⟩
    · exact k1.lo x e
  · rcases List.mem_append.1 hx with e | e
    · exact .inl e
    · rcases k3 x e with e | e
      · exact .inl (h.sG x e)
      · exact .inr e
end

/-- A deed, and the document's deed. -/
structure Pr (B : Nat) (w : World) (db wb : Nat) (F H : List Nat) (md y : Int) (rs rs2 : List Int) (ws ws2 : List Ver) : Prop where
  d : Ded w db md y rs ws
  k : Wrk B w wb H md y rs2 ws2
  ne : db ∉ H
  dF : db ∈ F
  kF : ∀ x, x ∈ H → x ∈ F
  lo : ∀ x, x ∈ F → B ≤ x ∧ x < w.heap.size
theorem Wrk.base {B C : Nat} {w : World} {wb : Nat} {H : List Nat} {md y : Int} {rs : List Int} {ws : List Ver} (h : Wrk B w wb H md y rs ws) (hC : C ≤ B) : Wrk C w wb H md y rs ws := by
  obtain ⟨ra, rc, wa, wc, h⟩ := h
  exact ⟨ra, rc, wa, wc, h.box, own_base h.ro hC, own_base h.wo hC, h.rb, h.ab, h.rw, h.bH, fun x hx => ⟨Nat.le_trans hC (h.lo x hx).1, (h.lo x hx).2⟩⟩
def PrT (db wb : Nat) (md y : Int) (rs rs2 : List Int) (ws ws2 : List Ver) : Thing where
  holds B w F := ∃ H, Pr B w db wb F H md y rs rs2 ws ws2
  kp := fun ⟨H, h⟩ hk hS => ⟨H, h.d.kp hk (hS _ h.dF), h.k.kp hk (fun x hx => hS x (h.kF x hx)), h.ne, h.dF, h.kF, fun x hx => ⟨(h.lo x hx).1, Nat.lt_of_lt_of_le (h.lo x hx).2 hk.size⟩⟩
  lo := fun ⟨_, h⟩ => h.lo
  base := fun ⟨H, h⟩ hC => ⟨H, h.d, h.k.base hC, h.ne, h.dF, h.kF, fun x hx => ⟨Nat.le_trans hC (h.lo x hx).1, (h.lo x hx).2⟩⟩
section
variable {B : Nat} {w w' : World} {db wb : Nat} {F H : List Nat} {md y : Int} {rs rs2 rs' : List Int} {ws ws2 ws' : List Ver}
theorem Pr.deed (h : Pr B w db wb F H md y rs rs2 ws ws2) (hd : Ded w' db md y rs' ws') (hk : Kp [db] w w') : Ch (PrT db wb md y rs' rs2 ws' ws2) B w F w' :=
  ⟨F, ⟨H, hd, h.k.kp hk (fun x hx e => h.ne (by rw [← List.mem_singleton.1 e]; exact hx)), h.ne, h.dF, h.kF, fun x hx => ⟨(h.lo x hx).1, Nat.lt_of_lt_of_le (h.lo x hx).2 hk.size⟩⟩, hk.mono (fun x hx => .inl (by rw [List.mem_singleton.1 hx]; exact h.dF)), fun x hx => .inl hx⟩
theorem Pr.work (h : Pr B w db wb F H md y rs rs2 ws ws2) {H' : List Nat} (hw : Wrk B w' wb H' md y rs' ws') (hk : Kp H w w') (hs : ∀ x, x ∈ H' → x ∈ H ∨ w.heap.size ≤ x) : Ch (PrT db wb md y rs rs' ws ws') B w F w' := by
  have hl := (h.lo db h.dF).2
  refine ⟨F ++ H', ⟨H', h.d.kp hk h.ne, hw, fun hm => ?_, by simp [h.dF], fun x hx => by simp [hx], fun x hx => ?_⟩, hk.mono (fun x hx => .inl (h.kF x hx)), fun x hx => ?_⟩
  · rcases hs db hm with e | e
    · exact h.ne e
    · omega
  · rcases List.mem_append.1 hx with e | e
    · exact ⟨(h.lo x e).1, Nat.lt_of_lt_of_le (h.lo x e).2 hk.size⟩
    · exact hw.lo x e
  · rcases List.mem_append.1 hx with e | e
    · exact .inl e
    · rcases hs x e with e | e
      · exact .inl (h.kF x e)
      · exact .inr e
end
end Go.Proofs.Ytehhpmfeaeabgac

/- May of a deed, by its contract. -/
namespace Go.Proofs.Ytehhpmfeaeabgac
open Go.RowKit
set_option maxRecDepth 20000
attribute [local go_sem ↓] Go.wp_at_zero Go.wp_at_succ

/-- The code under way: some key of those that were looked at is stale. -/
def mcd (f : Nat → List Ver) (md y : Int) (rs : List Int) (k : Nat) : Int := if md = 2 ∧ stl f y rs k = true then 11 else 0

theorem cls_mono {f : Nat → List Ver} {y : Int} {ws : List Ver} {k : Nat} (h : cls f y ws k = true) : ∀ m, k ≤ m → cls f y ws m = true := by
  intro m
  induction m with
  | zero => intro hm; have : k = 0 := by omega
            subst this; exact h
  | succ m ih =>
    intro hm
    by_cases e : k = m + 1
    · subst e; exact h
    · simp only [cls]
      split
      · rfl
      · exact ih (by omega)
theorem stl_mono {f : Nat → List Ver} {y : Int} {rs : List Int} {k : Nat} (h : stl f y rs k = true) : ∀ m, k ≤ m → stl f y rs m = true := by
  intro m
  induction m with
  | zero => intro hm; have : k = 0 := by omega
            subst this; exact h
  | succ m ih =>
    intro hm
    by_cases e : k = m + 1
    · subst e; exact h
    · simp only [stl]
      split
      · rfl
      · exact ih (by omega)
theorem cls_yes {f : Nat → List Ver} {y : Int} {ws : List Ver} {k : Nat} {v : Ver} (h : lwr ws k = some v) (hy : y < snc f k) : cls f y ws (k + 1) = true := by
  simp only [cls]; rw [if_pos ⟨by rw [h]; rfl, hy⟩]
theorem cls_old {f : Nat → List Ver} {y : Int} {ws : List Ver} {k : Nat} (hy : snc f k ≤ y) : cls f y ws (k + 1) = cls f y ws k := by
  simp only [cls]; rw [if_neg (fun h => by have := h.2; omega)]
theorem cls_no {f : Nat → List Ver} {y : Int} {ws : List Ver} {k : Nat} (h : lwr ws k = none) : cls f y ws (k + 1) = cls f y ws k := by
  simp only [cls]; rw [if_neg (fun hc => by have := hc.1; rw [h] at this; simp at this)]
theorem stl_yes {f : Nat → List Ver} {y : Int} {rs : List Int} {k : Nat} (h : (k : Int) ∈ rs) (hy : y < snc f k) : stl f y rs (k + 1) = true := by
  simp only [stl]; rw [if_pos ⟨h, hy⟩]
theorem stl_old {f : Nat → List Ver} {y : Int} {rs : List Int} {k : Nat} (hy : snc f k ≤ y) : stl f y rs (k + 1) = stl f y rs k := by
  simp only [stl]; rw [if_neg (fun h => by have := h.2; omega)]
theorem stl_no {f : Nat → List Ver} {y : Int} {rs : List Int} {k : Nat} (h : ¬ (k : Int) ∈ rs) : stl f y rs (k + 1) = stl f y rs k := by
  simp only [stl]; rw [if_neg (fun hc => h hc.1)]
theorem dm_clash {f : Nat → List Ver} {md y : Int} {rs : List Int} {ws : List Ver} (h : cls f y ws 8 = true) : dm f md y rs ws = 10 := by unfold dm; rw [if_pos h]
theorem dm_end {f : Nat → List Ver} {md y : Int} {rs : List Int} {ws : List Ver} (h : cls f y ws 8 = false) : dm f md y rs ws = mcd f md y rs 8 := by unfold dm mcd; rw [if_neg (by simp [h])]
theorem mcd_not {f : Nat → List Ver} {md y : Int} {rs : List Int} {k : Nat} (h : ¬ md = 2) : mcd f md y rs k = 0 := by unfold mcd; rw [if_neg (fun hc => h hc.1)]
theorem mcd_eq {f : Nat → List Ver} {md y : Int} {rs : List Int} {k m : Nat} (h : stl f y rs m = stl f y rs k) : mcd f md y rs m = mcd f md y rs k := by unfold mcd; rw [h]
theorem mcd_yes {f : Nat → List Ver} {md y : Int} {rs : List Int} {k : Nat} (hm : md = 2) (h : stl f y rs k = true) : mcd f md y rs k = 11 := by unfold mcd; rw [if_pos ⟨hm, h⟩]

/-- Since, as May asks it: what it keeps. -/
theorem may_since {B tb n db : Nat} {F : List Nat} {f : Nat → List Ver} {md y : Int} {rs : List Int} {ws : List Ver} {w W : World} {p : Nat} {b0 b1 : Bool} (k : Int) (h : Tbl B w tb F f n) (hd : Ded w db md y rs ws) (hW : Kp [] w W)
    (c0 : W.cell? ⟨p, 0, none⟩ = some (.bool b0)) (c1 : W.cell? ⟨p, 1, none⟩ = some (.bool b1)) (s : Int) (hs : snc f k = s) :
    Calls Try.prog 30 #[.pointer (some ⟨tb, 0, none⟩), .int .i64 k] W fun e w' => e = .returned (.int .i64 s) ∧ w'.cell? ⟨db, 1, none⟩ = some (.int .i64 y) ∧ w'.cell? ⟨db, 0, none⟩ = some (.int .i64 md) ∧ w'.cell? ⟨p, 0, none⟩ = some (.bool b0) ∧ w'.cell? ⟨p, 1, none⟩ = some (.bool b1) ∧ Hid (Kp [] w w') := by
  refine (tsince40 k W (h.kp0 hW)).mono ?_
  rintro e w' ⟨rfl, hk⟩
  have hd' := hd.kp0 (hW.trans0 hk)
  exact ⟨by rw [hs], hd'.ycell, hd'.mcell, hk.cell (p := ⟨p, 0, none⟩) (by simp) c0, hk.cell (p := ⟨p, 1, none⟩) (by simp) c1, hW.trans0 hk⟩

set_option maxHeartbeats 2000000 in
theorem dmay68 {B tb n db : Nat} {F : List Nat} {f : Nat → List Ver} {md y : Int} {rs : List Int} {ws : List Ver} (w : World) (h : Tbl B w tb F f n) (hd : Ded w db md y rs ws) :
    Calls Try.prog 104 #[.pointer (some ⟨db, 0, none⟩), .pointer (some ⟨tb, 0, none⟩)] w fun e w' => e = .returned (.int .i64 (dm f md y rs ws)) ∧ Kp [] w w' := by
  have HT := hide h
  have HD := hide hd
  have HR := hide hd.range
  clear h hd
  have HC0 : Hid (cls f y ws 0 = false) := rfl
  go_enter Try.func104, Try.ntmps104
  go_wp2_with (refine wpList_load_mid rfl 104 _ rfl db 2 rfl _ _ (unhide HR) Try.underlying104 rfl Try.size104 ?_)
  obtain ⟨A, hA, hAk⟩ := notes_ex rs ws
  rw [hA]
  have HA := hide hAk
  clear hA hAk HR
  go_loopw [5, 12] (fun s i wr => ∃ k : Nat, k ≤ 8 ∧ s = .int .i64 (mcd f md y rs k) ∧ i = .int .i64 k ∧ Hid (cls f y ws k = false) ∧ Hid (Kp [] w wr)) (fun _ i _ => 8 - (intOf i).toNat)
  case atStart => exact ⟨0, by omega, by simp [mcd, stl], rfl, HC0, Kp.refl _ _⟩
  case round =>
    obtain ⟨k, hk, rfl, rfl, HC, HK⟩ := hrel
    by_cases hlt8 : k < 8
    · have i0 : (0 : Int) ≤ (k : Int) := by omega
      have i1 : (k : Int) < 8 := by omega
      have hx := (unhide HA) k hlt8
      have hdr := (unhide HD).kp0 (unhide HK)
      have qy := hdr.ycell
      have hdl := hdr.lt
      have HDR := hide hdr
      have HTR := hide ((unhide HT).kp0 (unhide HK))
      clear hdr
      generalize ((lwr ws k).getD dv).t = b2 at *
      generalize ((lwr ws k).getD dv).s = b3 at *
      generalize hsn : snc f k = sn at *
      have HSN := hide hsn
      clear hsn
      by_cases hle : sn ≤ y
      · have HN1 := hide (cls_old (ws := ws) (by rw [unhide HSN]; exact hle))
        have HN2 := hide (mcd_eq (md := md) (stl_old (rs := rs) (by rw [unhide HSN]; exact hle)))
        generalize decide ((k : Int) ∈ rs) = b0 at *
        generalize (lwr ws k).isSome = b1 at *
        go_wp2_with fail
        go_region_with (go_at_call 30; refine (may_since (p := wr.heap.size) (b0 := b0) (b1 := b1) k (unhide HTR) (unhide HDR) ((Kp.refl [] wr).alloc (.cells #[.bool b0, .bool b1, .bool b2, .string b3] 103)).drew (by simp) (by simp) sn (unhide HSN)).mono ?_; rintro e w3 ⟨rfl, z1, z0, z2, z3, HK3⟩)
        all_goals
          go_wp2_with fail
          exact ⟨⟨k + 1, by omega, by rw [unhide HN2], by go_num, by rw [unhide HN1]; exact HC, (unhide HK).trans0 (unhide HK3)⟩, by simp [intOf]; omega⟩
      · have hgt : y < sn := by omega
        cases hv : lwr ws k with
        | some v =>
          have HN := hide (dm_clash (md := md) (rs := rs) (cls_mono (cls_yes hv (by rw [unhide HSN]; exact hgt)) 8 (by omega)))
          rw [hv] at hx
          simp only [Option.isSome_some] at hx
          clear hv
          generalize decide ((k : Int) ∈ rs) = b0 at *
          go_wp2_with fail
          go_region_with (go_at_call 30; refine (may_since (p := wr.heap.size) (b0 := b0) (b1 := true) k (unhide HTR) (unhide HDR) ((Kp.refl [] wr).alloc (.cells #[.bool b0, .bool true, .bool b2, .string b3] 103)).drew (by simp) (by simp) sn (unhide HSN)).mono ?_; rintro e w3 ⟨rfl, z1, z0, z2, z3, HK3⟩)
          all_goals
            go_wp2_with fail
            go_ret
            exact ⟨ret_int (unhide HN).symm, (unhide HK).trans0 (unhide HK3)⟩
        | none =>
          have HN1 := hide (cls_no (f := f) (y := y) hv)
          rw [hv] at hx
          simp only [Option.isSome_none] at hx
          clear hv
          by_cases hr : (k : Int) ∈ rs
          · have hd : decide ((k : Int) ∈ rs) = true := by simp [hr]
            rw [hd] at hx
            clear hd
            by_cases hm : md = 2
            · have HN2 := hide (mcd_yes hm (stl_yes hr (by rw [unhide HSN]; exact hgt)))
              subst hm
              clear hr
              go_wp2_with fail
              go_region_with (go_at_call 30; refine (may_since (p := wr.heap.size) (b0 := true) (b1 := false) k (unhide HTR) (unhide HDR) ((Kp.refl [] wr).alloc (.cells #[.bool true, .bool false, .bool b2, .string b3] 103)).drew (by simp) (by simp) sn (unhide HSN)).mono ?_; rintro e w3 ⟨rfl, z1, z0, z2, z3, HK3⟩)
              all_goals
                go_wp2_with fail
                exact ⟨⟨k + 1, by omega, by rw [unhide HN2], by go_num, by rw [unhide HN1]; exact HC, (unhide HK).trans0 (unhide HK3)⟩, by simp [intOf]; omega⟩
            · have HN2 : Hid (mcd f md y rs (k + 1) = mcd f md y rs k) := by rw [mcd_not hm, mcd_not hm]; exact rfl
              have em : (md == 2) = false := beq_eq_false_iff_ne.2 hm
              clear hr hm
              go_wp2_with fail
              go_region_with (go_at_call 30; refine (may_since (p := wr.heap.size) (b0 := true) (b1 := false) k (unhide HTR) (unhide HDR) ((Kp.refl [] wr).alloc (.cells #[.bool true, .bool false, .bool b2, .string b3] 103)).drew (by simp) (by simp) sn (unhide HSN)).mono ?_; rintro e w3 ⟨rfl, z1, z0, z2, z3, HK3⟩)
              all_goals
                go_wp2_with fail
                exact ⟨⟨k + 1, by omega, by rw [unhide HN2], by go_num, by rw [unhide HN1]; exact HC, (unhide HK).trans0 (unhide HK3)⟩, by simp [intOf]; omega⟩
          · have hd : decide ((k : Int) ∈ rs) = false := by simp [hr]
            rw [hd] at hx
            have HN2 := hide (mcd_eq (md := md) (stl_no (f := f) (y := y) hr))
            clear hd hr
            go_wp2_with fail
            go_region_with (go_at_call 30; refine (may_since (p := wr.heap.size) (b0 := false) (b1 := false) k (unhide HTR) (unhide HDR) ((Kp.refl [] wr).alloc (.cells #[.bool false, .bool false, .bool b2, .string b3] 103)).drew (by simp) (by simp) sn (unhide HSN)).mono ?_; rintro e w3 ⟨rfl, z1, z0, z2, z3, HK3⟩)
            all_goals
              go_wp2_with fail
              exact ⟨⟨k + 1, by omega, by rw [unhide HN2], by go_num, by rw [unhide HN1]; exact HC, (unhide HK).trans0 (unhide HK3)⟩, by simp [intOf]; omega⟩
    · have e : k = 8 := by omega
      subst e
      have HN := hide (dm_end (md := md) (rs := rs) (unhide HC))
      go_wp2_with fail
      go_ret
      exact ⟨ret_int (unhide HN).symm, unhide HK⟩
end Go.Proofs.Ytehhpmfeaeabgac

/- Package vault, by contracts: New, Log, Crash, Begin, writes, Commit, tearLog, Tear. -/
namespace Go.Proofs.Ytehhpmfeaeabgac
open Go.RowKit
set_option maxRecDepth 20000
attribute [local go_sem ↓] Go.wp_at_zero Go.wp_at_succ

theorem vlt_new {w w1 w2 : World} {tb gb : Nat} {Ft Fg : List Nat} {f : Nat → List Ver} {n : Nat} {cs : List (List Ver)} {torn : List UInt8} (h1 : Tbl w.heap.size w1 tb Ft f n) (k1 : Kp [] w w1) (h2 : Lg w1.heap.size w2 gb Fg cs torn) (k2 : Kp [] w1 w2) :
    Vlt w.heap.size (w2.alloc (.cells #[.pointer (some ⟨tb, 0, none⟩), .pointer (some ⟨gb, 0, none⟩)] 47)) w2.heap.size tb gb (w2.heap.size :: (Ft ++ Fg)) Ft Fg f n cs torn := by
  have ka : Kp [] w2 (w2.alloc (.cells #[.pointer (some ⟨tb, 0, none⟩), .pointer (some ⟨gb, 0, none⟩)] 47)) := (Kp.refl [] w2).alloc _
  have hs1 := k1.size
  have hs2 := k2.size
  have hsa : (w2.alloc (.cells #[.pointer (some ⟨tb, 0, none⟩), .pointer (some ⟨gb, 0, none⟩)] 47)).heap.size = w2.heap.size + 1 := by simp
  refine ⟨heap_alloc_new w2 _, (h1.kp0 k2).kp0 ka, (h2.base hs1).kp0 ka, fun hm => ?_, fun hm => ?_, fun x hx hm => ?_, by simp, fun x hx => by simp [hx], fun x hx => by simp [hx], fun x hx => ?_⟩
  · have := (h1.lo _ hm).2; omega
  · have := (h2.lo _ hm).2; omega
  · have := (h1.lo x hx).2
    have := (h2.lo x hm).1
    omega
  · rw [hsa]
    rcases List.mem_cons.1 hx with e | e
    · omega
    · rcases List.mem_append.1 e with e | e
      · have := h1.lo x e; omega
      · have := h2.lo x e; omega

theorem own_addr1 {B : Nat} {w : World} {e : TypeId} {size n cap : Nat} {a : Option Addr} {xs : List Value} (h : w.ownsRow B e size (.slice a n cap) n xs) : ∀ g o, a = some ⟨g, o, none⟩ → B ≤ g ∧ g < w.heap.size := by
  intro g o ea
  subst ea
  exact h.lt g rfl
theorem addr_ob {a : Option Addr} {P : Nat → Prop} (h : ∀ x ∈ ob a, P x) : ∀ g o, a = some ⟨g, o, none⟩ → P g := by
  rintro g o rfl
  exact h g (by simp [ob])

set_option maxHeartbeats 400000 in
theorem vnew (w : World) : Calls Try.prog 40 #[] w fun e w' => ∃ vb tb gb F, e = .returned (.pointer (some ⟨vb, 0, none⟩)) ∧ (VltT vb tb gb (fun _ => [dv]) 0 [] []).holds w.heap.size w' F ∧ Kp [] w w' := by
  go_enter Try.func40, Try.ntmps40
  go_wp2_with fail
  refine (tnew47 w).mono ?_
  rintro e w1 ⟨rfl, ⟨Ft, hT⟩, hk1⟩
  have HT := hide hT
  have HK1 := hide hk1
  clear hT hk1
  generalize ht : w.heap.size = tb at HT ⊢
  have HTB := hide ht
  clear ht
  go_wp2_with fail
  refine (lnew w1).mono ?_
  rintro e w2 ⟨rfl, hL, hk2⟩
  have HL := hide hL
  have HK2 := hide hk2
  clear hL hk2
  generalize hg : w1.heap.size = gb at HL ⊢
  have HGB := hide hg
  clear hg
  go_wp2_with fail
  go_ret
  have e1 := (unhide HTB).symm
  subst e1
  have e2 := (unhide HGB).symm
  subst e2
  exact ⟨_, _, _, _, rfl, ⟨_, _, vlt_new (unhide HT) (unhide HK1) (unhide HL) (unhide HK2)⟩, ((unhide HK1).trans0 (unhide HK2)).alloc _⟩

set_option maxHeartbeats 400000 in
theorem vlog {B vb tb gb n : Nat} {F Ft Fg : List Nat} {f : Nat → List Ver} {cs : List (List Ver)} {torn : List UInt8} (w : World) (h : Vlt B w vb tb gb F Ft Fg f n cs torn) :
    Calls Try.prog 32 #[.pointer (some ⟨vb, 0, none⟩)] w fun e w' => BtEnd (lb cs ++ torn) w e w' := by
  have c1 := h.c1
  have HG := hide h.g
  clear h
  go_enter Try.func32, Try.ntmps32
  go_wp2_with fail
  refine (lbytes w (unhide HG)).mono ?_
  rintro e w1 ⟨a, nb, cap, rfl, q⟩
  have HQ := hide q
  clear q
  go_wp2_with fail
  go_ret
  exact ⟨a, nb, cap, rfl, unhide HQ⟩

set_option maxHeartbeats 400000 in
theorem vcrash {B vb tb gb n : Nat} {F Ft Fg : List Nat} {f : Nat → List Ver} {cs : List (List Ver)} {torn : List UInt8} (w : World) (h : Vlt B w vb tb gb F Ft Fg f n cs torn) :
    Calls Try.prog 43 #[.pointer (some ⟨vb, 0, none⟩)] w fun e w' => e = .returned (.tuple #[]) ∧ ∃ tb', Ch (VltT vb tb' gb (wal0 cs) cs.length cs []) B w F w' := by
  have c1 := h.c1
  have HI := hide h.g.inv
  have HV := hide h
  have HG := hide h.g
  clear h
  go_enter Try.func43, Try.ntmps43
  go_wp2_with fail
  refine (lmend w (unhide HG)).mono ?_
  rintro e w1 ⟨rfl, hL, hk⟩
  obtain ⟨F1, ⟨Ft1, Fg1, h1⟩, k1, s1⟩ := (unhide HV).log ⟨Fg, hL, hk, fun x hx => .inl hx⟩
  have d1 := h1.c1
  have H1 := hide h1
  have K1 := hide k1
  have S1 := hide s1
  clear h1 k1 s1 c1 HG HV hL hk
  go_wp2_with fail
  refine (lbytes w1 (unhide H1).g).mono ?_
  rintro e w2 ⟨a, nb, cap, rfl, hn, hcap, hbyt, hk2⟩
  have HN := hide hn
  have HB := hide hbyt
  have K2 := hide hk2
  have HC := hide hcap
  clear hn hbyt hk2 hcap
  go_wp2_with fail
  refine (ltable25 a nb cap (lb cs ++ []) w2 (unhide HB) (unhide HN) (unhide HC) (by rw [List.append_nil]; have := (unhide HI).b3000; omega)).mono ?_
  rintro e w3 ⟨tb', Ft', p, rfl, hp, hT, hk3⟩
  have K3 := hide hk3
  have HT := hide hT
  rw [List.append_nil, dcs_all (unhide HI)] at HT
  have h3 := (unhide H1).kp0 ((unhide K2).trans0 hk3)
  have d0 := h3.c0
  have f0 := h3.fz 0
  clear h3 hT hk3 hp d1
  go_wp2_with fail
  go_end0
  exact ⟨rfl, tb', Ch.trans (unhide K1) (unhide S1) ((unhide H1).put ((unhide K2).trans0 (unhide K3)) ((unhide HT).base (unhide K2).size))⟩

set_option maxHeartbeats 400000 in
theorem vwrites {B vb tb gb n db : Nat} {F Ft Fg : List Nat} {f : Nat → List Ver} {cs : List (List Ver)} {torn : List UInt8} {md y : Int} {rs : List Int} {ws : List Ver} (w : World) (h : Vlt B w vb tb gb F Ft Fg f n cs torn) (hd : Ded w db md y rs ws) :
    Calls Try.prog 94 #[.pointer (some ⟨vb, 0, none⟩), .pointer (some ⟨db, 0, none⟩)] w fun e w' => LstEnd (if dm f md y rs ws = 0 then wk ws 8 else [], dm f md y rs ws) w e w' := by
  have c0 := h.c0
  have HM := hide (dmay68 w h.t hd)
  have HD := hide hd
  clear h hd
  generalize dm f md y rs ws = z at *
  by_cases hz : z = 0
  · subst hz
    rw [if_pos rfl]
    go_enter Try.func94, Try.ntmps94
    go_wp2_with fail
    refine (unhide HM).mono ?_
    rintro e w1 ⟨rfl, hk1⟩
    have HK1 := hide hk1
    clear hk1 HM
    go_wp2_with fail
    refine (dwrites66 w1 ((unhide HD).kp0 (unhide HK1))).mono ?_
    rintro e w2 ⟨a, cap, rfl, ho, hk2⟩
    have HO := hide ho
    have HK2 := hide hk2
    clear ho hk2
    go_wp2_with fail
    go_ret2
    exact ⟨a, cap, rfl, own_base (unhide HO) (unhide HK1).size, (unhide HK1).trans0 (unhide HK2)⟩
  · rw [if_neg hz]
    go_enter Try.func94, Try.ntmps94
    go_wp2_with fail
    refine (unhide HM).mono ?_
    rintro e w1 ⟨rfl, hk1⟩
    have HK1 := hide hk1
    clear hk1 HM
    go_wp2_with fail
    go_ret2
    exact ⟨none, 0, rfl, World.ownsRow_nil _ _ _ _, unhide HK1⟩

/-- What Begin tells, and leaves. -/
def VbEnd (f : Nat → List Ver) (n : Nat) (md at_ : Int) (w : World) (e : Ending) (w' : World) : Prop :=
  (bcode f n md at_ = 0 ∧ ∃ D, e = .returned (.tuple #[.pointer (some ⟨D, 0, none⟩), .int .i64 0]) ∧ w.heap.size ≤ D ∧ Ded w' D md (bat n md at_) [] [] ∧ Kp [] w w') ∨
  (¬ bcode f n md at_ = 0 ∧ e = .returned (.tuple #[.pointer none, .int .i64 (bcode f n md at_)]) ∧ Kp [] w w')

set_option maxHeartbeats 1000000 in
theorem vbegin {B vb tb gb n : Nat} {F Ft Fg : List Nat} {f : Nat → List Ver} {cs : List (List Ver)} {torn : List UInt8} (md at_ : Int) (w : World) (h : Vlt B w vb tb gb F Ft Fg f n cs torn) :
    Calls Try.prog 73 #[.pointer (some ⟨vb, 0, none⟩), .int .i64 md, .int .i64 at_] w fun e w' => VbEnd f n md at_ w e w' := by
  have c0 := h.c0
  have HT := hide h.t
  obtain ⟨x0, x1⟩ := fmx_le h.t.inv 8 (Nat.le_refl _)
  have hn40 := h.t.inv.n40
  clear h
  by_cases hm : 1 ≤ md ∧ md ≤ 3
  · by_cases h3 : md = 3
    · subst h3
      by_cases hr : at_ < 0 ∨ (n : Int) < at_
      · have hb : bcode f n 3 at_ = 1 := by unfold bcode; rw [if_pos (by omega), if_pos rfl, if_pos hr]
        unfold VbEnd
        rw [hb]
        clear hb
        rcases hr with hr | hr
        · go_enter Try.func73, Try.ntmps73
          go_wp2_with fail
          refine (dnew54 3 at_ w).mono ?_
          rintro e w1 (⟨_, _, rfl, hd, hk⟩ | ⟨hc, _, _⟩)
          rotate_left
          · exact (hc ⟨by omega, by omega⟩).elim
          have HD := hide hd
          have HK := hide hk
          have HT1 := hide ((unhide HT).kp0 hk)
          have d0 : w1.cell? ⟨vb, 0, none⟩ = some (.pointer (some ⟨tb, 0, none⟩)) := hk.cell (by simp) c0
          clear hd hk c0 HT
          generalize hD : w.heap.size = D at HD ⊢
          have HE := hide hD
          clear hD
          go_wp2_with fail
          go_ret2
          exact .inr ⟨by omega, rfl, unhide HK⟩
        · have hr0 : ¬ at_ < 0 := by omega
          go_enter Try.func73, Try.ntmps73
          go_wp2_with fail
          refine (dnew54 3 at_ w).mono ?_
          rintro e w1 (⟨_, _, rfl, hd, hk⟩ | ⟨hc, _, _⟩)
          rotate_left
          · exact (hc ⟨by omega, by omega⟩).elim
          have HD := hide hd
          have HK := hide hk
          have HT1 := hide ((unhide HT).kp0 hk)
          have d0 : w1.cell? ⟨vb, 0, none⟩ = some (.pointer (some ⟨tb, 0, none⟩)) := hk.cell (by simp) c0
          clear hd hk c0 HT
          generalize hD : w.heap.size = D at HD ⊢
          have HE := hide hD
          clear hD
          go_wp2_with fail
          refine (tlast38 w1 (unhide HT1)).mono ?_
          rintro e w2 ⟨rfl, hw⟩
          subst w2
          go_wp2_with fail
          go_ret2
          exact .inr ⟨by omega, rfl, unhide HK⟩
      · by_cases ho : at_ < fmx f 8
        · have hb : bcode f n 3 at_ = 12 := by unfold bcode; rw [if_pos (by omega), if_pos rfl, if_neg hr, if_pos ho]
          unfold VbEnd
          rw [hb]
          clear hb
          have hr0 : ¬ at_ < 0 := by omega
          have hr1 : ¬ (n : Int) < at_ := by omega
          go_enter Try.func73, Try.ntmps73
          go_wp2_with fail
          refine (dnew54 3 at_ w).mono ?_
          rintro e w1 (⟨_, _, rfl, hd, hk⟩ | ⟨hc, _, _⟩)
          rotate_left
          · exact (hc ⟨by omega, by omega⟩).elim
          have HD := hide hd
          have HK := hide hk
          have HT1 := hide ((unhide HT).kp0 hk)
          have d0 : w1.cell? ⟨vb, 0, none⟩ = some (.pointer (some ⟨tb, 0, none⟩)) := hk.cell (by simp) c0
          clear hd hk c0 HT
          generalize hD : w.heap.size = D at HD ⊢
          have HE := hide hD
          clear hD
          go_wp2_with fail
          refine (tlast38 w1 (unhide HT1)).mono ?_
          rintro e w2 ⟨rfl, hw⟩
          subst w2
          go_wp2_with fail
          refine (tfirst42 w1 (unhide HT1)).mono ?_
          rintro e w2 ⟨rfl, hw⟩
          subst w2
          go_wp2_with fail
          go_ret2
          exact .inr ⟨by omega, rfl, unhide HK⟩
        · have hb : bcode f n 3 at_ = 0 := by unfold bcode; rw [if_pos (by omega), if_pos rfl, if_neg hr, if_neg ho]
          unfold VbEnd
          rw [hb]
          clear hb
          have hr0 : ¬ at_ < 0 := by omega
          have hr1 : ¬ (n : Int) < at_ := by omega
          go_enter Try.func73, Try.ntmps73
          go_wp2_with fail
          refine (dnew54 3 at_ w).mono ?_
          rintro e w1 (⟨_, _, rfl, hd, hk⟩ | ⟨hc, _, _⟩)
          rotate_left
          · exact (hc ⟨by omega, by omega⟩).elim
          have HD := hide hd
          have HK := hide hk
          have HT1 := hide ((unhide HT).kp0 hk)
          have d0 : w1.cell? ⟨vb, 0, none⟩ = some (.pointer (some ⟨tb, 0, none⟩)) := hk.cell (by simp) c0
          clear hd hk c0 HT
          generalize hD : w.heap.size = D at HD ⊢
          have HE := hide hD
          clear hD
          go_wp2_with fail
          refine (tlast38 w1 (unhide HT1)).mono ?_
          rintro e w2 ⟨rfl, hw⟩
          subst w2
          go_wp2_with fail
          refine (tfirst42 w1 (unhide HT1)).mono ?_
          rintro e w2 ⟨rfl, hw⟩
          subst w2
          go_wp2_with fail
          go_ret2
          exact .inl ⟨by trivial, D, rfl, by have := unhide HE; omega, by rw [show bat n 3 at_ = at_ from if_pos rfl]; exact unhide HD, unhide HK⟩
    · have hb : bcode f n md at_ = 0 := by unfold bcode; rw [if_pos hm, if_neg h3]
      unfold VbEnd
      rw [hb]
      clear hb
      have hr0 : ¬ (n : Int) < 0 := by omega
      have hr1 : ¬ (n : Int) < (n : Int) := by omega
      have hr2 : ¬ (n : Int) < fmx f 8 := by omega
      go_enter Try.func73, Try.ntmps73
      go_wp2_with fail
      refine (tlast38 w (unhide HT)).mono ?_
      rintro e w0 ⟨rfl, hw⟩
      subst w0
      go_wp2_with fail
      refine (dnew54 md n w).mono ?_
      rintro e w1 (⟨_, _, rfl, hd, hk⟩ | ⟨hc, _, _⟩)
      rotate_left
      · exact (hc ⟨by omega, by omega⟩).elim
      have HD := hide hd
      have HK := hide hk
      have HT1 := hide ((unhide HT).kp0 hk)
      have d0 : w1.cell? ⟨vb, 0, none⟩ = some (.pointer (some ⟨tb, 0, none⟩)) := hk.cell (by simp) c0
      clear hd hk c0 HT
      generalize hD : w.heap.size = D at HD ⊢
      have HE := hide hD
      clear hD
      go_wp2_with fail
      refine (tlast38 w1 (unhide HT1)).mono ?_
      rintro e w2 ⟨rfl, hw⟩
      subst w2
      go_wp2_with fail
      refine (tfirst42 w1 (unhide HT1)).mono ?_
      rintro e w2 ⟨rfl, hw⟩
      subst w2
      go_wp2_with fail
      go_ret2
      exact .inl ⟨by trivial, D, rfl, by have := unhide HE; omega, by rw [show bat n md at_ = n from if_neg h3]; exact unhide HD, unhide HK⟩
  · have hb : bcode f n md at_ = 3 := by unfold bcode; rw [if_neg hm]
    have h3 : ¬ md = 3 := by omega
    unfold VbEnd
    rw [hb]
    clear hb
    go_enter Try.func73, Try.ntmps73
    go_wp2_with fail
    refine (tlast38 w (unhide HT)).mono ?_
    rintro e w0 ⟨rfl, hw⟩
    subst w0
    go_wp2_with fail
    refine (dnew54 md n w).mono ?_
    rintro e w1 (⟨q1, q2, _⟩ | ⟨_, rfl, hw⟩)
    · exact (hm ⟨q1, q2⟩).elim
    subst w1
    go_wp2_with fail
    go_ret2
    exact .inr ⟨by omega, rfl, Kp.refl _ _⟩

set_option maxHeartbeats 1000000 in
theorem vcommit {B vb tb gb n db : Nat} {F Ft Fg : List Nat} {f : Nat → List Ver} {cs : List (List Ver)} {md y : Int} {rs : List Int} {ws : List Ver} (w : World) (h : Vlt B w vb tb gb F Ft Fg f n cs []) (hv : VI f n cs) (hd : Ded w db md y rs ws) (hw : WOk ws) :
    Calls Try.prog 78 #[.pointer (some ⟨vb, 0, none⟩), .pointer (some ⟨db, 0, none⟩)] w fun e w' => e = .returned (.tuple #[.int .i64 (vnum f n cs md y rs ws), .int .i64 (vcode f cs md y rs ws)]) ∧ Ch (VltT vb tb gb (vf f n cs md y rs ws) (vn f n cs md y rs ws) (vcs f cs md y rs ws) []) B w F w' := by
  have HW := hide (vwrites w h hd)
  have HV := hide h
  have hpl := wk_len ws 8
  have HP := hide hw.pf
  have HR := hide hv
  have hn40 := h.t.inv.n40
  clear h hd hw hv
  by_cases hz : dm f md y rs ws = 0
  · rw [if_pos hz, hz] at HW
    by_cases hl : (wk ws 8).length = 0
    · obtain ⟨e1, e2⟩ := v_none (cs := cs) hz hl
      obtain ⟨e3, e4, e5, e6⟩ := v_not (n := n) e2
      rw [e1, e3, e4, e5, e6]
      clear e1 e2 e3 e4 e5 e6 HR HP
      go_enter Try.func78, Try.ntmps78
      go_wp2_with fail
      refine (unhide HW).mono ?_
      rintro e w1 ⟨a, cap, rfl, _, hk⟩
      rw [hl]
      have HK := hide hk
      clear hk hl
      go_wp2_with fail
      go_ret2
      exact ⟨rfl, Ch.same ⟨Ft, Fg, unhide HV⟩ (unhide HK)⟩
    · have HL := hide hl
      by_cases hc : lcode cs (wk ws 8) = 0
      · obtain ⟨e1, e2⟩ := v_yes hz hl hc
        obtain ⟨e3, e4, e5, e6⟩ := v_did (n := n) e2
        rw [e1, e3, e4, e5, e6]
        clear e1 e2 e3 e4 e5 e6
        obtain ⟨q1, q2, q3⟩ := (unhide HR).room hc
        have hlp : lput cs (wk ws 8) = cs ++ [wk ws 8] := by unfold lput; rw [if_pos hc]
        have HLP := hide hlp
        have HC := hide hc
        have HQ := hide (And.intro q1 (And.intro q2 q3))
        clear q1 q2 q3 hlp hc hz
        generalize wk ws 8 = ps at *
        go_enter Try.func78, Try.ntmps78
        go_wp2_with fail
        refine (unhide HW).mono ?_
        rintro e w1 ⟨a, cap, rfl, ho, hk⟩
        dsimp only at ho ⊢
        have h1 := (unhide HV).kp0 hk
        have d1 := h1.c1
        have HPR := hide (slo_prs (slo_own ho rfl) (unhide HP))
        have HO := hide ho
        have H1 := hide h1
        have HK := hide hk
        clear ho h1 hk HW
        go_wp2_with fail
        refine (lput31 a cap ps w1 (unhide H1).g (unhide HPR) (by omega)).mono ?_
        rintro e w2 ⟨rfl, hL⟩
        rw [unhide HC]
        rw [unhide HLP] at hL
        obtain ⟨F2, ⟨Ft2, Fg2, h2⟩, k2, s2⟩ := (unhide H1).log hL
        have hfar : ∀ g o, a = some ⟨g, o, none⟩ → g ∉ F := fun g o ea hm => by
          have h3 := (own_addr1 (unhide HO) g o ea).1
          have h4 := ((unhide HV).lo g hm).2
          omega
        have hfar2 : ∀ g o, a = some ⟨g, o, none⟩ → g ∉ Ft2 := fun g o ea hm => by
          rcases s2 g (h2.tF g hm) with e | e
          · exact hfar g o ea e
          · have h3 := (own_addr1 (unhide HO) g o ea).2
            omega
        have HPR2 := hide ((unhide HPR).kp k2 hfar)
        have HFAR := hide hfar2
        have d0 := h2.c0
        have H2 := hide h2
        have K2 := hide k2
        have S2 := hide s2
        clear h2 k2 s2 hL hfar hfar2 d1
        go_wp2_with fail
        refine (twrite45 a cap ps w2 (unhide H2).t (unhide HPR2) (fun _ => unhide HFAR) (by omega)).mono ?_
        rintro e w3 ⟨rfl, Ft3, hT, hk3, hs3⟩
        rw [(unhide HQ).1, (unhide HQ).2.2]
        rw [(unhide HQ).2.1] at hT
        have HZ := hide (Ch.after (unhide HK) (Ch.trans (unhide K2) (unhide S2) ((unhide H2).table hT hk3 hs3)))
        clear hT hk3 hs3
        go_wp2_with fail
        go_ret2
        exact ⟨rfl, unhide HZ⟩
      · obtain ⟨e1, e2⟩ := v_full hz hl hc
        obtain ⟨e3, e4, e5, e6⟩ := v_not (n := n) e2
        rw [e1, e3, e4, e5, e6]
        clear e1 e2 e3 e4 e5 e6
        have hlp : lput cs (wk ws 8) = cs := by unfold lput; rw [if_neg hc]
        have HLP := hide hlp
        clear hlp hz
        generalize hzz : lcode cs (wk ws 8) = z at *
        have HZZ := hide hzz
        clear hzz
        generalize wk ws 8 = ps at *
        go_enter Try.func78, Try.ntmps78
        go_wp2_with fail
        refine (unhide HW).mono ?_
        rintro e w1 ⟨a, cap, rfl, ho, hk⟩
        dsimp only at ho ⊢
        have h1 := (unhide HV).kp0 hk
        have d1 := h1.c1
        have HPR := hide (slo_prs (slo_own ho rfl) (unhide HP))
        have H1 := hide h1
        have HK := hide hk
        clear ho h1 hk HW
        go_wp2_with fail
        refine (lput31 a cap ps w1 (unhide H1).g (unhide HPR) (by omega)).mono ?_
        rintro e w2 ⟨rfl, hL⟩
        rw [unhide HZZ]
        rw [unhide HLP] at hL
        have HX := hide (Ch.after (unhide HK) ((unhide H1).log hL))
        clear hL d1
        go_wp2_with fail
        go_ret2
        exact ⟨rfl, unhide HX⟩
  · rw [if_neg hz] at HW
    obtain ⟨e1, e2⟩ := v_may (cs := cs) hz
    obtain ⟨e3, e4, e5, e6⟩ := v_not (n := n) e2
    rw [e1, e3, e4, e5, e6]
    clear e1 e2 e3 e4 e5 e6 HR HP
    generalize dm f md y rs ws = z at *
    go_enter Try.func78, Try.ntmps78
    go_wp2_with fail
    refine (unhide HW).mono ?_
    rintro e w1 ⟨a, cap, rfl, _, hk⟩
    have HK := hide hk
    clear hk HW
    go_wp2_with fail
    go_ret2
    exact ⟨rfl, Ch.same ⟨Ft, Fg, unhide HV⟩ (unhide HK)⟩

set_option maxHeartbeats 1000000 in
theorem vtearLog {B vb tb gb n db : Nat} {F Ft Fg : List Nat} {f : Nat → List Ver} {cs : List (List Ver)} {md y : Int} {rs : List Int} {ws : List Ver} (keep : Int) (w : World) (h : Vlt B w vb tb gb F Ft Fg f n cs []) (hd : Ded w db md y rs ws) (hw : WOk ws) :
    Calls Try.prog 96 #[.pointer (some ⟨vb, 0, none⟩), .pointer (some ⟨db, 0, none⟩), .int .i64 keep] w fun e w' => e = .returned (.int .i64 (vcode f cs md y rs ws)) ∧ ∃ torn, Ch (VltT vb tb gb f n (tcs f cs md y rs ws keep) torn) B w F w' := by
  have HW := hide (vwrites w h hd)
  have HV := hide h
  have hpl := wk_len ws 8
  have HP := hide hw.pf
  clear h hd hw
  by_cases hz : dm f md y rs ws = 0
  · rw [if_pos hz, hz] at HW
    by_cases hl : (wk ws 8).length = 0
    · rw [(v_none (cs := cs) hz hl).1, t_none (f := f) (cs := cs) (md := md) (y := y) (rs := rs) (keep := keep) hl]
      clear HP
      go_enter Try.func96, Try.ntmps96
      go_wp2_with fail
      refine (unhide HW).mono ?_
      rintro e w1 ⟨a, cap, rfl, _, hk⟩
      rw [hl]
      have HK := hide hk
      clear hk hl
      go_wp2_with fail
      go_ret
      exact ⟨rfl, [], Ch.same ⟨Ft, Fg, unhide HV⟩ (unhide HK)⟩
    · have hvc : vcode f cs md y rs ws = lcode cs (wk ws 8) := by unfold vcode; rw [if_pos hz, if_neg hl]
      rw [hvc, t_tear hz hl]
      clear hvc hz
      generalize wk ws 8 = ps at *
      go_enter Try.func96, Try.ntmps96
      go_wp2_with fail
      refine (unhide HW).mono ?_
      rintro e w1 ⟨a, cap, rfl, ho, hk⟩
      dsimp only at ho ⊢
      have h1 := (unhide HV).kp0 hk
      have d1 := h1.c1
      have HPR := hide (slo_prs (slo_own ho rfl) (unhide HP))
      have H1 := hide h1
      have HK := hide hk
      clear ho h1 hk HW
      go_wp2_with fail
      refine (ltear30 a cap ps keep w1 (unhide H1).g (unhide HPR) (by omega)).mono ?_
      rintro e w2 ⟨rfl, hL⟩
      have HX := hide (Ch.after (unhide HK) ((unhide H1).log hL))
      clear hL d1
      go_wp2_with fail
      go_ret
      exact ⟨rfl, _, unhide HX⟩
  · rw [if_neg hz] at HW
    rw [(v_may (cs := cs) hz).1, t_may hz]
    clear HP
    generalize dm f md y rs ws = z at *
    go_enter Try.func96, Try.ntmps96
    go_wp2_with fail
    refine (unhide HW).mono ?_
    rintro e w1 ⟨a, cap, rfl, _, hk⟩
    have HK := hide hk
    clear hk HW
    go_wp2_with fail
    go_ret
    exact ⟨rfl, [], Ch.same ⟨Ft, Fg, unhide HV⟩ (unhide HK)⟩

set_option maxHeartbeats 1000000 in
theorem vtear {B vb tb gb n db : Nat} {F Ft Fg : List Nat} {f : Nat → List Ver} {cs : List (List Ver)} {md y : Int} {rs : List Int} {ws : List Ver} (keep : Int) (w : World) (h : Vlt B w vb tb gb F Ft Fg f n cs []) (hv : VI f n cs) (hd : Ded w db md y rs ws) (hw : WOk ws) :
    Calls Try.prog 79 #[.pointer (some ⟨vb, 0, none⟩), .pointer (some ⟨db, 0, none⟩), .int .i64 keep] w fun e w' => e = .returned (.tuple #[.int .i64 (tnum f cs md y rs ws keep), .int .i64 (vcode f cs md y rs ws)]) ∧ ∃ tb', Ch (VltT vb tb' gb (wal0 (tcs f cs md y rs ws keep)) (tcs f cs md y rs ws keep).length (tcs f cs md y rs ws keep) []) B w F w' := by
  have HG := hide (vtearLog keep w h hd hw)
  have c0 := h.c0
  have HV := hide h
  have hn40 := h.t.inv.n40
  have hlen := hv.len
  clear h hd hw hv
  rcases tcs_cases (f := f) (cs := cs) (md := md) (y := y) (rs := rs) (ws := ws) (keep := keep) with hcs | ⟨hcs, hc0, _⟩
  · rw [tnum_same hcs]
    have HCS := hide hcs
    rw [hcs]
    clear hcs
    have HLEN := hide hlen
    clear hlen
    generalize hzz : vcode f cs md y rs ws = z at *
    clear hzz
    by_cases hz : z = 0
    · subst hz
      go_enter Try.func79, Try.ntmps79
      go_wp2_with fail
      refine (tlast38 w (unhide HV).t).mono ?_
      rintro e w0 ⟨rfl, hw0⟩
      subst w0
      go_wp2_with fail
      refine (unhide HG).mono ?_
      rintro e w1 ⟨rfl, torn, F1, ⟨Ft1, Fg1, h1⟩, k1, s1⟩
      have H1 := hide h1
      have K1 := hide k1
      have S1 := hide s1
      clear h1 k1 s1 HG
      rw [unhide HCS] at H1
      go_wp2_with fail
      refine (vcrash w1 (unhide H1)).mono ?_
      rintro e w2 ⟨rfl, tb2, F2, ⟨Ft2, Fg2, h2⟩, k2, s2⟩
      have d0 := h2.c0
      have H2 := hide h2
      have HX := hide (Ch.trans (o' := VltT vb tb2 gb (wal0 cs) cs.length cs []) (unhide K1) (unhide S1) ⟨F2, ⟨Ft2, Fg2, h2⟩, k2, s2⟩)
      clear h2 k2 s2 c0
      go_wp2_with fail
      refine (tlast38 w2 (unhide H2).t).mono ?_
      rintro e w3 ⟨rfl, hw3⟩
      subst w3
      rw [← unhide HLEN]
      go_wp2_with fail
      go_ret2
      exact ⟨rfl, tb2, unhide HX⟩
    · go_enter Try.func79, Try.ntmps79
      go_wp2_with fail
      refine (tlast38 w (unhide HV).t).mono ?_
      rintro e w0 ⟨rfl, hw0⟩
      subst w0
      go_wp2_with fail
      refine (unhide HG).mono ?_
      rintro e w1 ⟨rfl, torn, F1, ⟨Ft1, Fg1, h1⟩, k1, s1⟩
      have H1 := hide h1
      have K1 := hide k1
      have S1 := hide s1
      clear h1 k1 s1 HG
      rw [unhide HCS] at H1
      go_wp2_with fail
      refine (vcrash w1 (unhide H1)).mono ?_
      rintro e w2 ⟨rfl, tb2, F2, ⟨Ft2, Fg2, h2⟩, k2, s2⟩
      have d0 := h2.c0
      have H2 := hide h2
      have HX := hide (Ch.trans (o' := VltT vb tb2 gb (wal0 cs) cs.length cs []) (unhide K1) (unhide S1) ⟨F2, ⟨Ft2, Fg2, h2⟩, k2, s2⟩)
      clear h2 k2 s2 c0
      go_wp2_with fail
      go_ret2
      exact ⟨rfl, tb2, unhide HX⟩
  · rw [tnum_more hcs, hc0]
    rw [hc0] at HG
    have HCS := hide hcs
    rw [hcs]
    clear hcs hc0
    have HLEN := hide hlen
    have hN : ¬ ((cs ++ [wk ws 8]).length : Int) = (n : Int) := by have : (cs ++ [wk ws 8]).length = cs.length + 1 := (by simp); omega
    have hN2 : ((cs ++ [wk ws 8]).length : Int) = (cs.length : Int) + 1 := by simp
    generalize cs ++ [wk ws 8] = cs2 at *
    have HN2 := hide hN2
    clear hlen hN2
    go_enter Try.func79, Try.ntmps79
    go_wp2_with fail
    refine (tlast38 w (unhide HV).t).mono ?_
    rintro e w0 ⟨rfl, hw0⟩
    subst w0
    go_wp2_with fail
    refine (unhide HG).mono ?_
    rintro e w1 ⟨rfl, torn, F1, ⟨Ft1, Fg1, h1⟩, k1, s1⟩
    have H1 := hide h1
    have K1 := hide k1
    have S1 := hide s1
    clear h1 k1 s1 HG
    rw [unhide HCS] at H1
    go_wp2_with fail
    refine (vcrash w1 (unhide H1)).mono ?_
    rintro e w2 ⟨rfl, tb2, F2, ⟨Ft2, Fg2, h2⟩, k2, s2⟩
    have d0 := h2.c0
    have H2 := hide h2
    have HX := hide (Ch.trans (o' := VltT vb tb2 gb (wal0 cs2) cs2.length cs2 []) (unhide K1) (unhide S1) ⟨F2, ⟨Ft2, Fg2, h2⟩, k2, s2⟩)
    clear h2 k2 s2 c0
    go_wp2_with fail
    refine (tlast38 w2 (unhide H2).t).mono ?_
    rintro e w3 ⟨rfl, hw3⟩
    subst w3
    go_wp2_with fail
    refine (tlast38 w2 (unhide H2).t).mono ?_
    rintro e w3 ⟨rfl, hw3⟩
    subst w3
    go_wp2_with fail
    go_ret2
    exact ⟨by rw [unhide HN2]; rfl, tb2, unhide HX⟩

end Go.Proofs.Ytehhpmfeaeabgac

/- May of the document's deed, by its contract. -/
namespace Go.Proofs.Ytehhpmfeaeabgac
open Go.RowKit
set_option maxRecDepth 20000
attribute [local go_sem ↓] Go.wp_at_zero Go.wp_at_succ

theorem snc_key {f : Nat → List Ver} {k : Nat} (hk : k < 8) : snc f k = va (f k) ((f k).length - 1) := by
  unfold snc
  rw [if_pos (by simp [keyB]; omega), Int.toNat_natCast]
theorem sl_last {B : Nat} {w : World} {sb : Nat} {G : List Nat} {g o cap : Nat → Nat} {f : Nat → List Ver} {n : Nat} {k : Nat} (W : World) (h : ShtL B w sb G g o cap f n) (hW : Kp [] w W) (hk : k < 8) (s : Int) (hs : snc f k = s) :
    Calls Try.prog 64 #[.slice (some ⟨g k, o k, none⟩) (f k).length (cap k)] W fun e w' => e = .returned (.int .i64 s) ∧ w' = W := by
  have h' := h.kp hW (fun _ _ => by simp)
  refine (llast16 (g k) (o k) (cap k) W (h'.sla k hk) (h'.inv.pos k hk) (by have := h'.inv.len41 hk; omega)).mono ?_
  rintro e w' ⟨rfl, rfl⟩
  exact ⟨by rw [← hs, snc_key hk], rfl⟩

set_option maxHeartbeats 2000000 in
theorem wmay69 {B sb n wb : Nat} {G H : List Nat} {f : Nat → List Ver} {md y : Int} {rs : List Int} {ws : List Ver} (w : World) (h : Sht B w sb G f n) (hd : Wrk B w wb H md y rs ws) (hrl : rs.length ≤ 900) (hwl : ws.length ≤ 900) :
    Calls Try.prog 55 #[.pointer (some ⟨wb, 0, none⟩), .pointer (some ⟨sb, 0, none⟩)] w fun e w' => e = .returned (.int .i64 (dm f md y rs ws)) ∧ Kp [] w w' := by
  obtain ⟨g, o, cap, h⟩ := h
  have HT := hide h
  have HD := hide hd
  clear h hd
  have HC0 : Hid (cls f y ws 0 = false) := rfl
  go_enter Try.func55, Try.ntmps55
  go_wp2_with fail
  go_loopw [5] (fun i wr => ∃ k : Nat, k ≤ 8 ∧ i = .int .i64 k ∧ Hid (cls f y ws k = false) ∧ Hid (Kp [] w wr)) (fun i _ => 8 - (intOf i).toNat)
  case atStart => exact ⟨0, by omega, rfl, HC0, Kp.refl _ _⟩
  case round =>
    obtain ⟨k, hk, rfl, HC, HK⟩ := hrel
    by_cases hlt8 : k < 8
    · have i0 : (0 : Int) ≤ (k : Int) := by omega
      have i1 : (k : Int) < 8 := by omega
      go_wp2_with fail
      refine (wlast81 k _ ((unhide HD).kp0 (unhide HK)) (by omega)).mono ?_
      rintro e w1 ⟨rfl, hkp⟩
      have hk1 := (unhide HK).trans0 hkp
      generalize hsn : snc f k = sn at *
      have HSN := hide hsn
      clear hsn
      cases hv : lwr ws k with
      | some v =>
        simp only [Option.isSome_some, Option.getD_some]
        have hk2 := hk1.alloc (.cells #[.bool v.t, .string v.s] 31)
        obtain ⟨ra, rc, wa, wc, hw1⟩ := (unhide HD).kp0 hk1
        have ht1 := (unhide HT).kp hk1 (fun _ _ => by simp)
        have qL := ht1.kcell hlt8
        have qy := hw1.c1
        have hlb := lt_of_block hw1.box
        have hls := (ht1.lo sb ht1.sG).2
        have HK2 := hide hk2
        have HV := hide hv
        clear hkp hk1 hk2 hw1 ht1 hv
        by_cases hgt : y < sn
        · have HN := hide (dm_clash (md := md) (rs := rs) (cls_mono (cls_yes (unhide HV) (by rw [unhide HSN]; exact hgt)) 8 (by omega)))
          go_wp2_with fail
          go_quiet ((go_at_call 64; exact Calls.quiet_of_same (sl_last _ (unhide HT) ((unhide HK2).drewN _) hlt8 sn (unhide HSN))))
          go_wp2
          go_ret
          exact ⟨ret_int (unhide HN).symm, (unhide HK2).drewN _⟩
        · have HN := hide (cls_old (ws := ws) (f := f) (y := y) (k := k) (by rw [unhide HSN]; omega))
          have hle : sn ≤ y := by omega
          go_wp2_with fail
          go_quiet ((go_at_call 64; exact Calls.quiet_of_same (sl_last _ (unhide HT) ((unhide HK2).drewN _) hlt8 sn (unhide HSN))))
          go_wp2
          exact ⟨⟨k + 1, by omega, by go_num, by rw [unhide HN]; exact HC, (unhide HK2).drewN _⟩, by simp [intOf]; omega⟩
      | none =>
        simp only [Option.isSome_none, Option.getD_none]
        have HK2 := hide (hk1.alloc (.cells #[.bool dv.t, .string dv.s] 31))
        have HN := hide (cls_no (f := f) (y := y) hv)
        clear hkp hk1 hv
        go_wp2_with fail
        go_quiet (fail)
        go_wp2
        exact ⟨⟨k + 1, by omega, by go_num, by rw [unhide HN]; exact HC, (unhide HK2).drewN _⟩, by simp [intOf]; omega⟩
    · have e : k = 8 := by omega
      subst e
      have HE := hide (dm_end (md := md) (rs := rs) (unhide HC))
      have HM0 : Hid (mcd f md y rs 0 = 0) := by simp [mcd, stl]; exact trivial
      have HK0 := HK
      clear HC
      go_wp2_with fail
      go_loopw [8] (fun i wr => ∃ k : Nat, k ≤ 8 ∧ i = .int .i64 k ∧ Hid (mcd f md y rs k = 0) ∧ Hid (Kp [] w wr)) (fun i _ => 8 - (intOf i).toNat)
      case atStart => exact ⟨0, by omega, rfl, HM0, HK0⟩
      case round =>
        obtain ⟨k, hk, rfl, HC, HK⟩ := hrel
        by_cases hlt8 : k < 8
        · have i0 : (0 : Int) ≤ (k : Int) := by omega
          have i1 : (k : Int) < 8 := by omega
          obtain ⟨ra, rc, wa, wc, hw1⟩ := (unhide HD).kp0 (unhide HK)
          have ht1 := (unhide HT).kp (unhide HK) (fun _ _ => by simp)
          have qL := ht1.kcell hlt8
          have qm := hw1.c0
          have qy := hw1.c1
          have qr := hw1.c2
          have HS := hide hw1.rsl
          clear hw1 ht1
          generalize hsn : snc f k = sn at *
          have HSN := hide hsn
          clear hsn
          by_cases hm : md = 2
          · by_cases hr : (k : Int) ∈ rs
            · have hd : decide ((k : Int) ∈ rs) = true := by simp [hr]
              have HD2 := hide hd
              by_cases hgt : y < sn
              · have HN : Hid (dm f md y rs ws = 11) := (unhide HE).trans (mcd_yes hm (stl_mono (stl_yes hr (by rw [unhide HSN]; exact hgt)) 8 (by omega)))
                subst hm
                clear hr hd
                go_wp2_with fail
                go_quiet ((first | (go_at_call 39; exact Calls.quiet_of_same ((in72 ra rc k _ ((unhide HS).kp0 ((Kp.refl [] _).drewN _)) (by omega)).mono (fun e w' q => ⟨by rw [q.1, unhide HD2], q.2⟩))) | (go_at_call 64; exact Calls.quiet_of_same (sl_last _ (unhide HT) ((unhide HK).drewN _) hlt8 sn (unhide HSN)))))
                go_wp2
                go_ret
                exact ⟨ret_int (unhide HN).symm, (unhide HK).drewN _⟩
              · have HN := hide ((mcd_eq (md := md) (stl_old (rs := rs) (f := f) (y := y) (k := k) (by rw [unhide HSN]; omega))).trans (unhide HC))
                have hle : sn ≤ y := by omega
                subst hm
                clear hr hd
                go_wp2_with fail
                go_quiet ((first | (go_at_call 39; exact Calls.quiet_of_same ((in72 ra rc k _ ((unhide HS).kp0 ((Kp.refl [] _).drewN _)) (by omega)).mono (fun e w' q => ⟨by rw [q.1, unhide HD2], q.2⟩))) | (go_at_call 64; exact Calls.quiet_of_same (sl_last _ (unhide HT) ((unhide HK).drewN _) hlt8 sn (unhide HSN)))))
                go_wp2
                refine ⟨⟨_, _, _, _, _, _, _, _, _, _, _, _, _, _, _, _, _, _, _, _, _, _, _, _, _, _, _, _, _, _, _, _, _, ?_, rfl⟩, by simp [intOf]; omega⟩
                exact ⟨k + 1, by omega, by go_num, HN, (unhide HK).drewN _⟩
            · have hd : decide ((k : Int) ∈ rs) = false := by simp [hr]
              have HD2 := hide hd
              have HN := hide ((mcd_eq (md := md) (stl_no (f := f) (y := y) hr)).trans (unhide HC))
              subst hm
              clear hr hd
              go_wp2_with fail
              go_quiet ((go_at_call 39; exact Calls.quiet_of_same ((in72 ra rc k _ ((unhide HS).kp0 ((Kp.refl [] _).drewN _)) (by omega)).mono (fun e w' q => ⟨by rw [q.1, unhide HD2], q.2⟩))))
              go_wp2
              exact ⟨⟨k + 1, by omega, by go_num, HN, (unhide HK).drewN _⟩, by simp [intOf]; omega⟩
          · have HN := hide (mcd_not (f := f) (y := y) (rs := rs) (k := k + 1) hm)
            have em : (md == 2) = false := beq_eq_false_iff_ne.2 hm
            clear hm
            go_wp2_with fail
            go_quiet (fail)
            go_wp2
            exact ⟨⟨k + 1, by omega, by go_num, HN, (unhide HK).drewN _⟩, by simp [intOf]; omega⟩
        · have e : k = 8 := by omega
          subst e
          have HN := hide ((unhide HE).trans (unhide HC))
          go_wp2_with fail
          go_ret
          exact ⟨ret_int (unhide HN).symm, unhide HK⟩
end Go.Proofs.Ytehhpmfeaeabgac

/- The document's court, by contracts: NewCourt, Begin, commit, again. -/
namespace Go.Proofs.Ytehhpmfeaeabgac
open Go.RowKit
set_option maxRecDepth 20000
attribute [local go_sem ↓] Go.wp_at_zero Go.wp_at_succ

theorem Sht.ncell {B : Nat} {w : World} {sb : Nat} {G : List Nat} {f : Nat → List Ver} {n : Nat} (h : Sht B w sb G f n) : w.cell? ⟨sb, 8, none⟩ = some (.int .i64 n) := by
  obtain ⟨g, o, cap, h⟩ := h
  exact h.ncell
theorem Sht.inv {B : Nat} {w : World} {sb : Nat} {G : List Nat} {f : Nat → List Ver} {n : Nat} (h : Sht B w sb G f n) : Inv f n := by
  obtain ⟨g, o, cap, h⟩ := h
  exact h.inv
theorem Sht.lt {B : Nat} {w : World} {sb : Nat} {G : List Nat} {f : Nat → List Ver} {n : Nat} (h : Sht B w sb G f n) : sb < w.heap.size := by
  obtain ⟨g, o, cap, h⟩ := h
  exact (h.lo sb h.sG).2
def crt0 (sb : Nat) : Array Value := #[.pointer (some ⟨sb, 0, none⟩), .slice none 0 0, .slice none 0 0, .pointer none, .pointer none, .pointer none, .pointer none, .pointer none]
theorem crt_new {w w1 : World} {sb : Nat} {Gs : List Nat} {f : Nat → List Ver} {n : Nat} (h1 : Sht w.heap.size w1 sb Gs f n) (k1 : Kp [] w w1) :
    Crt w.heap.size (w1.alloc (.cells (crt0 sb) 61)) w1.heap.size sb (w1.heap.size :: Gs) [w1.heap.size] Gs (crt0 sb) f n [] [] (fun _ => none) := by
  have ka : Kp [] w1 (w1.alloc (.cells (crt0 sb) 61)) := (Kp.refl [] w1).alloc _
  have hs1 := k1.size
  have hsa : (w1.alloc (.cells (crt0 sb) 61)).heap.size = w1.heap.size + 1 := by simp
  refine ⟨⟨none, 0, [], none, 0, ⟨heap_alloc_new w1 _, rfl, rfl, ownE_nil _ _, fun e he => by simp at he, byt_nil _ _, fun _ => ⟨rfl, rfl⟩, by simp [ob], by simp [ob], by simp, by simp [ob], fun x hx => ?_, linv_nil, by simp, by omega⟩, rfl⟩, rfl, fun i hi => ?_, rfl, h1.kp0 ka, fun x hx hm => ?_, fun x hx => by simp at hx; simp [hx], fun x hx => by simp [hx], fun x hx => ?_⟩
  · simp at hx; omega
  · have : i = 0 ∨ i = 1 ∨ i = 2 ∨ i = 3 ∨ i = 4 := by omega
    rcases this with e | e | e | e | e <;> subst e <;> rfl
  · simp at hx
    have := (h1.lo x hm).2
    omega
  · rw [hsa]
    rcases List.mem_cons.1 hx with e | e
    · omega
    · have := h1.lo x e; omega

set_option maxHeartbeats 400000 in
theorem cnew (w : World) : Calls Try.prog 13 #[] w fun e w' => ∃ cb sb G, e = .returned (.pointer (some ⟨cb, 0, none⟩)) ∧ (CrtT cb sb (fun _ => [dv]) 0 [] [] (fun _ => none)).holds w.heap.size w' G ∧ Kp [] w w' := by
  go_enter Try.func13, Try.ntmps13
  go_wp2_with fail
  refine (snew55 w).mono ?_
  rintro e w1 ⟨rfl, ⟨Gs, hT⟩, hk1⟩
  have HT := hide hT
  have HK1 := hide hk1
  clear hT hk1
  generalize ht : w.heap.size = sb at HT ⊢
  have HTB := hide ht
  clear ht
  go_wp2_with fail
  go_ret
  have e1 := (unhide HTB).symm
  subst e1
  exact ⟨_, _, _, rfl, ⟨_, _, _, crt_new (unhide HT) (unhide HK1)⟩, (unhide HK1).alloc _⟩

theorem wrk_new (w : World) (md y : Int) : Wrk w.heap.size (w.alloc (.cells #[.int .i64 md, .int .i64 y, .slice none 0 0, .slice none 0 0] 66)) w.heap.size [w.heap.size] md y [] [] :=
  ⟨none, 0, none, 0, heap_alloc_new _ _, World.ownsRow_nil _ _ _ _, World.ownsRow_nil _ _ _ _, fun g hg => by simp [Value.ownBlock] at hg, fun g hg => by simp [Value.ownBlock] at hg, fun g g' hg => by simp [Value.ownBlock] at hg, by simp, fun x hx => by simp at hx; simp; omega⟩

/-- What Begin of the court tells, and leaves. -/
def CbEnd (f : Nat → List Ver) (n : Nat) (md at_ : Int) (w : World) (e : Ending) (w' : World) : Prop :=
  (bcode f n md at_ = 0 ∧ ∃ D H, e = .returned (.tuple #[.pointer (some ⟨D, 0, none⟩), .int .i64 0]) ∧ Wrk w.heap.size w' D H md (bat n md at_) [] [] ∧ Kp [] w w') ∨
  (¬ bcode f n md at_ = 0 ∧ e = .returned (.tuple #[.pointer none, .int .i64 (bcode f n md at_)]) ∧ Kp [] w w')

theorem cbEnd_bad {f : Nat → List Ver} {n : Nat} {md at_ c : Int} {w w' : World} (hb : bcode f n md at_ = c) (hc : c ≠ 0) (hk : Kp [] w w') : CbEnd f n md at_ w (.returned (.tuple #[.pointer none, .int .i64 c])) w' := .inr ⟨by rw [hb]; exact hc, by rw [hb], hk⟩
theorem cbEnd_ok {f : Nat → List Ver} {n : Nat} {md at_ : Int} {w w' : World} {D : Nat} {H : List Nat} (hb : bcode f n md at_ = 0) (hd : Wrk w.heap.size w' D H md (bat n md at_) [] []) (hk : Kp [] w w') : CbEnd f n md at_ w (.returned (.tuple #[.pointer (some ⟨D, 0, none⟩), .int .i64 0])) w' := .inl ⟨hb, D, H, rfl, hd, hk⟩

set_option maxHeartbeats 1000000 in
theorem cbegin {B cb sb n : Nat} {G Gr Gs : List Nat} {bx : Array Value} {f : Nat → List Ver} {cs : List (List Ver)} {torn : List UInt8} {st : Nat → Option Addr} (md at_ : Int) (w : World) (h : Crt B w cb sb G Gr Gs bx f n cs torn st) :
    Calls Try.prog 50 #[.pointer (some ⟨cb, 0, none⟩), .int .i64 md, .int .i64 at_] w fun e w' => CbEnd f n md at_ w e w' := by
  have c0 := h.c0
  have n0 := h.s.ncell
  have HT := hide h.s
  obtain ⟨x0, x1⟩ := fmx_le h.s.inv 8 (Nat.le_refl _)
  have hn40 := h.s.inv.n40
  clear h
  by_cases hm : 1 ≤ md ∧ md ≤ 3
  · have hm1 : ¬ md < 1 := by omega
    have hm3 : ¬ 3 < md := by omega
    by_cases h3 : md = 3
    · subst h3
      by_cases hr : at_ < 0 ∨ (n : Int) < at_
      · have hb : bcode f n 3 at_ = 1 := by unfold bcode; rw [if_pos (by omega), if_pos rfl, if_pos hr]
        have HBB := hide hb
        clear hb
        rcases hr with hr | hr
        · go_enter Try.func50, Try.ntmps50
          go_wp2_with fail
          go_ret2
          exact cbEnd_bad (unhide HBB) (by omega) (Kp.refl _ _)
        · have hr0 : ¬ at_ < 0 := by omega
          go_enter Try.func50, Try.ntmps50
          go_wp2_with fail
          go_ret2
          exact cbEnd_bad (unhide HBB) (by omega) (Kp.refl _ _)
      · have hr0 : ¬ at_ < 0 := by omega
        have hr1 : ¬ (n : Int) < at_ := by omega
        by_cases ho : at_ < fmx f 8
        · have hb : bcode f n 3 at_ = 12 := by unfold bcode; rw [if_pos (by omega), if_pos rfl, if_neg hr, if_pos ho]
          have HBB := hide hb
          clear hb
          go_enter Try.func50, Try.ntmps50
          go_wp2_with fail
          refine (sfirst43 w (unhide HT)).mono ?_
          rintro e w2 ⟨rfl, hw⟩
          subst w2
          go_wp2_with fail
          go_ret2
          exact cbEnd_bad (unhide HBB) (by omega) (Kp.refl _ _)
        · have hb : bcode f n 3 at_ = 0 := by unfold bcode; rw [if_pos (by omega), if_pos rfl, if_neg hr, if_neg ho]
          have HBB := hide hb
          clear hb
          go_enter Try.func50, Try.ntmps50
          go_wp2_with fail
          refine (sfirst43 w (unhide HT)).mono ?_
          rintro e w2 ⟨rfl, hw⟩
          subst w2
          go_wp2_with fail
          go_ret2
          exact cbEnd_ok (unhide HBB) (by rw [show bat n 3 at_ = at_ from if_pos rfl]; exact wrk_new w 3 at_) ((Kp.refl [] w).alloc _)
    · have hb : bcode f n md at_ = 0 := by unfold bcode; rw [if_pos hm, if_neg h3]
      have HBB := hide hb
      clear hb
      have hr0 : ¬ (n : Int) < 0 := by omega
      have hr1 : ¬ (n : Int) < (n : Int) := by omega
      have hr2 : ¬ (n : Int) < fmx f 8 := by omega
      go_enter Try.func50, Try.ntmps50
      go_wp2_with fail
      refine (sfirst43 w (unhide HT)).mono ?_
      rintro e w2 ⟨rfl, hw⟩
      subst w2
      go_wp2_with fail
      go_ret2
      exact cbEnd_ok (unhide HBB) (by rw [show bat n md at_ = n from if_neg h3]; exact wrk_new w md n) ((Kp.refl [] w).alloc _)
  · have hb : bcode f n md at_ = 3 := by unfold bcode; rw [if_neg hm]
    have HBB := hide hb
    clear hb
    by_cases hm1 : md < 1
    · go_enter Try.func50, Try.ntmps50
      go_wp2_with fail
      go_ret2
      exact cbEnd_bad (unhide HBB) (by omega) (Kp.refl _ _)
    · have hm3 : 3 < md := by omega
      go_enter Try.func50, Try.ntmps50
      go_wp2_with fail
      go_ret2
      exact cbEnd_bad (unhide HBB) (by omega) (Kp.refl _ _)

set_option maxHeartbeats 1000000 in
theorem ccommit {B cb sb n wb : Nat} {G Gr Gs H : List Nat} {bx : Array Value} {f : Nat → List Ver} {cs : List (List Ver)} {st : Nat → Option Addr} {md y : Int} {rs : List Int} {ws : List Ver} (w : World) (h : Crt B w cb sb G Gr Gs bx f n cs [] st) (hv : VI f n cs) (hd : Wrk B w wb H md y rs ws) (hw : WOk ws) (hrl : rs.length ≤ 900) (hwl : ws.length ≤ 900) :
    Calls Try.prog 54 #[.pointer (some ⟨cb, 0, none⟩), .pointer (some ⟨wb, 0, none⟩)] w fun e w' => e = .returned (.tuple #[.int .i64 (vnum f n cs md y rs ws), .int .i64 (vcode f cs md y rs ws)]) ∧ Ch (CrtT cb sb (vf f n cs md y rs ws) (vn f n cs md y rs ws) (vcs f cs md y rs ws) [] st) B w G w' := by
  have HM := hide (wmay69 w h.s hd hrl hwl)
  have HD := hide hd
  have HV := hide h
  have c0 := h.c0
  have hpl := wk_len ws 8
  have HP := hide hw.pf
  have HR := hide hv
  have hn40 := h.s.inv.n40
  clear h hd hw hv
  by_cases hz : dm f md y rs ws = 0
  · rw [hz] at HM
    by_cases hl : (wk ws 8).length = 0
    · obtain ⟨e1, e2⟩ := v_none (cs := cs) hz hl
      obtain ⟨e3, e4, e5, e6⟩ := v_not (n := n) e2
      rw [e1, e3, e4, e5, e6]
      clear e1 e2 e3 e4 e5 e6 HR HP
      go_enter Try.func54, Try.ntmps54
      go_wp2_with fail
      refine (unhide HM).mono ?_
      rintro e w0 ⟨rfl, hk0⟩
      have HK0 := hide hk0
      clear hk0 HM
      go_wp2_with fail
      refine (wwrites67 w0 ((unhide HD).kp0 (unhide HK0)) hwl).mono ?_
      rintro e w1 ⟨a, cap, rfl, _, hk⟩
      rw [hl]
      have HK := hide ((unhide HK0).trans0 hk)
      clear hk hl
      go_wp2_with fail
      go_ret2
      exact ⟨rfl, Ch.same ⟨Gr, Gs, bx, unhide HV⟩ (unhide HK)⟩
    · have HL := hide hl
      by_cases hc : lcode cs (wk ws 8) = 0
      · obtain ⟨e1, e2⟩ := v_yes hz hl hc
        obtain ⟨e3, e4, e5, e6⟩ := v_did (n := n) e2
        rw [e1, e3, e4, e5, e6]
        clear e1 e2 e3 e4 e5 e6
        obtain ⟨q1, q2, q3⟩ := (unhide HR).room hc
        have hlp : lput cs (wk ws 8) = cs ++ [wk ws 8] := by unfold lput; rw [if_pos hc]
        have HLP := hide hlp
        have HC := hide hc
        have HQ := hide (And.intro q1 (And.intro q2 q3))
        clear q1 q2 q3 hlp hc hz
        have HWW := hide (fun w0 (hk0 : Kp [] w w0) => wwrites67 w0 ((unhide HD).kp0 hk0) hwl)
        generalize wk ws 8 = ps at *
        go_enter Try.func54, Try.ntmps54
        go_wp2_with fail
        refine (unhide HM).mono ?_
        rintro e w0 ⟨rfl, hk0⟩
        have HK0 := hide hk0
        clear hk0 HM
        go_wp2_with fail
        refine (unhide HWW w0 (unhide HK0)).mono ?_
        rintro e w1 ⟨a, cap, rfl, ho0, hk1⟩
        have ho := own_base ho0 (unhide HK0).size
        have hk := (unhide HK0).trans0 hk1
        have h1 := (unhide HV).kp0 hk
        have HPR := hide (slo_prs (slo_own ho rfl) (unhide HP))
        have HO := hide ho
        have H1 := hide h1
        have HK := hide hk
        clear ho ho0 h1 hk hk1 HWW HK0
        go_wp2_with fail
        refine (rxput a cap ps w1 (unhide H1).r (unhide HPR) (by omega)).mono ?_
        rintro e w2 ⟨rfl, hL⟩
        rw [unhide HC]
        rw [unhide HLP] at hL
        obtain ⟨G2, ⟨Gr2, Gs2, bx2, h2⟩, k2, s2⟩ := (unhide H1).roll hL
        have hfar : ∀ g o, a = some ⟨g, o, none⟩ → g ∉ G := fun g o ea hm => by
          have h3 := (own_addr1 (unhide HO) g o ea).1
          have h4 := ((unhide HV).lo g hm).2
          omega
        have hfar2 : ∀ g o, a = some ⟨g, o, none⟩ → g ∉ Gs2 := fun g o ea hm => by
          rcases s2 g (h2.sG g hm) with e | e
          · exact hfar g o ea e
          · have h3 := (own_addr1 (unhide HO) g o ea).2
            omega
        have HPR2 := hide ((unhide HPR).kp k2 hfar)
        have HFAR := hide hfar2
        have d0 := h2.c0
        have H2 := hide h2
        have K2 := hide k2
        have S2 := hide s2
        clear h2 k2 s2 hL hfar hfar2 c0
        go_wp2_with fail
        refine (swrite56 a cap ps w2 (unhide H2).s (unhide HPR2) (fun _ => unhide HFAR) (by omega)).mono ?_
        rintro e w3 ⟨rfl, Gs3, hT, hk3, hs3⟩
        rw [(unhide HQ).1, (unhide HQ).2.2]
        rw [(unhide HQ).2.1] at hT
        have HZ := hide (Ch.after (unhide HK) (Ch.trans (unhide K2) (unhide S2) ((unhide H2).sheet hT hk3 hs3)))
        clear hT hk3 hs3
        go_wp2_with fail
        go_ret2
        exact ⟨rfl, unhide HZ⟩
      · obtain ⟨e1, e2⟩ := v_full hz hl hc
        obtain ⟨e3, e4, e5, e6⟩ := v_not (n := n) e2
        rw [e1, e3, e4, e5, e6]
        clear e1 e2 e3 e4 e5 e6
        have hlp : lput cs (wk ws 8) = cs := by unfold lput; rw [if_neg hc]
        have HLP := hide hlp
        clear hlp hz
        generalize hzz : lcode cs (wk ws 8) = z at *
        have HZZ := hide hzz
        clear hzz
        have HWW := hide (fun w0 (hk0 : Kp [] w w0) => wwrites67 w0 ((unhide HD).kp0 hk0) hwl)
        generalize wk ws 8 = ps at *
        go_enter Try.func54, Try.ntmps54
        go_wp2_with fail
        refine (unhide HM).mono ?_
        rintro e w0 ⟨rfl, hk0⟩
        have HK0 := hide hk0
        clear hk0 HM
        go_wp2_with fail
        refine (unhide HWW w0 (unhide HK0)).mono ?_
        rintro e w1 ⟨a, cap, rfl, ho, hk1⟩
        have hk := (unhide HK0).trans0 hk1
        have h1 := (unhide HV).kp0 hk
        have HPR := hide (slo_prs (slo_own ho rfl) (unhide HP))
        have H1 := hide h1
        have HK := hide hk
        clear ho h1 hk hk1 HWW HK0
        go_wp2_with fail
        refine (rxput a cap ps w1 (unhide H1).r (unhide HPR) (by omega)).mono ?_
        rintro e w2 ⟨rfl, hL⟩
        rw [unhide HZZ]
        rw [unhide HLP] at hL
        have HX := hide (Ch.after (unhide HK) ((unhide H1).roll hL))
        clear hL c0
        go_wp2_with fail
        go_ret2
        exact ⟨rfl, unhide HX⟩
  · obtain ⟨e1, e2⟩ := v_may (cs := cs) hz
    obtain ⟨e3, e4, e5, e6⟩ := v_not (n := n) e2
    rw [e1, e3, e4, e5, e6]
    clear e1 e2 e3 e4 e5 e6 HR HP
    generalize dm f md y rs ws = z at *
    go_enter Try.func54, Try.ntmps54
    go_wp2_with fail
    refine (unhide HM).mono ?_
    rintro e w1 ⟨rfl, hk⟩
    have HK := hide hk
    clear hk HM
    go_wp2_with fail
    go_ret2
    exact ⟨rfl, Ch.same ⟨Gr, Gs, bx, unhide HV⟩ (unhide HK)⟩

end Go.Proofs.Ytehhpmfeaeabgac

/- The document's court: again, by its contract. -/
namespace Go.Proofs.Ytehhpmfeaeabgac
open Go.RowKit
set_option maxRecDepth 20000
attribute [local go_sem ↓] Go.wp_at_zero Go.wp_at_succ

/-- Another sheet in its place. -/
theorem Crt.newS {B : Nat} {w W : World} {cb sb sb' : Nat} {G Gr Gs Gs' : List Nat} {bx : Array Value} {f f' : Nat → List Ver} {n n' : Nat} {cs : List (List Ver)} {torn : List UInt8} {st : Nat → Option Addr} (h : Crt B w cb sb G Gr Gs bx f n cs torn st) (hW : Kp [] w W) (k1 : Sht w.heap.size W sb' Gs' f' n') :
    Ch (CrtT cb sb' f' n' cs torn st) B w G (W.setCell ⟨cb, 0, none⟩ (.pointer (some ⟨sb', 0, none⟩))) := by
  have hcb := (h.lo cb h.cG).2
  have hBw : B ≤ w.heap.size := by have := (h.lo cb h.cG).1; omega
  have hk3 : Kp [cb] W (W.setCell ⟨cb, 0, none⟩ (.pointer (some ⟨sb', 0, none⟩))) := (Kp.refl [cb] W).setCell (.inl (by simp)) _
  have hW1 := h.kp0 hW
  have hne : ∀ x, x ∈ Gs' → x ≠ cb := fun x hx e => by have := (k1.lo x hx).1; omega
  refine ⟨Gr ++ Gs', ⟨Gr, Gs', bx.setIfInBounds 0 (.pointer (some ⟨sb', 0, none⟩)), hW1.r.other 0 _ (by omega) (by omega), set_here h.b0 _, fun i hi => set_there (h.bs i hi) (by omega) _, by simp [h.sz], (k1.base hBw).kp hk3 (fun x hx e => hne x hx (List.mem_singleton.1 e)), fun x hx hm => ?_, fun x hx => by simp [hx], fun x hx => by simp [hx], fun x hx => ?_⟩, (hW.mono (fun x hx => by simp at hx)).trans hk3 (fun x hx => .inl (by rw [List.mem_singleton.1 hx]; exact h.cG)), fun x hx => ?_⟩
  · have h1 := (k1.lo x hm).1
    have h2 := (h.lo x (h.rG x hx)).2
    omega
  · rcases List.mem_append.1 hx with e | e
    · exact ⟨(h.lo x (h.rG x e)).1, Nat.lt_of_lt_of_le (hW1.lo x (h.rG x e)).2 hk3.size⟩
    · exact ⟨Nat.le_trans hBw (k1.lo x e).1, Nat.lt_of_lt_of_le (k1.lo x e).2 hk3.size⟩
  · rcases List.mem_append.1 hx with e | e
    · exact .inl (h.rG x e)
    · exact .inr (k1.lo x e).1

/-- At the head of a round of again: the first i commits are written. -/
structure AgL (B : Nat) (w : World) (G : List Nat) (cb sb : Nat) (bx : Array Value) (st : Nat → Option Addr) (aL : Option Addr) (capL : Nat) (xs : List El) (i : Nat) (wr : World) (Gr Gs : List Nat) : Prop where
  r : ∃ aT cT, RxL B wr cb 1 bx 61 Gr aL capL xs aT cT []
  s : Sht B wr sb Gs (wal0 ((cps xs).take i)) i
  rs : ∀ x, x ∈ Gr → x ∉ Gs
  b0 : bx[0]? = some (.pointer (some ⟨sb, 0, none⟩))
  bs : ∀ j, j < 5 → bx[3 + j]? = some (.pointer (st j))
  sz : bx.size = 8
  kp : Kp G w wr
  rG : ∀ x, x ∈ Gr → x ∈ G ∨ w.heap.size ≤ x
  sG : ∀ x, x ∈ Gs → x ∈ G ∨ w.heap.size ≤ x
def Ag (B : Nat) (w : World) (G : List Nat) (cb sb : Nat) (bx : Array Value) (st : Nat → Option Addr) (aL : Option Addr) (capL : Nat) (xs : List El) (i : Nat) (wr : World) : Prop := ∃ Gr Gs, AgL B w G cb sb bx st aL capL xs i wr Gr Gs
section
variable {B : Nat} {w wr w' : World} {G : List Nat} {cb sb : Nat} {bx : Array Value} {st : Nat → Option Addr} {aL : Option Addr} {capL : Nat} {xs : List El} {i : Nat}
theorem Ag.kp0 (h : Ag B w G cb sb bx st aL capL xs i wr) (hk : Kp [] wr w') : Ag B w G cb sb bx st aL capL xs i w' := by
  obtain ⟨Gr, Gs, h⟩ := h
  obtain ⟨aT, cT, hr⟩ := h.r
  exact ⟨Gr, Gs, ⟨aT, cT, hr.kp hk (fun _ _ => by simp)⟩, h.s.kp0 hk, h.rs, h.b0, h.bs, h.sz, h.kp.trans0 hk, h.rG, h.sG⟩
theorem Ag.c0 (h : Ag B w G cb sb bx st aL capL xs i wr) : wr.cell? ⟨cb, 0, none⟩ = some (.pointer (some ⟨sb, 0, none⟩)) := by
  obtain ⟨Gr, Gs, h⟩ := h
  obtain ⟨aT, cT, hr⟩ := h.r
  exact cell_of_block hr.box h.b0
theorem Ag.c1 (h : Ag B w G cb sb bx st aL capL xs i wr) : wr.cell? ⟨cb, 1, none⟩ = some (.slice aL xs.length capL) := by
  obtain ⟨Gr, Gs, h⟩ := h
  obtain ⟨aT, cT, hr⟩ := h.r
  exact hr.c0
theorem Ag.at_ (h : Ag B w G cb sb bx st aL capL xs i wr) {k : Nat} (hk : k < xs.length) : ∃ g, aL = some ⟨g, 0, none⟩ ∧ wr.cell? ⟨g, k, none⟩ = some (.slice (eat xs k).a (eat xs k).ps.length (eat xs k).c) := by
  obtain ⟨Gr, Gs, h⟩ := h
  obtain ⟨aT, cT, hr⟩ := h.r
  exact hr.own.cell hk
theorem ag_write (h : Ag B w G cb sb bx st aL capL xs i wr) (hi : i < xs.length) {W : World} (hW : Kp [] wr W) :
    Calls Try.prog 82 #[.pointer (some ⟨sb, 0, none⟩), .slice (eat xs i).a (eat xs i).ps.length (eat xs i).c] W fun e w' => ∃ a b, e = .returned (.tuple #[.int .i64 a, .int .i64 b]) ∧ Hid (Ag B w G cb sb bx st aL capL xs (i + 1) w') := by
  obtain ⟨Gr, Gs, h⟩ := h.kp0 hW
  obtain ⟨aT, cT, hr⟩ := h.r
  have hpf : pf (-1) (eat xs i).ps = 0 := by rw [← cps_at hi]; exact hr.inv.at_ (by rw [cps_length]; exact hi)
  have hpr : Prs W (eat xs i).a (eat xs i).ps := slo_prs (hr.els _ (eat_mem hi)).1 hpf
  have h8 := pf_len8 hpf
  have hn40 := hr.inv.n40
  rw [cps_length] at hn40
  obtain ⟨q1, q2⟩ := wcode_ok (n := i) hpf (by omega)
  refine (swrite56 _ _ _ W h.s hpr (fun _ g o e hg => ?_) (by omega)).mono ?_
  · have := ((hr.els _ (eat_mem hi)).2 g (by rw [e]; simp [ob])).1
    exact h.rs g this hg
  · rintro e w' ⟨rfl, Gs', k1, k2, k3⟩
    refine ⟨_, _, rfl, Gr, Gs', ⟨aT, cT, hr.kp k2 (fun x hx hh => h.rs x hx hh)⟩, ?_, fun x hx hm => ?_, h.b0, h.bs, h.sz, h.kp.trans k2 h.sG, h.rG, fun x hx => ?_⟩
    · rw [q2] at k1
      have e1 : (cps xs).take (i + 1) = (cps xs).take i ++ [(eat xs i).ps] := by
        rw [List.take_succ_eq_append_getElem (by rw [cps_length]; exact hi), ← cps_at hi]
        simp [List.getD_eq_getElem?_getD, cps_length, hi]
      rw [e1, wal0_snoc]
      have e2 : ((cps xs).take i).length = i := by rw [List.length_take, cps_length]; omega
      rw [e2]
      exact k1
    · rcases k3 x hm with e | e
      · exact h.rs x hx e
      · have := (hr.lo x hx).2; omega
    · rcases k3 x hx with e | e
      · exact h.sG x e
      · exact .inr (Nat.le_trans h.kp.size e)
theorem Ag.crt (h : Ag B w G cb sb bx st aL capL xs i wr) (hi : i = xs.length) : Ch (CrtT cb sb (wal0 (cps xs)) (cps xs).length (cps xs) [] st) B w G wr := by
  obtain ⟨Gr, Gs, h⟩ := h
  obtain ⟨aT, cT, hr⟩ := h.r
  have hs := h.s
  rw [hi, ← cps_length, List.take_length] at hs
  refine ⟨Gr ++ Gs, ⟨Gr, Gs, bx, ⟨aL, capL, xs, aT, cT, hr, rfl⟩, h.b0, h.bs, h.sz, hs, h.rs, fun x hx => by simp [hx], fun x hx => by simp [hx], fun x hx => ?_⟩, h.kp, fun x hx => ?_⟩
  · rcases List.mem_append.1 hx with e | e
    · exact hr.lo x e
    · exact hs.lo x e
  · rcases List.mem_append.1 hx with e | e
    · exact h.rG x e
    · exact h.sG x e
end
theorem ag_start {B : Nat} {w w1 : World} {G : List Nat} {cb sb : Nat} {cs : List (List Ver)} {st : Nat → Option Addr} (h : Ch (CrtT cb sb (fun _ => [dv]) 0 cs [] st) B w G w1) : ∃ bx aL capL xs, cs = cps xs ∧ Ag B w G cb sb bx st aL capL xs 0 w1 := by
  obtain ⟨G1, ⟨Gr, Gs, bx, h1⟩, h2, h3⟩ := h
  obtain ⟨aL, capL, xs, aT, cT, hr, e⟩ := h1.r
  exact ⟨bx, aL, capL, xs, e, Gr, Gs, ⟨aT, cT, hr⟩, h1.s, h1.rs, h1.b0, h1.bs, h1.sz, h2, fun x hx => h3 x (h1.rG x hx), fun x hx => h3 x (h1.sG x hx)⟩
/-- Nobody sits. -/
theorem Crt.stand {B : Nat} {w : World} {cb sb : Nat} {G Gr Gs : List Nat} {bx : Array Value} {f : Nat → List Ver} {n : Nat} {cs : List (List Ver)} {torn : List UInt8} {st : Nat → Option Addr} (h : Crt B w cb sb G Gr Gs bx f n cs torn st) :
    Ch (CrtT cb sb f n cs torn (fun _ => none)) B w G (((((w.setCell ⟨cb, 3, none⟩ (.pointer none)).setCell ⟨cb, 4, none⟩ (.pointer none)).setCell ⟨cb, 5, none⟩ (.pointer none)).setCell ⟨cb, 6, none⟩ (.pointer none)).setCell ⟨cb, 7, none⟩ (.pointer none)) := by
  have h5 := (h.sit (i := 0) (by omega) none).to fun G1 ⟨Gr1, Gs1, bx1, h1⟩ => (h1.sit (i := 1) (by omega) none).to fun G2 ⟨Gr2, Gs2, bx2, h2⟩ => (h2.sit (i := 2) (by omega) none).to fun G3 ⟨Gr3, Gs3, bx3, h3⟩ => (h3.sit (i := 3) (by omega) none).to fun G4 ⟨Gr4, Gs4, bx4, h4⟩ => h4.sit (i := 4) (by omega) none
  obtain ⟨F', ⟨Gr', Gs', bx', k⟩, k2, k3⟩ := h5
  refine ⟨F', ⟨Gr', Gs', bx', k.r, k.b0, fun i hi => ?_, k.sz, k.s, k.rs, k.rG, k.sG, k.lo⟩, k2, k3⟩
  rw [k.bs i hi]
  have : i = 0 ∨ i = 1 ∨ i = 2 ∨ i = 3 ∨ i = 4 := by omega
  rcases this with e | e | e | e | e <;> subst e <;> rfl

set_option maxHeartbeats 1000000 in
theorem cagain {B cb sb n : Nat} {G Gr Gs : List Nat} {bx : Array Value} {f : Nat → List Ver} {cs : List (List Ver)} {torn : List UInt8} {st : Nat → Option Addr} (w : World) (h : Crt B w cb sb G Gr Gs bx f n cs torn st) :
    Calls Try.prog 49 #[.pointer (some ⟨cb, 0, none⟩)] w fun e w' => e = .returned (.tuple #[]) ∧ ∃ sb', Ch (CrtT cb sb' (wal0 cs) cs.length cs [] (fun _ => none)) B w G w' := by
  have HV := hide h
  have HR := hide h.r
  have hn40 := h.r.inv.n40
  clear h
  go_enter Try.func49, Try.ntmps49
  go_wp2_with fail
  refine (rxmend w (unhide HR)).mono ?_
  rintro e w1 ⟨rfl, hL⟩
  obtain ⟨G1, ⟨Gr1, Gs1, bx1, h1⟩, k1, s1⟩ := (unhide HV).roll hL
  have H1 := hide h1
  have K1 := hide k1
  have S1 := hide s1
  clear h1 k1 s1 hL HR
  go_wp2_with fail
  refine (snew55 w1).mono ?_
  rintro e w2 ⟨rfl, ⟨Gs2, hT⟩, hk2⟩
  have h2 := (unhide H1).kp0 hk2
  have d0 := h2.c0
  have f0 := h2.fz 0
  have HCH := hide (Ch.trans (unhide K1) (unhide S1) ((unhide H1).newS hk2 hT))
  clear h2 hT hk2
  generalize w1.heap.size = sb2 at *
  generalize hW3 : w2.setCell ⟨cb, 0, none⟩ (.pointer (some ⟨sb2, 0, none⟩)) = w3 at HCH
  obtain ⟨bx, aL, capL, xs, hcs, hag⟩ := ag_start (unhide HCH)
  have HAG := hide hag
  have HCS := hide hcs
  have hlen : cs.length = xs.length := by rw [hcs, cps_length]
  have hx40 : xs.length ≤ 40 := by omega
  have HW3 := hide hW3
  have HLEN := hide hlen
  clear hag hcs hlen hn40 hW3
  go_wp2_with fail
  rw [unhide HW3]
  go_loopw [2] (fun i wr => ∃ k : Nat, k ≤ xs.length ∧ i = .int .i64 k ∧ Hid (Ag B w G cb sb2 bx st aL capL xs k wr)) (fun i _ => xs.length - (intOf i).toNat)
  case atStart => exact ⟨0, by omega, rfl, HAG⟩
  case round =>
    obtain ⟨k, hk, rfl, HI⟩ := hrel
    have r0 := (unhide HI).c1
    by_cases hlt : k < xs.length
    · have i0 : (0 : Int) ≤ (k : Int) := by omega
      have i1 : (k : Int) < (xs.length : Int) := by omega
      have q0 := (unhide HI).c0
      obtain ⟨gL, rfl, q1⟩ := (unhide HI).at_ hlt
      have q1' : wr.cell? ⟨gL, 0 + k, none⟩ = some (.slice (eat xs k).a (eat xs k).ps.length (eat xs k).c) := by rw [Nat.zero_add]; exact q1
      go_wp2_with fail
      go_region_with (go_at_call 82; refine (ag_write (unhide HI) hlt (Kp.refl [] wr).drew).mono ?_; rintro e w4 ⟨za, zb, rfl, HI4⟩)
      all_goals
        go_wp2_with fail
        exact ⟨⟨k + 1, by omega, by go_num, HI4⟩, by simp [intOf]; omega⟩
    · have hkk : k = xs.length := by omega
      have HC5 := hide ((unhide HI).crt hkk)
      obtain ⟨G5, ⟨Gr5, Gs5, bx5, h5⟩, k5, s5⟩ := (unhide HI).crt hkk
      have y0 := h5.seat (i := 0) (by omega)
      have y1 := h5.seat (i := 1) (by omega)
      have y2 := h5.seat (i := 2) (by omega)
      have y3 := h5.seat (i := 3) (by omega)
      have y4 := h5.seat (i := 4) (by omega)
      have z0 := h5.fz 3
      have z1 := h5.fz 4
      have z2 := h5.fz 5
      have z3 := h5.fz 6
      have z4 := h5.fz 7
      have HX := hide (Ch.trans k5 s5 h5.stand)
      clear h5 k5 s5 hkk
      go_wp2_with fail
      go_end0
      rw [← unhide HCS] at HX
      exact ⟨rfl, sb2, unhide HX⟩

end Go.Proofs.Ytehhpmfeaeabgac

/- The document's court: Do of SCrash, SCommit and STear, by contracts. -/
namespace Go.Proofs.Ytehhpmfeaeabgac
open Go.RowKit
set_option maxRecDepth 20000
attribute [local go_sem ↓] Go.wp_at_zero Go.wp_at_succ

def seatB (s : Int) : Bool := decide (0 ≤ s ∧ s < 5)
set_option maxHeartbeats 400000 in
theorem isseat (k : Int) (w : World) : Calls Try.prog 23 #[.int .i64 k] w fun e w' => e = .returned (.bool (seatB k)) ∧ w' = w := by
  go_enter Try.func23, Try.ntmps23
  go_wp2
  all_goals
    go_ret
    exact ⟨ret_bool (by simp [seatB]; omega), rfl⟩

/-- A call that leaves a thing, and what is stored behind it into a new block. -/
theorem Ch.side {o' : Thing} {B : Nat} {w W w1 w' : World} {G : List Nat} {p : Nat} (h : Ch o' B W G w1) (hW : Kp [] w W) (hG : ∀ x, x ∈ G → x < w.heap.size) (hp : w.heap.size ≤ p) (hp2 : p < W.heap.size) (hk : Kp [p] w1 w') : Ch o' B w G w' := by
  obtain ⟨F1, h1, h2, h3⟩ := h
  have hpF : ∀ x, x ∈ F1 → x ≠ p := fun x hx e => by
    subst e
    rcases h3 x hx with q | q
    · have := hG x q; omega
    · omega
  refine ⟨F1, o'.kp h1 hk (fun x hx e => hpF x hx (List.mem_singleton.1 e)), ((hW.mono (fun x hx => by simp at hx)).trans h2 (fun x hx => .inl hx)).trans hk (fun x hx => .inr (by rw [List.mem_singleton.1 hx]; exact hp)), fun x hx => ?_⟩
  rcases h3 x hx with q | q
  · exact .inl q
  · exact .inr (Nat.le_trans hW.size q)
theorem Ch.far {o' : Thing} {B : Nat} {W w1 : World} {G : List Nat} (h : Ch o' B W G w1) {p : Nat} {o : Obj} (hp : p ∉ G) (hb : W.heap[p]? = some o) : w1.heap[p]? = some o := by
  obtain ⟨F1, h1, h2, h3⟩ := h
  rw [h2.block p (lt_of_block hb) hp]; exact hb

theorem two_alloc (w : World) (o1 o2 : Obj) : ((w.alloc o1).alloc o2).heap[w.heap.size + 1]? = some o2 := by
  have h : (w.alloc o1).heap.size = w.heap.size + 1 := by simp
  rw [← h]
  exact heap_alloc_new _ _

/-- An event in a variable. -/
def EvB (w : World) (p : Nat) : Prop := w.heap[p]? = some (.cells #[.int .i64 0, .int .i64 0, .bool false, .string ⟨#[]⟩, .slice none 0 0] 34 (0, 0))
structure EvC (w : World) (p : Nat) : Prop where
  c0 : w.cell? ⟨p, 0, none⟩ = some (.int .i64 0)
  c1 : w.cell? ⟨p, 1, none⟩ = some (.int .i64 0)
  c2 : w.cell? ⟨p, 2, none⟩ = some (.bool false)
  c3 : w.cell? ⟨p, 3, none⟩ = some (.string ⟨#[]⟩)
  c4 : w.cell? ⟨p, 4, none⟩ = some (.slice none 0 0)
  f0 : w.frozen? ⟨p, 0, none⟩ = false
  f1 : w.frozen? ⟨p, 1, none⟩ = false
  f2 : w.frozen? ⟨p, 2, none⟩ = false
  f3 : w.frozen? ⟨p, 3, none⟩ = false
  f4 : w.frozen? ⟨p, 4, none⟩ = false
theorem EvB.c {w : World} {p : Nat} (h : EvB w p) : EvC w p :=
  ⟨cell_of_block h rfl, cell_of_block h rfl, cell_of_block h rfl, cell_of_block h rfl, cell_of_block h rfl, frozen_of_block _ h, frozen_of_block _ h, frozen_of_block _ h, frozen_of_block _ h, frozen_of_block _ h⟩
theorem ev5 {w1 : World} {p : Nat} (a b c d e : Value) : Kp [p] w1 (((((w1.setCell ⟨p, 0, none⟩ a).setCell ⟨p, 1, none⟩ b).setCell ⟨p, 2, none⟩ c).setCell ⟨p, 3, none⟩ d).setCell ⟨p, 4, none⟩ e) :=
  (((((Kp.refl [p] w1).setCell (.inl (by simp)) _).setCell (.inl (by simp)) _).setCell (.inl (by simp)) _).setCell (.inl (by simp)) _).setCell (.inl (by simp)) _

set_option maxHeartbeats 1000000 in
theorem cdo9 {B cb sb n : Nat} {G Gr Gs : List Nat} {bx : Array Value} {f : Nat → List Ver} {cs : List (List Ver)} {torn : List UInt8} {st : Nat → Option Addr} (w : World) (h : Crt B w cb sb G Gr Gs bx f n cs torn st) :
    Calls Try.prog 16 #[.pointer (some ⟨cb, 0, none⟩), .agg #[.int .i64 9, .int .i64 0, .int .i64 0, .int .i64 0, .int .i64 0, .int .i64 0, .int .i64 0, .string ⟨#[]⟩]] w fun e w' => e = .returned (.agg #[.int .i64 0, .int .i64 0, .bool false, .string ⟨#[]⟩, .slice none 0 0]) ∧ ∃ sb', Ch (CrtT cb sb' (wal0 cs) cs.length cs [] (fun _ => none)) B w G w' := by
  have HV := hide h
  have HLO := hide (fun x (hx : x ∈ G) => (h.lo x hx).2)
  clear h
  go_enter Try.func16, Try.ntmps16
  go_wp2_with fail
  refine (cagain _ ((unhide HV).kp0 (((Kp.refl [] w).alloc _).alloc _))).mono ?_
  rintro e w1 ⟨rfl, sb', hCh⟩
  have hev : EvB w1 (w.heap.size + 1) := hCh.far (fun hm => by have := unhide HLO _ hm; omega) (two_alloc _ _ _)
  have HC := hide hCh
  obtain ⟨e0, e1, e2, e3, e4, g0, g1, g2, g3, g4⟩ := hev.c
  clear hev hCh
  go_wp2_with fail
  refine bodyPost_ret (v := .agg #[.int .i64 0, .int .i64 0, .bool false, .string ⟨#[]⟩, .slice none 0 0]) (by simp [results, Try.results16, go_sem, e0, e1, e2, e3, e4]) rfl ⟨rfl, sb', ?_⟩
  exact (unhide HC).side (((Kp.refl [] w).alloc _).alloc _) (unhide HLO) (Nat.le_succ _) (by simp) (ev5 _ _ _ _ _)

/-- The cells of a step in a variable that are looked at. -/
structure StpC (w : World) (q : Nat) (k keep : Int) : Prop where
  c0 : w.cell? ⟨q, 0, none⟩ = some (.int .i64 k)
  c1 : w.cell? ⟨q, 1, none⟩ = some (.int .i64 0)
  c6 : w.cell? ⟨q, 6, none⟩ = some (.int .i64 keep)
def StpB (w : World) (q : Nat) (k keep : Int) : Prop := w.heap[q]? = some (.cells #[.int .i64 k, .int .i64 0, .int .i64 0, .int .i64 0, .int .i64 0, .int .i64 0, .int .i64 keep, .string ⟨#[]⟩] 37 (0, 0))
theorem StpB.c {w : World} {q : Nat} {k keep : Int} (h : StpB w q k keep) : StpC w q k keep := ⟨cell_of_block h rfl, cell_of_block h rfl, cell_of_block h rfl⟩
/-- The world in which Do begins: the step and the event lie in new variables. -/
structure DoW (w W : World) (q p : Nat) (k keep : Int) : Prop where
  kp : Kp [] w W
  s : StpB W q k keep
  e : EvB W p
  hq : q = w.heap.size
  hp : p = w.heap.size + 1
theorem doW (w : World) (k keep : Int) : DoW w ((w.alloc (.cells #[.int .i64 k, .int .i64 0, .int .i64 0, .int .i64 0, .int .i64 0, .int .i64 0, .int .i64 keep, .string ⟨#[]⟩] 37)).alloc (.cells #[.int .i64 0, .int .i64 0, .bool false, .string ⟨#[]⟩, .slice none 0 0] 34)) w.heap.size (w.heap.size + 1) k keep :=
  ⟨((Kp.refl [] w).alloc _).alloc _, by
    show ((w.alloc _).alloc _).heap[w.heap.size]? = _
    rw [Below.heap_alloc _ _ _ (by simp)]
    exact heap_alloc_new _ _, two_alloc _ _ _, rfl, rfl⟩
theorem DoW.kp0 {w W W' : World} {q p : Nat} {k keep : Int} (h : DoW w W q p k keep) (hk : Kp [] W W') : DoW w W' q p k keep :=
  ⟨h.kp.trans0 hk, by show W'.heap[q]? = _; rw [hk.block q (lt_of_block h.s) (by simp)]; exact h.s, by show W'.heap[p]? = _; rw [hk.block p (lt_of_block h.e) (by simp)]; exact h.e, h.hq, h.hp⟩
/-- Behind a call that changed a thing of before. -/
theorem DoW.ch {w W w1 : World} {q p : Nat} {k keep : Int} {o' : Thing} {B : Nat} {G : List Nat} (h : DoW w W q p k keep) (hc : Ch o' B W G w1) (hG : ∀ x, x ∈ G → x < w.heap.size) : StpB w1 q k keep ∧ EvB w1 p :=
  ⟨hc.far (fun hm => by have := hG _ hm; have := h.hq; omega) h.s, hc.far (fun hm => by have := hG _ hm; have := h.hp; omega) h.e⟩

set_option maxHeartbeats 1000000 in
theorem cdo6 {B cb sb n wb : Nat} {G Gr Gs H : List Nat} {bx : Array Value} {f : Nat → List Ver} {cs : List (List Ver)} {st : Nat → Option Addr} {md y : Int} {rs : List Int} {ws : List Ver} (w : World) (h : Crt B w cb sb G Gr Gs bx f n cs [] st) (hv : VI f n cs) (hd : Wrk B w wb H md y rs ws) (hw : WOk ws) (hrl : rs.length ≤ 900) (hwl : ws.length ≤ 900) (hst : st 0 = some ⟨wb, 0, none⟩) :
    Calls Try.prog 16 #[.pointer (some ⟨cb, 0, none⟩), .agg #[.int .i64 6, .int .i64 0, .int .i64 0, .int .i64 0, .int .i64 0, .int .i64 0, .int .i64 0, .string ⟨#[]⟩]] w fun e w' => e = .returned (.agg #[.int .i64 (vcode f cs md y rs ws), .int .i64 (vnum f n cs md y rs ws), .bool false, .string ⟨#[]⟩, .slice none 0 0]) ∧ Ch (CrtT cb sb (vf f n cs md y rs ws) (vn f n cs md y rs ws) (vcs f cs md y rs ws) [] (upd st 0 none)) B w G w' := by
  have HV := hide h
  have HLO := hide (fun x (hx : x ∈ G) => (h.lo x hx).2)
  have HCM := hide (fun W (hk : Kp [] w W) => ccommit W (h.kp0 hk) hv (hd.kp0 hk) hw hrl hwl)
  have HDO := hide (doW w 6 0)
  have s0 := h.seat (i := 0) (by omega)
  rw [hst] at s0
  have hcb := (h.lo cb h.cG).2
  clear h hv hd hw hrl hwl hst
  generalize vcode f cs md y rs ws = zc at *
  generalize vnum f n cs md y rs ws = zn at *
  generalize vf f n cs md y rs ws = f2 at *
  generalize vn f n cs md y rs ws = n2 at *
  generalize vcs f cs md y rs ws = cs2 at *
  go_enter Try.func16, Try.ntmps16
  go_wp2_with fail
  generalize hW : (w.alloc (.cells #[.int .i64 6, .int .i64 0, .int .i64 0, .int .i64 0, .int .i64 0, .int .i64 0, .int .i64 0, .string ⟨#[]⟩] 37)).alloc (.cells #[.int .i64 0, .int .i64 0, .bool false, .string ⟨#[]⟩, .slice none 0 0] 34) = W at HDO ⊢
  clear hW
  generalize hq : w.heap.size = q at HDO hcb ⊢
  have HQ := hide hq
  clear hq
  generalize q + 1 = p at HDO ⊢
  obtain ⟨x0, x1, x6⟩ := (unhide HDO).s.c
  have s1 : W.cell? ⟨cb, 3 + 0, none⟩ = some (.pointer (some ⟨wb, 0, none⟩)) := (unhide HDO).kp.cell (by simp) s0
  have s2 : W.cell? ⟨cb, 3, none⟩ = some (.pointer (some ⟨wb, 0, none⟩)) := s1
  clear s0
  refine (isseat 0 _).mono ?_
  rintro e w' ⟨rfl, hw'⟩
  subst w'
  rw [show seatB 0 = true from rfl]
  go_wp2_with fail
  go_quiet (fail)
  go_wp2_with fail
  refine (unhide HCM _ ((unhide HDO).kp.drewN _)).mono ?_
  rintro e w1 ⟨rfl, hCh⟩
  obtain ⟨hst1, hev1⟩ := ((unhide HDO).kp0 ((Kp.refl [] W).drewN nq)).ch hCh (unhide HLO)
  obtain ⟨G1, ⟨Gr1, Gs1, bx1, h1⟩, k1, t1⟩ := hCh
  obtain ⟨y0, y1, y6⟩ := hst1.c
  have z0 := h1.seat (i := 0) (by omega)
  have z1 : w1.cell? ⟨cb, 3, none⟩ = some (.pointer (st 0)) := z0
  have z2 := h1.fz 3
  have z3 : w1.frozen? ⟨cb, 3 + 0, none⟩ = false := z2
  have hpc : p ≠ cb := by have := (unhide HDO).hp; have := unhide HQ; omega
  have hcp : cb ≠ p := fun e => hpc e.symm
  obtain ⟨e0, e1, e2, e3, e4, g0, g1, g2, g3, g4⟩ := hev1.c
  have HX := hide (Ch.trans k1 t1 (h1.sit (i := 0) (by omega) none))
  clear hst1 hev1 h1 k1 t1 x0 x1 x6 s1 s2
  go_wp2_with fail
  go_region
  all_goals
    go_wp2_with fail
    refine bodyPost_ret (v := .agg #[.int .i64 zc, .int .i64 zn, .bool false, .string ⟨#[]⟩, .slice none 0 0]) (by simp [results, Try.results16, go_sem, e0, e1, e2, e3, e4]) rfl ⟨rfl, ?_⟩
    exact (unhide HX).side ((unhide HDO).kp.drewN nq) (unhide HLO) (by have := (unhide HDO).hp; omega) (lt_of_block (unhide HDO).e) ((ev5 _ _ _ _ _).drew)

set_option maxHeartbeats 2000000 in
theorem cdo10 {B cb sb n wb : Nat} {G Gr Gs H : List Nat} {bx : Array Value} {f : Nat → List Ver} {cs : List (List Ver)} {st : Nat → Option Addr} {md y : Int} {rs : List Int} {ws : List Ver} (keep : Int) (w : World) (h : Crt B w cb sb G Gr Gs bx f n cs [] st) (hv : VI f n cs) (hd : Wrk B w wb H md y rs ws) (hw : WOk ws) (hrl : rs.length ≤ 900) (hwl : ws.length ≤ 900) (hst : st 0 = some ⟨wb, 0, none⟩) :
    Calls Try.prog 16 #[.pointer (some ⟨cb, 0, none⟩), .agg #[.int .i64 10, .int .i64 0, .int .i64 0, .int .i64 0, .int .i64 0, .int .i64 0, .int .i64 keep, .string ⟨#[]⟩]] w fun e w' => e = .returned (.agg #[.int .i64 (vcode f cs md y rs ws), .int .i64 (tnum f cs md y rs ws keep), .bool false, .string ⟨#[]⟩, .slice none 0 0]) ∧ ∃ sb', Ch (CrtT cb sb' (wal0 (tcs f cs md y rs ws keep)) (tcs f cs md y rs ws keep).length (tcs f cs md y rs ws keep) [] (fun _ => none)) B w G w' := by
  have HV := hide h
  have HLO := hide (fun x (hx : x ∈ G) => (h.lo x hx).2)
  have HMY := hide (fun W (hk : Kp [] w W) => wmay69 W (h.s.kp0 hk) (hd.kp0 hk) hrl hwl)
  have HWR := hide (fun W (hk : Kp [] w W) => wwrites67 W (hd.kp0 hk) hwl)
  have HDO := hide (doW w 10 keep)
  have s0 := h.seat (i := 0) (by omega)
  rw [hst] at s0
  have u0 := h.c0
  have u8 := h.s.ncell
  have hcb := (h.lo cb h.cG).2
  have hpl := wk_len ws 8
  have HP := hide hw.pf
  have hn40 := h.s.inv.n40
  have hlen := hv.len
  clear h hv hd hw hrl hwl hst
  by_cases hz : dm f md y rs ws = 0
  · rw [hz] at HMY
    by_cases hl : (wk ws 8).length = 0
    · rw [(v_none (cs := cs) hz hl).1, tnum_same (t_none (f := f) (cs := cs) (md := md) (y := y) (rs := rs) (keep := keep) hl), t_none (f := f) (cs := cs) (md := md) (y := y) (rs := rs) (keep := keep) hl]
      clear HP
      go_enter Try.func16, Try.ntmps16
      go_wp2_with fail
      generalize hW : (w.alloc (.cells #[.int .i64 10, .int .i64 0, .int .i64 0, .int .i64 0, .int .i64 0, .int .i64 0, .int .i64 keep, .string ⟨#[]⟩] 37)).alloc (.cells #[.int .i64 0, .int .i64 0, .bool false, .string ⟨#[]⟩, .slice none 0 0] 34) = W at HDO ⊢
      clear hW
      generalize hq : w.heap.size = q at HDO hcb ⊢
      have HQ := hide hq
      clear hq
      generalize q + 1 = p at HDO ⊢
      obtain ⟨x0, x1, x6⟩ := (unhide HDO).s.c
      have s1 : W.cell? ⟨cb, 3 + 0, none⟩ = some (.pointer (some ⟨wb, 0, none⟩)) := (unhide HDO).kp.cell (by simp) s0
      have s2 : W.cell? ⟨cb, 3, none⟩ = some (.pointer (some ⟨wb, 0, none⟩)) := s1
      have v0 : W.cell? ⟨cb, 0, none⟩ = some (.pointer (some ⟨sb, 0, none⟩)) := (unhide HDO).kp.cell (by simp) u0
      clear s0
      refine (isseat 0 _).mono ?_
      rintro e w' ⟨rfl, hw'⟩
      subst w'
      rw [show seatB 0 = true from rfl]
      go_wp2_with fail
      go_quiet (fail)
      go_wp2_with fail
      refine (unhide HMY _ ((unhide HDO).kp.drewN _)).mono ?_
      rintro e w1 ⟨rfl, hk1⟩
      have hK1 := ((unhide HDO).kp.drewN nq).trans0 hk1
      have HD1 := hide (((unhide HDO).kp0 ((Kp.refl [] W).drewN nq)).kp0 hk1)
      have a0 : w1.cell? ⟨cb, 0, none⟩ = some (.pointer (some ⟨sb, 0, none⟩)) := hK1.cell (by simp) u0
      have a8 : w1.cell? ⟨sb, 8, none⟩ = some (.int .i64 n) := hK1.cell (by simp) u8
      have HK1 := hide hK1
      clear hk1 hK1 x0 x1 x6 s1 s2 v0
      obtain ⟨x0, x1, x6⟩ := (unhide HD1).s.c
      go_wp2_with fail
      refine (unhide HWR w1 (unhide HK1)).mono ?_
      rintro e w2 ⟨a, cap, rfl, ho, hk2⟩
      have HD2 := hide ((unhide HD1).kp0 hk2)
      have HK2 := hide ((unhide HK1).trans0 hk2)
      have HO := hide (own_base ho (unhide HK1).size)
      clear ho hk2 x0 x1 x6 a0 a8
      obtain ⟨x0, x1, x6⟩ := (unhide HD2).s.c
      rw [hl]
      clear HO
      go_wp2_with fail
      refine (cagain w2 ((unhide HV).kp0 (unhide HK2))).mono ?_
      rintro e w4 ⟨rfl, sb4, hCh⟩
      obtain ⟨_, hev4⟩ := (unhide HD2).ch hCh (unhide HLO)
      have HX := hide hCh
      obtain ⟨G4, ⟨Gr4, Gs4, bx4, h4⟩, k4, t4⟩ := hCh
      have b0 := h4.c0
      have b8 := h4.s.ncell
      have hnn : ¬ (n : Int) < (cs.length : Int) := by omega
      obtain ⟨e0, e1, e2, e3, e4, g0, g1, g2, g3, g4⟩ := hev4.c
      have HLEN := hide hlen
      clear hev4 h4 k4 t4 x0 x1 x6 hlen
      go_wp2_with fail
      refine bodyPost_ret (v := .agg #[.int .i64 0, .int .i64 0, .bool false, .string ⟨#[]⟩, .slice none 0 0]) (by simp [results, Try.results16, go_sem, e0, e1, e2, e3, e4]) rfl ⟨rfl, sb4, ?_⟩
      exact (unhide HX).side (unhide HK2) (unhide HLO) (by have := (unhide HDO).hp; omega) (lt_of_block (unhide HD2).e) (ev5 _ _ _ _ _)
    · have hvc : vcode f cs md y rs ws = lcode cs (wk ws 8) := by unfold vcode; rw [if_pos hz, if_neg hl]
      have htt := t_tear (f := f) (cs := cs) (md := md) (y := y) (rs := rs) (keep := keep) hz hl
      rcases tcs_cases (f := f) (cs := cs) (md := md) (y := y) (rs := rs) (ws := ws) (keep := keep) with hcs | ⟨hcs, -, -⟩
      · rw [tnum_same hcs, hvc, hcs]
        rw [htt] at hcs
        have HCS := hide hcs
        clear hcs hvc htt hz
        generalize hzz : lcode cs (wk ws 8) = z at *
        have HZZ := hide hzz
        clear hzz
        generalize wk ws 8 = ps at *
        go_enter Try.func16, Try.ntmps16
        go_wp2_with fail
        generalize hW : (w.alloc (.cells #[.int .i64 10, .int .i64 0, .int .i64 0, .int .i64 0, .int .i64 0, .int .i64 0, .int .i64 keep, .string ⟨#[]⟩] 37)).alloc (.cells #[.int .i64 0, .int .i64 0, .bool false, .string ⟨#[]⟩, .slice none 0 0] 34) = W at HDO ⊢
        clear hW
        generalize hq : w.heap.size = q at HDO hcb ⊢
        have HQ := hide hq
        clear hq
        generalize q + 1 = p at HDO ⊢
        obtain ⟨x0, x1, x6⟩ := (unhide HDO).s.c
        have s1 : W.cell? ⟨cb, 3 + 0, none⟩ = some (.pointer (some ⟨wb, 0, none⟩)) := (unhide HDO).kp.cell (by simp) s0
        have s2 : W.cell? ⟨cb, 3, none⟩ = some (.pointer (some ⟨wb, 0, none⟩)) := s1
        have v0 : W.cell? ⟨cb, 0, none⟩ = some (.pointer (some ⟨sb, 0, none⟩)) := (unhide HDO).kp.cell (by simp) u0
        clear s0
        refine (isseat 0 _).mono ?_
        rintro e w' ⟨rfl, hw'⟩
        subst w'
        rw [show seatB 0 = true from rfl]
        go_wp2_with fail
        go_quiet (fail)
        go_wp2_with fail
        refine (unhide HMY _ ((unhide HDO).kp.drewN _)).mono ?_
        rintro e w1 ⟨rfl, hk1⟩
        have hK1 := ((unhide HDO).kp.drewN nq).trans0 hk1
        have HD1 := hide (((unhide HDO).kp0 ((Kp.refl [] W).drewN nq)).kp0 hk1)
        have a0 : w1.cell? ⟨cb, 0, none⟩ = some (.pointer (some ⟨sb, 0, none⟩)) := hK1.cell (by simp) u0
        have a8 : w1.cell? ⟨sb, 8, none⟩ = some (.int .i64 n) := hK1.cell (by simp) u8
        have HK1 := hide hK1
        clear hk1 hK1 x0 x1 x6 s1 s2 v0
        obtain ⟨x0, x1, x6⟩ := (unhide HD1).s.c
        go_wp2_with fail
        refine (unhide HWR w1 (unhide HK1)).mono ?_
        rintro e w2 ⟨a, cap, rfl, ho, hk2⟩
        have HD2 := hide ((unhide HD1).kp0 hk2)
        have HK2 := hide ((unhide HK1).trans0 hk2)
        have HO := hide (own_base ho (unhide HK1).size)
        clear ho hk2 x0 x1 x6 a0 a8
        obtain ⟨x0, x1, x6⟩ := (unhide HD2).s.c
        have hlp : (0 : Int) < (ps.length : Int) := by omega
        have h2 := (unhide HV).kp0 (unhide HK2)
        have H2 := hide h2
        have HPR := hide (slo_prs (slo_own (unhide HO) rfl) (unhide HP))
        have hfar : ∀ g o, a = some ⟨g, o, none⟩ → g ∉ Gr := fun g o ea hm => by
          have h3 := (own_addr1 (unhide HO) g o ea).1
          have h4 := ((unhide HV).lo g ((unhide HV).rG g hm)).2
          omega
        have HF := hide hfar
        clear h2 hfar
        go_wp2_with fail
        go_region_with (go_at_call 57; refine (rxtear a cap ps keep _ ((unhide H2).r.kp0 (Kp.refl [] w2).drew) ((unhide HPR).kp0 (Kp.refl [] w2).drew) (fun _ => unhide HF) (by omega)).mono ?_; rintro e w3 ⟨rfl, hL⟩)
        all_goals
          rw [unhide HCS] at hL
          obtain ⟨G3, ⟨Gr3, Gs3, bx3, h3⟩, k3, t3⟩ := ((unhide H2).kp0 (Kp.refl [] w2).drew).roll hL
          have H3 := hide h3
          have K3 := hide k3
          have T3 := hide t3
          clear h3 k3 t3 hL
          rw [unhide HZZ]
          go_wp2_with fail
          refine (cagain w3 (unhide H3)).mono ?_
          rintro e w4 ⟨rfl, sb4, hCh0⟩
          have hCh := Ch.trans (unhide K3) (unhide T3) hCh0
          obtain ⟨_, hev4⟩ := ((unhide HD2).kp0 (Kp.refl [] w2).drew).ch hCh (unhide HLO)
          have HX := hide hCh
          obtain ⟨G4, ⟨Gr4, Gs4, bx4, h4⟩, k4, t4⟩ := hCh
          have b0 := h4.c0
          have b8 := h4.s.ncell
          have hnn : ¬ (n : Int) < (cs.length : Int) := by omega
          obtain ⟨e0, e1, e2, e3, e4, g0, g1, g2, g3, g4⟩ := hev4.c
          have HLEN := hide hlen
          clear hev4 h4 k4 t4 x0 x1 x6 hlen hCh0
          go_wp2_with fail
          refine bodyPost_ret (v := .agg #[.int .i64 z, .int .i64 0, .bool false, .string ⟨#[]⟩, .slice none 0 0]) (by simp [results, Try.results16, go_sem, e0, e1, e2, e3, e4]) rfl ⟨rfl, sb4, ?_⟩
          exact (unhide HX).side (unhide HK2).drew (unhide HLO) (by have := (unhide HDO).hp; omega) (lt_of_block (unhide HD2).e) (ev5 _ _ _ _ _)
      · rw [tnum_more hcs, hvc, hcs]
        rw [htt] at hcs
        have HCS := hide hcs
        clear hcs hvc htt hz
        have hN2 : (cs ++ [wk ws 8]).length = n + 1 := by rw [List.length_append, hlen]; rfl
        obtain ⟨m, hm⟩ : ∃ m, n + 1 = m := ⟨_, rfl⟩
        have hN3 : (cs.length : Int) + 1 = (m : Int) := by omega
        rw [hN3]
        rw [hm] at hN2
        have HN2 := hide hN2
        have hnn : (n : Int) < (m : Int) := by omega
        have HLEN := hide hlen
        clear hN2 hN3 hm hlen
        generalize hzz : lcode cs (wk ws 8) = z at *
        have HZZ := hide hzz
        clear hzz
        generalize wk ws 8 = ps at *
        go_enter Try.func16, Try.ntmps16
        go_wp2_with fail
        generalize hW : (w.alloc (.cells #[.int .i64 10, .int .i64 0, .int .i64 0, .int .i64 0, .int .i64 0, .int .i64 0, .int .i64 keep, .string ⟨#[]⟩] 37)).alloc (.cells #[.int .i64 0, .int .i64 0, .bool false, .string ⟨#[]⟩, .slice none 0 0] 34) = W at HDO ⊢
        clear hW
        generalize hq : w.heap.size = q at HDO hcb ⊢
        have HQ := hide hq
        clear hq
        generalize q + 1 = p at HDO ⊢
        obtain ⟨x0, x1, x6⟩ := (unhide HDO).s.c
        have s1 : W.cell? ⟨cb, 3 + 0, none⟩ = some (.pointer (some ⟨wb, 0, none⟩)) := (unhide HDO).kp.cell (by simp) s0
        have s2 : W.cell? ⟨cb, 3, none⟩ = some (.pointer (some ⟨wb, 0, none⟩)) := s1
        have v0 : W.cell? ⟨cb, 0, none⟩ = some (.pointer (some ⟨sb, 0, none⟩)) := (unhide HDO).kp.cell (by simp) u0
        clear s0
        refine (isseat 0 _).mono ?_
        rintro e w' ⟨rfl, hw'⟩
        subst w'
        rw [show seatB 0 = true from rfl]
        go_wp2_with fail
        go_quiet (fail)
        go_wp2_with fail
        refine (unhide HMY _ ((unhide HDO).kp.drewN _)).mono ?_
        rintro e w1 ⟨rfl, hk1⟩
        have hK1 := ((unhide HDO).kp.drewN nq).trans0 hk1
        have HD1 := hide (((unhide HDO).kp0 ((Kp.refl [] W).drewN nq)).kp0 hk1)
        have a0 : w1.cell? ⟨cb, 0, none⟩ = some (.pointer (some ⟨sb, 0, none⟩)) := hK1.cell (by simp) u0
        have a8 : w1.cell? ⟨sb, 8, none⟩ = some (.int .i64 n) := hK1.cell (by simp) u8
        have HK1 := hide hK1
        clear hk1 hK1 x0 x1 x6 s1 s2 v0
        obtain ⟨x0, x1, x6⟩ := (unhide HD1).s.c
        go_wp2_with fail
        refine (unhide HWR w1 (unhide HK1)).mono ?_
        rintro e w2 ⟨a, cap, rfl, ho, hk2⟩
        have HD2 := hide ((unhide HD1).kp0 hk2)
        have HK2 := hide ((unhide HK1).trans0 hk2)
        have HO := hide (own_base ho (unhide HK1).size)
        clear ho hk2 x0 x1 x6 a0 a8
        obtain ⟨x0, x1, x6⟩ := (unhide HD2).s.c
        have hlp : (0 : Int) < (ps.length : Int) := by omega
        have h2 := (unhide HV).kp0 (unhide HK2)
        have H2 := hide h2
        have HPR := hide (slo_prs (slo_own (unhide HO) rfl) (unhide HP))
        have hfar : ∀ g o, a = some ⟨g, o, none⟩ → g ∉ Gr := fun g o ea hm => by
          have h3 := (own_addr1 (unhide HO) g o ea).1
          have h4 := ((unhide HV).lo g ((unhide HV).rG g hm)).2
          omega
        have HF := hide hfar
        clear h2 hfar
        go_wp2_with fail
        go_region_with (go_at_call 57; refine (rxtear a cap ps keep _ ((unhide H2).r.kp0 (Kp.refl [] w2).drew) ((unhide HPR).kp0 (Kp.refl [] w2).drew) (fun _ => unhide HF) (by omega)).mono ?_; rintro e w3 ⟨rfl, hL⟩)
        all_goals
          rw [unhide HCS] at hL
          obtain ⟨G3, ⟨Gr3, Gs3, bx3, h3⟩, k3, t3⟩ := ((unhide H2).kp0 (Kp.refl [] w2).drew).roll hL
          have H3 := hide h3
          have K3 := hide k3
          have T3 := hide t3
          clear h3 k3 t3 hL
          rw [unhide HZZ]
          go_wp2_with fail
          refine (cagain w3 (unhide H3)).mono ?_
          rintro e w4 ⟨rfl, sb4, hCh0⟩
          have hCh := Ch.trans (unhide K3) (unhide T3) hCh0
          obtain ⟨_, hev4⟩ := ((unhide HD2).kp0 (Kp.refl [] w2).drew).ch hCh (unhide HLO)
          have HX := hide hCh
          obtain ⟨G4, ⟨Gr4, Gs4, bx4, h4⟩, k4, t4⟩ := hCh
          have b0 := h4.c0
          have b8 := h4.s.ncell
          rw [unhide HN2] at b8
          obtain ⟨e0, e1, e2, e3, e4, g0, g1, g2, g3, g4⟩ := hev4.c
          clear hev4 h4 k4 t4 x0 x1 x6 hCh0
          go_wp2_with fail
          refine bodyPost_ret (v := .agg #[.int .i64 z, .int .i64 (m : Int), .bool false, .string ⟨#[]⟩, .slice none 0 0]) (by simp [results, Try.results16, go_sem, e0, e1, e2, e3, e4]) rfl ⟨rfl, sb4, ?_⟩
          exact (unhide HX).side (unhide HK2).drew (unhide HLO) (by have := (unhide HDO).hp; omega) (lt_of_block (unhide HD2).e) (ev5 _ _ _ _ _)
  · rw [(v_may (cs := cs) hz).1, tnum_same (t_may (cs := cs) (keep := keep) hz), t_may (cs := cs) (keep := keep) hz]
    clear HP
    generalize dm f md y rs ws = z at *
    go_enter Try.func16, Try.ntmps16
    go_wp2_with fail
    generalize hW : (w.alloc (.cells #[.int .i64 10, .int .i64 0, .int .i64 0, .int .i64 0, .int .i64 0, .int .i64 0, .int .i64 keep, .string ⟨#[]⟩] 37)).alloc (.cells #[.int .i64 0, .int .i64 0, .bool false, .string ⟨#[]⟩, .slice none 0 0] 34) = W at HDO ⊢
    clear hW
    generalize hq : w.heap.size = q at HDO hcb ⊢
    have HQ := hide hq
    clear hq
    generalize q + 1 = p at HDO ⊢
    obtain ⟨x0, x1, x6⟩ := (unhide HDO).s.c
    have s1 : W.cell? ⟨cb, 3 + 0, none⟩ = some (.pointer (some ⟨wb, 0, none⟩)) := (unhide HDO).kp.cell (by simp) s0
    have s2 : W.cell? ⟨cb, 3, none⟩ = some (.pointer (some ⟨wb, 0, none⟩)) := s1
    have v0 : W.cell? ⟨cb, 0, none⟩ = some (.pointer (some ⟨sb, 0, none⟩)) := (unhide HDO).kp.cell (by simp) u0
    clear s0
    refine (isseat 0 _).mono ?_
    rintro e w' ⟨rfl, hw'⟩
    subst w'
    rw [show seatB 0 = true from rfl]
    go_wp2_with fail
    go_quiet (fail)
    go_wp2_with fail
    refine (unhide HMY _ ((unhide HDO).kp.drewN _)).mono ?_
    rintro e w1 ⟨rfl, hk1⟩
    have hK1 := ((unhide HDO).kp.drewN nq).trans0 hk1
    have HD1 := hide (((unhide HDO).kp0 ((Kp.refl [] W).drewN nq)).kp0 hk1)
    have a0 : w1.cell? ⟨cb, 0, none⟩ = some (.pointer (some ⟨sb, 0, none⟩)) := hK1.cell (by simp) u0
    have a8 : w1.cell? ⟨sb, 8, none⟩ = some (.int .i64 n) := hK1.cell (by simp) u8
    have HK1 := hide hK1
    clear hk1 hK1 x0 x1 x6 s1 s2 v0
    obtain ⟨x0, x1, x6⟩ := (unhide HD1).s.c
    go_wp2_with fail
    refine (unhide HWR w1 (unhide HK1)).mono ?_
    rintro e w2 ⟨a, cap, rfl, ho, hk2⟩
    have HD2 := hide ((unhide HD1).kp0 hk2)
    have HK2 := hide ((unhide HK1).trans0 hk2)
    have HO := hide (own_base ho (unhide HK1).size)
    clear ho hk2 x0 x1 x6 a0 a8
    obtain ⟨x0, x1, x6⟩ := (unhide HD2).s.c
    clear HO
    go_wp2_with fail
    refine (cagain w2 ((unhide HV).kp0 (unhide HK2))).mono ?_
    rintro e w4 ⟨rfl, sb4, hCh⟩
    obtain ⟨_, hev4⟩ := (unhide HD2).ch hCh (unhide HLO)
    have HX := hide hCh
    obtain ⟨G4, ⟨Gr4, Gs4, bx4, h4⟩, k4, t4⟩ := hCh
    have b0 := h4.c0
    have b8 := h4.s.ncell
    have hnn : ¬ (n : Int) < (cs.length : Int) := by omega
    obtain ⟨e0, e1, e2, e3, e4, g0, g1, g2, g3, g4⟩ := hev4.c
    have HLEN := hide hlen
    clear hev4 h4 k4 t4 x0 x1 x6 hlen
    go_wp2_with fail
    refine bodyPost_ret (v := .agg #[.int .i64 z, .int .i64 0, .bool false, .string ⟨#[]⟩, .slice none 0 0]) (by simp [results, Try.results16, go_sem, e0, e1, e2, e3, e4]) rfl ⟨rfl, sb4, ?_⟩
    exact (unhide HX).side (unhide HK2) (unhide HLO) (by have := (unhide HDO).hp; omega) (lt_of_block (unhide HD2).e) (ev5 _ _ _ _ _)

end Go.Proofs.Ytehhpmfeaeabgac

/- A house: a vault, a court, and deeds of both; its memory, and what calls leave of it. -/
namespace Go.Proofs.Ytehhpmfeaeabgac
open Go.RowKit
set_option maxRecDepth 20000

/-- A variable: a block that is known whole. -/
def BoxT (q : Nat) (cs : Array Value) (T : TypeId) : Thing where
  holds B w F := w.heap[q]? = some (.cells cs T (0, 0)) ∧ F = [q] ∧ B ≤ q
  kp := fun ⟨h1, h2, h3⟩ hk hS => ⟨by rw [hk.block q (lt_of_block h1) (hS q (by rw [h2]; simp))]; exact h1, h2, h3⟩
  lo := fun ⟨h1, h2, h3⟩ x hx => by rw [h2] at hx; simp at hx; rw [hx]; exact ⟨h3, lt_of_block h1⟩
  base := fun ⟨h1, h2, h3⟩ hC => ⟨h1, h2, Nat.le_trans hC h3⟩

section
variable {w0 w w' : World} {o o1 o2 o3 : Thing} {r : List Thing}
theorem zoo_at3 (h : Zoo w0 w (o1 :: o2 :: o3 :: o :: r)) : ∃ F, o.holds w0.heap.size w F ∧ ∀ (o' : Thing) (w' : World), Ch o' w0.heap.size w F w' → Zoo w0 w' (o1 :: o2 :: o3 :: o' :: r) := Zoo.at_ (l1 := [o1, o2, o3]) h
theorem Zoo.box (h : Zoo w0 w r) (cs : Array Value) (T : TypeId) : Zoo w0 (w.alloc (.cells cs T)) (BoxT w.heap.size cs T :: r) :=
  h.cons (F := [w.heap.size]) ⟨heap_alloc_new w _, rfl, Nat.le_refl _⟩ ((Kp.refl [] w).alloc _)
theorem Zoo.var {q : Nat} {cs : Array Value} {T : TypeId} (h : Zoo w0 w (BoxT q cs T :: r)) : w.heap[q]? = some (.cells cs T (0, 0)) := by
  obtain ⟨F, h1, _⟩ := zoo_at0 h
  exact h1.1
theorem Zoo.base (h : Zoo w0 w r) : w0.heap.size ≤ w.heap.size := h.kp.size
end

def ptrs (bs : List Nat) : List Value := bs.map fun b => .pointer (some ⟨b, 0, none⟩)
theorem ptrs_one (bs : List Nat) : ∀ u ∈ ptrs bs, u.oneCell' = true := by
  intro u hu
  obtain ⟨_, _, rfl⟩ := List.mem_map.1 hu
  rfl
theorem ptrs_length (bs : List Nat) : (ptrs bs).length = bs.length := by simp [ptrs]
theorem ptrs_append (xs bs : List Nat) : ptrs (xs ++ bs) = ptrs xs ++ ptrs bs := by simp [ptrs]
theorem ptrs_at {l1 l2 : List Nat} {x k : Nat} (hk : k = l1.length) : (ptrs (l1 ++ x :: l2))[k]? = some (.pointer (some ⟨x, 0, none⟩)) := by
  subst hk
  simp [ptrs]

section
variable {B : Nat} {w w' W : World} {hb : Nat} {F S : List Nat} {vb cb : Nat} {da a' : Option Addr} {dc c' : Nat} {wa : Option Addr} {wc dn wn : Nat} {dbs wbs l : List Nat}
end
theorem Try.info40 : (Try.prog.info? 40).map (fun i => (i.zero, i.size, i.bytes)) = some (some (.pointer none), 1, 8) := by kernel_rfl
theorem Try.info58 : (Try.prog.info? 58).map (fun i => (i.zero, i.size, i.bytes)) = some (some (.pointer none), 1, 8) := by kernel_rfl

/-- A deed of a house, both. -/
structure Dd where
  db : Nat
  wb : Nat
  md : Int
  y : Int
  rs : List Int
  ws : List Ver
def prt (d : Dd) : Thing := PrT d.db d.wb d.md d.y d.rs d.rs d.ws d.ws
def dOk (i : Nat) (d : Dd) : Prop := WOk d.ws ∧ d.rs.length ≤ i ∧ d.ws.length ≤ i
theorem dOk.mono {i j : Nat} {d : Dd} (h : dOk i d) (hij : i ≤ j) : dOk j d := ⟨h.1, Nat.le_trans h.2.1 hij, Nat.le_trans h.2.2 hij⟩

end Go.Proofs.Ytehhpmfeaeabgac

/- A region that draws its order, walked in an order of the prover's own. -/
namespace Go.Proofs.Ytehhpmfeaeabgac
open Go.RowKit
set_option maxRecDepth 20000

/-- A stronger condition serves. -/
theorem wpAnyH_switch {P : Program} {md : Region.Mode} {ops : Array Oper} {Q : Exit → Act → World → Prop} {S S' : World → Prop} (hS : ∀ w, S' w → S w) : ∀ {fuel : Nat} {listed : Array Bool} {a : Act} {w : World}, wpAnyH P md ops Q S' fuel listed a w → wpAnyH P md ops Q S fuel listed a w
  | 0, _, _, _, h => h
  | _ + 1, _, _, _, h => ⟨h.1, fun i hi => wpOp_mono (fun _ _ h' => ⟨hS _ h'.1, wpAnyH_switch hS h'.2⟩) (h.2 i hi)⟩
theorem drop_at {l rest : List Oper} {i : Nat} {o : Oper} (h : l.drop i = o :: rest) : l.toArray[i]? = some o := by
  have := congrArg List.head? h
  rw [List.head?_drop] at this
  simpa using this
theorem wpAnyH_tk {P : Program} {md : Region.Mode} {l rest : List Oper} {Q : Exit → Act → World → Prop} {S : World → Prop} {i : Nat} {oi : Oper} {v : Value} {fuel : Nat} {listed : Array Bool} {a : Act} {w : World} (hi : l.drop i = oi :: rest)
    (hs : Region.noSelect l.toArray = true) (hf : Region.free md l.toArray listed i = true) (hr : (Region.ready md l.toArray listed).contains i = true)
    (hQ : ∀ c a w, Q (.panic c) (a.put oi.dst v) w → Q (.panic c) a w) (hy : YieldsIf P l.toArray S oi v a) (hS : S w)
    (h : wpAnyH P md l.toArray Q S fuel (listed.setIfInBounds i true) (a.put oi.dst v) w) : wpAnyH P md l.toArray Q S (fuel + 1) listed a w := wpAnyH_take (drop_at hi) hs hf hr hQ hy hS h
theorem wpAnyH_only {P : Program} {md : Region.Mode} {l rest : List Oper} {Q : Exit → Act → World → Prop} {S : World → Prop} {i : Nat} {o : Oper} {fuel : Nat} {listed : Array Bool} {a : Act} {w : World} (hi : l.drop i = o :: rest) (hr : Region.ready md l.toArray listed = [i])
    (h : ∀ K' : Act → World → Prop, Shut (∀ a w, S w → (S w → wpAnyH P md l.toArray Q S fuel (listed.setIfInBounds i true) a w) → K' a w) → if Region.wanted o (yielded l.toArray a.tmps) = true then Oper.wp P o a w K' Q else K' (a.put o.dst undef) w) :
    wpAnyH P md l.toArray Q S (fuel + 1) listed a w := wpAnyH_ready hr (by simp) (AllReadyH.cons (drop_at hi) h AllReadyH.nil)
end Go.Proofs.Ytehhpmfeaeabgac

/- vaultBegun answers true. -/
namespace Go.Proofs.Ytehhpmfeaeabgac
open Go.RowKit
set_option maxRecDepth 20000
attribute [local go_sem ↓] Go.wp_at_zero Go.wp_at_succ

def vx : ByteArray := ⟨#[120]⟩
def vy : ByteArray := ⟨#[121]⟩
def vw1 : List Ver := [⟨1, true, vx⟩]
def vw2 : List Ver := [⟨1, true, vy⟩]
def vf0 : Nat → List Ver := fun _ => [dv]
def vf1 : Nat → List Ver := wst vf0 0 vw1
theorem vx_le : vx.size ≤ maxLen := by unfold maxLen; decide
theorem vy_le : vy.size ≤ maxLen := by unfold maxLen; decide
theorem vb_b1 : bcode vf0 0 1 9 = 0 := by decide
theorem vb_a1 : bat 0 1 9 = 0 := by decide
theorem vb_b2 : bcode vf0 0 2 0 = 0 := by decide
theorem vb_a2 : bat 0 2 0 = 0 := by decide
theorem vb_p1 : dpc 1 1 true vx = 0 := by decide
theorem vb_q1 : dpw 1 [] 1 true vx = vw1 := by rfl
theorem vb_p2 : dpc 2 1 true vy = 0 := by decide
theorem vb_q2 : dpw 2 [] 1 true vy = vw2 := by rfl
theorem vb_wk : wk vw1 8 = vw1 := by rfl
theorem vb_ok1 : WOk vw1 := fun p hp => by rw [List.mem_singleton.1 hp]; decide
theorem vb_ok2 : WOk vw2 := fun p hp => by rw [List.mem_singleton.1 hp]; decide
theorem vb_dm1 : dm vf0 1 0 [] vw1 = 0 := by rfl
theorem vb_lc : lcode [] vw1 = 0 := by decide
theorem vb_c1 : vcode vf0 [] 1 0 [] vw1 = 0 ∧ vdone vf0 [] 1 0 [] vw1 = true := v_yes vb_dm1 (by rw [vb_wk]; decide) (by rw [vb_wk]; exact vb_lc)
theorem vb_f1 : vf vf0 0 [] 1 0 [] vw1 = vf1 ∧ vn vf0 0 [] 1 0 [] vw1 = 1 ∧ vcs vf0 [] 1 0 [] vw1 = [vw1] ∧ vnum vf0 0 [] 1 0 [] vw1 = 1 := by
  obtain ⟨h1, h2, h3, h4⟩ := v_did (n := 0) vb_c1.2
  rw [vb_wk] at h1 h3
  exact ⟨h1, h2, h3, by rw [h4]; rfl⟩
theorem vb_dm2 : dm vf1 2 0 [] vw2 = 10 := by rfl
theorem vb_c2 : vcode vf1 [vw1] 2 0 [] vw2 = 10 ∧ vdone vf1 [vw1] 2 0 [] vw2 = false := by
  have h : ¬ dm vf1 2 0 [] vw2 = 0 := by rw [vb_dm2]; decide
  obtain ⟨h1, h2⟩ := v_may (cs := [vw1]) h
  exact ⟨by rw [h1, vb_dm2], h2⟩
theorem vb_f2 : vf vf1 1 [vw1] 2 0 [] vw2 = vf1 ∧ vn vf1 1 [vw1] 2 0 [] vw2 = 1 ∧ vcs vf1 [vw1] 2 0 [] vw2 = [vw1] ∧ vnum vf1 1 [vw1] 2 0 [] vw2 = 0 := v_not (n := 1) vb_c2.2
theorem vb_b3 : bcode vf1 1 3 2 = 1 := by decide
theorem vb_vi0 : VI vf0 0 [] := vi_new
theorem vb_vi1 : VI vf1 1 [vw1] := by
  have := vi_new.commit vw1
  exact this
theorem vb_rd : tr (wal0 [vw1]) 1 1 1 = ⟨0, true, ⟨#[120]⟩⟩ := by rfl
theorem vb_len : (lb [vw1] ++ []).length = 5 := by decide

section
variable {w0 w : World} {vb tb gb : Nat} {f : Nat → List Ver} {n : Nat} {cs : List (List Ver)} {r : List Thing} {D D2 : Nat} {md y md2 y2 : Int} {rs rs2 : List Int} {ws ws2 : List Ver}
theorem b_begin {md at_ : Int} (hb : bcode f n md at_ = 0) (hz : Zoo w0 w (VltT vb tb gb f n cs [] :: r)) :
    Calls Try.prog 73 #[.pointer (some ⟨vb, 0, none⟩), .int .i64 md, .int .i64 at_] w fun e w' => ∃ D, e = .returned (.tuple #[.pointer (some ⟨D, 0, none⟩), .int .i64 0]) ∧ Hid (Zoo w0 w' (VltT vb tb gb f n cs [] :: BoxT D (dcells md (bat n md at_) (ncell [] [])) 106 :: r)) := by
  obtain ⟨F, ⟨Ft, Fg, k⟩, _⟩ := zoo_at0 hz
  refine (vbegin md at_ w k).mono ?_
  rintro e w' (⟨_, D, rfl, hD, hd, hk⟩ | ⟨h, _⟩)
  · exact ⟨D, rfl, Zoo.put_ (l1 := [VltT vb tb gb f n cs []]) hz (F := [D]) ⟨hd, rfl, hD⟩ hk⟩
  · exact absurd hb h
theorem b_none {md at_ z : Int} (hb : bcode f n md at_ = z) (h0 : z ≠ 0) (hz : Zoo w0 w (VltT vb tb gb f n cs [] :: r)) :
    Calls Try.prog 73 #[.pointer (some ⟨vb, 0, none⟩), .int .i64 md, .int .i64 at_] w fun e w' => e = .returned (.tuple #[.pointer none, .int .i64 z]) ∧ Hid (Zoo w0 w' (VltT vb tb gb f n cs [] :: r)) := by
  obtain ⟨F, ⟨Ft, Fg, k⟩, _⟩ := zoo_at0 hz
  refine (vbegin md at_ w k).mono ?_
  rintro e w' (⟨h, _⟩ | ⟨_, rfl, hk⟩)
  · exact absurd (hb.symm.trans h) h0
  · exact ⟨by rw [hb], hz.kp0 hk⟩
theorem b_put1 (k : Int) (t : Bool) (s : ByteArray) (hs : s.size ≤ maxLen) (hz : Zoo w0 w (VltT vb tb gb f n cs [] :: BoxT D (dcells md y (ncell rs ws)) 106 :: r)) :
    Calls Try.prog 76 #[.pointer (some ⟨D, 0, none⟩), .int .i64 k, .agg #[.bool t, .string s]] w fun e w' => e = .returned (.int .i64 (dpc md k t s)) ∧ Hid (Zoo w0 w' (VltT vb tb gb f n cs [] :: BoxT D (dcells md y (ncell rs (dpw md ws k t s))) 106 :: r)) := by
  obtain ⟨F, ⟨h1, h2, h3⟩, k2⟩ := zoo_at1 hz
  exact (dput57 k t s w h1 hs).mono (fun e w' ⟨he, hd, hk⟩ => ⟨he, k2 _ _ ⟨F, ⟨hd, h2, h3⟩, by rw [h2]; exact hk, fun x hx => .inl hx⟩⟩)
theorem b_put2 {o : Thing} (k : Int) (t : Bool) (s : ByteArray) (hs : s.size ≤ maxLen) (hz : Zoo w0 w (VltT vb tb gb f n cs [] :: o :: BoxT D (dcells md y (ncell rs ws)) 106 :: r)) :
    Calls Try.prog 76 #[.pointer (some ⟨D, 0, none⟩), .int .i64 k, .agg #[.bool t, .string s]] w fun e w' => e = .returned (.int .i64 (dpc md k t s)) ∧ Hid (Zoo w0 w' (VltT vb tb gb f n cs [] :: o :: BoxT D (dcells md y (ncell rs (dpw md ws k t s))) 106 :: r)) := by
  obtain ⟨F, ⟨h1, h2, h3⟩, k2⟩ := zoo_at2 hz
  exact (dput57 k t s w h1 hs).mono (fun e w' ⟨he, hd, hk⟩ => ⟨he, k2 _ _ ⟨F, ⟨hd, h2, h3⟩, by rw [h2]; exact hk, fun x hx => .inl hx⟩⟩)
theorem b_commit (hv : VI f n cs) (hd : Ded w D md y rs ws) (hw : WOk ws) (hz : Zoo w0 w (VltT vb tb gb f n cs [] :: r)) :
    Calls Try.prog 78 #[.pointer (some ⟨vb, 0, none⟩), .pointer (some ⟨D, 0, none⟩)] w fun e w' => e = .returned (.tuple #[.int .i64 (vnum f n cs md y rs ws), .int .i64 (vcode f cs md y rs ws)]) ∧ Hid (Zoo w0 w' (VltT vb tb gb (vf f n cs md y rs ws) (vn f n cs md y rs ws) (vcs f cs md y rs ws) [] :: r)) := by
  obtain ⟨F, ⟨Ft, Fg, k⟩, k2⟩ := zoo_at0 hz
  exact (vcommit w k hv hd hw).mono (fun e w' ⟨he, hc⟩ => ⟨he, k2 _ _ hc⟩)
theorem b_crash (hz : Zoo w0 w (VltT vb tb gb f n cs [] :: r)) :
    Calls Try.prog 43 #[.pointer (some ⟨vb, 0, none⟩)] w fun e w' => e = .returned (.tuple #[]) ∧ ∃ tb', w'.cell? ⟨vb, 0, none⟩ = some (.pointer (some ⟨tb', 0, none⟩)) ∧ Hid (Zoo w0 w' (VltT vb tb' gb (wal0 cs) cs.length cs [] :: r)) := by
  obtain ⟨F, ⟨Ft, Fg, k⟩, k2⟩ := zoo_at0 hz
  refine (vcrash w k).mono ?_
  rintro e w' ⟨rfl, tb', hc⟩
  have hz' := k2 _ _ hc
  obtain ⟨F', ⟨Ft', Fg', k'⟩, _⟩ := zoo_at0 hz'
  exact ⟨rfl, tb', k'.c0, hz'⟩
theorem b_read (k y : Int) (v : Ver) (hv : tr f n k y = v) (hz : Zoo w0 w (VltT vb tb gb f n cs [] :: r)) :
    Calls Try.prog 28 #[.pointer (some ⟨tb, 0, none⟩), .int .i64 k, .int .i64 y] w fun e w' => e = .returned (.tuple #[.agg #[.bool v.t, .string v.s], .int .i64 v.a]) ∧ Hid (Zoo w0 w' (VltT vb tb gb f n cs [] :: r)) := by
  obtain ⟨F, ⟨Ft, Fg, h⟩, _⟩ := zoo_at0 hz
  subst hv
  exact (tread32 k y w h.t).mono (fun e w' ⟨he, hk⟩ => ⟨he, hz.kp0 hk⟩)
end

end Go.Proofs.Ytehhpmfeaeabgac

/- A vault at the head of a list of things: its contracts, and plain words of deeds that only read. -/
namespace Go.Proofs.Ytehhpmfeaeabgac
open Go.RowKit
set_option maxRecDepth 20000

theorem zoo_mem {w0 w : World} {o : Thing} {os : List Thing} (h : Zoo w0 w os) (hm : o ∈ os) : ∃ F, o.holds w0.heap.size w F := by
  obtain ⟨l1, l2, rfl⟩ := List.append_of_mem hm
  obtain ⟨F, h1, _⟩ := h.at_
  exact ⟨F, h1⟩
theorem zoo_swap {w0 w : World} {A V : Thing} {r : List Thing} (hz : Zoo w0 w (A :: V :: r)) : Zoo w0 w (V :: A :: r) := hz.perm (List.Perm.swap V A r)
theorem zoo_in2 {w0 w : World} {B V D : Thing} {r : List Thing} (hz : Zoo w0 w (B :: V :: D :: r)) : Zoo w0 w (V :: D :: B :: r) := hz.perm (List.perm_middle (l₁ := [V, D])).symm
theorem zoo_var2 {w0 w : World} {V D : Thing} {r : List Thing} {p : Nat} {cs : Array Value} {T : TypeId} (hz : Zoo w0 w (V :: D :: BoxT p cs T :: r)) : w.heap[p]? = some (.cells cs T (0, 0)) := by
  obtain ⟨F, h1, _⟩ := zoo_at2 hz
  exact h1.1
theorem zoo_var3 {w0 w : World} {V D E : Thing} {r : List Thing} {p : Nat} {cs : Array Value} {T : TypeId} (hz : Zoo w0 w (V :: D :: E :: BoxT p cs T :: r)) : w.heap[p]? = some (.cells cs T (0, 0)) := by
  obtain ⟨F, h1, _⟩ := zoo_at3 hz
  exact h1.1
section
variable {w0 w : World} {vb tb gb : Nat} {f : Nat → List Ver} {n : Nat} {cs : List (List Ver)} {r : List Thing} {D : Nat} {md y : Int} {rs : List Int} {ws : List Ver}
theorem l_get (k : Int) (hz : Zoo w0 w (VltT vb tb gb f n cs [] :: BoxT D (dcells md y (ncell rs ws)) 106 :: r)) :
    Calls Try.prog 75 #[.pointer (some ⟨D, 0, none⟩), .pointer (some ⟨tb, 0, none⟩), .int .i64 k] w fun e w' => e = .returned (.tuple #[.agg #[.bool (dg f n y ws k).t, .string (dg f n y ws k).s], .int .i64 (dg f n y ws k).a]) ∧
      Hid (Zoo w0 w' (VltT vb tb gb f n cs [] :: BoxT D (dcells md y (ncell (dr f n y rs ws k) ws)) 106 :: r)) := by
  obtain ⟨F1, ⟨Ft, Fg, k1⟩, _⟩ := zoo_at0 hz
  obtain ⟨F, ⟨h1, h2, h3⟩, k2⟩ := zoo_at1 hz
  exact (dget55 k w k1.t h1).mono (fun e w' ⟨he, hd, hk⟩ => ⟨he, k2 _ _ ⟨F, ⟨hd, h2, h3⟩, by rw [h2]; exact hk, fun x hx => .inl hx⟩⟩)
theorem l_ded (hz : Zoo w0 w (VltT vb tb gb f n cs [] :: BoxT D (dcells md y (ncell rs ws)) 106 :: r)) : Ded w D md y rs ws := by
  obtain ⟨F, ⟨h1, h2, h3⟩, k2⟩ := zoo_at1 hz
  exact h1
theorem l_last (hz : Zoo w0 w (VltT vb tb gb f n cs [] :: r)) : Calls Try.prog 17 #[.pointer (some ⟨tb, 0, none⟩)] w fun e w' => e = .returned (.int .i64 n) ∧ w' = w := by
  obtain ⟨F1, ⟨Ft, Fg, k1⟩, _⟩ := zoo_at0 hz
  exact tlast38 w k1.t
theorem l_first (hz : Zoo w0 w (VltT vb tb gb f n cs [] :: r)) : Calls Try.prog 18 #[.pointer (some ⟨tb, 0, none⟩)] w fun e w' => e = .returned (.int .i64 (fmx f 8)) ∧ w' = w := by
  obtain ⟨F1, ⟨Ft, Fg, k1⟩, _⟩ := zoo_at0 hz
  exact tfirst42 w k1.t
theorem l_inv (hz : Zoo w0 w (VltT vb tb gb f n cs [] :: r)) : Inv f n ∧ LInv cs := by
  obtain ⟨F1, ⟨Ft, Fg, k1⟩, _⟩ := zoo_at0 hz
  exact ⟨k1.t.inv, k1.g.inv⟩
end
theorem dg_nil (f : Nat → List Ver) (n : Nat) (y k : Int) : dg f n y [] k = tr f n k y := by
  unfold dg
  rw [lwr_nil]
  split
  · rfl
  · rename_i h
    unfold tr
    rw [if_neg (fun q => h q.1)]
theorem cls_nil (f : Nat → List Ver) (y : Int) : ∀ m, cls f y [] m = false := by
  intro m
  induction m with
  | zero => rfl
  | succ m ih => rw [cls_no (lwr_nil _)]; exact ih
theorem dm_look (f : Nat → List Ver) (y : Int) (rs : List Int) : dm f 3 y rs [] = 0 := by
  unfold dm
  rw [cls_nil]
  simp
theorem v_look (f : Nat → List Ver) (n : Nat) (cs : List (List Ver)) (y : Int) (rs : List Int) : vcode f cs 3 y rs [] = 0 ∧ vnum f n cs 3 y rs [] = 0 ∧ vf f n cs 3 y rs [] = f ∧ vn f n cs 3 y rs [] = n ∧ vcs f cs 3 y rs [] = cs := by
  obtain ⟨h1, h2⟩ := v_none (cs := cs) (dm_look f y rs) (show (wk [] 8).length = 0 from rfl)
  obtain ⟨h3, h4, h5, h6⟩ := v_not (n := n) h2
  exact ⟨h1, h6, h3, h4, h5⟩
theorem put_look (k : Int) : ∃ z, dpc 3 k true vx = z ∧ ¬ z = 0 ∧ dpw 3 [] k true vx = [] := by
  have h : ¬ dpc 3 k true vx = 0 := by
    unfold dpc
    split
    · rw [if_pos rfl]; decide
    · decide
  exact ⟨_, rfl, h, by unfold dpw; rw [if_neg h]⟩
end Go.Proofs.Ytehhpmfeaeabgac

/- What the laws of torn and crashed vaults meet: all keys' values in variables, beside a vault. -/
namespace Go.Proofs.Ytehhpmfeaeabgac
open Go.RowKit
set_option maxRecDepth 20000

/-- Two operations may come up next. -/
theorem wpAnyH_two {P : Program} {md : Region.Mode} {l r1 r2 : List Oper} {Q : Exit → Act → World → Prop} {S : World → Prop} {i j : Nat} {oi oj : Oper} {fuel : Nat} {listed : Array Bool} {a : Act} {w : World} (hi : l.drop i = oi :: r1) (hj : l.drop j = oj :: r2) (hr : Region.ready md l.toArray listed = [i, j])
    (h1 : ∀ K' : Act → World → Prop, Shut (∀ a w, S w → (S w → wpAnyH P md l.toArray Q S fuel (listed.setIfInBounds i true) a w) → K' a w) → if Region.wanted oi (yielded l.toArray a.tmps) = true then Oper.wp P oi a w K' Q else K' (a.put oi.dst undef) w)
    (h2 : ∀ K' : Act → World → Prop, Shut (∀ a w, S w → (S w → wpAnyH P md l.toArray Q S fuel (listed.setIfInBounds j true) a w) → K' a w) → if Region.wanted oj (yielded l.toArray a.tmps) = true then Oper.wp P oj a w K' Q else K' (a.put oj.dst undef) w) :
    wpAnyH P md l.toArray Q S (fuel + 1) listed a w := wpAnyH_ready hr (by simp) (AllReadyH.cons (drop_at hi) h1 (AllReadyH.cons (drop_at hj) h2 AllReadyH.nil))

section
variable {w0 w : World} {vb tb gb : Nat} {f : Nat → List Ver} {n : Nat} {cs : List (List Ver)} {r : List Thing} {D : Nat} {md y : Int} {rs : List Int} {ws : List Ver} {V X : Thing}
theorem l_sheet {y : Int} (hk : ShK f n y 8) (v : Nat → Ver) (hv : wagg (shw f n y 8) = wagg v) (hz : Zoo w0 w (VltT vb tb gb f n cs [] :: r)) :
    Calls Try.prog 34 #[.pointer (some ⟨tb, 0, none⟩), .int .i64 y] w fun e w' => e = .returned (.tuple #[.agg (wagg v), .bool true]) ∧ Hid (Zoo w0 w' (VltT vb tb gb f n cs [] :: r)) := by
  obtain ⟨F1, ⟨Ft, Fg, k1⟩, _⟩ := zoo_at0 hz
  refine (sheet44 y w k1.t).mono ?_
  rintro e w' ⟨k, h1, rfl, h2⟩
  have e8 := h1.uniq hk
  subst e8
  exact ⟨by rw [hv]; simp, hz.kp0 h2⟩
theorem l_writes (hz : Zoo w0 w (V :: BoxT D (dcells md y (ncell rs ws)) 106 :: r)) :
    Calls Try.prog 38 #[.pointer (some ⟨D, 0, none⟩)] w fun e w' => ∃ a cap, e = .returned (.slice a (wk ws 8).length cap) ∧ Hid (Zoo w0 w' (V :: BoxT D (dcells md y (ncell rs ws)) 106 :: r)) := by
  obtain ⟨F, ⟨h1, h2, h3⟩, k2⟩ := zoo_at1 hz
  refine (dwrites66 w h1).mono ?_
  rintro e w' ⟨a, cap, rfl, _, hk⟩
  exact ⟨a, cap, rfl, hz.kp0 hk⟩
theorem l_put (k : Int) (t : Bool) (s : ByteArray) (hs : s.size ≤ maxLen) (z : Int) (hc : dpc md k t s = z) (hz : Zoo w0 w (V :: BoxT D (dcells md y (ncell rs ws)) 106 :: r)) :
    Calls Try.prog 76 #[.pointer (some ⟨D, 0, none⟩), .int .i64 k, .agg #[.bool t, .string s]] w fun e w' => e = .returned (.int .i64 z) ∧ Hid (Zoo w0 w' (V :: BoxT D (dcells md y (ncell rs (dpw md ws k t s))) 106 :: r)) := by
  obtain ⟨F, ⟨h1, h2, h3⟩, k2⟩ := zoo_at1 hz
  subst hc
  exact (dput57 k t s w h1 hs).mono (fun e w' ⟨he, hd, hk⟩ => ⟨he, k2 _ _ ⟨F, ⟨hd, h2, h3⟩, by rw [h2]; exact hk, fun x hx => .inl hx⟩⟩)
theorem b_tear (keep : Int) (hv : VI f n cs) (hd : Ded w D md y rs ws) (hw : WOk ws) (hz : Zoo w0 w (VltT vb tb gb f n cs [] :: r)) :
    Calls Try.prog 79 #[.pointer (some ⟨vb, 0, none⟩), .pointer (some ⟨D, 0, none⟩), .int .i64 keep] w fun e w' => e = .returned (.tuple #[.int .i64 (tnum f cs md y rs ws keep), .int .i64 (vcode f cs md y rs ws)]) ∧ ∃ tb', Hid (Zoo w0 w' (VltT vb tb' gb (wal0 (tcs f cs md y rs ws keep)) (tcs f cs md y rs ws keep).length (tcs f cs md y rs ws keep) [] :: r)) := by
  obtain ⟨F, ⟨Ft, Fg, k⟩, k2⟩ := zoo_at0 hz
  exact (vtear keep w k hv hd hw).mono (fun e w' ⟨he, tb', hc⟩ => ⟨he, tb', k2 _ _ hc⟩)
/-- All keys' values in a variable: the value of one key is set. -/
theorem zoo_setw {p j : Nat} {v : Nat → Ver} (hz : Zoo w0 w (V :: X :: BoxT p (wagg v) 72 :: r)) (hj : j < 8) (t : Bool) (s : ByteArray) :
    (∃ x, w.cell? ⟨p, j * 2, none⟩ = some x) ∧ (∃ x, w.cell? ⟨p, j * 2 + 1, none⟩ = some x) ∧ w.frozen? ⟨p, j * 2, none⟩ = false ∧ w.frozen? ⟨p, j * 2 + 1, none⟩ = false ∧
      Hid (Zoo w0 ((w.setCell ⟨p, j * 2, none⟩ (.bool t)).setCell ⟨p, j * 2 + 1, none⟩ (.string s)) (V :: X :: BoxT p (wagg (upd v j ⟨0, t, s⟩)) 72 :: r)) := by
  obtain ⟨F, ⟨hb, h2, h3⟩, k2⟩ := zoo_at2 hz
  refine ⟨⟨_, cell_of_block hb (wagg_at0 _ hj)⟩, ⟨_, cell_of_block hb (wagg_at1 _ hj)⟩, frozen_of_block _ hb, frozen_of_block _ hb, k2 _ _ ⟨F, ⟨?_, h2, h3⟩, ?_, fun x hx => .inl hx⟩⟩
  · rw [heap_setCell_at _ _ (heap_setCell_at _ _ hb)]
    rw [wagg_set v hj ⟨0, t, s⟩]
  · rw [h2]
    exact ((Kp.refl [p] w).setCell (.inl (by simp)) _).setCell (.inl (by simp)) _
/-- All keys' values in a variable, set whole. -/
theorem zoo_setr {p : Nat} {c c' : Array Value} (hz : Zoo w0 w (V :: BoxT p c 72 :: r)) : Zoo w0 (w.setRow p c') (V :: BoxT p c' 72 :: r) := by
  obtain ⟨F, ⟨hb, h2, h3⟩, k2⟩ := zoo_at1 hz
  obtain ⟨z1, z2⟩ := setRow_kp (cs := c') hb
  exact k2 _ _ ⟨F, ⟨z1, h2, h3⟩, by rw [h2]; exact z2, fun x hx => .inl hx⟩
theorem zoo_new1 (hz : Zoo w0 w (V :: r)) (c : Array Value) : Zoo w0 (w.alloc (.cells c 72)) (V :: BoxT w.heap.size c 72 :: r) := zoo_swap (hz.box c 72)
theorem zoo_new2 (hz : Zoo w0 w (V :: X :: r)) (c : Array Value) : Zoo w0 (w.alloc (.cells c 72)) (V :: X :: BoxT w.heap.size c 72 :: r) := zoo_in2 (hz.box c 72)
theorem zoo_var1 {p : Nat} {c : Array Value} {T : TypeId} (hz : Zoo w0 w (V :: BoxT p c T :: r)) : w.heap[p]? = some (.cells c T (0, 0)) := by
  obtain ⟨F, h1, _⟩ := zoo_at1 hz
  exact h1.1
end
theorem zoo_varm {w0 w : World} {os : List Thing} {p : Nat} {c : Array Value} {T : TypeId} (hz : Zoo w0 w os) (hm : BoxT p c T ∈ os) : w.heap[p]? = some (.cells c T (0, 0)) := by
  obtain ⟨F, h1, _⟩ := zoo_mem hz hm
  exact h1
theorem zeros_eq : wagg (fun _ => dv) = #[.bool false, .string ⟨#[]⟩, .bool false, .string ⟨#[]⟩, .bool false, .string ⟨#[]⟩, .bool false, .string ⟨#[]⟩, .bool false, .string ⟨#[]⟩, .bool false, .string ⟨#[]⟩, .bool false, .string ⟨#[]⟩, .bool false, .string ⟨#[]⟩] := rfl

/-- What is so behind a torn commit. -/
theorem tears_end {f : Nat → List Ver} {n : Nat} {cs : List (List Ver)} {ws : List Ver} {md y keep : Int} {rs : List Int} (hv : VI f n cs) (hf : Inv f n) (hl : LInv cs) (hw : WOk ws) :
    (tcs f cs md y rs ws keep = cs ∧ tnum f cs md y rs ws keep = 0 ∧ cs.length = n ∧ shw (wal0 cs) n n 8 = shw f n n 8 ∧ (vcode f cs md y rs ws ≠ 0 ∨ (wk ws 8).length = 0 ∨ keep < 200)) ∨
    (∃ m, m = n + 1 ∧ tnum f cs md y rs ws keep = m ∧ vcode f cs md y rs ws = 0 ∧ 0 < (wk ws 8).length ∧ (tcs f cs md y rs ws keep).length = m ∧ wagg (shw (wal0 (tcs f cs md y rs ws keep)) m m 8) = wagg (lay (shw f n n 8) ws)) := by
  have hn := hv.len
  by_cases hs : tcs f cs md y rs ws keep = cs
  · refine .inl ⟨hs, tnum_same hs, hn.symm, crash_shw hv hl (fmx_le hf 8 (Nat.le_refl _)).2, ?_⟩
    by_cases hc : vcode f cs md y rs ws = 0
    · by_cases hk : (wk ws 8).length = 0
      · exact .inr (.inl hk)
      · refine .inr (.inr ?_)
        have hm : dm f md y rs ws = 0 := Decidable.byContradiction (fun q => q ((v_may (cs := cs) q).1.symm.trans hc))
        rw [t_tear hm hk] at hs
        have hlc : lcode cs (wk ws 8) = 0 := Decidable.byContradiction (fun q => q ((v_full (cs := cs) hm hk q).1.symm.trans hc))
        unfold ltear at hs
        have he := enc_le hw.pf
        by_cases hq : lcode cs (wk ws 8) = 0 ∧ ((enc (wk ws 8)).length : Int) ≤ keep
        · rw [if_pos hq] at hs
          have := congrArg List.length hs
          simp at this
        · have : ¬ ((enc (wk ws 8)).length : Int) ≤ keep := fun q => hq ⟨hlc, q⟩
          omega
    · exact .inl hc
  · rcases tcs_cases (f := f) (cs := cs) (md := md) (y := y) (rs := rs) (ws := ws) (keep := keep) with e | ⟨e, h1, _, h3, h4⟩
    · exact absurd e hs
    · refine .inr ⟨n + 1, rfl, ?_, h1, by omega, by rw [e, hn]; simp, ?_⟩
      · rw [tnum_more e, hn]; push_cast; rfl
      · rw [e]
        exact (tears_now hv hf hl hw h4 rfl).symm
theorem tears_all {f : Nat → List Ver} {n : Nat} {cs : List (List Ver)} {ws : List Ver} {md y keep : Int} {rs : List Int} {v : Nat → Ver} (hv : VI f n cs) (hf : Inv f n) (hl : LInv cs) (hw : WOk ws) (he : shw f n n 8 = v) :
    ∃ f' n' cs' u num code L, tcs f cs md y rs ws keep = cs' ∧ wal0 cs' = f' ∧ cs'.length = n' ∧ tnum f cs md y rs ws keep = num ∧ vcode f cs md y rs ws = code ∧ (wk ws 8).length = L ∧ wagg (shw f' n' n' 8) = wagg u ∧ Inv f' n' ∧
      ((num = 0 ∧ n' = n ∧ u = v ∧ (code ≠ 0 ∨ (code = 0 ∧ L = 0) ∨ (code = 0 ∧ 0 < L ∧ keep < 200))) ∨ (num = n' ∧ n' = n + 1 ∧ u = lay v ws ∧ code = 0 ∧ 0 < L)) := by
  have hi := inv_wal0 (LInv.tcs (f := f) (md := md) (y := y) (rs := rs) (ws := ws) (keep := keep) hl)
  rcases tears_end (md := md) (y := y) (rs := rs) (keep := keep) hv hf hl hw with ⟨h1, h2, h3, h4, h5⟩ | ⟨m, h1, h2, h3, h4, h5, h6⟩
  · rw [h1, h3] at hi
    refine ⟨_, _, _, v, _, _, _, h1, rfl, h3, h2, rfl, rfl, by rw [h4, he], hi, .inl ⟨rfl, rfl, rfl, ?_⟩⟩
    rcases Decidable.em (vcode f cs md y rs ws = 0) with q | q
    · rcases Nat.eq_zero_or_pos (wk ws 8).length with q2 | q2
      · exact .inr (.inl ⟨q, q2⟩)
      · rcases h5 with h5 | h5 | h5
        · exact absurd q h5
        · omega
        · exact .inr (.inr ⟨q, q2, h5⟩)
    · exact .inl q
  · rw [h5] at hi
    rw [he] at h6
    exact ⟨_, m, _, _, _, _, _, rfl, rfl, h5, h2, rfl, rfl, h6, hi, .inr ⟨rfl, h1, rfl, h3, h4⟩⟩
theorem dpc_vals {k : Int} {t : Bool} {s : ByteArray} (h : ¬ dpc 2 k t s = 0) : dpc 2 k t s = 1 ∨ dpc 2 k t s = 2 ∨ dpc 2 k t s = 4 := by
  unfold dpc chk at h ⊢
  split
  · rename_i hk
    rw [if_pos hk, if_neg (by omega)] at h
    rw [if_neg (by omega)]
    split
    · exact .inr (.inl rfl)
    · rename_i q
      rw [if_neg q] at h
      split
      · exact .inr (.inr rfl)
      · rename_i q2
        rw [if_neg q2] at h
        exact absurd rfl h
  · exact .inl rfl
theorem dpc_key {k : Int} {t : Bool} {s : ByteArray} (h : dpc 2 k t s = 0) : keyB k = true ∧ ∃ j : Nat, j < 8 ∧ k = (j : Int) := by
  unfold dpc at h
  split at h
  · rename_i hk
    refine ⟨hk, k.toNat, ?_⟩
    simp only [keyB, decide_eq_true_eq] at hk
    omega
  · simp at h
end Go.Proofs.Ytehhpmfeaeabgac
