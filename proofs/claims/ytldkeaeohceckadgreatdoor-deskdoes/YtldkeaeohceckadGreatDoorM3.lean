/- Bound together for a claim. -/
import Derived.Test.YtldkeaeohceckadGreatDoorM2
import Derived.Deep.RegionWith
namespace Go.Proofs.YtldkeaeohceckadGreatDoor
set_option maxRecDepth 20000
set_option maxHeartbeats 64000000
/- The things of a vault's world: a vault, a court, a house, a deed with the document's deed; what a call leaves of them. -/
section
open Go.RowKit

/-- What a call that changes a thing leaves of it. -/
def Ch (o' : Thing) (B : Nat) (w : World) (F : List Nat) (w' : World) : Prop := ∃ F', o'.holds B w' F' ∧ Kp F w w' ∧ ∀ x, x ∈ F' → x ∈ F ∨ w.heap.size ≤ x

section
variable {w0 w w' : World} {o o1 o2 o3 : Thing} {r : List Thing}
theorem zoo_at0 (h : Zoo w0 w (o :: r)) : ∃ F, o.holds w0.heap.size w F ∧ ∀ (o' : Thing) (w' : World), Ch o' w0.heap.size w F w' → Zoo w0 w' (o' :: r) := h.head
theorem zoo_at1 (h : Zoo w0 w (o1 :: o :: r)) : ∃ F, o.holds w0.heap.size w F ∧ ∀ (o' : Thing) (w' : World), Ch o' w0.heap.size w F w' → Zoo w0 w' (o1 :: o' :: r) := Zoo.at_ (l1 := [o1]) h
theorem Ch.same {o : Thing} {B : Nat} {F : List Nat} (h : o.holds B w F) (hk : Kp [] w w') : Ch o B w F w' := ⟨F, o.kp h hk (fun _ _ => by simp), hk.mono (fun x hx => by simp at hx), fun x hx => .inl hx⟩
theorem Ch.trans {o' : Thing} {B : Nat} {F F1 : List Nat} {w1 : World} (h2 : Kp F w w1) (h3 : ∀ x, x ∈ F1 → x ∈ F ∨ w.heap.size ≤ x) (k : Ch o' B w1 F1 w') : Ch o' B w F w' := by
  obtain ⟨F2, k1, k2, k3⟩ := k
  refine ⟨F2, k1, h2.trans k2 h3, fun x hx => ?_⟩
  rcases k3 x hx with e | e
  · exact h3 x e
  · exact .inr (Nat.le_trans h2.size e)
theorem Ch.to {o o' : Thing} {B : Nat} {F : List Nat} {w1 : World} (h : Ch o B w F w1) (k : ∀ F1, o.holds B w1 F1 → Ch o' B w1 F1 w') : Ch o' B w F w' := by
  obtain ⟨F1, h1, h2, h3⟩ := h
  exact Ch.trans h2 h3 (k F1 h1)
theorem Ch.after {o' : Thing} {B : Nat} {F : List Nat} {w1 : World} (hk : Kp [] w w1) (h : Ch o' B w1 F w') : Ch o' B w F w' := by
  obtain ⟨F1, h1, h2, h3⟩ := h
  refine ⟨F1, h1, (hk.mono (fun x hx => by simp at hx)).trans h2 (fun x hx => .inl hx), fun x hx => ?_⟩
  rcases h3 x hx with e | e
  · exact .inl e
  · exact .inr (Nat.le_trans hk.size e)
end

/-- A vault's memory: its box holds the table's and the log's. -/
structure Vlt (B : Nat) (w : World) (vb tb gb : Nat) (F Ft Fg : List Nat) (f : Nat → List Ver) (n : Nat) (cs : List (List Ver)) (torn : List UInt8) : Prop where
  box : w.heap[vb]? = some (.cells #[.pointer (some ⟨tb, 0, none⟩), .pointer (some ⟨gb, 0, none⟩)] 77 (0, 0))
  t : Tbl B w tb Ft f n
  g : Lg B w gb Fg cs torn
  vt : vb ∉ Ft
  vg : vb ∉ Fg
  tg : ∀ x, x ∈ Ft → x ∉ Fg
  vF : vb ∈ F
  tF : ∀ x, x ∈ Ft → x ∈ F
  gF : ∀ x, x ∈ Fg → x ∈ F
  lo : ∀ x, x ∈ F → B ≤ x ∧ x < w.heap.size
section
variable {B : Nat} {w w' : World} {vb tb gb : Nat} {F Ft Fg S : List Nat} {f f' : Nat → List Ver} {n n' : Nat} {cs cs' : List (List Ver)} {torn torn' : List UInt8}
theorem Vlt.kp (h : Vlt B w vb tb gb F Ft Fg f n cs torn) (hk : Kp S w w') (hS : ∀ x, x ∈ F → x ∉ S) : Vlt B w' vb tb gb F Ft Fg f n cs torn :=
  ⟨by rw [hk.block vb (h.lo vb h.vF).2 (hS _ h.vF)]; exact h.box, h.t.kp hk (fun x hx => hS x (h.tF x hx)), h.g.kp hk (fun x hx => hS x (h.gF x hx)), h.vt, h.vg, h.tg, h.vF, h.tF, h.gF, fun x hx => ⟨(h.lo x hx).1, Nat.lt_of_lt_of_le (h.lo x hx).2 hk.size⟩⟩
theorem Vlt.kp0 (h : Vlt B w vb tb gb F Ft Fg f n cs torn) (hk : Kp [] w w') : Vlt B w' vb tb gb F Ft Fg f n cs torn := h.kp hk (fun _ _ => by simp)
theorem Vlt.base {C : Nat} (h : Vlt B w vb tb gb F Ft Fg f n cs torn) (hC : C ≤ B) : Vlt C w vb tb gb F Ft Fg f n cs torn :=
  ⟨h.box, h.t.base hC, h.g.base hC, h.vt, h.vg, h.tg, h.vF, h.tF, h.gF, fun x hx => ⟨Nat.le_trans hC (h.lo x hx).1, (h.lo x hx).2⟩⟩
theorem Vlt.c0 (h : Vlt B w vb tb gb F Ft Fg f n cs torn) : w.cell? ⟨vb, 0, none⟩ = some (.pointer (some ⟨tb, 0, none⟩)) := cell_of_block h.box rfl
theorem Vlt.c1 (h : Vlt B w vb tb gb F Ft Fg f n cs torn) : w.cell? ⟨vb, 1, none⟩ = some (.pointer (some ⟨gb, 0, none⟩)) := cell_of_block h.box rfl
theorem Vlt.fz (h : Vlt B w vb tb gb F Ft Fg f n cs torn) (i : Nat) : w.frozen? ⟨vb, i, none⟩ = false := frozen_of_block i h.box
end
def VltT (vb tb gb : Nat) (f : Nat → List Ver) (n : Nat) (cs : List (List Ver)) (torn : List UInt8) : Thing where
  holds B w F := ∃ Ft Fg, Vlt B w vb tb gb F Ft Fg f n cs torn
  kp := fun ⟨Ft, Fg, h⟩ hk hS => ⟨Ft, Fg, h.kp hk hS⟩
  lo := fun ⟨_, _, h⟩ => h.lo
  base := fun ⟨Ft, Fg, h⟩ hC => ⟨Ft, Fg, h.base hC⟩
section
variable {B : Nat} {w w' : World} {vb tb gb : Nat} {F Ft Fg S : List Nat} {f f' : Nat → List Ver} {n n' : Nat} {cs cs' : List (List Ver)} {torn torn' : List UInt8}
/-- Another log of the vault. -/
theorem Vlt.log (h : Vlt B w vb tb gb F Ft Fg f n cs torn) (k : LgTo B w gb Fg cs' torn' w') : Ch (VltT vb tb gb f n cs' torn') B w F w' := by
  obtain ⟨Fg', k1, k2, k3⟩ := k
  have hvb := (h.lo vb h.vF).2
  refine ⟨F ++ Fg', ⟨Ft, Fg', ?_, h.t.kp k2 h.tg, k1, h.vt, fun hm => ?_, fun x hx hm => ?_, by simp [h.vF], fun x hx => by simp [h.tF x hx], fun x hx => by simp [hx], fun x hx => ?_⟩, k2.mono (fun x hx => .inl (h.gF x hx)), fun x hx => ?_⟩
  · rw [k2.block vb hvb h.vg]; exact h.box
  · rcases k3 vb hm with e | e
    · exact h.vg e
    · omega
  · rcases k3 x hm with e | e
    · exact h.tg x hx e
    · have := (h.lo x (h.tF x hx)).2; omega
  · rcases List.mem_append.1 hx with e | e
    · exact ⟨(h.lo x e).1, Nat.lt_of_lt_of_le (h.lo x e).2 k2.size⟩
    · exact k1.lo x e
  · rcases List.mem_append.1 hx with e | e
    · exact .inl e
    · rcases k3 x e with e | e
      · exact .inl (h.gF x e)
      · exact .inr e
/-- Its table changed. -/
theorem Vlt.table (h : Vlt B w vb tb gb F Ft Fg f n cs torn) {Ft' : List Nat} (k1 : Tbl B w' tb Ft' f' n') (k2 : Kp Ft w w') (k3 : ∀ x, x ∈ Ft' → x ∈ Ft ∨ w.heap.size ≤ x) : Ch (VltT vb tb gb f' n' cs torn) B w F w' := by
  have hvb := (h.lo vb h.vF).2
  refine ⟨F ++ Ft', ⟨Ft', Fg, ?_, k1, h.g.kp k2 (fun x hx hm => h.tg x hm hx), fun hm => ?_, h.vg, fun x hx hm => ?_, by simp [h.vF], fun x hx => by simp [hx], fun x hx => by simp [h.gF x hx], fun x hx => ?_⟩, k2.mono (fun x hx => .inl (h.tF x hx)), fun x hx => ?_⟩
  · rw [k2.block vb hvb h.vt]; exact h.box
  · rcases k3 vb hm with e | e
    · exact h.vt e
    · omega
  · rcases k3 x hx with e | e
    · exact h.tg x e hm
    · have := (h.lo x (h.gF x hm)).2; omega
  · rcases List.mem_append.1 hx with e | e
    · exact ⟨(h.lo x e).1, Nat.lt_of_lt_of_le (h.lo x e).2 k2.size⟩
    · exact k1.lo x e
  · rcases List.mem_append.1 hx with e | e
    · exact .inl e
    · rcases k3 x e with e | e
      · exact .inl (h.tF x e)
      · exact .inr e
/-- Another table in its place. -/
theorem Vlt.put (h : Vlt B w vb tb gb F Ft Fg f n cs torn) {W : World} (hW : Kp [] w W) {tb' : Nat} {Ft' : List Nat} (k1 : Tbl w.heap.size W tb' Ft' f' n') : Ch (VltT vb tb' gb f' n' cs torn) B w F (W.setCell ⟨vb, 0, none⟩ (.pointer (some ⟨tb', 0, none⟩))) := by
  have hvb := (h.lo vb h.vF).2
  have hBw : B ≤ w.heap.size := by have := (h.lo vb h.vF).1; omega
  have hk3 : Kp [vb] W (W.setCell ⟨vb, 0, none⟩ (.pointer (some ⟨tb', 0, none⟩))) := (Kp.refl [vb] W).setCell (.inl (by simp)) _
  have hW1 := h.kp0 hW
  have hne : ∀ x, x ∈ Ft' → x ≠ vb := fun x hx e => by have := (k1.lo x hx).1; omega
  refine ⟨vb :: (Fg ++ Ft'), ⟨Ft', Fg, ?_, (k1.base hBw).kp hk3 (fun x hx e => hne x hx (List.mem_singleton.1 e)), hW1.g.kp hk3 (fun x hx e => h.vg (by rw [← List.mem_singleton.1 e]; exact hx)), fun hm => hne vb hm rfl, h.vg, fun x hx hm => ?_, by simp, fun x hx => by simp [hx], fun x hx => by simp [hx], fun x hx => ?_⟩, (hW.mono (fun x hx => by simp at hx)).trans hk3 (fun x hx => .inl (by rw [List.mem_singleton.1 hx]; exact h.vF)), fun x hx => ?_⟩
  · exact heap_setCell_at 0 _ hW1.box
  · have h1 := (k1.lo x hx).1
    have h2 := (h.lo x (h.gF x hm)).2
    omega
  · rcases List.mem_cons.1 hx with e | e
    · subst e; exact ⟨(h.lo _ h.vF).1, Nat.lt_of_lt_of_le (hW1.lo _ h.vF).2 hk3.size⟩
    · rcases List.mem_append.1 e with e | e
      · exact ⟨(h.lo x (h.gF x e)).1, Nat.lt_of_lt_of_le (hW1.lo x (h.gF x e)).2 hk3.size⟩
      · exact ⟨Nat.le_trans hBw (k1.lo x e).1, Nat.lt_of_lt_of_le (k1.lo x e).2 hk3.size⟩
  · rcases List.mem_cons.1 hx with e | e
    · subst e; exact .inl h.vF
    · rcases List.mem_append.1 e with e | e
      · exact .inl (h.gF x e)
      · exact .inr (k1.lo x e).1
end

/-- The document's court: its box holds the sheet's, the roll, and the seats. -/
structure Crt (B : Nat) (w : World) (cb sb : Nat) (G Gr Gs : List Nat) (bx : Array Value) (f : Nat → List Ver) (n : Nat) (cs : List (List Ver)) (torn : List UInt8) (st : Nat → Option Addr) : Prop where
  r : Rx B w cb 1 bx 68 Gr cs torn
  b0 : bx[0]? = some (.pointer (some ⟨sb, 0, none⟩))
  bs : ∀ i, i < 5 → bx[3 + i]? = some (.pointer (st i))
  sz : bx.size = 8
  s : Sht B w sb Gs f n
  rs : ∀ x, x ∈ Gr → x ∉ Gs
  rG : ∀ x, x ∈ Gr → x ∈ G
  sG : ∀ x, x ∈ Gs → x ∈ G
  lo : ∀ x, x ∈ G → B ≤ x ∧ x < w.heap.size
section
variable {B : Nat} {w w' W : World} {cb sb : Nat} {G Gr Gs S : List Nat} {bx : Array Value} {f f' : Nat → List Ver} {n n' : Nat} {cs cs' : List (List Ver)} {torn torn' : List UInt8} {st : Nat → Option Addr}
theorem Crt.kp (h : Crt B w cb sb G Gr Gs bx f n cs torn st) (hk : Kp S w w') (hS : ∀ x, x ∈ G → x ∉ S) : Crt B w' cb sb G Gr Gs bx f n cs torn st :=
  ⟨h.r.kp hk (fun x hx => hS x (h.rG x hx)), h.b0, h.bs, h.sz, h.s.kp hk (fun x hx => hS x (h.sG x hx)), h.rs, h.rG, h.sG, fun x hx => ⟨(h.lo x hx).1, Nat.lt_of_lt_of_le (h.lo x hx).2 hk.size⟩⟩
theorem Crt.kp0 (h : Crt B w cb sb G Gr Gs bx f n cs torn st) (hk : Kp [] w w') : Crt B w' cb sb G Gr Gs bx f n cs torn st := h.kp hk (fun _ _ => by simp)
theorem Crt.base {C : Nat} (h : Crt B w cb sb G Gr Gs bx f n cs torn st) (hC : C ≤ B) : Crt C w cb sb G Gr Gs bx f n cs torn st :=
  ⟨h.r.base hC, h.b0, h.bs, h.sz, h.s.base hC, h.rs, h.rG, h.sG, fun x hx => ⟨Nat.le_trans hC (h.lo x hx).1, (h.lo x hx).2⟩⟩
theorem Rx.box {o : Nat} {T : TypeId} (h : Rx B w cb o bx T Gr cs torn) : w.heap[cb]? = some (.cells bx T (0, 0)) := by
  obtain ⟨aL, capL, xs, aT, cT, h, e⟩ := h
  exact h.box
theorem Rx.rG {o : Nat} {T : TypeId} (h : Rx B w cb o bx T Gr cs torn) : cb ∈ Gr := by
  obtain ⟨aL, capL, xs, aT, cT, h, e⟩ := h
  exact h.rG
theorem Crt.c0 (h : Crt B w cb sb G Gr Gs bx f n cs torn st) : w.cell? ⟨cb, 0, none⟩ = some (.pointer (some ⟨sb, 0, none⟩)) := cell_of_block h.r.box h.b0
theorem Crt.seat (h : Crt B w cb sb G Gr Gs bx f n cs torn st) {i : Nat} (hi : i < 5) : w.cell? ⟨cb, 3 + i, none⟩ = some (.pointer (st i)) := cell_of_block h.r.box (h.bs i hi)
theorem Crt.fz (h : Crt B w cb sb G Gr Gs bx f n cs torn st) (i : Nat) : w.frozen? ⟨cb, i, none⟩ = false := frozen_of_block i h.r.box
theorem Crt.cG (h : Crt B w cb sb G Gr Gs bx f n cs torn st) : cb ∈ G := h.rG _ h.r.rG
/-- Another cell of the box than the roll's. -/
theorem RxL.other {o : Nat} {T : TypeId} {aL : Option Addr} {capL : Nat} {xs : List El} {aT : Option Addr} {cT : Nat} (h : RxL B w cb o bx T Gr aL capL xs aT cT torn) (i : Nat) (v : Value) (h0 : i ≠ o) (h1 : i ≠ o + 1) :
    RxL B (w.setCell ⟨cb, i, none⟩ v) cb o (bx.setIfInBounds i v) T Gr aL capL xs aT cT torn := by
  have hk : Kp [cb] w (w.setCell ⟨cb, i, none⟩ v) := (Kp.refl [cb] w).setCell (.inl (by simp)) _
  refine ⟨heap_setCell_at i _ h.box, set_there h.b0 h0 _, set_there h.b1 h1 _, h.own.kp hk (fun x hx e => h.ne (by rw [← List.mem_singleton.1 e]; exact hx)), fun e he => ⟨(h.els e he).1.kp hk (fun x hx e2 => ((h.els e he).2 x hx).2.1 (List.mem_singleton.1 e2)), (h.els e he).2⟩, h.tb.kpo hk (fun x hx e => (h.tG x hx).2 (List.mem_singleton.1 e)), h.tn, h.tG, h.ne, h.rG, h.aG, fun x hx => ⟨(h.lo x hx).1, Nat.lt_of_lt_of_le (h.lo x hx).2 hk.size⟩, h.inv, h.tl, Nat.le_trans h.hB hk.size⟩
theorem Rx.other {o : Nat} {T : TypeId} (h : Rx B w cb o bx T Gr cs torn) (i : Nat) (v : Value) (h0 : i ≠ o) (h1 : i ≠ o + 1) : Rx B (w.setCell ⟨cb, i, none⟩ v) cb o (bx.setIfInBounds i v) T Gr cs torn := by
  obtain ⟨aL, capL, xs, aT, cT, h, e⟩ := h
  exact ⟨aL, capL, xs, aT, cT, h.other i v h0 h1, e⟩
end
def CrtT (cb sb : Nat) (f : Nat → List Ver) (n : Nat) (cs : List (List Ver)) (torn : List UInt8) (st : Nat → Option Addr) : Thing where
  holds B w G := ∃ Gr Gs bx, Crt B w cb sb G Gr Gs bx f n cs torn st
  kp := fun ⟨Gr, Gs, bx, h⟩ hk hS => ⟨Gr, Gs, bx, h.kp hk hS⟩
  lo := fun ⟨_, _, _, h⟩ => h.lo
  base := fun ⟨Gr, Gs, bx, h⟩ hC => ⟨Gr, Gs, bx, h.base hC⟩
section
variable {B : Nat} {w w' W : World} {cb sb : Nat} {G Gr Gs S : List Nat} {bx : Array Value} {f f' : Nat → List Ver} {n n' : Nat} {cs cs' : List (List Ver)} {torn torn' : List UInt8} {st : Nat → Option Addr}
/-- Another one at a seat. -/
theorem Crt.sit (h : Crt B w cb sb G Gr Gs bx f n cs torn st) {i : Nat} (hi : i < 5) (p : Option Addr) : Ch (CrtT cb sb f n cs torn (upd st i p)) B w G (w.setCell ⟨cb, 3 + i, none⟩ (.pointer p)) := by
  have hk : Kp [cb] w (w.setCell ⟨cb, 3 + i, none⟩ (.pointer p)) := (Kp.refl [cb] w).setCell (.inl (by simp)) _
  refine ⟨G, ⟨Gr, Gs, bx.setIfInBounds (3 + i) (.pointer p), h.r.other _ _ (by omega) (by omega), set_there h.b0 (by omega) _, fun j hj => ?_, by simp [h.sz], h.s.kp hk (fun x hx e => h.rs cb h.r.rG (by rw [← List.mem_singleton.1 e]; exact hx)), h.rs, h.rG, h.sG, fun x hx => ⟨(h.lo x hx).1, Nat.lt_of_lt_of_le (h.lo x hx).2 hk.size⟩⟩, hk.mono (fun x hx => .inl (by rw [List.mem_singleton.1 hx]; exact h.cG)), fun x hx => .inl hx⟩
  by_cases e : j = i
  · subst e
    rw [set_here (h.bs j hj), upd_same]
  · rw [set_there (h.bs j hj) (by omega), upd_other _ _ _ e]
/-- Another roll. -/
theorem Crt.roll (h : Crt B w cb sb G Gr Gs bx f n cs torn st) (k : RxTo B w cb 1 bx 68 Gr cs' torn' w') : Ch (CrtT cb sb f n cs' torn' st) B w G w' := by
  obtain ⟨Gr', bx', k1, kb, k2, k3⟩ := k
  refine ⟨G ++ Gr', ⟨Gr', Gs, bx', k1, by rw [kb.2 0 (by omega) (by omega)]; exact h.b0, fun i hi => by rw [kb.2 (3 + i) (by omega) (by omega)]; exact h.bs i hi, by rw [kb.1]; exact h.sz, h.s.kp k2 (fun x hx hm => h.rs x hm hx), fun x hx hm => ?_, fun x hx => by simp [hx], fun x hx => by simp [h.sG x hx], fun x hx => ?_⟩, k2.mono (fun x hx => .inl (h.rG x hx)), fun x hx => ?_⟩
  · rcases k3 x hx with e | e
    · exact h.rs x e hm
    · have := (h.lo x (h.sG x hm)).2; omega
  · rcases List.mem_append.1 hx with e | e
    · exact ⟨(h.lo x e).1, Nat.lt_of_lt_of_le (h.lo x e).2 k2.size⟩
    · exact k1.lo x e
  · rcases List.mem_append.1 hx with e | e
    · exact .inl e
    · rcases k3 x e with e | e
      · exact .inl (h.rG x e)
      · exact .inr e
/-- Its sheet changed. -/
theorem Crt.sheet (h : Crt B w cb sb G Gr Gs bx f n cs torn st) {Gs' : List Nat} (k1 : Sht B w' sb Gs' f' n') (k2 : Kp Gs w w') (k3 : ∀ x, x ∈ Gs' → x ∈ Gs ∨ w.heap.size ≤ x) : Ch (CrtT cb sb f' n' cs torn st) B w G w' := by
  refine ⟨G ++ Gs', ⟨Gr, Gs', bx, h.r.kp k2 h.rs, h.b0, h.bs, h.sz, k1, fun x hx hm => ?_, fun x hx => by simp [h.rG x hx], fun x hx => by simp [hx], fun x hx => ?_⟩, k2.mono (fun x hx => .inl (h.sG x hx)), fun x hx => ?_⟩
  · rcases k3 x hm with e | e
    · exact h.rs x hx e
    · have := (h.lo x (h.rG x hx)).2; omega
  · rcases List.mem_append.1 hx with e | e
    · exact ⟨(h.lo x e).1, Nat.lt_of_lt_of_le (h.lo x e).2 k2.size⟩
    · exact k1.lo x e
  · rcases List.mem_append.1 hx with e | e
    · exact .inl e
    · rcases k3 x e with e | e
      · exact .inl (h.sG x e)
      · exact .inr e
end

theorem Wrk.base {B C : Nat} {w : World} {wb : Nat} {H : List Nat} {md y : Int} {rs : List Int} {ws : List Ver} (h : Wrk B w wb H md y rs ws) (hC : C ≤ B) : Wrk C w wb H md y rs ws := by
  obtain ⟨ra, rc, wa, wc, h⟩ := h
  exact ⟨ra, rc, wa, wc, h.box, own_base h.ro hC, own_base h.wo hC, h.rb, h.ab, h.rw, h.bH, fun x hx => ⟨Nat.le_trans hC (h.lo x hx).1, (h.lo x hx).2⟩⟩
section
variable {B : Nat} {w w' : World} {db wb : Nat} {F H : List Nat} {md y : Int} {rs rs2 rs' : List Int} {ws ws2 ws' : List Ver}
end
end
/- May of a deed, by its contract. -/
section
open Go.RowKit
attribute [local go_sem ↓] Go.wp_at_zero Go.wp_at_succ

/-- The code under way: some key of those that were looked at is stale. -/
def mcd (f : Nat → List Ver) (md y : Int) (rs : List Int) (k : Nat) : Int := if md = 2 ∧ stl f y rs k = true then 11 else 0

theorem cls_mono {f : Nat → List Ver} {y : Int} {ws : List Ver} {k : Nat} (h : cls f y ws k = true) : ∀ m, k ≤ m → cls f y ws m = true := by
  intro m
  induction m with
  | zero => intro hm; have : k = 0 := by omega
            subst this; exact h
  | succ m ih =>
    intro hm
    by_cases e : k = m + 1
    · subst e; exact h
    · simp only [cls]
      split
      · rfl
      · exact ih (by omega)
theorem stl_mono {f : Nat → List Ver} {y : Int} {rs : List Int} {k : Nat} (h : stl f y rs k = true) : ∀ m, k ≤ m → stl f y rs m = true := by
  intro m
  induction m with
  | zero => intro hm; have : k = 0 := by omega
            subst this; exact h
  | succ m ih =>
    intro hm
    by_cases e : k = m + 1
    · subst e; exact h
    · simp only [stl]
      split
      · rfl
      · exact ih (by omega)
theorem cls_yes {f : Nat → List Ver} {y : Int} {ws : List Ver} {k : Nat} {v : Ver} (h : lwr ws k = some v) (hy : y < snc f k) : cls f y ws (k + 1) = true := by
  simp only [cls]; rw [if_pos ⟨by rw [h]; rfl, hy⟩]
theorem cls_old {f : Nat → List Ver} {y : Int} {ws : List Ver} {k : Nat} (hy : snc f k ≤ y) : cls f y ws (k + 1) = cls f y ws k := by
  simp only [cls]; rw [if_neg (fun h => by have := h.2; omega)]
theorem cls_no {f : Nat → List Ver} {y : Int} {ws : List Ver} {k : Nat} (h : lwr ws k = none) : cls f y ws (k + 1) = cls f y ws k := by
  simp only [cls]; rw [if_neg (fun hc => by have := hc.1; rw [h] at this; simp at this)]
theorem stl_yes {f : Nat → List Ver} {y : Int} {rs : List Int} {k : Nat} (h : (k : Int) ∈ rs) (hy : y < snc f k) : stl f y rs (k + 1) = true := by
  simp only [stl]; rw [if_pos ⟨h, hy⟩]
theorem stl_old {f : Nat → List Ver} {y : Int} {rs : List Int} {k : Nat} (hy : snc f k ≤ y) : stl f y rs (k + 1) = stl f y rs k := by
  simp only [stl]; rw [if_neg (fun h => by have := h.2; omega)]
theorem stl_no {f : Nat → List Ver} {y : Int} {rs : List Int} {k : Nat} (h : ¬ (k : Int) ∈ rs) : stl f y rs (k + 1) = stl f y rs k := by
  simp only [stl]; rw [if_neg (fun hc => h hc.1)]
theorem dm_clash {f : Nat → List Ver} {md y : Int} {rs : List Int} {ws : List Ver} (h : cls f y ws 8 = true) : dm f md y rs ws = 10 := by unfold dm; rw [if_pos h]
theorem dm_end {f : Nat → List Ver} {md y : Int} {rs : List Int} {ws : List Ver} (h : cls f y ws 8 = false) : dm f md y rs ws = mcd f md y rs 8 := by unfold dm mcd; rw [if_neg (by simp [h])]
theorem mcd_not {f : Nat → List Ver} {md y : Int} {rs : List Int} {k : Nat} (h : ¬ md = 2) : mcd f md y rs k = 0 := by unfold mcd; rw [if_neg (fun hc => h hc.1)]
theorem mcd_eq {f : Nat → List Ver} {md y : Int} {rs : List Int} {k m : Nat} (h : stl f y rs m = stl f y rs k) : mcd f md y rs m = mcd f md y rs k := by unfold mcd; rw [h]
theorem mcd_yes {f : Nat → List Ver} {md y : Int} {rs : List Int} {k : Nat} (hm : md = 2) (h : stl f y rs k = true) : mcd f md y rs k = 11 := by unfold mcd; rw [if_pos ⟨hm, h⟩]

/-- Since, as May asks it: what it keeps. -/
theorem may_since {B tb n db : Nat} {F : List Nat} {f : Nat → List Ver} {md y : Int} {rs : List Int} {ws : List Ver} {w W : World} {p : Nat} {b0 b1 : Bool} (k : Int) (h : Tbl B w tb F f n) (hd : Ded w db md y rs ws) (hW : Kp [] w W)
    (c0 : W.cell? ⟨p, 0, none⟩ = some (.bool b0)) (c1 : W.cell? ⟨p, 1, none⟩ = some (.bool b1)) (s : Int) (hs : snc f k = s) :
    Calls Tryz.prog 191 #[.pointer (some ⟨tb, 0, none⟩), .int .i64 k] W fun e w' => e = .returned (.int .i64 s) ∧ w'.cell? ⟨db, 1, none⟩ = some (.int .i64 y) ∧ w'.cell? ⟨db, 0, none⟩ = some (.int .i64 md) ∧ w'.cell? ⟨p, 0, none⟩ = some (.bool b0) ∧ w'.cell? ⟨p, 1, none⟩ = some (.bool b1) ∧ Hid (Kp [] w w') := by
  refine (tsince40 k W (h.kp0 hW)).mono ?_
  rintro e w' ⟨rfl, hk⟩
  have hd' := hd.kp0 (hW.trans0 hk)
  exact ⟨by rw [hs], hd'.ycell, hd'.mcell, hk.cell (p := ⟨p, 0, none⟩) (by simp) c0, hk.cell (p := ⟨p, 1, none⟩) (by simp) c1, hW.trans0 hk⟩

set_option maxHeartbeats 2000000 in
theorem dmay68 {B tb n db : Nat} {F : List Nat} {f : Nat → List Ver} {md y : Int} {rs : List Int} {ws : List Ver} (w : World) (h : Tbl B w tb F f n) (hd : Ded w db md y rs ws) :
    Calls Tryz.prog 186 #[.pointer (some ⟨db, 0, none⟩), .pointer (some ⟨tb, 0, none⟩)] w fun e w' => e = .returned (.int .i64 (dm f md y rs ws)) ∧ Kp [] w w' := by
  have HT := hide h
  have HD := hide hd
  have HR := hide hd.range
  clear h hd
  have HC0 : Hid (cls f y ws 0 = false) := rfl
  go_enter Tryz.func186, Tryz.ntmps186
  go_wp2_with (refine wpList_load_mid rfl 160 _ rfl db 2 rfl _ _ (unhide HR) Tryz.underlying160 rfl Tryz.size160 ?_)
  obtain ⟨A, hA, hAk⟩ := notes_ex rs ws
  rw [hA]
  have HA := hide hAk
  clear hA hAk HR
  go_loopw [5, 12] (fun s i wr => ∃ k : Nat, k ≤ 8 ∧ s = .int .i64 (mcd f md y rs k) ∧ i = .int .i64 k ∧ Hid (cls f y ws k = false) ∧ Hid (Kp [] w wr)) (fun _ i _ => 8 - (intOf i).toNat)
  case atStart => exact ⟨0, by omega, by simp [mcd, stl], rfl, HC0, Kp.refl _ _⟩
  case round =>
    obtain ⟨k, hk, rfl, rfl, HC, HK⟩ := hrel
    by_cases hlt8 : k < 8
    · have i0 : (0 : Int) ≤ (k : Int) := by omega
      have i1 : (k : Int) < 8 := by omega
      have hx := (unhide HA) k hlt8
      have hdr := (unhide HD).kp0 (unhide HK)
      have qy := hdr.ycell
      have hdl := hdr.lt
      have HDR := hide hdr
      have HTR := hide ((unhide HT).kp0 (unhide HK))
      clear hdr
      generalize ((lwr ws k).getD dv).t = b2 at *
      generalize ((lwr ws k).getD dv).s = b3 at *
      generalize hsn : snc f k = sn at *
      have HSN := hide hsn
      clear hsn
      by_cases hle : sn ≤ y
      · have HN1 := hide (cls_old (ws := ws) (by rw [unhide HSN]; exact hle))
        have HN2 := hide (mcd_eq (md := md) (stl_old (rs := rs) (by rw [unhide HSN]; exact hle)))
        generalize decide ((k : Int) ∈ rs) = b0 at *
        generalize (lwr ws k).isSome = b1 at *
        go_wp2_with fail
        go_region_with (go_at_call 191; refine (may_since (p := wr.heap.size) (b0 := b0) (b1 := b1) k (unhide HTR) (unhide HDR) ((Kp.refl [] wr).alloc (.cells #[.bool b0, .bool b1, .bool b2, .string b3] 159)).drew (by simp) (by simp) sn (unhide HSN)).mono ?_; rintro e w3 ⟨rfl, z1, z0, z2, z3, HK3⟩)
        all_goals
          go_wp2_with fail
          exact ⟨⟨k + 1, by omega, by rw [unhide HN2], by go_num, by rw [unhide HN1]; exact HC, (unhide HK).trans0 (unhide HK3)⟩, by simp [intOf]; omega⟩
      · have hgt : y < sn := by omega
        cases hv : lwr ws k with
        | some v =>
          have HN := hide (dm_clash (md := md) (rs := rs) (cls_mono (cls_yes hv (by rw [unhide HSN]; exact hgt)) 8 (by omega)))
          rw [hv] at hx
          simp only [Option.isSome_some] at hx
          clear hv
          generalize decide ((k : Int) ∈ rs) = b0 at *
          go_wp2_with fail
          go_region_with (go_at_call 191; refine (may_since (p := wr.heap.size) (b0 := b0) (b1 := true) k (unhide HTR) (unhide HDR) ((Kp.refl [] wr).alloc (.cells #[.bool b0, .bool true, .bool b2, .string b3] 159)).drew (by simp) (by simp) sn (unhide HSN)).mono ?_; rintro e w3 ⟨rfl, z1, z0, z2, z3, HK3⟩)
          all_goals
            go_wp2_with fail
            go_ret
            exact ⟨ret_int (unhide HN).symm, (unhide HK).trans0 (unhide HK3)⟩
        | none =>
          have HN1 := hide (cls_no (f := f) (y := y) hv)
          rw [hv] at hx
          simp only [Option.isSome_none] at hx
          clear hv
          by_cases hr : (k : Int) ∈ rs
          · have hd : decide ((k : Int) ∈ rs) = true := by simp [hr]
            rw [hd] at hx
            clear hd
            by_cases hm : md = 2
            · have HN2 := hide (mcd_yes hm (stl_yes hr (by rw [unhide HSN]; exact hgt)))
              subst hm
              clear hr
              go_wp2_with fail
              go_region_with (go_at_call 191; refine (may_since (p := wr.heap.size) (b0 := true) (b1 := false) k (unhide HTR) (unhide HDR) ((Kp.refl [] wr).alloc (.cells #[.bool true, .bool false, .bool b2, .string b3] 159)).drew (by simp) (by simp) sn (unhide HSN)).mono ?_; rintro e w3 ⟨rfl, z1, z0, z2, z3, HK3⟩)
              all_goals
                go_wp2_with fail
                exact ⟨⟨k + 1, by omega, by rw [unhide HN2], by go_num, by rw [unhide HN1]; exact HC, (unhide HK).trans0 (unhide HK3)⟩, by simp [intOf]; omega⟩
            · have HN2 : Hid (mcd f md y rs (k + 1) = mcd f md y rs k) := by rw [mcd_not hm, mcd_not hm]; exact rfl
              have em : (md == 2) = false := beq_eq_false_iff_ne.2 hm
              clear hr hm
              go_wp2_with fail
              go_region_with (go_at_call 191; refine (may_since (p := wr.heap.size) (b0 := true) (b1 := false) k (unhide HTR) (unhide HDR) ((Kp.refl [] wr).alloc (.cells #[.bool true, .bool false, .bool b2, .string b3] 159)).drew (by simp) (by simp) sn (unhide HSN)).mono ?_; rintro e w3 ⟨rfl, z1, z0, z2, z3, HK3⟩)
              all_goals
                go_wp2_with fail
                exact ⟨⟨k + 1, by omega, by rw [unhide HN2], by go_num, by rw [unhide HN1]; exact HC, (unhide HK).trans0 (unhide HK3)⟩, by simp [intOf]; omega⟩
          · have hd : decide ((k : Int) ∈ rs) = false := by simp [hr]
            rw [hd] at hx
            have HN2 := hide (mcd_eq (md := md) (stl_no (f := f) (y := y) hr))
            clear hd hr
            go_wp2_with fail
            go_region_with (go_at_call 191; refine (may_since (p := wr.heap.size) (b0 := false) (b1 := false) k (unhide HTR) (unhide HDR) ((Kp.refl [] wr).alloc (.cells #[.bool false, .bool false, .bool b2, .string b3] 159)).drew (by simp) (by simp) sn (unhide HSN)).mono ?_; rintro e w3 ⟨rfl, z1, z0, z2, z3, HK3⟩)
            all_goals
              go_wp2_with fail
              exact ⟨⟨k + 1, by omega, by rw [unhide HN2], by go_num, by rw [unhide HN1]; exact HC, (unhide HK).trans0 (unhide HK3)⟩, by simp [intOf]; omega⟩
    · have e : k = 8 := by omega
      subst e
      have HN := hide (dm_end (md := md) (rs := rs) (unhide HC))
      go_wp2_with fail
      go_ret
      exact ⟨ret_int (unhide HN).symm, unhide HK⟩
end
/- Package vault, by contracts: New, Log, Crash, Begin, writes, Commit, tearLog, Tear. -/
section
open Go.RowKit
attribute [local go_sem ↓] Go.wp_at_zero Go.wp_at_succ

theorem vlt_new {w w1 w2 : World} {tb gb : Nat} {Ft Fg : List Nat} {f : Nat → List Ver} {n : Nat} {cs : List (List Ver)} {torn : List UInt8} (h1 : Tbl w.heap.size w1 tb Ft f n) (k1 : Kp [] w w1) (h2 : Lg w1.heap.size w2 gb Fg cs torn) (k2 : Kp [] w1 w2) :
    Vlt w.heap.size (w2.alloc (.cells #[.pointer (some ⟨tb, 0, none⟩), .pointer (some ⟨gb, 0, none⟩)] 77)) w2.heap.size tb gb (w2.heap.size :: (Ft ++ Fg)) Ft Fg f n cs torn := by
  have ka : Kp [] w2 (w2.alloc (.cells #[.pointer (some ⟨tb, 0, none⟩), .pointer (some ⟨gb, 0, none⟩)] 77)) := (Kp.refl [] w2).alloc _
  have hs1 := k1.size
  have hs2 := k2.size
  have hsa : (w2.alloc (.cells #[.pointer (some ⟨tb, 0, none⟩), .pointer (some ⟨gb, 0, none⟩)] 77)).heap.size = w2.heap.size + 1 := by simp
  refine ⟨heap_alloc_new w2 _, (h1.kp0 k2).kp0 ka, (h2.base hs1).kp0 ka, fun hm => ?_, fun hm => ?_, fun x hx hm => ?_, by simp, fun x hx => by simp [hx], fun x hx => by simp [hx], fun x hx => ?_⟩
  · have := (h1.lo _ hm).2; omega
  · have := (h2.lo _ hm).2; omega
  · have := (h1.lo x hx).2
    have := (h2.lo x hm).1
    omega
  · rw [hsa]
    rcases List.mem_cons.1 hx with e | e
    · omega
    · rcases List.mem_append.1 e with e | e
      · have := h1.lo x e; omega
      · have := h2.lo x e; omega

theorem own_addr1 {B : Nat} {w : World} {e : TypeId} {size n cap : Nat} {a : Option Addr} {xs : List Value} (h : w.ownsRow B e size (.slice a n cap) n xs) : ∀ g o, a = some ⟨g, o, none⟩ → B ≤ g ∧ g < w.heap.size := by
  intro g o ea
  subst ea
  exact h.lt g rfl
set_option maxHeartbeats 400000 in
theorem vnew (w : World) : Calls Tryz.prog 20 #[] w fun e w' => ∃ vb tb gb F, e = .returned (.pointer (some ⟨vb, 0, none⟩)) ∧ (VltT vb tb gb (fun _ => [dv]) 0 [] []).holds w.heap.size w' F ∧ Kp [] w w' := by
  go_enter Tryz.func20, Tryz.ntmps20
  go_wp2_with fail
  refine (tnew47 w).mono ?_
  rintro e w1 ⟨rfl, ⟨Ft, hT⟩, hk1⟩
  have HT := hide hT
  have HK1 := hide hk1
  clear hT hk1
  generalize ht : w.heap.size = tb at HT ⊢
  have HTB := hide ht
  clear ht
  go_wp2_with fail
  refine (lnew w1).mono ?_
  rintro e w2 ⟨rfl, hL, hk2⟩
  have HL := hide hL
  have HK2 := hide hk2
  clear hL hk2
  generalize hg : w1.heap.size = gb at HL ⊢
  have HGB := hide hg
  clear hg
  go_wp2_with fail
  go_ret
  have e1 := (unhide HTB).symm
  subst e1
  have e2 := (unhide HGB).symm
  subst e2
  exact ⟨_, _, _, _, rfl, ⟨_, _, vlt_new (unhide HT) (unhide HK1) (unhide HL) (unhide HK2)⟩, ((unhide HK1).trans0 (unhide HK2)).alloc _⟩

set_option maxHeartbeats 400000 in
theorem vcrash {B vb tb gb n : Nat} {F Ft Fg : List Nat} {f : Nat → List Ver} {cs : List (List Ver)} {torn : List UInt8} (w : World) (h : Vlt B w vb tb gb F Ft Fg f n cs torn) :
    Calls Tryz.prog 88 #[.pointer (some ⟨vb, 0, none⟩)] w fun e w' => e = .returned (.tuple #[]) ∧ ∃ tb', Ch (VltT vb tb' gb (wal0 cs) cs.length cs []) B w F w' := by
  have c1 := h.c1
  have HI := hide h.g.inv
  have HV := hide h
  have HG := hide h.g
  clear h
  go_enter Tryz.func88, Tryz.ntmps88
  go_wp2_with fail
  refine (lmend w (unhide HG)).mono ?_
  rintro e w1 ⟨rfl, hL, hk⟩
  obtain ⟨F1, ⟨Ft1, Fg1, h1⟩, k1, s1⟩ := (unhide HV).log ⟨Fg, hL, hk, fun x hx => .inl hx⟩
  have d1 := h1.c1
  have H1 := hide h1
  have K1 := hide k1
  have S1 := hide s1
  clear h1 k1 s1 c1 HG HV hL hk
  go_wp2_with fail
  refine (lbytes w1 (unhide H1).g).mono ?_
  rintro e w2 ⟨a, nb, cap, rfl, hn, hcap, hbyt, hk2⟩
  have HN := hide hn
  have HB := hide hbyt
  have K2 := hide hk2
  have HC := hide hcap
  clear hn hbyt hk2 hcap
  go_wp2_with fail
  refine (ltable25 a nb cap (lb cs ++ []) w2 (unhide HB) (unhide HN) (unhide HC) (by rw [List.append_nil]; have := (unhide HI).b3000; omega)).mono ?_
  rintro e w3 ⟨tb', Ft', p, rfl, hp, hT, hk3⟩
  have K3 := hide hk3
  have HT := hide hT
  rw [List.append_nil, dcs_all (unhide HI)] at HT
  have h3 := (unhide H1).kp0 ((unhide K2).trans0 hk3)
  have d0 := h3.c0
  have f0 := h3.fz 0
  clear h3 hT hk3 hp d1
  go_wp2_with fail
  go_end0
  exact ⟨rfl, tb', Ch.trans (unhide K1) (unhide S1) ((unhide H1).put ((unhide K2).trans0 (unhide K3)) ((unhide HT).base (unhide K2).size))⟩

set_option maxHeartbeats 400000 in
theorem vwrites {B vb tb gb n db : Nat} {F Ft Fg : List Nat} {f : Nat → List Ver} {cs : List (List Ver)} {torn : List UInt8} {md y : Int} {rs : List Int} {ws : List Ver} (w : World) (h : Vlt B w vb tb gb F Ft Fg f n cs torn) (hd : Ded w db md y rs ws) :
    Calls Tryz.prog 169 #[.pointer (some ⟨vb, 0, none⟩), .pointer (some ⟨db, 0, none⟩)] w fun e w' => LstEnd (if dm f md y rs ws = 0 then wk ws 8 else [], dm f md y rs ws) w e w' := by
  have c0 := h.c0
  have HM := hide (dmay68 w h.t hd)
  have HD := hide hd
  clear h hd
  generalize dm f md y rs ws = z at *
  by_cases hz : z = 0
  · subst hz
    rw [if_pos rfl]
    go_enter Tryz.func169, Tryz.ntmps169
    go_wp2_with fail
    refine (unhide HM).mono ?_
    rintro e w1 ⟨rfl, hk1⟩
    have HK1 := hide hk1
    clear hk1 HM
    go_wp2_with fail
    refine (dwrites66 w1 ((unhide HD).kp0 (unhide HK1))).mono ?_
    rintro e w2 ⟨a, cap, rfl, ho, hk2⟩
    have HO := hide ho
    have HK2 := hide hk2
    clear ho hk2
    go_wp2_with fail
    go_ret2
    exact ⟨a, cap, rfl, own_base (unhide HO) (unhide HK1).size, (unhide HK1).trans0 (unhide HK2)⟩
  · rw [if_neg hz]
    go_enter Tryz.func169, Tryz.ntmps169
    go_wp2_with fail
    refine (unhide HM).mono ?_
    rintro e w1 ⟨rfl, hk1⟩
    have HK1 := hide hk1
    clear hk1 HM
    go_wp2_with fail
    go_ret2
    exact ⟨none, 0, rfl, World.ownsRow_nil _ _ _ _, unhide HK1⟩

/-- What Begin tells, and leaves. -/
def VbEnd (f : Nat → List Ver) (n : Nat) (md at_ : Int) (w : World) (e : Ending) (w' : World) : Prop :=
  (bcode f n md at_ = 0 ∧ ∃ D, e = .returned (.tuple #[.pointer (some ⟨D, 0, none⟩), .int .i64 0]) ∧ w.heap.size ≤ D ∧ Ded w' D md (bat n md at_) [] [] ∧ Kp [] w w') ∨
  (¬ bcode f n md at_ = 0 ∧ e = .returned (.tuple #[.pointer none, .int .i64 (bcode f n md at_)]) ∧ Kp [] w w')

set_option maxHeartbeats 1000000 in
theorem vbegin {B vb tb gb n : Nat} {F Ft Fg : List Nat} {f : Nat → List Ver} {cs : List (List Ver)} {torn : List UInt8} (md at_ : Int) (w : World) (h : Vlt B w vb tb gb F Ft Fg f n cs torn) :
    Calls Tryz.prog 131 #[.pointer (some ⟨vb, 0, none⟩), .int .i64 md, .int .i64 at_] w fun e w' => VbEnd f n md at_ w e w' := by
  have c0 := h.c0
  have HT := hide h.t
  obtain ⟨x0, x1⟩ := fmx_le h.t.inv 8 (Nat.le_refl _)
  have hn40 := h.t.inv.n40
  clear h
  by_cases hm : 1 ≤ md ∧ md ≤ 3
  · by_cases h3 : md = 3
    · subst h3
      by_cases hr : at_ < 0 ∨ (n : Int) < at_
      · have hb : bcode f n 3 at_ = 1 := by unfold bcode; rw [if_pos (by omega), if_pos rfl, if_pos hr]
        unfold VbEnd
        rw [hb]
        clear hb
        rcases hr with hr | hr
        · go_enter Tryz.func131, Tryz.ntmps131
          go_wp2_with fail
          refine (dnew54 3 at_ w).mono ?_
          rintro e w1 (⟨_, _, rfl, hd, hk⟩ | ⟨hc, _, _⟩)
          rotate_left
          · exact (hc ⟨by omega, by omega⟩).elim
          have HD := hide hd
          have HK := hide hk
          have HT1 := hide ((unhide HT).kp0 hk)
          have d0 : w1.cell? ⟨vb, 0, none⟩ = some (.pointer (some ⟨tb, 0, none⟩)) := hk.cell (by simp) c0
          clear hd hk c0 HT
          generalize hD : w.heap.size = D at HD ⊢
          have HE := hide hD
          clear hD
          go_wp2_with fail
          go_ret2
          exact .inr ⟨by omega, rfl, unhide HK⟩
        · have hr0 : ¬ at_ < 0 := by omega
          go_enter Tryz.func131, Tryz.ntmps131
          go_wp2_with fail
          refine (dnew54 3 at_ w).mono ?_
          rintro e w1 (⟨_, _, rfl, hd, hk⟩ | ⟨hc, _, _⟩)
          rotate_left
          · exact (hc ⟨by omega, by omega⟩).elim
          have HD := hide hd
          have HK := hide hk
          have HT1 := hide ((unhide HT).kp0 hk)
          have d0 : w1.cell? ⟨vb, 0, none⟩ = some (.pointer (some ⟨tb, 0, none⟩)) := hk.cell (by simp) c0
          clear hd hk c0 HT
          generalize hD : w.heap.size = D at HD ⊢
          have HE := hide hD
          clear hD
          go_wp2_with fail
          refine (tlast38 w1 (unhide HT1)).mono ?_
          rintro e w2 ⟨rfl, hw⟩
          subst w2
          go_wp2_with fail
          go_ret2
          exact .inr ⟨by omega, rfl, unhide HK⟩
      · by_cases ho : at_ < fmx f 8
        · have hb : bcode f n 3 at_ = 12 := by unfold bcode; rw [if_pos (by omega), if_pos rfl, if_neg hr, if_pos ho]
          unfold VbEnd
          rw [hb]
          clear hb
          have hr0 : ¬ at_ < 0 := by omega
          have hr1 : ¬ (n : Int) < at_ := by omega
          go_enter Tryz.func131, Tryz.ntmps131
          go_wp2_with fail
          refine (dnew54 3 at_ w).mono ?_
          rintro e w1 (⟨_, _, rfl, hd, hk⟩ | ⟨hc, _, _⟩)
          rotate_left
          · exact (hc ⟨by omega, by omega⟩).elim
          have HD := hide hd
          have HK := hide hk
          have HT1 := hide ((unhide HT).kp0 hk)
          have d0 : w1.cell? ⟨vb, 0, none⟩ = some (.pointer (some ⟨tb, 0, none⟩)) := hk.cell (by simp) c0
          clear hd hk c0 HT
          generalize hD : w.heap.size = D at HD ⊢
          have HE := hide hD
          clear hD
          go_wp2_with fail
          refine (tlast38 w1 (unhide HT1)).mono ?_
          rintro e w2 ⟨rfl, hw⟩
          subst w2
          go_wp2_with fail
          refine (tfirst42 w1 (unhide HT1)).mono ?_
          rintro e w2 ⟨rfl, hw⟩
          subst w2
          go_wp2_with fail
          go_ret2
          exact .inr ⟨by omega, rfl, unhide HK⟩
        · have hb : bcode f n 3 at_ = 0 := by unfold bcode; rw [if_pos (by omega), if_pos rfl, if_neg hr, if_neg ho]
          unfold VbEnd
          rw [hb]
          clear hb
          have hr0 : ¬ at_ < 0 := by omega
          have hr1 : ¬ (n : Int) < at_ := by omega
          go_enter Tryz.func131, Tryz.ntmps131
          go_wp2_with fail
          refine (dnew54 3 at_ w).mono ?_
          rintro e w1 (⟨_, _, rfl, hd, hk⟩ | ⟨hc, _, _⟩)
          rotate_left
          · exact (hc ⟨by omega, by omega⟩).elim
          have HD := hide hd
          have HK := hide hk
          have HT1 := hide ((unhide HT).kp0 hk)
          have d0 : w1.cell? ⟨vb, 0, none⟩ = some (.pointer (some ⟨tb, 0, none⟩)) := hk.cell (by simp) c0
          clear hd hk c0 HT
          generalize hD : w.heap.size = D at HD ⊢
          have HE := hide hD
          clear hD
          go_wp2_with fail
          refine (tlast38 w1 (unhide HT1)).mono ?_
          rintro e w2 ⟨rfl, hw⟩
          subst w2
          go_wp2_with fail
          refine (tfirst42 w1 (unhide HT1)).mono ?_
          rintro e w2 ⟨rfl, hw⟩
          subst w2
          go_wp2_with fail
          go_ret2
          exact .inl ⟨by trivial, D, rfl, by have := unhide HE; omega, by rw [show bat n 3 at_ = at_ from if_pos rfl]; exact unhide HD, unhide HK⟩
    · have hb : bcode f n md at_ = 0 := by unfold bcode; rw [if_pos hm, if_neg h3]
      unfold VbEnd
      rw [hb]
      clear hb
      have hr0 : ¬ (n : Int) < 0 := by omega
      have hr1 : ¬ (n : Int) < (n : Int) := by omega
      have hr2 : ¬ (n : Int) < fmx f 8 := by omega
      go_enter Tryz.func131, Tryz.ntmps131
      go_wp2_with fail
      refine (tlast38 w (unhide HT)).mono ?_
      rintro e w0 ⟨rfl, hw⟩
      subst w0
      go_wp2_with fail
      refine (dnew54 md n w).mono ?_
      rintro e w1 (⟨_, _, rfl, hd, hk⟩ | ⟨hc, _, _⟩)
      rotate_left
      · exact (hc ⟨by omega, by omega⟩).elim
      have HD := hide hd
      have HK := hide hk
      have HT1 := hide ((unhide HT).kp0 hk)
      have d0 : w1.cell? ⟨vb, 0, none⟩ = some (.pointer (some ⟨tb, 0, none⟩)) := hk.cell (by simp) c0
      clear hd hk c0 HT
      generalize hD : w.heap.size = D at HD ⊢
      have HE := hide hD
      clear hD
      go_wp2_with fail
      refine (tlast38 w1 (unhide HT1)).mono ?_
      rintro e w2 ⟨rfl, hw⟩
      subst w2
      go_wp2_with fail
      refine (tfirst42 w1 (unhide HT1)).mono ?_
      rintro e w2 ⟨rfl, hw⟩
      subst w2
      go_wp2_with fail
      go_ret2
      exact .inl ⟨by trivial, D, rfl, by have := unhide HE; omega, by rw [show bat n md at_ = n from if_neg h3]; exact unhide HD, unhide HK⟩
  · have hb : bcode f n md at_ = 3 := by unfold bcode; rw [if_neg hm]
    have h3 : ¬ md = 3 := by omega
    unfold VbEnd
    rw [hb]
    clear hb
    go_enter Tryz.func131, Tryz.ntmps131
    go_wp2_with fail
    refine (tlast38 w (unhide HT)).mono ?_
    rintro e w0 ⟨rfl, hw⟩
    subst w0
    go_wp2_with fail
    refine (dnew54 md n w).mono ?_
    rintro e w1 (⟨q1, q2, _⟩ | ⟨_, rfl, hw⟩)
    · exact (hm ⟨q1, q2⟩).elim
    subst w1
    go_wp2_with fail
    go_ret2
    exact .inr ⟨by omega, rfl, Kp.refl _ _⟩

set_option maxHeartbeats 1000000 in
theorem vcommit {B vb tb gb n db : Nat} {F Ft Fg : List Nat} {f : Nat → List Ver} {cs : List (List Ver)} {md y : Int} {rs : List Int} {ws : List Ver} (w : World) (h : Vlt B w vb tb gb F Ft Fg f n cs []) (hv : VI f n cs) (hd : Ded w db md y rs ws) (hw : WOk ws) :
    Calls Tryz.prog 136 #[.pointer (some ⟨vb, 0, none⟩), .pointer (some ⟨db, 0, none⟩)] w fun e w' => e = .returned (.tuple #[.int .i64 (vnum f n cs md y rs ws), .int .i64 (vcode f cs md y rs ws)]) ∧ Ch (VltT vb tb gb (vf f n cs md y rs ws) (vn f n cs md y rs ws) (vcs f cs md y rs ws) []) B w F w' := by
  have HW := hide (vwrites w h hd)
  have HV := hide h
  have hpl := wk_len ws 8
  have HP := hide hw.pf
  have HR := hide hv
  have hn40 := h.t.inv.n40
  clear h hd hw hv
  by_cases hz : dm f md y rs ws = 0
  · rw [if_pos hz, hz] at HW
    by_cases hl : (wk ws 8).length = 0
    · obtain ⟨e1, e2⟩ := v_none (cs := cs) hz hl
      obtain ⟨e3, e4, e5, e6⟩ := v_not (n := n) e2
      rw [e1, e3, e4, e5, e6]
      clear e1 e2 e3 e4 e5 e6 HR HP
      go_enter Tryz.func136, Tryz.ntmps136
      go_wp2_with fail
      refine (unhide HW).mono ?_
      rintro e w1 ⟨a, cap, rfl, _, hk⟩
      rw [hl]
      have HK := hide hk
      clear hk hl
      go_wp2_with fail
      go_ret2
      exact ⟨rfl, Ch.same ⟨Ft, Fg, unhide HV⟩ (unhide HK)⟩
    · have HL := hide hl
      by_cases hc : lcode cs (wk ws 8) = 0
      · obtain ⟨e1, e2⟩ := v_yes hz hl hc
        obtain ⟨e3, e4, e5, e6⟩ := v_did (n := n) e2
        rw [e1, e3, e4, e5, e6]
        clear e1 e2 e3 e4 e5 e6
        obtain ⟨q1, q2, q3⟩ := (unhide HR).room hc
        have hlp : lput cs (wk ws 8) = cs ++ [wk ws 8] := by unfold lput; rw [if_pos hc]
        have HLP := hide hlp
        have HC := hide hc
        have HQ := hide (And.intro q1 (And.intro q2 q3))
        clear q1 q2 q3 hlp hc hz
        generalize wk ws 8 = ps at *
        go_enter Tryz.func136, Tryz.ntmps136
        go_wp2_with fail
        refine (unhide HW).mono ?_
        rintro e w1 ⟨a, cap, rfl, ho, hk⟩
        dsimp only at ho ⊢
        have h1 := (unhide HV).kp0 hk
        have d1 := h1.c1
        have HPR := hide (slo_prs (slo_own ho rfl) (unhide HP))
        have HO := hide ho
        have H1 := hide h1
        have HK := hide hk
        clear ho h1 hk HW
        go_wp2_with fail
        refine (lput31 a cap ps w1 (unhide H1).g (unhide HPR) (by omega)).mono ?_
        rintro e w2 ⟨rfl, hL⟩
        rw [unhide HC]
        rw [unhide HLP] at hL
        obtain ⟨F2, ⟨Ft2, Fg2, h2⟩, k2, s2⟩ := (unhide H1).log hL
        have hfar : ∀ g o, a = some ⟨g, o, none⟩ → g ∉ F := fun g o ea hm => by
          have h3 := (own_addr1 (unhide HO) g o ea).1
          have h4 := ((unhide HV).lo g hm).2
          omega
        have hfar2 : ∀ g o, a = some ⟨g, o, none⟩ → g ∉ Ft2 := fun g o ea hm => by
          rcases s2 g (h2.tF g hm) with e | e
          · exact hfar g o ea e
          · have h3 := (own_addr1 (unhide HO) g o ea).2
            omega
        have HPR2 := hide ((unhide HPR).kp k2 hfar)
        have HFAR := hide hfar2
        have d0 := h2.c0
        have H2 := hide h2
        have K2 := hide k2
        have S2 := hide s2
        clear h2 k2 s2 hL hfar hfar2 d1
        go_wp2_with fail
        refine (twrite45 a cap ps w2 (unhide H2).t (unhide HPR2) (fun _ => unhide HFAR) (by omega)).mono ?_
        rintro e w3 ⟨rfl, Ft3, hT, hk3, hs3⟩
        rw [(unhide HQ).1, (unhide HQ).2.2]
        rw [(unhide HQ).2.1] at hT
        have HZ := hide (Ch.after (unhide HK) (Ch.trans (unhide K2) (unhide S2) ((unhide H2).table hT hk3 hs3)))
        clear hT hk3 hs3
        go_wp2_with fail
        go_ret2
        exact ⟨rfl, unhide HZ⟩
      · obtain ⟨e1, e2⟩ := v_full hz hl hc
        obtain ⟨e3, e4, e5, e6⟩ := v_not (n := n) e2
        rw [e1, e3, e4, e5, e6]
        clear e1 e2 e3 e4 e5 e6
        have hlp : lput cs (wk ws 8) = cs := by unfold lput; rw [if_neg hc]
        have HLP := hide hlp
        clear hlp hz
        generalize hzz : lcode cs (wk ws 8) = z at *
        have HZZ := hide hzz
        clear hzz
        generalize wk ws 8 = ps at *
        go_enter Tryz.func136, Tryz.ntmps136
        go_wp2_with fail
        refine (unhide HW).mono ?_
        rintro e w1 ⟨a, cap, rfl, ho, hk⟩
        dsimp only at ho ⊢
        have h1 := (unhide HV).kp0 hk
        have d1 := h1.c1
        have HPR := hide (slo_prs (slo_own ho rfl) (unhide HP))
        have H1 := hide h1
        have HK := hide hk
        clear ho h1 hk HW
        go_wp2_with fail
        refine (lput31 a cap ps w1 (unhide H1).g (unhide HPR) (by omega)).mono ?_
        rintro e w2 ⟨rfl, hL⟩
        rw [unhide HZZ]
        rw [unhide HLP] at hL
        have HX := hide (Ch.after (unhide HK) ((unhide H1).log hL))
        clear hL d1
        go_wp2_with fail
        go_ret2
        exact ⟨rfl, unhide HX⟩
  · rw [if_neg hz] at HW
    obtain ⟨e1, e2⟩ := v_may (cs := cs) hz
    obtain ⟨e3, e4, e5, e6⟩ := v_not (n := n) e2
    rw [e1, e3, e4, e5, e6]
    clear e1 e2 e3 e4 e5 e6 HR HP
    generalize dm f md y rs ws = z at *
    go_enter Tryz.func136, Tryz.ntmps136
    go_wp2_with fail
    refine (unhide HW).mono ?_
    rintro e w1 ⟨a, cap, rfl, _, hk⟩
    have HK := hide hk
    clear hk HW
    go_wp2_with fail
    go_ret2
    exact ⟨rfl, Ch.same ⟨Ft, Fg, unhide HV⟩ (unhide HK)⟩

set_option maxHeartbeats 1000000 in
theorem vtearLog {B vb tb gb n db : Nat} {F Ft Fg : List Nat} {f : Nat → List Ver} {cs : List (List Ver)} {md y : Int} {rs : List Int} {ws : List Ver} (keep : Int) (w : World) (h : Vlt B w vb tb gb F Ft Fg f n cs []) (hd : Ded w db md y rs ws) (hw : WOk ws) :
    Calls Tryz.prog 171 #[.pointer (some ⟨vb, 0, none⟩), .pointer (some ⟨db, 0, none⟩), .int .i64 keep] w fun e w' => e = .returned (.int .i64 (vcode f cs md y rs ws)) ∧ ∃ torn, Ch (VltT vb tb gb f n (tcs f cs md y rs ws keep) torn) B w F w' := by
  have HW := hide (vwrites w h hd)
  have HV := hide h
  have hpl := wk_len ws 8
  have HP := hide hw.pf
  clear h hd hw
  by_cases hz : dm f md y rs ws = 0
  · rw [if_pos hz, hz] at HW
    by_cases hl : (wk ws 8).length = 0
    · rw [(v_none (cs := cs) hz hl).1, t_none (f := f) (cs := cs) (md := md) (y := y) (rs := rs) (keep := keep) hl]
      clear HP
      go_enter Tryz.func171, Tryz.ntmps171
      go_wp2_with fail
      refine (unhide HW).mono ?_
      rintro e w1 ⟨a, cap, rfl, _, hk⟩
      rw [hl]
      have HK := hide hk
      clear hk hl
      go_wp2_with fail
      go_ret
      exact ⟨rfl, [], Ch.same ⟨Ft, Fg, unhide HV⟩ (unhide HK)⟩
    · have hvc : vcode f cs md y rs ws = lcode cs (wk ws 8) := by unfold vcode; rw [if_pos hz, if_neg hl]
      rw [hvc, t_tear hz hl]
      clear hvc hz
      generalize wk ws 8 = ps at *
      go_enter Tryz.func171, Tryz.ntmps171
      go_wp2_with fail
      refine (unhide HW).mono ?_
      rintro e w1 ⟨a, cap, rfl, ho, hk⟩
      dsimp only at ho ⊢
      have h1 := (unhide HV).kp0 hk
      have d1 := h1.c1
      have HPR := hide (slo_prs (slo_own ho rfl) (unhide HP))
      have H1 := hide h1
      have HK := hide hk
      clear ho h1 hk HW
      go_wp2_with fail
      refine (ltear30 a cap ps keep w1 (unhide H1).g (unhide HPR) (by omega)).mono ?_
      rintro e w2 ⟨rfl, hL⟩
      have HX := hide (Ch.after (unhide HK) ((unhide H1).log hL))
      clear hL d1
      go_wp2_with fail
      go_ret
      exact ⟨rfl, _, unhide HX⟩
  · rw [if_neg hz] at HW
    rw [(v_may (cs := cs) hz).1, t_may hz]
    clear HP
    generalize dm f md y rs ws = z at *
    go_enter Tryz.func171, Tryz.ntmps171
    go_wp2_with fail
    refine (unhide HW).mono ?_
    rintro e w1 ⟨a, cap, rfl, _, hk⟩
    have HK := hide hk
    clear hk HW
    go_wp2_with fail
    go_ret
    exact ⟨rfl, [], Ch.same ⟨Ft, Fg, unhide HV⟩ (unhide HK)⟩

set_option maxHeartbeats 1000000 in
theorem vtear {B vb tb gb n db : Nat} {F Ft Fg : List Nat} {f : Nat → List Ver} {cs : List (List Ver)} {md y : Int} {rs : List Int} {ws : List Ver} (keep : Int) (w : World) (h : Vlt B w vb tb gb F Ft Fg f n cs []) (hv : VI f n cs) (hd : Ded w db md y rs ws) (hw : WOk ws) :
    Calls Tryz.prog 137 #[.pointer (some ⟨vb, 0, none⟩), .pointer (some ⟨db, 0, none⟩), .int .i64 keep] w fun e w' => e = .returned (.tuple #[.int .i64 (tnum f cs md y rs ws keep), .int .i64 (vcode f cs md y rs ws)]) ∧ ∃ tb', Ch (VltT vb tb' gb (wal0 (tcs f cs md y rs ws keep)) (tcs f cs md y rs ws keep).length (tcs f cs md y rs ws keep) []) B w F w' := by
  have HG := hide (vtearLog keep w h hd hw)
  have c0 := h.c0
  have HV := hide h
  have hn40 := h.t.inv.n40
  have hlen := hv.len
  clear h hd hw hv
  rcases tcs_cases (f := f) (cs := cs) (md := md) (y := y) (rs := rs) (ws := ws) (keep := keep) with hcs | ⟨hcs, hc0, _⟩
  · rw [tnum_same hcs]
    have HCS := hide hcs
    rw [hcs]
    clear hcs
    have HLEN := hide hlen
    clear hlen
    generalize hzz : vcode f cs md y rs ws = z at *
    clear hzz
    by_cases hz : z = 0
    · subst hz
      go_enter Tryz.func137, Tryz.ntmps137
      go_wp2_with fail
      refine (tlast38 w (unhide HV).t).mono ?_
      rintro e w0 ⟨rfl, hw0⟩
      subst w0
      go_wp2_with fail
      refine (unhide HG).mono ?_
      rintro e w1 ⟨rfl, torn, F1, ⟨Ft1, Fg1, h1⟩, k1, s1⟩
      have H1 := hide h1
      have K1 := hide k1
      have S1 := hide s1
      clear h1 k1 s1 HG
      rw [unhide HCS] at H1
      go_wp2_with fail
      refine (vcrash w1 (unhide H1)).mono ?_
      rintro e w2 ⟨rfl, tb2, F2, ⟨Ft2, Fg2, h2⟩, k2, s2⟩
      have d0 := h2.c0
      have H2 := hide h2
      have HX := hide (Ch.trans (o' := VltT vb tb2 gb (wal0 cs) cs.length cs []) (unhide K1) (unhide S1) ⟨F2, ⟨Ft2, Fg2, h2⟩, k2, s2⟩)
      clear h2 k2 s2 c0
      go_wp2_with fail
      refine (tlast38 w2 (unhide H2).t).mono ?_
      rintro e w3 ⟨rfl, hw3⟩
      subst w3
      rw [← unhide HLEN]
      go_wp2_with fail
      go_ret2
      exact ⟨rfl, tb2, unhide HX⟩
    · go_enter Tryz.func137, Tryz.ntmps137
      go_wp2_with fail
      refine (tlast38 w (unhide HV).t).mono ?_
      rintro e w0 ⟨rfl, hw0⟩
      subst w0
      go_wp2_with fail
      refine (unhide HG).mono ?_
      rintro e w1 ⟨rfl, torn, F1, ⟨Ft1, Fg1, h1⟩, k1, s1⟩
      have H1 := hide h1
      have K1 := hide k1
      have S1 := hide s1
      clear h1 k1 s1 HG
      rw [unhide HCS] at H1
      go_wp2_with fail
      refine (vcrash w1 (unhide H1)).mono ?_
      rintro e w2 ⟨rfl, tb2, F2, ⟨Ft2, Fg2, h2⟩, k2, s2⟩
      have d0 := h2.c0
      have H2 := hide h2
      have HX := hide (Ch.trans (o' := VltT vb tb2 gb (wal0 cs) cs.length cs []) (unhide K1) (unhide S1) ⟨F2, ⟨Ft2, Fg2, h2⟩, k2, s2⟩)
      clear h2 k2 s2 c0
      go_wp2_with fail
      go_ret2
      exact ⟨rfl, tb2, unhide HX⟩
  · rw [tnum_more hcs, hc0]
    rw [hc0] at HG
    have HCS := hide hcs
    rw [hcs]
    clear hcs hc0
    have HLEN := hide hlen
    have hN : ¬ ((cs ++ [wk ws 8]).length : Int) = (n : Int) := by have : (cs ++ [wk ws 8]).length = cs.length + 1 := (by simp); omega
    have hN2 : ((cs ++ [wk ws 8]).length : Int) = (cs.length : Int) + 1 := by simp
    generalize cs ++ [wk ws 8] = cs2 at *
    have HN2 := hide hN2
    clear hlen hN2
    go_enter Tryz.func137, Tryz.ntmps137
    go_wp2_with fail
    refine (tlast38 w (unhide HV).t).mono ?_
    rintro e w0 ⟨rfl, hw0⟩
    subst w0
    go_wp2_with fail
    refine (unhide HG).mono ?_
    rintro e w1 ⟨rfl, torn, F1, ⟨Ft1, Fg1, h1⟩, k1, s1⟩
    have H1 := hide h1
    have K1 := hide k1
    have S1 := hide s1
    clear h1 k1 s1 HG
    rw [unhide HCS] at H1
    go_wp2_with fail
    refine (vcrash w1 (unhide H1)).mono ?_
    rintro e w2 ⟨rfl, tb2, F2, ⟨Ft2, Fg2, h2⟩, k2, s2⟩
    have d0 := h2.c0
    have H2 := hide h2
    have HX := hide (Ch.trans (o' := VltT vb tb2 gb (wal0 cs2) cs2.length cs2 []) (unhide K1) (unhide S1) ⟨F2, ⟨Ft2, Fg2, h2⟩, k2, s2⟩)
    clear h2 k2 s2 c0
    go_wp2_with fail
    refine (tlast38 w2 (unhide H2).t).mono ?_
    rintro e w3 ⟨rfl, hw3⟩
    subst w3
    go_wp2_with fail
    refine (tlast38 w2 (unhide H2).t).mono ?_
    rintro e w3 ⟨rfl, hw3⟩
    subst w3
    go_wp2_with fail
    go_ret2
    exact ⟨by rw [unhide HN2]; rfl, tb2, unhide HX⟩

end
/- May of the document's deed, by its contract. -/
section
open Go.RowKit
attribute [local go_sem ↓] Go.wp_at_zero Go.wp_at_succ

theorem snc_key {f : Nat → List Ver} {k : Nat} (hk : k < 8) : snc f k = va (f k) ((f k).length - 1) := by
  unfold snc
  rw [if_pos (by simp [keyB]; omega), Int.toNat_natCast]
theorem sl_last {B : Nat} {w : World} {sb : Nat} {G : List Nat} {g o cap : Nat → Nat} {f : Nat → List Ver} {n : Nat} {k : Nat} (W : World) (h : ShtL B w sb G g o cap f n) (hW : Kp [] w W) (hk : k < 8) (s : Int) (hs : snc f k = s) :
    Calls Tryz.prog 107 #[.slice (some ⟨g k, o k, none⟩) (f k).length (cap k)] W fun e w' => e = .returned (.int .i64 s) ∧ w' = W := by
  have h' := h.kp hW (fun _ _ => by simp)
  refine (llast16 (g k) (o k) (cap k) W (h'.sla k hk) (h'.inv.pos k hk) (by have := h'.inv.len41 hk; omega)).mono ?_
  rintro e w' ⟨rfl, rfl⟩
  exact ⟨by rw [← hs, snc_key hk], rfl⟩

end
/- The document's court, by contracts: NewCourt, Begin, commit, again. -/
section
open Go.RowKit
attribute [local go_sem ↓] Go.wp_at_zero Go.wp_at_succ

theorem Sht.ncell {B : Nat} {w : World} {sb : Nat} {G : List Nat} {f : Nat → List Ver} {n : Nat} (h : Sht B w sb G f n) : w.cell? ⟨sb, 8, none⟩ = some (.int .i64 n) := by
  obtain ⟨g, o, cap, h⟩ := h
  exact h.ncell
theorem Sht.inv {B : Nat} {w : World} {sb : Nat} {G : List Nat} {f : Nat → List Ver} {n : Nat} (h : Sht B w sb G f n) : Inv f n := by
  obtain ⟨g, o, cap, h⟩ := h
  exact h.inv
def crt0 (sb : Nat) : Array Value := #[.pointer (some ⟨sb, 0, none⟩), .slice none 0 0, .slice none 0 0, .pointer none, .pointer none, .pointer none, .pointer none, .pointer none]
theorem crt_new {w w1 : World} {sb : Nat} {Gs : List Nat} {f : Nat → List Ver} {n : Nat} (h1 : Sht w.heap.size w1 sb Gs f n) (k1 : Kp [] w w1) :
    Crt w.heap.size (w1.alloc (.cells (crt0 sb) 68)) w1.heap.size sb (w1.heap.size :: Gs) [w1.heap.size] Gs (crt0 sb) f n [] [] (fun _ => none) := by
  have ka : Kp [] w1 (w1.alloc (.cells (crt0 sb) 68)) := (Kp.refl [] w1).alloc _
  have hs1 := k1.size
  have hsa : (w1.alloc (.cells (crt0 sb) 68)).heap.size = w1.heap.size + 1 := by simp
  refine ⟨⟨none, 0, [], none, 0, ⟨heap_alloc_new w1 _, rfl, rfl, ownE_nil _ _, fun e he => by simp at he, byt_nil _ _, fun _ => ⟨rfl, rfl⟩, by simp [ob], by simp [ob], by simp, by simp [ob], fun x hx => ?_, linv_nil, by simp, by omega⟩, rfl⟩, rfl, fun i hi => ?_, rfl, h1.kp0 ka, fun x hx hm => ?_, fun x hx => by simp at hx; simp [hx], fun x hx => by simp [hx], fun x hx => ?_⟩
  · simp at hx; omega
  · have : i = 0 ∨ i = 1 ∨ i = 2 ∨ i = 3 ∨ i = 4 := by omega
    rcases this with e | e | e | e | e <;> subst e <;> rfl
  · simp at hx
    have := (h1.lo x hm).2
    omega
  · rw [hsa]
    rcases List.mem_cons.1 hx with e | e
    · omega
    · have := h1.lo x e; omega

set_option maxHeartbeats 400000 in
theorem cnew (w : World) : Calls Tryz.prog 13 #[] w fun e w' => ∃ cb sb G, e = .returned (.pointer (some ⟨cb, 0, none⟩)) ∧ (CrtT cb sb (fun _ => [dv]) 0 [] [] (fun _ => none)).holds w.heap.size w' G ∧ Kp [] w w' := by
  go_enter Tryz.func13, Tryz.ntmps13
  go_wp2_with fail
  refine (snew55 w).mono ?_
  rintro e w1 ⟨rfl, ⟨Gs, hT⟩, hk1⟩
  have HT := hide hT
  have HK1 := hide hk1
  clear hT hk1
  generalize ht : w.heap.size = sb at HT ⊢
  have HTB := hide ht
  clear ht
  go_wp2_with fail
  go_ret
  have e1 := (unhide HTB).symm
  subst e1
  exact ⟨_, _, _, rfl, ⟨_, _, _, crt_new (unhide HT) (unhide HK1)⟩, (unhide HK1).alloc _⟩

theorem wrk_new (w : World) (md y : Int) : Wrk w.heap.size (w.alloc (.cells #[.int .i64 md, .int .i64 y, .slice none 0 0, .slice none 0 0] 127)) w.heap.size [w.heap.size] md y [] [] :=
  ⟨none, 0, none, 0, heap_alloc_new _ _, World.ownsRow_nil _ _ _ _, World.ownsRow_nil _ _ _ _, fun g hg => by simp [Value.ownBlock] at hg, fun g hg => by simp [Value.ownBlock] at hg, fun g g' hg => by simp [Value.ownBlock] at hg, by simp, fun x hx => by simp at hx; simp; omega⟩

/-- What Begin of the court tells, and leaves. -/
def CbEnd (f : Nat → List Ver) (n : Nat) (md at_ : Int) (w : World) (e : Ending) (w' : World) : Prop :=
  (bcode f n md at_ = 0 ∧ ∃ D H, e = .returned (.tuple #[.pointer (some ⟨D, 0, none⟩), .int .i64 0]) ∧ Wrk w.heap.size w' D H md (bat n md at_) [] [] ∧ Kp [] w w') ∨
  (¬ bcode f n md at_ = 0 ∧ e = .returned (.tuple #[.pointer none, .int .i64 (bcode f n md at_)]) ∧ Kp [] w w')

theorem cbEnd_bad {f : Nat → List Ver} {n : Nat} {md at_ c : Int} {w w' : World} (hb : bcode f n md at_ = c) (hc : c ≠ 0) (hk : Kp [] w w') : CbEnd f n md at_ w (.returned (.tuple #[.pointer none, .int .i64 c])) w' := .inr ⟨by rw [hb]; exact hc, by rw [hb], hk⟩
theorem cbEnd_ok {f : Nat → List Ver} {n : Nat} {md at_ : Int} {w w' : World} {D : Nat} {H : List Nat} (hb : bcode f n md at_ = 0) (hd : Wrk w.heap.size w' D H md (bat n md at_) [] []) (hk : Kp [] w w') : CbEnd f n md at_ w (.returned (.tuple #[.pointer (some ⟨D, 0, none⟩), .int .i64 0])) w' := .inl ⟨hb, D, H, rfl, hd, hk⟩

set_option maxHeartbeats 1000000 in
theorem cbegin {B cb sb n : Nat} {G Gr Gs : List Nat} {bx : Array Value} {f : Nat → List Ver} {cs : List (List Ver)} {torn : List UInt8} {st : Nat → Option Addr} (md at_ : Int) (w : World) (h : Crt B w cb sb G Gr Gs bx f n cs torn st) :
    Calls Tryz.prog 67 #[.pointer (some ⟨cb, 0, none⟩), .int .i64 md, .int .i64 at_] w fun e w' => CbEnd f n md at_ w e w' := by
  have c0 := h.c0
  have n0 := h.s.ncell
  have HT := hide h.s
  obtain ⟨x0, x1⟩ := fmx_le h.s.inv 8 (Nat.le_refl _)
  have hn40 := h.s.inv.n40
  clear h
  by_cases hm : 1 ≤ md ∧ md ≤ 3
  · have hm1 : ¬ md < 1 := by omega
    have hm3 : ¬ 3 < md := by omega
    by_cases h3 : md = 3
    · subst h3
      by_cases hr : at_ < 0 ∨ (n : Int) < at_
      · have hb : bcode f n 3 at_ = 1 := by unfold bcode; rw [if_pos (by omega), if_pos rfl, if_pos hr]
        have HBB := hide hb
        clear hb
        rcases hr with hr | hr
        · go_enter Tryz.func67, Tryz.ntmps67
          go_wp2_with fail
          go_ret2
          exact cbEnd_bad (unhide HBB) (by omega) (Kp.refl _ _)
        · have hr0 : ¬ at_ < 0 := by omega
          go_enter Tryz.func67, Tryz.ntmps67
          go_wp2_with fail
          go_ret2
          exact cbEnd_bad (unhide HBB) (by omega) (Kp.refl _ _)
      · have hr0 : ¬ at_ < 0 := by omega
        have hr1 : ¬ (n : Int) < at_ := by omega
        by_cases ho : at_ < fmx f 8
        · have hb : bcode f n 3 at_ = 12 := by unfold bcode; rw [if_pos (by omega), if_pos rfl, if_neg hr, if_pos ho]
          have HBB := hide hb
          clear hb
          go_enter Tryz.func67, Tryz.ntmps67
          go_wp2_with fail
          refine (sfirst43 w (unhide HT)).mono ?_
          rintro e w2 ⟨rfl, hw⟩
          subst w2
          go_wp2_with fail
          go_ret2
          exact cbEnd_bad (unhide HBB) (by omega) (Kp.refl _ _)
        · have hb : bcode f n 3 at_ = 0 := by unfold bcode; rw [if_pos (by omega), if_pos rfl, if_neg hr, if_neg ho]
          have HBB := hide hb
          clear hb
          go_enter Tryz.func67, Tryz.ntmps67
          go_wp2_with fail
          refine (sfirst43 w (unhide HT)).mono ?_
          rintro e w2 ⟨rfl, hw⟩
          subst w2
          go_wp2_with fail
          go_ret2
          exact cbEnd_ok (unhide HBB) (by rw [show bat n 3 at_ = at_ from if_pos rfl]; exact wrk_new w 3 at_) ((Kp.refl [] w).alloc _)
    · have hb : bcode f n md at_ = 0 := by unfold bcode; rw [if_pos hm, if_neg h3]
      have HBB := hide hb
      clear hb
      have hr0 : ¬ (n : Int) < 0 := by omega
      have hr1 : ¬ (n : Int) < (n : Int) := by omega
      have hr2 : ¬ (n : Int) < fmx f 8 := by omega
      go_enter Tryz.func67, Tryz.ntmps67
      go_wp2_with fail
      refine (sfirst43 w (unhide HT)).mono ?_
      rintro e w2 ⟨rfl, hw⟩
      subst w2
      go_wp2_with fail
      go_ret2
      exact cbEnd_ok (unhide HBB) (by rw [show bat n md at_ = n from if_neg h3]; exact wrk_new w md n) ((Kp.refl [] w).alloc _)
  · have hb : bcode f n md at_ = 3 := by unfold bcode; rw [if_neg hm]
    have HBB := hide hb
    clear hb
    by_cases hm1 : md < 1
    · go_enter Tryz.func67, Tryz.ntmps67
      go_wp2_with fail
      go_ret2
      exact cbEnd_bad (unhide HBB) (by omega) (Kp.refl _ _)
    · have hm3 : 3 < md := by omega
      go_enter Tryz.func67, Tryz.ntmps67
      go_wp2_with fail
      go_ret2
      exact cbEnd_bad (unhide HBB) (by omega) (Kp.refl _ _)

end
/- The document's court: again, by its contract. -/
section
open Go.RowKit
attribute [local go_sem ↓] Go.wp_at_zero Go.wp_at_succ

/-- Another sheet in its place. -/
theorem Crt.newS {B : Nat} {w W : World} {cb sb sb' : Nat} {G Gr Gs Gs' : List Nat} {bx : Array Value} {f f' : Nat → List Ver} {n n' : Nat} {cs : List (List Ver)} {torn : List UInt8} {st : Nat → Option Addr} (h : Crt B w cb sb G Gr Gs bx f n cs torn st) (hW : Kp [] w W) (k1 : Sht w.heap.size W sb' Gs' f' n') :
    Ch (CrtT cb sb' f' n' cs torn st) B w G (W.setCell ⟨cb, 0, none⟩ (.pointer (some ⟨sb', 0, none⟩))) := by
  have hcb := (h.lo cb h.cG).2
  have hBw : B ≤ w.heap.size := by have := (h.lo cb h.cG).1; omega
  have hk3 : Kp [cb] W (W.setCell ⟨cb, 0, none⟩ (.pointer (some ⟨sb', 0, none⟩))) := (Kp.refl [cb] W).setCell (.inl (by simp)) _
  have hW1 := h.kp0 hW
  have hne : ∀ x, x ∈ Gs' → x ≠ cb := fun x hx e => by have := (k1.lo x hx).1; omega
  refine ⟨Gr ++ Gs', ⟨Gr, Gs', bx.setIfInBounds 0 (.pointer (some ⟨sb', 0, none⟩)), hW1.r.other 0 _ (by omega) (by omega), set_here h.b0 _, fun i hi => set_there (h.bs i hi) (by omega) _, by simp [h.sz], (k1.base hBw).kp hk3 (fun x hx e => hne x hx (List.mem_singleton.1 e)), fun x hx hm => ?_, fun x hx => by simp [hx], fun x hx => by simp [hx], fun x hx => ?_⟩, (hW.mono (fun x hx => by simp at hx)).trans hk3 (fun x hx => .inl (by rw [List.mem_singleton.1 hx]; exact h.cG)), fun x hx => ?_⟩
  · have h1 := (k1.lo x hm).1
    have h2 := (h.lo x (h.rG x hx)).2
    omega
  · rcases List.mem_append.1 hx with e | e
    · exact ⟨(h.lo x (h.rG x e)).1, Nat.lt_of_lt_of_le (hW1.lo x (h.rG x e)).2 hk3.size⟩
    · exact ⟨Nat.le_trans hBw (k1.lo x e).1, Nat.lt_of_lt_of_le (k1.lo x e).2 hk3.size⟩
  · rcases List.mem_append.1 hx with e | e
    · exact .inl (h.rG x e)
    · exact .inr (k1.lo x e).1

/-- At the head of a round of again: the first i commits are written. -/
structure AgL (B : Nat) (w : World) (G : List Nat) (cb sb : Nat) (bx : Array Value) (st : Nat → Option Addr) (aL : Option Addr) (capL : Nat) (xs : List El) (i : Nat) (wr : World) (Gr Gs : List Nat) : Prop where
  r : ∃ aT cT, RxL B wr cb 1 bx 68 Gr aL capL xs aT cT []
  s : Sht B wr sb Gs (wal0 ((cps xs).take i)) i
  rs : ∀ x, x ∈ Gr → x ∉ Gs
  b0 : bx[0]? = some (.pointer (some ⟨sb, 0, none⟩))
  bs : ∀ j, j < 5 → bx[3 + j]? = some (.pointer (st j))
  sz : bx.size = 8
  kp : Kp G w wr
  rG : ∀ x, x ∈ Gr → x ∈ G ∨ w.heap.size ≤ x
  sG : ∀ x, x ∈ Gs → x ∈ G ∨ w.heap.size ≤ x
def Ag (B : Nat) (w : World) (G : List Nat) (cb sb : Nat) (bx : Array Value) (st : Nat → Option Addr) (aL : Option Addr) (capL : Nat) (xs : List El) (i : Nat) (wr : World) : Prop := ∃ Gr Gs, AgL B w G cb sb bx st aL capL xs i wr Gr Gs
section
variable {B : Nat} {w wr w' : World} {G : List Nat} {cb sb : Nat} {bx : Array Value} {st : Nat → Option Addr} {aL : Option Addr} {capL : Nat} {xs : List El} {i : Nat}
theorem Ag.kp0 (h : Ag B w G cb sb bx st aL capL xs i wr) (hk : Kp [] wr w') : Ag B w G cb sb bx st aL capL xs i w' := by
  obtain ⟨Gr, Gs, h⟩ := h
  obtain ⟨aT, cT, hr⟩ := h.r
  exact ⟨Gr, Gs, ⟨aT, cT, hr.kp hk (fun _ _ => by simp)⟩, h.s.kp0 hk, h.rs, h.b0, h.bs, h.sz, h.kp.trans0 hk, h.rG, h.sG⟩
theorem Ag.c0 (h : Ag B w G cb sb bx st aL capL xs i wr) : wr.cell? ⟨cb, 0, none⟩ = some (.pointer (some ⟨sb, 0, none⟩)) := by
  obtain ⟨Gr, Gs, h⟩ := h
  obtain ⟨aT, cT, hr⟩ := h.r
  exact cell_of_block hr.box h.b0
theorem Ag.c1 (h : Ag B w G cb sb bx st aL capL xs i wr) : wr.cell? ⟨cb, 1, none⟩ = some (.slice aL xs.length capL) := by
  obtain ⟨Gr, Gs, h⟩ := h
  obtain ⟨aT, cT, hr⟩ := h.r
  exact hr.c0
theorem Ag.at_ (h : Ag B w G cb sb bx st aL capL xs i wr) {k : Nat} (hk : k < xs.length) : ∃ g, aL = some ⟨g, 0, none⟩ ∧ wr.cell? ⟨g, k, none⟩ = some (.slice (eat xs k).a (eat xs k).ps.length (eat xs k).c) := by
  obtain ⟨Gr, Gs, h⟩ := h
  obtain ⟨aT, cT, hr⟩ := h.r
  exact hr.own.cell hk
theorem ag_write (h : Ag B w G cb sb bx st aL capL xs i wr) (hi : i < xs.length) {W : World} (hW : Kp [] wr W) :
    Calls Tryz.prog 101 #[.pointer (some ⟨sb, 0, none⟩), .slice (eat xs i).a (eat xs i).ps.length (eat xs i).c] W fun e w' => ∃ a b, e = .returned (.tuple #[.int .i64 a, .int .i64 b]) ∧ Hid (Ag B w G cb sb bx st aL capL xs (i + 1) w') := by
  obtain ⟨Gr, Gs, h⟩ := h.kp0 hW
  obtain ⟨aT, cT, hr⟩ := h.r
  have hpf : pf (-1) (eat xs i).ps = 0 := by rw [← cps_at hi]; exact hr.inv.at_ (by rw [cps_length]; exact hi)
  have hpr : Prs W (eat xs i).a (eat xs i).ps := slo_prs (hr.els _ (eat_mem hi)).1 hpf
  have h8 := pf_len8 hpf
  have hn40 := hr.inv.n40
  rw [cps_length] at hn40
  obtain ⟨q1, q2⟩ := wcode_ok (n := i) hpf (by omega)
  refine (swrite56 _ _ _ W h.s hpr (fun _ g o e hg => ?_) (by omega)).mono ?_
  · have := ((hr.els _ (eat_mem hi)).2 g (by rw [e]; simp [ob])).1
    exact h.rs g this hg
  · rintro e w' ⟨rfl, Gs', k1, k2, k3⟩
    refine ⟨_, _, rfl, Gr, Gs', ⟨aT, cT, hr.kp k2 (fun x hx hh => h.rs x hx hh)⟩, ?_, fun x hx hm => ?_, h.b0, h.bs, h.sz, h.kp.trans k2 h.sG, h.rG, fun x hx => ?_⟩
    · rw [q2] at k1
      have e1 : (cps xs).take (i + 1) = (cps xs).take i ++ [(eat xs i).ps] := by
        rw [List.take_succ_eq_append_getElem (by rw [cps_length]; exact hi), ← cps_at hi]
        simp [List.getD_eq_getElem?_getD, cps_length, hi]
      rw [e1, wal0_snoc]
      have e2 : ((cps xs).take i).length = i := by rw [List.length_take, cps_length]; omega
      rw [e2]
      exact k1
    · rcases k3 x hm with e | e
      · exact h.rs x hx e
      · have := (hr.lo x hx).2; omega
    · rcases k3 x hx with e | e
      · exact h.sG x e
      · exact .inr (Nat.le_trans h.kp.size e)
theorem Ag.crt (h : Ag B w G cb sb bx st aL capL xs i wr) (hi : i = xs.length) : Ch (CrtT cb sb (wal0 (cps xs)) (cps xs).length (cps xs) [] st) B w G wr := by
  obtain ⟨Gr, Gs, h⟩ := h
  obtain ⟨aT, cT, hr⟩ := h.r
  have hs := h.s
  rw [hi, ← cps_length, List.take_length] at hs
  refine ⟨Gr ++ Gs, ⟨Gr, Gs, bx, ⟨aL, capL, xs, aT, cT, hr, rfl⟩, h.b0, h.bs, h.sz, hs, h.rs, fun x hx => by simp [hx], fun x hx => by simp [hx], fun x hx => ?_⟩, h.kp, fun x hx => ?_⟩
  · rcases List.mem_append.1 hx with e | e
    · exact hr.lo x e
    · exact hs.lo x e
  · rcases List.mem_append.1 hx with e | e
    · exact h.rG x e
    · exact h.sG x e
end
theorem ag_start {B : Nat} {w w1 : World} {G : List Nat} {cb sb : Nat} {cs : List (List Ver)} {st : Nat → Option Addr} (h : Ch (CrtT cb sb (fun _ => [dv]) 0 cs [] st) B w G w1) : ∃ bx aL capL xs, cs = cps xs ∧ Ag B w G cb sb bx st aL capL xs 0 w1 := by
  obtain ⟨G1, ⟨Gr, Gs, bx, h1⟩, h2, h3⟩ := h
  obtain ⟨aL, capL, xs, aT, cT, hr, e⟩ := h1.r
  exact ⟨bx, aL, capL, xs, e, Gr, Gs, ⟨aT, cT, hr⟩, h1.s, h1.rs, h1.b0, h1.bs, h1.sz, h2, fun x hx => h3 x (h1.rG x hx), fun x hx => h3 x (h1.sG x hx)⟩
/-- Nobody sits. -/
theorem Crt.stand {B : Nat} {w : World} {cb sb : Nat} {G Gr Gs : List Nat} {bx : Array Value} {f : Nat → List Ver} {n : Nat} {cs : List (List Ver)} {torn : List UInt8} {st : Nat → Option Addr} (h : Crt B w cb sb G Gr Gs bx f n cs torn st) :
    Ch (CrtT cb sb f n cs torn (fun _ => none)) B w G (((((w.setCell ⟨cb, 3, none⟩ (.pointer none)).setCell ⟨cb, 4, none⟩ (.pointer none)).setCell ⟨cb, 5, none⟩ (.pointer none)).setCell ⟨cb, 6, none⟩ (.pointer none)).setCell ⟨cb, 7, none⟩ (.pointer none)) := by
  have h5 := (h.sit (i := 0) (by omega) none).to fun G1 ⟨Gr1, Gs1, bx1, h1⟩ => (h1.sit (i := 1) (by omega) none).to fun G2 ⟨Gr2, Gs2, bx2, h2⟩ => (h2.sit (i := 2) (by omega) none).to fun G3 ⟨Gr3, Gs3, bx3, h3⟩ => (h3.sit (i := 3) (by omega) none).to fun G4 ⟨Gr4, Gs4, bx4, h4⟩ => h4.sit (i := 4) (by omega) none
  obtain ⟨F', ⟨Gr', Gs', bx', k⟩, k2, k3⟩ := h5
  refine ⟨F', ⟨Gr', Gs', bx', k.r, k.b0, fun i hi => ?_, k.sz, k.s, k.rs, k.rG, k.sG, k.lo⟩, k2, k3⟩
  rw [k.bs i hi]
  have : i = 0 ∨ i = 1 ∨ i = 2 ∨ i = 3 ∨ i = 4 := by omega
  rcases this with e | e | e | e | e <;> subst e <;> rfl

set_option maxHeartbeats 1000000 in
theorem cagain {B cb sb n : Nat} {G Gr Gs : List Nat} {bx : Array Value} {f : Nat → List Ver} {cs : List (List Ver)} {torn : List UInt8} {st : Nat → Option Addr} (w : World) (h : Crt B w cb sb G Gr Gs bx f n cs torn st) :
    Calls Tryz.prog 65 #[.pointer (some ⟨cb, 0, none⟩)] w fun e w' => e = .returned (.tuple #[]) ∧ ∃ sb', Ch (CrtT cb sb' (wal0 cs) cs.length cs [] (fun _ => none)) B w G w' := by
  have HV := hide h
  have HR := hide h.r
  have hn40 := h.r.inv.n40
  clear h
  go_enter Tryz.func65, Tryz.ntmps65
  go_wp2_with fail
  refine (rxmend w (unhide HR)).mono ?_
  rintro e w1 ⟨rfl, hL⟩
  obtain ⟨G1, ⟨Gr1, Gs1, bx1, h1⟩, k1, s1⟩ := (unhide HV).roll hL
  have H1 := hide h1
  have K1 := hide k1
  have S1 := hide s1
  clear h1 k1 s1 hL HR
  go_wp2_with fail
  refine (snew55 w1).mono ?_
  rintro e w2 ⟨rfl, ⟨Gs2, hT⟩, hk2⟩
  have h2 := (unhide H1).kp0 hk2
  have d0 := h2.c0
  have f0 := h2.fz 0
  have HCH := hide (Ch.trans (unhide K1) (unhide S1) ((unhide H1).newS hk2 hT))
  clear h2 hT hk2
  generalize w1.heap.size = sb2 at *
  generalize hW3 : w2.setCell ⟨cb, 0, none⟩ (.pointer (some ⟨sb2, 0, none⟩)) = w3 at HCH
  obtain ⟨bx, aL, capL, xs, hcs, hag⟩ := ag_start (unhide HCH)
  have HAG := hide hag
  have HCS := hide hcs
  have hlen : cs.length = xs.length := by rw [hcs, cps_length]
  have hx40 : xs.length ≤ 40 := by omega
  have HW3 := hide hW3
  have HLEN := hide hlen
  clear hag hcs hlen hn40 hW3
  go_wp2_with fail
  rw [unhide HW3]
  go_loopw [2] (fun i wr => ∃ k : Nat, k ≤ xs.length ∧ i = .int .i64 k ∧ Hid (Ag B w G cb sb2 bx st aL capL xs k wr)) (fun i _ => xs.length - (intOf i).toNat)
  case atStart => exact ⟨0, by omega, rfl, HAG⟩
  case round =>
    obtain ⟨k, hk, rfl, HI⟩ := hrel
    have r0 := (unhide HI).c1
    by_cases hlt : k < xs.length
    · have i0 : (0 : Int) ≤ (k : Int) := by omega
      have i1 : (k : Int) < (xs.length : Int) := by omega
      have q0 := (unhide HI).c0
      obtain ⟨gL, rfl, q1⟩ := (unhide HI).at_ hlt
      have q1' : wr.cell? ⟨gL, 0 + k, none⟩ = some (.slice (eat xs k).a (eat xs k).ps.length (eat xs k).c) := by rw [Nat.zero_add]; exact q1
      go_wp2_with fail
      go_region_with (go_at_call 101; refine (ag_write (unhide HI) hlt (Kp.refl [] wr).drew).mono ?_; rintro e w4 ⟨za, zb, rfl, HI4⟩)
      all_goals
        go_wp2_with fail
        exact ⟨⟨k + 1, by omega, by go_num, HI4⟩, by simp [intOf]; omega⟩
    · have hkk : k = xs.length := by omega
      have HC5 := hide ((unhide HI).crt hkk)
      obtain ⟨G5, ⟨Gr5, Gs5, bx5, h5⟩, k5, s5⟩ := (unhide HI).crt hkk
      have y0 := h5.seat (i := 0) (by omega)
      have y1 := h5.seat (i := 1) (by omega)
      have y2 := h5.seat (i := 2) (by omega)
      have y3 := h5.seat (i := 3) (by omega)
      have y4 := h5.seat (i := 4) (by omega)
      have z0 := h5.fz 3
      have z1 := h5.fz 4
      have z2 := h5.fz 5
      have z3 := h5.fz 6
      have z4 := h5.fz 7
      have HX := hide (Ch.trans k5 s5 h5.stand)
      clear h5 k5 s5 hkk
      go_wp2_with fail
      go_end0
      rw [← unhide HCS] at HX
      exact ⟨rfl, sb2, unhide HX⟩

end
/- The document's court: Do of SCrash, SCommit and STear, by contracts. -/
section
open Go.RowKit
attribute [local go_sem ↓] Go.wp_at_zero Go.wp_at_succ

def seatB (s : Int) : Bool := decide (0 ≤ s ∧ s < 5)
set_option maxHeartbeats 400000 in
theorem isseat (k : Int) (w : World) : Calls Tryz.prog 66 #[.int .i64 k] w fun e w' => e = .returned (.bool (seatB k)) ∧ w' = w := by
  go_enter Tryz.func66, Tryz.ntmps66
  go_wp2
  all_goals
    go_ret
    exact ⟨ret_bool (by simp [seatB]; omega), rfl⟩

/-- A call that leaves a thing, and what is stored behind it into a new block. -/
theorem Ch.side {o' : Thing} {B : Nat} {w W w1 w' : World} {G : List Nat} {p : Nat} (h : Ch o' B W G w1) (hW : Kp [] w W) (hG : ∀ x, x ∈ G → x < w.heap.size) (hp : w.heap.size ≤ p) (hp2 : p < W.heap.size) (hk : Kp [p] w1 w') : Ch o' B w G w' := by
  obtain ⟨F1, h1, h2, h3⟩ := h
  have hpF : ∀ x, x ∈ F1 → x ≠ p := fun x hx e => by
    subst e
    rcases h3 x hx with q | q
    · have := hG x q; omega
    · omega
  refine ⟨F1, o'.kp h1 hk (fun x hx e => hpF x hx (List.mem_singleton.1 e)), ((hW.mono (fun x hx => by simp at hx)).trans h2 (fun x hx => .inl hx)).trans hk (fun x hx => .inr (by rw [List.mem_singleton.1 hx]; exact hp)), fun x hx => ?_⟩
  rcases h3 x hx with q | q
  · exact .inl q
  · exact .inr (Nat.le_trans hW.size q)
theorem Ch.far {o' : Thing} {B : Nat} {W w1 : World} {G : List Nat} (h : Ch o' B W G w1) {p : Nat} {o : Obj} (hp : p ∉ G) (hb : W.heap[p]? = some o) : w1.heap[p]? = some o := by
  obtain ⟨F1, h1, h2, h3⟩ := h
  rw [h2.block p (lt_of_block hb) hp]; exact hb

theorem two_alloc (w : World) (o1 o2 : Obj) : ((w.alloc o1).alloc o2).heap[w.heap.size + 1]? = some o2 := by
  have h : (w.alloc o1).heap.size = w.heap.size + 1 := by simp
  rw [← h]
  exact heap_alloc_new _ _

/-- An event in a variable. -/
def EvB (w : World) (p : Nat) : Prop := w.heap[p]? = some (.cells #[.int .i64 0, .int .i64 0, .bool false, .string ⟨#[]⟩, .slice none 0 0] 102 (0, 0))
structure EvC (w : World) (p : Nat) : Prop where
  c0 : w.cell? ⟨p, 0, none⟩ = some (.int .i64 0)
  c1 : w.cell? ⟨p, 1, none⟩ = some (.int .i64 0)
  c2 : w.cell? ⟨p, 2, none⟩ = some (.bool false)
  c3 : w.cell? ⟨p, 3, none⟩ = some (.string ⟨#[]⟩)
  c4 : w.cell? ⟨p, 4, none⟩ = some (.slice none 0 0)
  f0 : w.frozen? ⟨p, 0, none⟩ = false
  f1 : w.frozen? ⟨p, 1, none⟩ = false
  f2 : w.frozen? ⟨p, 2, none⟩ = false
  f3 : w.frozen? ⟨p, 3, none⟩ = false
  f4 : w.frozen? ⟨p, 4, none⟩ = false
theorem EvB.c {w : World} {p : Nat} (h : EvB w p) : EvC w p :=
  ⟨cell_of_block h rfl, cell_of_block h rfl, cell_of_block h rfl, cell_of_block h rfl, cell_of_block h rfl, frozen_of_block _ h, frozen_of_block _ h, frozen_of_block _ h, frozen_of_block _ h, frozen_of_block _ h⟩
theorem ev5 {w1 : World} {p : Nat} (a b c d e : Value) : Kp [p] w1 (((((w1.setCell ⟨p, 0, none⟩ a).setCell ⟨p, 1, none⟩ b).setCell ⟨p, 2, none⟩ c).setCell ⟨p, 3, none⟩ d).setCell ⟨p, 4, none⟩ e) :=
  (((((Kp.refl [p] w1).setCell (.inl (by simp)) _).setCell (.inl (by simp)) _).setCell (.inl (by simp)) _).setCell (.inl (by simp)) _).setCell (.inl (by simp)) _

end
/- A house: a vault, a court, and deeds of both; its memory, and what calls leave of it. -/
section
open Go.RowKit

/-- A variable: a block that is known whole. -/
def BoxT (q : Nat) (cs : Array Value) (T : TypeId) : Thing where
  holds B w F := w.heap[q]? = some (.cells cs T (0, 0)) ∧ F = [q] ∧ B ≤ q
  kp := fun ⟨h1, h2, h3⟩ hk hS => ⟨by rw [hk.block q (lt_of_block h1) (hS q (by rw [h2]; simp))]; exact h1, h2, h3⟩
  lo := fun ⟨h1, h2, h3⟩ x hx => by rw [h2] at hx; simp at hx; rw [hx]; exact ⟨h3, lt_of_block h1⟩
  base := fun ⟨h1, h2, h3⟩ hC => ⟨h1, h2, Nat.le_trans hC h3⟩

section
variable {w0 w w' : World} {o o1 o2 o3 : Thing} {r : List Thing}
theorem Zoo.box (h : Zoo w0 w r) (cs : Array Value) (T : TypeId) : Zoo w0 (w.alloc (.cells cs T)) (BoxT w.heap.size cs T :: r) :=
  h.cons (F := [w.heap.size]) ⟨heap_alloc_new w _, rfl, Nat.le_refl _⟩ ((Kp.refl [] w).alloc _)
theorem Zoo.var {q : Nat} {cs : Array Value} {T : TypeId} (h : Zoo w0 w (BoxT q cs T :: r)) : w.heap[q]? = some (.cells cs T (0, 0)) := by
  obtain ⟨F, h1, _⟩ := zoo_at0 h
  exact h1.1
theorem Zoo.base (h : Zoo w0 w r) : w0.heap.size ≤ w.heap.size := h.kp.size
end

section
variable {B : Nat} {w w' W : World} {hb : Nat} {F S : List Nat} {vb cb : Nat} {da a' : Option Addr} {dc c' : Nat} {wa : Option Addr} {wc dn wn : Nat} {dbs wbs l : List Nat}
end
end
/- Rows of elements of some cells each, of one's own: append onto them; as things. -/
section
open Go.RowKit

/-- n elements of k cells lie from the beginning of a block of one's own on. -/
def KRow (e : TypeId) (k : Nat) (B : Nat) (w : World) (a : Option Addr) (n cap : Nat) (xs : List Value) : Prop :=
  xs.length = n * k ∧ ((a = none ∧ n = 0 ∧ cap = 0) ∨ ∃ g cur, a = some ⟨g, 0, none⟩ ∧ B ≤ g ∧ w.heap[g]? = some (.cells cur e (0, 0)) ∧ n ≤ cap ∧ cap ≤ maxLen ∧ cap * k ≤ cur.size ∧ cur.toList.take (n * k) = xs)

section
variable {e : TypeId} {k B : Nat} {w w' : World} {a : Option Addr} {n cap : Nat} {xs : List Value}
theorem krow_nil (e : TypeId) (k B : Nat) (w : World) : KRow e k B w none 0 0 [] := ⟨by simp, .inl ⟨rfl, rfl, rfl⟩⟩
theorem KRow.le (h : KRow e k B w a n cap xs) : n ≤ cap := by
  rcases h.2 with ⟨_, e1, e2⟩ | ⟨g, cur, _, _, _, h1, _⟩
  · omega
  · exact h1
theorem KRow.lo (h : KRow e k B w a n cap xs) : ∀ x ∈ ob a, B ≤ x ∧ x < w.heap.size := by
  intro x hx
  rcases h.2 with ⟨rfl, _⟩ | ⟨g, cur, rfl, h1, h2, _⟩
  · simp [ob] at hx
  · simp [ob] at hx
    have := lt_of_block h2
    omega
theorem KRow.kp {S : List Nat} (h : KRow e k B w a n cap xs) (hk : Kp S w w') (hS : ∀ x ∈ ob a, x ∉ S) : KRow e k B w' a n cap xs := by
  refine ⟨h.1, ?_⟩
  rcases h.2 with hn | ⟨g, cur, rfl, h1, h2, h3⟩
  · exact .inl hn
  · exact .inr ⟨g, cur, rfl, h1, by rw [hk.block g (lt_of_block h2) (hS g (by simp [ob]))]; exact h2, h3⟩
theorem KRow.kp0 (h : KRow e k B w a n cap xs) (hk : Kp [] w w') : KRow e k B w' a n cap xs := h.kp hk (fun _ _ => by simp)
theorem KRow.base {C : Nat} (h : KRow e k B w a n cap xs) (hC : C ≤ B) : KRow e k C w a n cap xs := by
  refine ⟨h.1, ?_⟩
  rcases h.2 with hn | ⟨g, cur, rfl, h1, h2⟩
  · exact .inl hn
  · exact .inr ⟨g, cur, rfl, by omega, h2⟩
theorem KRow.cell (h : KRow e k B w a n cap xs) {j : Nat} {v : Value} (hj : xs[j]? = some v) : ∃ g, a = some ⟨g, 0, none⟩ ∧ w.cell? ⟨g, j, none⟩ = some v := by
  have hl : j < n * k := by rw [← h.1]; exact (List.getElem?_eq_some_iff.1 hj).1
  rcases h.2 with ⟨_, e1, _⟩ | ⟨g, cur, rfl, h1, h2, h3, h4, h5, h6⟩
  · subst e1; omega
  · refine ⟨g, rfl, cell_of_block h2 ?_⟩
    rw [← h6, List.getElem?_take] at hj
    rw [if_pos hl] at hj
    simpa using hj
theorem krow_app {t : TypeId} {z : Value} {by_ : Nat} (hu : Tryz.prog.underlying t = some (.slice e)) (hi : (Tryz.prog.info? e).map (fun i => (i.zero, i.size, i.bytes)) = some (some z, k, by_)) (hz : z.cells.size = k) (hby : by_ ≤ 1000)
    (h : KRow e k B w a n cap xs) (hB : B ≤ w.heap.size) (ty : TypeId) (x : Value) (news : List Value) (m : Nat) (hs : Src Tryz.prog k t x m news w) (hl : n + m ≤ 100000) :
    ∃ a' cap' w', (Builtin.append_ #[t, t] ty #[.slice a n cap, x]).run Tryz.prog w = .ok (.slice a' (n + m) cap') w' ∧ KRow e k B w' a' (n + m) cap' (xs ++ news) ∧ Kp (ob a) w w' ∧ ∀ y ∈ ob a', y ∈ ob a ∨ w.heap.size ≤ y := by
  obtain ⟨i0, hi0, hz0, hz1, hz2⟩ := info_parts hi
  have hs' : Src Tryz.prog i0.size t x m news w := by rw [hz1]; exact hs
  have hnl : news.length = m * k := hs.newsLen
  have hxl := h.1
  have hle := h.le
  have hall : (xs ++ news).length = (n + m) * k := by rw [List.length_append, hxl, hnl, Nat.add_mul]
  by_cases hp : m = 0
  · subst hp
    have e0 : news = [] := List.eq_nil_of_length_eq_zero (by rw [hnl]; omega)
    subst e0
    have hr := run_append_nothing (P := Tryz.prog) w t t ty e i0 hu hi0 a n cap hle x hs'
    exact ⟨a, cap, w, hr, by rw [List.append_nil]; exact h, Kp.refl _ _, fun y hy => .inl hy⟩
  have hold : (Builtin.firstCells i0.size n (.slice a n cap)).run Tryz.prog w.drew = .ok xs.toArray w.drew := by
    rcases h.2 with ⟨rfl, rfl, rfl⟩ | ⟨g, cur, rfl, h1, h2, h3, h4, h5, h6⟩
    · have : xs = [] := List.eq_nil_of_length_eq_zero (by rw [hxl]; omega)
      subst this
      exact run_firstCells_none w.drew i0.size 0 0 0
    · refine run_firstCells_some (P := Tryz.prog) w.drew i0.size n ⟨g, 0, none⟩ n cap xs (by rw [hz1, hxl]) (fun j u hj => ?_)
      obtain ⟨g', e', hc⟩ := h.cell hj
      simp only [Option.some.injEq, Addr.mk.injEq, and_true] at e'
      subst e'
      rw [addr_add, Nat.zero_add]
      exact hc
  by_cases hroom : n + m ≤ cap
  · rcases h.2 with ⟨_, _, _⟩ | ⟨g, cur, rfl, h1, h2, h3, h4, h5, h6⟩
    · omega
    · have hcm : (n + m) * k ≤ cap * k := Nat.mul_le_mul_right k hroom
      have hst := run_storeCells_at Tryz.prog g (n * k) e news 0 cur w h2 (by rw [hnl]; rw [Nat.add_mul] at hcm; omega) hs.one
      simp only [Nat.add_zero] at hst
      refine ⟨some ⟨g, 0, none⟩, cap, w.setRow g (cur.toList.take (n * k) ++ news ++ cur.toList.drop (n * k + news.length)).toArray, ?_, ⟨hall, .inr ⟨g, _, rfl, h1, setRow_heap w g cur _ e _ h2, hroom, h4, ?_, ?_⟩⟩, ?_, fun y hy => .inl hy⟩
      · rcases hs'.kind with ⟨e', hk⟩ | hk <;> simp [Builtin.append_, run_underlying hu, sizeOf, typeInfo, hi0, hz1, hs.len, hroom, hs.cells, Addr.add_lit, hst]
      · simp only [List.size_toArray, List.length_append, List.length_take, List.length_drop, Array.length_toList]
        rw [Nat.add_mul] at hcm
        omega
      · rw [h6, ← hall]
        exact List.take_left
      · exact ⟨rfl, rfl, rfl, by simp, fun k _ hn => setRow_other w g k _ (by simpa [ob] using hn)⟩
  · have hge := grownCap_ge w (n + m) cap e
    have hfit : Builtin.nextslicecap (n + m) cap * i0.bytes ≤ 281474976710656 := growslice_fits (by omega) (by
      rw [hz2]
      have := Nat.mul_le_mul hl hby
      omega)
    have hr := run_append_grow_src (P := Tryz.prog) w t t ty e i0 _ hu hi0 hz0 a n cap xs hold x m news hs' (by omega) (by omega) hfit
    refine ⟨_, _, _, hr, ⟨hall, .inr ⟨w.heap.size, _, rfl, hB, heap_alloc_new w.drew _, hge, grownCap_le_maxLen w _ _ _ (by unfold maxLen; omega), ?_, ?_⟩⟩, (Kp.refl _ w).drew.alloc _, fun y hy => .inr (by simp [ob] at hy; omega)⟩
    · rw [Array.size_append, size_zeroCells, hz]
      simp only [List.size_toArray, hall]
      rw [← Nat.add_mul]
      exact Nat.mul_le_mul_right k (by omega)
    · simp only [Array.toList_append]
      rw [← hall]
      exact List.take_left
end

theorem wpList_krow {ops : Array Oper} {rest : List Oper} {o : Oper} {ac : Act} {w : World} {Q : Exit → Act → World → Prop} (hw : Region.wanted o (yielded ops ac.tmps) = true) (s x : Operand) (t : TypeId)
    (ho : o.op = .call { callee := .builtin .append, args := #[s, x], argTypes := #[t, t] }) {e : TypeId} {k by_ : Nat} {z : Value} (hu : Tryz.prog.underlying t = some (.slice e)) (hi : (Tryz.prog.info? e).map (fun i => (i.zero, i.size, i.bytes)) = some (some z, k, by_)) (hz : z.cells.size = k) (hby : by_ ≤ 1000)
    {B : Nat} {a : Option Addr} {n cap : Nat} {xs : List Value} (h : KRow e k B w a n cap xs) (hB : B ≤ w.heap.size) (xv : Value) (news : List Value) (m : Nat)
    (hs : ac.eval s = .slice a n cap) (hx : ac.eval x = xv) (hsrc : Src Tryz.prog k t xv m news w) (hm : n + m ≤ 100000) (N : Nat) (hN : n + m = N)
    (kk : ∀ a' cap' w', Hid (KRow e k B w' a' N cap' (xs ++ news)) → Hid (Kp (ob a) w w') → Hid (∀ x ∈ ob a', x ∈ ob a ∨ w.heap.size ≤ x) → wpList Tryz.prog ops Q rest (ac.put o.dst (.slice a' N cap')) w') : wpList Tryz.prog ops Q (o :: rest) ac w := by
  subst hN
  obtain ⟨a', cap', w', hr, h1, h2, h3⟩ := krow_app hu hi hz hby h hB o.type xv news m hsrc hm
  refine wpList_step fun K hK => ?_
  rw [if_pos hw]
  unfold Oper.wp execOp
  simp only [ho, resolve, invoke, builtin, Sem.run_bind, Sem.run_pure, Result.andThen_ok, List.map_toArray, List.map_cons, List.map_nil, hs, hx, hr]
  exact hK _ _ (kk a' cap' w' h1 h2 h3)
/-- One element that was just built. -/
theorem src_built {t e : TypeId} {k : Nat} (hu : Tryz.prog.underlying t = some (.slice e)) {w : World} {g c : Nat} {cs : Array Value} {T : TypeId} {fr : Nat × Nat} (h : w.heap[g]? = some (.cells cs T fr)) (hl : cs.size = k) (h1 : ∀ u ∈ cs.toList, u.oneCell' = true) : Src Tryz.prog k t (.slice (some ⟨g, 0, none⟩) 1 c) 1 cs.toList w := by
  refine Src.ofSlice w hu ⟨g, 0, none⟩ 1 c cs.toList (by simp [hl]) (fun j u hj => ?_) h1
  rw [addr_add, Nat.zero_add, cell_of_row w g j _ _ _ h]
  simpa using hj

/-- A row of one's own as a thing. -/
def KwT (e : TypeId) (k : Nat) (a : Option Addr) (n cap : Nat) (xs : List Value) : Thing where
  holds B w F := KRow e k B w a n cap xs ∧ F = ob a
  kp := fun ⟨h1, h2⟩ hk hS => ⟨h1.kp hk (fun x hx => hS x (by rw [h2]; exact hx)), h2⟩
  lo := fun ⟨h1, h2⟩ x hx => h1.lo x (by rw [← h2]; exact hx)
  base := fun ⟨h1, h2⟩ hC => ⟨h1.base hC, h2⟩
section
variable {w0 w w' : World} {l1 r : List Thing} {e : TypeId} {k : Nat} {a a' : Option Addr} {n cap n' cap' : Nat} {xs ys : List Value}
theorem kw_nil (e : TypeId) (k : Nat) (hz : Zoo w0 w r) : Zoo w0 w (KwT e k none 0 0 [] :: r) := by
  obtain ⟨X, h1, hk⟩ := hz
  exact ⟨X, ⟨[], X, ⟨krow_nil _ _ _ _, rfl⟩, h1, fun _ hx => by simp at hx, rfl⟩, hk⟩
theorem kw_row (hz : Zoo w0 w (l1 ++ KwT e k a n cap xs :: r)) : KRow e k w0.heap.size w a n cap xs := by
  obtain ⟨F, h1, _⟩ := hz.at_
  exact h1.1
theorem kw_app (hz : Zoo w0 w (l1 ++ KwT e k a n cap xs :: r)) (h1 : KRow e k w0.heap.size w' a' n' cap' ys) (h2 : Kp (ob a) w w') (h3 : ∀ x ∈ ob a', x ∈ ob a ∨ w.heap.size ≤ x) : Zoo w0 w' (l1 ++ KwT e k a' n' cap' ys :: r) := by
  obtain ⟨F, ⟨g1, g2⟩, k2⟩ := hz.at_
  subst g2
  exact k2 _ _ ⟨ob a', ⟨h1, rfl⟩, h2, h3⟩
end
end
/- A region that draws its order, walked in an order of the prover's own. -/
section
open Go.RowKit

theorem drop_at {l rest : List Oper} {i : Nat} {o : Oper} (h : l.drop i = o :: rest) : l.toArray[i]? = some o := by
  have := congrArg List.head? h
  rw [List.head?_drop] at this
  simpa using this
theorem wpAnyH_tk {P : Program} {md : Region.Mode} {l rest : List Oper} {Q : Exit → Act → World → Prop} {S : World → Prop} {i : Nat} {oi : Oper} {v : Value} {fuel : Nat} {listed : Array Bool} {a : Act} {w : World} (hi : l.drop i = oi :: rest)
    (hs : Region.noSelect l.toArray = true) (hf : Region.free md l.toArray listed i = true) (hr : (Region.ready md l.toArray listed).contains i = true)
    (hQ : ∀ c a w, Q (.panic c) (a.put oi.dst v) w → Q (.panic c) a w) (hy : YieldsIf P l.toArray S oi v a) (hS : S w)
    (h : wpAnyH P md l.toArray Q S fuel (listed.setIfInBounds i true) (a.put oi.dst v) w) : wpAnyH P md l.toArray Q S (fuel + 1) listed a w := wpAnyH_take (drop_at hi) hs hf hr hQ hy hS h
theorem wpAnyH_only {P : Program} {md : Region.Mode} {l rest : List Oper} {Q : Exit → Act → World → Prop} {S : World → Prop} {i : Nat} {o : Oper} {fuel : Nat} {listed : Array Bool} {a : Act} {w : World} (hi : l.drop i = o :: rest) (hr : Region.ready md l.toArray listed = [i])
    (h : ∀ K' : Act → World → Prop, Shut (∀ a w, S w → (S w → wpAnyH P md l.toArray Q S fuel (listed.setIfInBounds i true) a w) → K' a w) → if Region.wanted o (yielded l.toArray a.tmps) = true then Oper.wp P o a w K' Q else K' (a.put o.dst undef) w) :
    wpAnyH P md l.toArray Q S (fuel + 1) listed a w := wpAnyH_ready hr (by simp) (AllReadyH.cons (drop_at hi) h AllReadyH.nil)
end
/- vaultBegun answers true. -/
section
open Go.RowKit
attribute [local go_sem ↓] Go.wp_at_zero Go.wp_at_succ

section
variable {w0 w : World} {vb tb gb : Nat} {f : Nat → List Ver} {n : Nat} {cs : List (List Ver)} {r : List Thing} {D D2 : Nat} {md y md2 y2 : Int} {rs rs2 : List Int} {ws ws2 : List Ver}
theorem b_begin {md at_ : Int} (hb : bcode f n md at_ = 0) (hz : Zoo w0 w (VltT vb tb gb f n cs [] :: r)) :
    Calls Tryz.prog 131 #[.pointer (some ⟨vb, 0, none⟩), .int .i64 md, .int .i64 at_] w fun e w' => ∃ D, e = .returned (.tuple #[.pointer (some ⟨D, 0, none⟩), .int .i64 0]) ∧ Hid (Zoo w0 w' (VltT vb tb gb f n cs [] :: BoxT D (dcells md (bat n md at_) (ncell [] [])) 162 :: r)) := by
  obtain ⟨F, ⟨Ft, Fg, k⟩, _⟩ := zoo_at0 hz
  refine (vbegin md at_ w k).mono ?_
  rintro e w' (⟨_, D, rfl, hD, hd, hk⟩ | ⟨h, _⟩)
  · exact ⟨D, rfl, Zoo.put_ (l1 := [VltT vb tb gb f n cs []]) hz (F := [D]) ⟨hd, rfl, hD⟩ hk⟩
  · exact absurd hb h
theorem b_none {md at_ z : Int} (hb : bcode f n md at_ = z) (h0 : z ≠ 0) (hz : Zoo w0 w (VltT vb tb gb f n cs [] :: r)) :
    Calls Tryz.prog 131 #[.pointer (some ⟨vb, 0, none⟩), .int .i64 md, .int .i64 at_] w fun e w' => e = .returned (.tuple #[.pointer none, .int .i64 z]) ∧ Hid (Zoo w0 w' (VltT vb tb gb f n cs [] :: r)) := by
  obtain ⟨F, ⟨Ft, Fg, k⟩, _⟩ := zoo_at0 hz
  refine (vbegin md at_ w k).mono ?_
  rintro e w' (⟨h, _⟩ | ⟨_, rfl, hk⟩)
  · exact absurd (hb.symm.trans h) h0
  · exact ⟨by rw [hb], hz.kp0 hk⟩
theorem b_put1 (k : Int) (t : Bool) (s : ByteArray) (hs : s.size ≤ maxLen) (hz : Zoo w0 w (VltT vb tb gb f n cs [] :: BoxT D (dcells md y (ncell rs ws)) 162 :: r)) :
    Calls Tryz.prog 134 #[.pointer (some ⟨D, 0, none⟩), .int .i64 k, .agg #[.bool t, .string s]] w fun e w' => e = .returned (.int .i64 (dpc md k t s)) ∧ Hid (Zoo w0 w' (VltT vb tb gb f n cs [] :: BoxT D (dcells md y (ncell rs (dpw md ws k t s))) 162 :: r)) := by
  obtain ⟨F, ⟨h1, h2, h3⟩, k2⟩ := zoo_at1 hz
  exact (dput57 k t s w h1 hs).mono (fun e w' ⟨he, hd, hk⟩ => ⟨he, k2 _ _ ⟨F, ⟨hd, h2, h3⟩, by rw [h2]; exact hk, fun x hx => .inl hx⟩⟩)
theorem b_commit (hv : VI f n cs) (hd : Ded w D md y rs ws) (hw : WOk ws) (hz : Zoo w0 w (VltT vb tb gb f n cs [] :: r)) :
    Calls Tryz.prog 136 #[.pointer (some ⟨vb, 0, none⟩), .pointer (some ⟨D, 0, none⟩)] w fun e w' => e = .returned (.tuple #[.int .i64 (vnum f n cs md y rs ws), .int .i64 (vcode f cs md y rs ws)]) ∧ Hid (Zoo w0 w' (VltT vb tb gb (vf f n cs md y rs ws) (vn f n cs md y rs ws) (vcs f cs md y rs ws) [] :: r)) := by
  obtain ⟨F, ⟨Ft, Fg, k⟩, k2⟩ := zoo_at0 hz
  exact (vcommit w k hv hd hw).mono (fun e w' ⟨he, hc⟩ => ⟨he, k2 _ _ hc⟩)
theorem b_crash (hz : Zoo w0 w (VltT vb tb gb f n cs [] :: r)) :
    Calls Tryz.prog 88 #[.pointer (some ⟨vb, 0, none⟩)] w fun e w' => e = .returned (.tuple #[]) ∧ ∃ tb', w'.cell? ⟨vb, 0, none⟩ = some (.pointer (some ⟨tb', 0, none⟩)) ∧ Hid (Zoo w0 w' (VltT vb tb' gb (wal0 cs) cs.length cs [] :: r)) := by
  obtain ⟨F, ⟨Ft, Fg, k⟩, k2⟩ := zoo_at0 hz
  refine (vcrash w k).mono ?_
  rintro e w' ⟨rfl, tb', hc⟩
  have hz' := k2 _ _ hc
  obtain ⟨F', ⟨Ft', Fg', k'⟩, _⟩ := zoo_at0 hz'
  exact ⟨rfl, tb', k'.c0, hz'⟩
end

end
/- A vault at the head of a list of things: its contracts, and plain words of deeds that only read. -/
section
open Go.RowKit

theorem zoo_mem {w0 w : World} {o : Thing} {os : List Thing} (h : Zoo w0 w os) (hm : o ∈ os) : ∃ F, o.holds w0.heap.size w F := by
  obtain ⟨l1, l2, rfl⟩ := List.append_of_mem hm
  obtain ⟨F, h1, _⟩ := h.at_
  exact ⟨F, h1⟩
theorem zoo_swap {w0 w : World} {A V : Thing} {r : List Thing} (hz : Zoo w0 w (A :: V :: r)) : Zoo w0 w (V :: A :: r) := hz.perm (List.Perm.swap V A r)
section
variable {w0 w : World} {vb tb gb : Nat} {f : Nat → List Ver} {n : Nat} {cs : List (List Ver)} {r : List Thing} {D : Nat} {md y : Int} {rs : List Int} {ws : List Ver}
theorem l_get (k : Int) (hz : Zoo w0 w (VltT vb tb gb f n cs [] :: BoxT D (dcells md y (ncell rs ws)) 162 :: r)) :
    Calls Tryz.prog 133 #[.pointer (some ⟨D, 0, none⟩), .pointer (some ⟨tb, 0, none⟩), .int .i64 k] w fun e w' => e = .returned (.tuple #[.agg #[.bool (dg f n y ws k).t, .string (dg f n y ws k).s], .int .i64 (dg f n y ws k).a]) ∧
      Hid (Zoo w0 w' (VltT vb tb gb f n cs [] :: BoxT D (dcells md y (ncell (dr f n y rs ws k) ws)) 162 :: r)) := by
  obtain ⟨F1, ⟨Ft, Fg, k1⟩, _⟩ := zoo_at0 hz
  obtain ⟨F, ⟨h1, h2, h3⟩, k2⟩ := zoo_at1 hz
  exact (dget55 k w k1.t h1).mono (fun e w' ⟨he, hd, hk⟩ => ⟨he, k2 _ _ ⟨F, ⟨hd, h2, h3⟩, by rw [h2]; exact hk, fun x hx => .inl hx⟩⟩)
theorem l_last (hz : Zoo w0 w (VltT vb tb gb f n cs [] :: r)) : Calls Tryz.prog 26 #[.pointer (some ⟨tb, 0, none⟩)] w fun e w' => e = .returned (.int .i64 n) ∧ w' = w := by
  obtain ⟨F1, ⟨Ft, Fg, k1⟩, _⟩ := zoo_at0 hz
  exact tlast38 w k1.t
theorem l_first (hz : Zoo w0 w (VltT vb tb gb f n cs [] :: r)) : Calls Tryz.prog 27 #[.pointer (some ⟨tb, 0, none⟩)] w fun e w' => e = .returned (.int .i64 (fmx f 8)) ∧ w' = w := by
  obtain ⟨F1, ⟨Ft, Fg, k1⟩, _⟩ := zoo_at0 hz
  exact tfirst42 w k1.t
end
end
/- What the laws of torn and crashed vaults meet: all keys' values in variables, beside a vault. -/
section
open Go.RowKit

/-- Two operations may come up next. -/
theorem wpAnyH_two {P : Program} {md : Region.Mode} {l r1 r2 : List Oper} {Q : Exit → Act → World → Prop} {S : World → Prop} {i j : Nat} {oi oj : Oper} {fuel : Nat} {listed : Array Bool} {a : Act} {w : World} (hi : l.drop i = oi :: r1) (hj : l.drop j = oj :: r2) (hr : Region.ready md l.toArray listed = [i, j])
    (h1 : ∀ K' : Act → World → Prop, Shut (∀ a w, S w → (S w → wpAnyH P md l.toArray Q S fuel (listed.setIfInBounds i true) a w) → K' a w) → if Region.wanted oi (yielded l.toArray a.tmps) = true then Oper.wp P oi a w K' Q else K' (a.put oi.dst undef) w)
    (h2 : ∀ K' : Act → World → Prop, Shut (∀ a w, S w → (S w → wpAnyH P md l.toArray Q S fuel (listed.setIfInBounds j true) a w) → K' a w) → if Region.wanted oj (yielded l.toArray a.tmps) = true then Oper.wp P oj a w K' Q else K' (a.put oj.dst undef) w) :
    wpAnyH P md l.toArray Q S (fuel + 1) listed a w := wpAnyH_ready hr (by simp) (AllReadyH.cons (drop_at hi) h1 (AllReadyH.cons (drop_at hj) h2 AllReadyH.nil))

section
variable {w0 w : World} {vb tb gb : Nat} {f : Nat → List Ver} {n : Nat} {cs : List (List Ver)} {r : List Thing} {D : Nat} {md y : Int} {rs : List Int} {ws : List Ver} {V X : Thing}
theorem b_tear (keep : Int) (hv : VI f n cs) (hd : Ded w D md y rs ws) (hw : WOk ws) (hz : Zoo w0 w (VltT vb tb gb f n cs [] :: r)) :
    Calls Tryz.prog 137 #[.pointer (some ⟨vb, 0, none⟩), .pointer (some ⟨D, 0, none⟩), .int .i64 keep] w fun e w' => e = .returned (.tuple #[.int .i64 (tnum f cs md y rs ws keep), .int .i64 (vcode f cs md y rs ws)]) ∧ ∃ tb', Hid (Zoo w0 w' (VltT vb tb' gb (wal0 (tcs f cs md y rs ws keep)) (tcs f cs md y rs ws keep).length (tcs f cs md y rs ws keep) [] :: r)) := by
  obtain ⟨F, ⟨Ft, Fg, k⟩, k2⟩ := zoo_at0 hz
  exact (vtear keep w k hv hd hw).mono (fun e w' ⟨he, tb', hc⟩ => ⟨he, tb', k2 _ _ hc⟩)
end
theorem zoo_varm {w0 w : World} {os : List Thing} {p : Nat} {c : Array Value} {T : TypeId} (hz : Zoo w0 w os) (hm : BoxT p c T ∈ os) : w.heap[p]? = some (.cells c T (0, 0)) := by
  obtain ⟨F, h1, _⟩ := zoo_mem hz hm
  exact h1
end
/- Plain words for halls: what a deed sees is of one time; what is refused changes nothing. -/
section
open Go.RowKit

/-- The kinds of a step, one by one. -/
inductive HKind (h : HSt) (x : HStep) : HSt → Ev → Prop
  | kind : (x.d < 1 ∨ 10 < x.d) → HKind h x h (evc 3)
  | clear : x.d = 8 → HKind h x { h with f := clm h.f (least h.n h.seat 5) 8 } (evn 0 (cln h.f (least h.n h.seat 5) 8 : Nat))
  | crash : x.d = 9 → HKind h x ⟨wal0 h.cs, h.cs.length, h.cs, fun _ => none⟩ ev0
  | range : (1 ≤ x.d ∧ x.d ≤ 10 ∧ x.d ≠ 8 ∧ x.d ≠ 9) → ¬ (0 ≤ x.s ∧ x.s < 5) → HKind h x h (evc 1)
  | began : x.d = 1 → (0 ≤ x.s ∧ x.s < 5) → h.seat x.s.toNat = none → bcode h.f h.n x.md x.at_ = 0 → HKind h x (sit h x.s (some ⟨x.md, bat h.n x.md x.at_, [], []⟩)) (evc 0)
  | beganNot : x.d = 1 → (0 ≤ x.s ∧ x.s < 5) → h.seat x.s.toNat = none → ¬ bcode h.f h.n x.md x.at_ = 0 → HKind h x h (evc (bcode h.f h.n x.md x.at_))
  | none_ : (2 ≤ x.d ∧ x.d ≤ 10 ∧ x.d ≠ 8 ∧ x.d ≠ 9) → (0 ≤ x.s ∧ x.s < 5) → h.seat x.s.toNat = none → HKind h x h (evc 7)
  | there (d : Dp) : x.d = 1 → (0 ≤ x.s ∧ x.s < 5) → h.seat x.s.toNat = some d → HKind h x h (evc 8)
  | get (d : Dp) : x.d = 2 → (0 ≤ x.s ∧ x.s < 5) → h.seat x.s.toNat = some d → HKind h x (sit h x.s (some { d with rs := dr h.f h.n d.y d.rs d.ws x.key })) ⟨(dg h.f h.n d.y d.ws x.key).a, 0, (dg h.f h.n d.y d.ws x.key).t, (dg h.f h.n d.y d.ws x.key).s, []⟩
  | put (d : Dp) : x.d = 3 → (0 ≤ x.s ∧ x.s < 5) → h.seat x.s.toNat = some d → HKind h x (sit h x.s (some { d with ws := dpw d.md d.ws x.key true x.b })) (evc (dpc d.md x.key true x.b))
  | drop (d : Dp) : x.d = 4 → (0 ≤ x.s ∧ x.s < 5) → h.seat x.s.toNat = some d → HKind h x (sit h x.s (some { d with ws := dpw d.md d.ws x.key false ⟨#[]⟩ })) (evc (dpc d.md x.key false ⟨#[]⟩))
  | list (d : Dp) : x.d = 5 → (0 ≤ x.s ∧ x.s < 5) → h.seat x.s.toNat = some d → HKind h x (sit h x.s (some { d with rs := (dls h.f h.n d.y d.ws d.rs x.key x.to_).2.2 })) ⟨(dls h.f h.n d.y d.ws d.rs x.key x.to_).2.1, 0, false, ⟨#[]⟩, (dls h.f h.n d.y d.ws d.rs x.key x.to_).1⟩
  | commit (d : Dp) : x.d = 6 → (0 ≤ x.s ∧ x.s < 5) → h.seat x.s.toNat = some d → HKind h x ⟨vf h.f h.n h.cs d.md d.y d.rs d.ws, vn h.f h.n h.cs d.md d.y d.rs d.ws, vcs h.f h.cs d.md d.y d.rs d.ws, upd h.seat x.s.toNat none⟩ (evn (vcode h.f h.cs d.md d.y d.rs d.ws) (vnum h.f h.n h.cs d.md d.y d.rs d.ws))
  | tear (d : Dp) : x.d = 10 → (0 ≤ x.s ∧ x.s < 5) → h.seat x.s.toNat = some d → HKind h x ⟨wal0 (tcs h.f h.cs d.md d.y d.rs d.ws x.keep), (tcs h.f h.cs d.md d.y d.rs d.ws x.keep).length, tcs h.f h.cs d.md d.y d.rs d.ws x.keep, fun _ => none⟩ (evn (vcode h.f h.cs d.md d.y d.rs d.ws) (tnum h.f h.cs d.md d.y d.rs d.ws x.keep))
  | abort (d : Dp) : x.d = 7 → (0 ≤ x.s ∧ x.s < 5) → h.seat x.s.toNat = some d → HKind h x (sit h x.s none) ev0
theorem hkind (h : HSt) (x : HStep) : HKind h x (hdo h x) (hev h x) := by
  unfold hdo hev
  by_cases c0 : x.d < 1 ∨ 10 < x.d
  · rw [if_pos c0, if_pos c0]; exact .kind c0
  rw [if_neg c0, if_neg c0]
  by_cases c8 : x.d = 8
  · rw [if_pos c8, if_pos c8]; exact .clear c8
  rw [if_neg c8, if_neg c8]
  by_cases c9 : x.d = 9
  · rw [if_pos c9, if_pos c9]; exact .crash c9
  rw [if_neg c9, if_neg c9]
  by_cases hs : 0 ≤ x.s ∧ x.s < 5
  · have hns : ¬ ¬ (0 ≤ x.s ∧ x.s < 5) := fun q => q hs
    rw [if_neg hns, if_neg hns]
    cases hd : h.seat x.s.toNat with
    | none =>
      dsimp only
      by_cases c1 : x.d = 1
      · rw [if_pos c1]
        by_cases hb : bcode h.f h.n x.md x.at_ = 0
        · rw [if_pos ⟨c1, hb⟩, hb]; exact .began c1 hs hd hb
        · rw [if_neg (fun q => hb q.2)]; exact .beganNot c1 hs hd hb
      · rw [if_neg (fun q => c1 q.1), if_neg c1]; exact .none_ (by omega) hs hd
    | some d =>
      dsimp only
      by_cases c1 : x.d = 1
      · rw [if_pos c1, if_pos c1]; exact .there d c1 hs hd
      rw [if_neg c1, if_neg c1]
      by_cases c2 : x.d = 2
      · rw [if_pos c2, if_pos c2]; exact .get d c2 hs hd
      rw [if_neg c2, if_neg c2]
      by_cases c3 : x.d = 3
      · rw [if_pos c3, if_pos c3]; exact .put d c3 hs hd
      rw [if_neg c3, if_neg c3]
      by_cases c4 : x.d = 4
      · rw [if_pos c4, if_pos c4]; exact .drop d c4 hs hd
      rw [if_neg c4, if_neg c4]
      by_cases c5 : x.d = 5
      · rw [if_pos c5, if_pos c5]; exact .list d c5 hs hd
      rw [if_neg c5, if_neg c5]
      by_cases c6 : x.d = 6
      · rw [if_pos c6, if_pos c6]; exact .commit d c6 hs hd
      rw [if_neg c6, if_neg c6]
      by_cases c10 : x.d = 10
      · rw [if_pos c10, if_pos c10]; exact .tear d c10 hs hd
      rw [if_neg c10, if_neg c10]
      exact .abort d (by omega) hs hd
  · rw [if_pos hs, if_pos hs]; exact .range (by omega) hs

/-- What the seat's deed sees of all keys. -/
def hsee (h : HSt) (d : Dp) : Nat → Ver := lay (shw h.f h.n d.y 8) d.ws
theorem dg_see {h : HSt} (hi : HInv h) {s : Nat} {d : Dp} (hs : h.seat s = some d) {k : Nat} (hk : k < 8) : dg h.f h.n d.y d.ws k = ⟨0, (hsee h d k).t, (hsee h d k).s⟩ := by
  obtain ⟨k1, k2⟩ := hi.known s d hs
  have ha := tr_known hi.inv k1 k2 hk
  have hkb : keyB (k : Int) = true := by simp [keyB]; omega
  unfold dg hsee lay
  rw [if_pos hkb]
  cases lwr d.ws k with
  | some v => rfl
  | none =>
    dsimp only
    unfold shw
    rw [if_pos hk]
    rw [← ha]
theorem sit_at {h : HSt} {x : Int} {e : Option Dp} {s : Nat} {d' : Dp} (h' : (sit h x e).seat s = some d') : (s = x.toNat ∧ e = some d') ∨ (s ≠ x.toNat ∧ h.seat s = some d') := by
  simp only [sit, upd_at] at h'
  split at h'
  · exact .inl ⟨by assumption, h'⟩
  · exact .inr ⟨by assumption, h'⟩
end
/- A hall's memory as one thing: its box, its vault, its seats' deeds. -/
section
open Go.RowKit

/-- Things as one thing. -/
def ManyT (os : List Thing) : Thing where
  holds B w F := ZooF B w os F
  kp := fun h hk hS => ZooF.kp hk h hS
  lo := fun h => h.lo
  base := fun h hC => ZooF.base hC h
theorem zoof_app {B : Nat} {w : World} : ∀ {us vs : List Thing} {X : List Nat}, ZooF B w (us ++ vs) X → ∃ F Y, ZooF B w us F ∧ ZooF B w vs Y ∧ (∀ x, x ∈ F → x ∉ Y) ∧ X = F ++ Y
  | [], vs, X, h => ⟨[], X, rfl, h, fun _ hx => by simp at hx, rfl⟩
  | o :: us, vs, X, ⟨F, Y, h1, h2, h3, e⟩ => by
    obtain ⟨F1, Y1, k1, k2, k3, rfl⟩ := zoof_app h2
    refine ⟨F ++ F1, Y1, ⟨F, F1, h1, k1, fun x hx hy => h3 x hx (by simp [hy]), rfl⟩, k2, fun x hx hy => ?_, by rw [e, List.append_assoc]⟩
    rcases List.mem_append.1 hx with q | q
    · exact h3 x q (by simp [hy])
    · exact k3 x q hy
theorem zoof_join {B : Nat} {w : World} : ∀ {us vs : List Thing} {F Y : List Nat}, ZooF B w us F → ZooF B w vs Y → (∀ x, x ∈ F → x ∉ Y) → ZooF B w (us ++ vs) (F ++ Y)
  | [], vs, F, Y, h1, h2, _ => by rw [show F = [] from h1]; exact h2
  | o :: us, vs, F, Y, ⟨F1, F2, h1, h2, h3, e⟩, k, hd => by
    subst e
    refine ⟨F1, F2 ++ Y, h1, zoof_join h2 k (fun x hx => hd x (by simp [hx])), fun x hx hy => ?_, by rw [List.append_assoc]⟩
    rcases List.mem_append.1 hy with q | q
    · exact h3 x hx q
    · exact hd x (by simp [hx]) q
section
variable {w0 w w' : World} {os us r : List Thing}
theorem many_open (h : Zoo w0 w (ManyT os :: r)) : Zoo w0 w (os ++ r) := by
  obtain ⟨X, ⟨F, Y, h1, h2, h3, rfl⟩, hk⟩ := h
  exact ⟨F ++ Y, zoof_join h1 h2 h3, hk⟩
theorem many_close (h : Zoo w0 w (os ++ r)) : Zoo w0 w (ManyT os :: r) := by
  obtain ⟨X, h1, hk⟩ := h
  obtain ⟨F, Y, k1, k2, k3, rfl⟩ := zoof_app h1
  exact ⟨F ++ Y, ⟨F, Y, k1, k2, k3, rfl⟩, hk⟩
end

/-- A seat's deed in memory: its block, and what it is; none. -/
abbrev Sd := Option (Nat × Dp)
def OptT : Sd → Thing
  | none => ManyT []
  | some x => BoxT x.1 (dcells x.2.md x.2.y (ncell x.2.rs x.2.ws)) 162
def sp (o : Sd) : Value := .pointer (o.map fun x => ⟨x.1, 0, none⟩)
def hcells (vb : Nat) (st : Nat → Sd) : Array Value := #[.pointer (some ⟨vb, 0, none⟩), sp (st 0), sp (st 1), sp (st 2), sp (st 3), sp (st 4)]
def seats (st : Nat → Sd) : List Thing := [OptT (st 0), OptT (st 1), OptT (st 2), OptT (st 3), OptT (st 4)]
def Sts (st : Nat → Sd) (seat : Nat → Option Dp) : Prop := ∀ s, (st s).map Prod.snd = seat s
/-- The things of a hall. -/
def hth (hb vb tb gb : Nat) (h : HSt) (st : Nat → Sd) : List Thing := BoxT hb (hcells vb st) 59 :: VltT vb tb gb h.f h.n h.cs [] :: seats st
def HalT (hb : Nat) (h : HSt) : Thing where
  holds B w F := ∃ vb tb gb st, Sts st h.seat ∧ HInv h ∧ ZooF B w (hth hb vb tb gb h st) F
  kp := fun ⟨vb, tb, gb, st, h1, h2, h3⟩ hk hS => ⟨vb, tb, gb, st, h1, h2, ZooF.kp hk h3 hS⟩
  lo := fun ⟨_, _, _, _, _, _, h⟩ => h.lo
  base := fun ⟨vb, tb, gb, st, h1, h2, h3⟩ hC => ⟨vb, tb, gb, st, h1, h2, ZooF.base hC h3⟩
/-- A hall among things, its parts known. -/
def Hall (w0 w : World) (hb vb tb gb : Nat) (h : HSt) (st : Nat → Sd) (r : List Thing) : Prop := Zoo w0 w (BoxT hb (hcells vb st) 59 :: VltT vb tb gb h.f h.n h.cs [] :: (seats st ++ r))

section
variable {w0 w w' : World} {hb vb tb gb : Nat} {h h' : HSt} {st : Nat → Sd} {r : List Thing}
theorem hal_open (hz : Zoo w0 w (HalT hb h :: r)) : ∃ vb tb gb st, Sts st h.seat ∧ HInv h ∧ Hall w0 w hb vb tb gb h st r := by
  obtain ⟨X, ⟨F, Y, ⟨vb, tb, gb, st, h1, h2, k⟩, h4, h5, rfl⟩, hk⟩ := hz
  exact ⟨vb, tb, gb, st, h1, h2, F ++ Y, zoof_join k h4 h5, hk⟩
theorem hal_close (hs : Sts st h.seat) (hi : HInv h) (hz : Hall w0 w hb vb tb gb h st r) : Zoo w0 w (HalT hb h :: r) := by
  obtain ⟨X, h1, hk⟩ := hz
  obtain ⟨F, Y, k1, k2, k3, rfl⟩ := zoof_app (us := hth hb vb tb gb h st) (vs := r) h1
  exact ⟨F ++ Y, ⟨F, Y, ⟨vb, tb, gb, st, hs, hi, k1⟩, k2, k3, rfl⟩, hk⟩
theorem Hall.kp0 (hz : Hall w0 w hb vb tb gb h st r) (hk : Kp [] w w') : Hall w0 w' hb vb tb gb h st r := Zoo.kp0 hz hk
theorem Hall.vlt (hz : Hall w0 w hb vb tb gb h st r) : Zoo w0 w (VltT vb tb gb h.f h.n h.cs [] :: BoxT hb (hcells vb st) 59 :: (seats st ++ r)) := zoo_swap hz
theorem Hall.of_vlt {vb : Nat} {f : Nat → List Ver} {n : Nat} {cs : List (List Ver)} {seat : Nat → Option Dp} (hz : Zoo w0 w (VltT vb tb gb f n cs [] :: BoxT hb (hcells vb st) 59 :: (seats st ++ r))) : Hall w0 w hb vb tb gb ⟨f, n, cs, seat⟩ st r := zoo_swap hz
theorem Hall.box (hz : Hall w0 w hb vb tb gb h st r) : w.heap[hb]? = some (.cells (hcells vb st) 59 (0, 0)) := Zoo.var hz
theorem Hall.c0 (hz : Hall w0 w hb vb tb gb h st r) : w.cell? ⟨hb, 0, none⟩ = some (.pointer (some ⟨vb, 0, none⟩)) := cell_of_block hz.box rfl
theorem hcells_at (vb : Nat) (st : Nat → Sd) {s : Nat} (hs : s < 5) : (hcells vb st)[1 + s]? = some (sp (st s)) := by
  rcases (show s = 0 ∨ s = 1 ∨ s = 2 ∨ s = 3 ∨ s = 4 by omega) with e | e | e | e | e <;> subst e <;> rfl
theorem Hall.cs_ (hz : Hall w0 w hb vb tb gb h st r) {s : Nat} (hs : s < 5) : w.cell? ⟨hb, 1 + s, none⟩ = some (sp (st s)) := cell_of_block hz.box (hcells_at vb st hs)
theorem Hall.fz (hz : Hall w0 w hb vb tb gb h st r) (i : Nat) : w.frozen? ⟨hb, i, none⟩ = false := frozen_of_block i hz.box
theorem Hall.lt (hz : Hall w0 w hb vb tb gb h st r) : hb < w.heap.size := lt_of_block hz.box
theorem Hall.v0 (hz : Hall w0 w hb vb tb gb h st r) : w.cell? ⟨vb, 0, none⟩ = some (.pointer (some ⟨tb, 0, none⟩)) := by
  obtain ⟨F, ⟨Ft, Fg, k⟩, _⟩ := zoo_at1 hz
  exact k.c0
theorem Hall.vlt_ (hz : Hall w0 w hb vb tb gb h st r) : vb < w.heap.size := by
  obtain ⟨F, ⟨Ft, Fg, k⟩, _⟩ := zoo_at1 hz
  exact (k.lo vb k.vF).2
/-- The seats' things, one of them at its place. -/
theorem seats_at (st : Nat → Sd) {s : Nat} (hs : s < 5) : ∃ l1 l2, seats st = l1 ++ OptT (st s) :: l2 ∧ ∀ d, seats (upd st s d) = l1 ++ OptT d :: l2 := by
  rcases (show s = 0 ∨ s = 1 ∨ s = 2 ∨ s = 3 ∨ s = 4 by omega) with e | e | e | e | e <;> subst e
  · exact ⟨[], [OptT (st 1), OptT (st 2), OptT (st 3), OptT (st 4)], rfl, fun d => by simp [seats, upd]⟩
  · exact ⟨[OptT (st 0)], [OptT (st 2), OptT (st 3), OptT (st 4)], rfl, fun d => by simp [seats, upd]⟩
  · exact ⟨[OptT (st 0), OptT (st 1)], [OptT (st 3), OptT (st 4)], rfl, fun d => by simp [seats, upd]⟩
  · exact ⟨[OptT (st 0), OptT (st 1), OptT (st 2)], [OptT (st 4)], rfl, fun d => by simp [seats, upd]⟩
  · exact ⟨[OptT (st 0), OptT (st 1), OptT (st 2), OptT (st 3)], [], rfl, fun d => by simp [seats, upd]⟩
/-- A seat's deed, moved to the head: behind the vault; and back, another one in its place, the box as it was. -/
theorem Hall.out (hz : Hall w0 w hb vb tb gb h st r) {s : Nat} (hs : s < 5) : ∃ rest, Zoo w0 w (VltT vb tb gb h.f h.n h.cs [] :: OptT (st s) :: rest) ∧
    ∀ (w' : World) (tb' : Nat) (f : Nat → List Ver) (n : Nat) (cs : List (List Ver)) (d : Sd) (seat : Nat → Option Dp), sp d = sp (st s) → Zoo w0 w' (VltT vb tb' gb f n cs [] :: OptT d :: rest) → Hall w0 w' hb vb tb' gb ⟨f, n, cs, seat⟩ (upd st s d) r := by
  obtain ⟨l1, l2, e1, e2⟩ := seats_at st hs
  have hc : ∀ d, sp d = sp (st s) → hcells vb (upd st s d) = hcells vb st := fun d hd => by
    rcases (show s = 0 ∨ s = 1 ∨ s = 2 ∨ s = 3 ∨ s = 4 by omega) with e | e | e | e | e <;> subst e <;> simp [hcells, upd, hd]
  refine ⟨BoxT hb (hcells vb st) 59 :: (l1 ++ (l2 ++ r)), ?_, fun w' tb' f n cs d seat hd hz' => ?_⟩
  · have h1 := Hall.vlt hz
    rw [e1, List.append_assoc] at h1
    refine h1.perm (List.Perm.cons _ ?_)
    exact (List.perm_middle (l₁ := BoxT hb (hcells vb st) 59 :: l1))
  · refine Hall.of_vlt ?_
    rw [e2, hc d hd, List.append_assoc]
    refine hz'.perm (List.Perm.cons _ ?_)
    exact (List.perm_middle (l₁ := BoxT hb (hcells vb st) 59 :: l1)).symm
theorem Hall.out2 (hz : Hall w0 w hb vb tb gb h st r) {s : Nat} (hs : s < 5) : ∃ rest, Zoo w0 w (VltT vb tb gb h.f h.n h.cs [] :: OptT (st s) :: rest) ∧
    ∀ (w' : World) (tb' : Nat) (f : Nat → List Ver) (n : Nat) (cs : List (List Ver)) (d : Sd) (P : Thing) (seat : Nat → Option Dp), sp d = sp (st s) → Zoo w0 w' (VltT vb tb' gb f n cs [] :: OptT d :: P :: rest) → Hall w0 w' hb vb tb' gb ⟨f, n, cs, seat⟩ (upd st s d) (P :: r) := by
  obtain ⟨l1, l2, e1, e2⟩ := seats_at st hs
  have hc : ∀ d, sp d = sp (st s) → hcells vb (upd st s d) = hcells vb st := fun d hd => by
    rcases (show s = 0 ∨ s = 1 ∨ s = 2 ∨ s = 3 ∨ s = 4 by omega) with e | e | e | e | e <;> subst e <;> simp [hcells, upd, hd]
  refine ⟨BoxT hb (hcells vb st) 59 :: (l1 ++ (l2 ++ r)), ?_, fun w' tb' f n cs d P seat hd hz' => ?_⟩
  · have h1 := Hall.vlt hz
    rw [e1, List.append_assoc] at h1
    refine h1.perm (List.Perm.cons _ ?_)
    exact (List.perm_middle (l₁ := BoxT hb (hcells vb st) 59 :: l1))
  · refine Hall.of_vlt ?_
    rw [e2, hc d hd, List.append_assoc]
    refine hz'.perm (List.Perm.cons _ ?_)
    have p1 := (List.perm_middle (l₁ := BoxT hb (hcells vb st) 59 :: l1) (a := OptT d) (l₂ := l2 ++ (P :: r))).symm
    refine List.Perm.trans (List.Perm.cons _ ?_) p1
    have p2 := (List.perm_middle (l₁ := BoxT hb (hcells vb st) 59 :: (l1 ++ l2)) (a := P) (l₂ := r)).symm
    have e3 : ∀ q : List Thing, BoxT hb (hcells vb st) 59 :: (l1 ++ (l2 ++ q)) = (BoxT hb (hcells vb st) 59 :: (l1 ++ l2)) ++ q := fun q => by simp
    show (P :: BoxT hb (hcells vb st) 59 :: (l1 ++ (l2 ++ r))).Perm (BoxT hb (hcells vb st) 59 :: (l1 ++ (l2 ++ (P :: r))))
    rw [e3, e3]
    exact p2
/-- A seat's cell is set, the deed that it had is let go. -/
theorem hcells_set (vb : Nat) (st : Nat → Sd) {s : Nat} (hs : s < 5) (d : Sd) : (hcells vb st).setIfInBounds (1 + s) (sp d) = hcells vb (upd st s d) := by
  rcases (show s = 0 ∨ s = 1 ∨ s = 2 ∨ s = 3 ∨ s = 4 by omega) with e | e | e | e | e <;> subst e <;> simp [hcells, upd]
theorem Hall.sit {s : Nat} (hs : s < 5) (d : Sd) (k : Zoo w0 w (BoxT hb (hcells vb st) 59 :: VltT vb tb gb h.f h.n h.cs [] :: (seats (upd st s d) ++ r))) :
    Hall w0 (w.setCell ⟨hb, 1 + s, none⟩ (sp d)) hb vb tb gb h (upd st s d) r := by
  obtain ⟨F, ⟨hbx, h2, h3⟩, k2⟩ := zoo_at0 k
  refine k2 _ _ ⟨F, ⟨?_, h2, h3⟩, ?_, fun x hx => .inl hx⟩
  · rw [heap_setCell_at _ _ hbx, hcells_set vb st hs d]
  · rw [h2]
    exact (Kp.refl [hb] w).setCell (.inl (by simp)) _
theorem opt_none (hz : Zoo w0 w r) : Zoo w0 w (OptT none :: r) := many_close (os := []) hz
theorem Hall.leave (hz : Hall w0 w hb vb tb gb h st r) {s : Nat} (hs : s < 5) : Hall w0 (w.setCell ⟨hb, 1 + s, none⟩ (.pointer none)) hb vb tb gb h (upd st s none) (OptT (st s) :: r) := by
  obtain ⟨l1, l2, e1, e2⟩ := seats_at st hs
  generalize hA : BoxT hb (hcells vb st) 59 :: VltT vb tb gb h.f h.n h.cs [] :: l1 = A
  have h1 : Zoo w0 w (A ++ OptT (st s) :: (l2 ++ r)) := by
    have := hz
    unfold Hall at this
    rw [e1, List.append_assoc] at this
    rw [← hA]
    exact this
  have h2 := (opt_none h1).perm ((List.Perm.cons _ List.perm_middle).trans (List.Perm.swap _ _ _))
  have h3 := h2.perm (List.Perm.cons _ (List.perm_middle (l₁ := A)).symm)
  have h4 : Zoo w0 w (OptT (st s) :: ((A ++ OptT none :: l2) ++ r)) := by rw [List.append_assoc]; exact h3
  have h5 := h4.perm (List.perm_middle (l₁ := A ++ OptT none :: l2)).symm
  have h6 : Zoo w0 w (BoxT hb (hcells vb st) 59 :: VltT vb tb gb h.f h.n h.cs [] :: (seats (upd st s none) ++ (OptT (st s) :: r))) := by
    rw [e2]
    rw [← hA] at h5
    exact h5
  exact Hall.sit hs none h6
/-- A new deed at an empty seat: it lies at the head of the others. -/
theorem Hall.join {d : Sd} (hz : Zoo w0 w (VltT vb tb gb h.f h.n h.cs [] :: OptT d :: BoxT hb (hcells vb st) 59 :: (seats st ++ r))) {s : Nat} (hs : s < 5) (hn : st s = none) : Hall w0 (w.setCell ⟨hb, 1 + s, none⟩ (sp d)) hb vb tb gb h (upd st s d) r := by
  obtain ⟨l1, l2, e1, e2⟩ := seats_at st hs
  refine Hall.sit (h := h) (st := st) hs d ?_
  rw [e1, hn, List.append_assoc] at hz
  have h1 : Zoo w0 w ((VltT vb tb gb h.f h.n h.cs [] :: OptT d :: BoxT hb (hcells vb st) 59 :: l1) ++ OptT none :: (l2 ++ r)) := hz
  have h2 := h1.drop_
  rw [e2, List.append_assoc]
  refine h2.perm ?_
  have p1 : (VltT vb tb gb h.f h.n h.cs [] :: OptT d :: BoxT hb (hcells vb st) 59 :: (l1 ++ (l2 ++ r))).Perm (BoxT hb (hcells vb st) 59 :: VltT vb tb gb h.f h.n h.cs [] :: OptT d :: (l1 ++ (l2 ++ r))) := List.perm_middle (l₁ := [VltT vb tb gb h.f h.n h.cs [], OptT d])
  exact p1.trans (List.Perm.cons _ (List.Perm.cons _ List.perm_middle.symm))
/-- All deeds are let go. -/
theorem Hall.leaveAll (hz : Hall w0 w hb vb tb gb h st r) (hb' : w'.heap[hb]? = some (.cells (hcells vb (fun _ => none)) 59 (0, 0))) (hk : Kp [hb] w w') : Hall w0 w' hb vb tb gb ⟨h.f, h.n, h.cs, fun _ => none⟩ (fun _ => none) r := by
  have h1 : Zoo w0 w ((BoxT hb (hcells vb st) 59 :: VltT vb tb gb h.f h.n h.cs [] :: seats st) ++ r) := hz
  have h2 : Zoo w0 w (BoxT hb (hcells vb st) 59 :: VltT vb tb gb h.f h.n h.cs [] :: r) := by
    have h5 : Zoo w0 w (seats st ++ (BoxT hb (hcells vb st) 59 :: VltT vb tb gb h.f h.n h.cs [] :: r)) := by
      refine h1.perm ?_
      have p : ((BoxT hb (hcells vb st) 59 :: VltT vb tb gb h.f h.n h.cs [] :: seats st) ++ r).Perm ((seats st ++ [BoxT hb (hcells vb st) 59, VltT vb tb gb h.f h.n h.cs []]) ++ r) := (List.perm_append_comm (l₁ := [BoxT hb (hcells vb st) 59, VltT vb tb gb h.f h.n h.cs []]) (l₂ := seats st)).append_right r
      rw [List.append_assoc] at p
      exact p
    exact (many_close h5).tail
  obtain ⟨F, ⟨hbx, e2, e3⟩, k2⟩ := zoo_at0 h2
  have h4 : Zoo w0 w' (BoxT hb (hcells vb (fun _ => none)) 59 :: VltT vb tb gb h.f h.n h.cs [] :: r) := k2 _ _ ⟨F, ⟨hb', e2, e3⟩, by rw [e2]; exact hk, fun x hx => .inl hx⟩
  have h6 := opt_none (opt_none (opt_none (opt_none (opt_none h4))))
  exact h6.perm ((List.perm_append_comm (l₁ := seats (fun _ => none)) (l₂ := [BoxT hb (hcells vb (fun _ => none)) 59, VltT vb tb gb h.f h.n h.cs []])).append_right r)
/-- A seat's deed. -/
theorem Hall.ded (hz : Hall w0 w hb vb tb gb h st r) {s D : Nat} {d : Dp} (hs : s < 5) (hd : st s = some (D, d)) : Ded w D d.md d.y d.rs d.ws := by
  obtain ⟨rest, h1, _⟩ := hz.out hs
  rw [hd] at h1
  obtain ⟨F, h2, _⟩ := zoo_at1 h1
  exact h2.1
/-- Variables beside a hall. -/
theorem Hall.new (hz : Hall w0 w hb vb tb gb h st r) (c : Array Value) (T : TypeId) : Hall w0 (w.alloc (.cells c T)) hb vb tb gb h st (BoxT w.heap.size c T :: r) := by
  have h1 := Zoo.box hz c T
  exact h1.perm (List.perm_middle (l₁ := BoxT hb (hcells vb st) 59 :: VltT vb tb gb h.f h.n h.cs [] :: seats st)).symm
theorem Hall.two (hz : Hall w0 w hb vb tb gb h st r) (c : Array Value) (T : TypeId) (c2 : Array Value) (T2 : TypeId) : Hall w0 ((w.alloc (.cells c T)).alloc (.cells c2 T2)) hb vb tb gb h st (BoxT (w.heap.size + 1) c2 T2 :: BoxT w.heap.size c T :: r) := by
  have h1 := (hz.new c T).new c2 T2
  rw [show (w.alloc (.cells c T)).heap.size = w.heap.size + 1 by simp] at h1
  exact h1
theorem Hall.perm {r' : List Thing} (hz : Hall w0 w hb vb tb gb h st r) (hp : r.Perm r') : Hall w0 w hb vb tb gb h st r' := Zoo.perm hz (List.Perm.cons _ (List.Perm.cons _ (List.Perm.append_left _ hp)))
theorem Hall.var {p : Nat} {c : Array Value} {T : TypeId} (hz : Hall w0 w hb vb tb gb h st r) (hm : BoxT p c T ∈ r) : w.heap[p]? = some (.cells c T (0, 0)) := zoo_varm hz (by simp [hm])
/-- A thing beside a hall, and what a call on it may do. -/
theorem Hall.at_ {l1 l2 : List Thing} {o : Thing} (hz : Hall w0 w hb vb tb gb h st (l1 ++ o :: l2)) : ∃ F, o.holds w0.heap.size w F ∧ ∀ (o' : Thing) (w' : World), Ch o' w0.heap.size w F w' → Hall w0 w' hb vb tb gb h st (l1 ++ o' :: l2) := by
  have hz' : Zoo w0 w ((BoxT hb (hcells vb st) 59 :: VltT vb tb gb h.f h.n h.cs [] :: (seats st ++ l1)) ++ o :: l2) := by
    have := hz
    unfold Hall at this
    rw [← List.append_assoc] at this
    exact this
  obtain ⟨F, h1, h2⟩ := hz'.at_
  refine ⟨F, h1, fun o' w' hc => ?_⟩
  have := h2 o' w' hc
  unfold Hall
  rw [← List.append_assoc]
  exact this
theorem Hall.drop {l1 l2 : List Thing} {o : Thing} (hz : Hall w0 w hb vb tb gb h st (l1 ++ o :: l2)) : Hall w0 w hb vb tb gb h st (l1 ++ l2) := by
  have h1 : Hall w0 w hb vb tb gb h st (o :: (l1 ++ l2)) := hz.perm List.perm_middle
  exact Zoo.drop_ (l1 := BoxT hb (hcells vb st) 59 :: VltT vb tb gb h.f h.n h.cs [] :: seats st) h1
theorem Hall.tail {o : Thing} (hz : Hall w0 w hb vb tb gb h st (o :: r)) : Hall w0 w hb vb tb gb h st r := Hall.drop (l1 := []) hz
theorem Hall.setAt {l1 l2 : List Thing} {p : Nat} {c : Array Value} {T : TypeId} (hz : Hall w0 w hb vb tb gb h st (l1 ++ BoxT p c T :: l2)) (i : Nat) (v : Value) : Hall w0 (w.setCell ⟨p, i, none⟩ v) hb vb tb gb h st (l1 ++ BoxT p (c.setIfInBounds i v) T :: l2) := by
  obtain ⟨F, ⟨hbx, h2, h3⟩, k2⟩ := hz.at_
  exact k2 _ _ ⟨F, ⟨heap_setCell_at _ _ hbx, h2, h3⟩, by rw [h2]; exact (Kp.refl [p] w).setCell (.inl (by simp)) _, fun x hx => .inl hx⟩
theorem Hall.set0 {p : Nat} {c : Array Value} {T : TypeId} (hz : Hall w0 w hb vb tb gb h st (BoxT p c T :: r)) (i : Nat) (v : Value) : Hall w0 (w.setCell ⟨p, i, none⟩ v) hb vb tb gb h st (BoxT p (c.setIfInBounds i v) T :: r) := Hall.setAt (l1 := []) hz i v
/-- Two variables beside a hall are two. -/
theorem Hall.ne2 {p p2 : Nat} {c c2 : Array Value} {T T2 : TypeId} (hz : Hall w0 w hb vb tb gb h st (BoxT p c T :: BoxT p2 c2 T2 :: r)) : p ≠ p2 := by
  obtain ⟨X, ⟨F0, Y0, _, ⟨F1, Y1, _, k, _, _⟩, _, _⟩, _⟩ := hz
  obtain ⟨F, Y, k1, ⟨F2, Y2, h2, ⟨F3, Y3, h3, k3, _, e3⟩, hd, e2⟩, _, _⟩ := zoof_app k
  intro e
  subst e
  exact hd p (by rw [h2.2.1]; simp) (by rw [e3, h3.2.1]; simp)
end
end
/- A hall's small functions, by their contracts: Seat, Deed, Busy, find, leaveAll, Least, New. -/
section
open Go.RowKit
attribute [local go_sem ↓] Go.wp_at_zero Go.wp_at_succ

set_option maxHeartbeats 400000 in
theorem hseat (k : Int) (w : World) : Calls Tryz.prog 129 #[.int .i64 k] w fun e w' => e = .returned (.bool (seatB k)) ∧ w' = w := by
  go_enter Tryz.func129, Tryz.ntmps129
  go_wp2
  all_goals
    go_ret
    exact ⟨ret_bool (by simp [seatB]; omega), rfl⟩

/-- A seat's deed; none where there is no such seat. -/
def dat (st : Nat → Sd) (s : Int) : Sd := if 0 ≤ s ∧ s < 5 then st s.toNat else none
theorem dat_in {st : Nat → Sd} {j : Nat} (hj : j < 5) : dat st (j : Int) = st j := by unfold dat; rw [if_pos (by omega), Int.toNat_natCast]
theorem dat_out {st : Nat → Sd} {s : Int} (hs : ¬ (0 ≤ s ∧ s < 5)) : dat st s = none := if_neg hs
theorem seat_in {s : Int} (hs : 0 ≤ s ∧ s < 5) : ∃ j : Nat, s = (j : Int) ∧ j < 5 := ⟨s.toNat, by omega, by omega⟩

section
variable {w0 w : World} {hb vb tb gb : Nat} {h : HSt} {st : Nat → Sd} {r : List Thing}
set_option maxHeartbeats 400000 in
theorem h_deed (s : Int) (hz : Hall w0 w hb vb tb gb h st r) : Calls Tryz.prog 164 #[.pointer (some ⟨hb, 0, none⟩), .int .i64 s] w fun e w' => e = .returned (sp (dat st s)) ∧ w' = w := by
  by_cases hs : 0 ≤ s ∧ s < 5
  · obtain ⟨j, rfl, hj⟩ := seat_in hs
    have hsb : seatB (j : Int) = true := decide_eq_true hs
    have i0 : (0 : Int) ≤ (j : Int) := by omega
    have i5 : (j : Int) < 5 := by omega
    have c1 := hz.cs_ hj
    rw [dat_in hj]
    clear hz
    generalize sp (st j) = o at *
    go_enter Tryz.func164, Tryz.ntmps164
    go_wp2_with fail
    refine (hseat (j : Int) _).mono ?_
    rintro e w' ⟨rfl, hw'⟩
    subst w'
    rw [hsb]
    go_wp2_with fail
    go_ret
    exact ⟨rfl, rfl⟩
  · have hsb : seatB s = false := decide_eq_false hs
    rw [dat_out hs]
    clear hz
    go_enter Tryz.func164, Tryz.ntmps164
    go_wp2_with fail
    refine (hseat s _).mono ?_
    rintro e w' ⟨rfl, hw'⟩
    subst w'
    rw [hsb]
    go_wp2_with fail
    go_ret
    exact ⟨rfl, rfl⟩
set_option maxHeartbeats 400000 in
theorem h_busy (s : Int) (hz : Hall w0 w hb vb tb gb h st r) : Calls Tryz.prog 130 #[.pointer (some ⟨hb, 0, none⟩), .int .i64 s] w fun e w' => e = .returned (.bool (dat st s).isSome) ∧ w' = w := by
  have HD := hide (h_deed s hz)
  clear hz
  cases ho : dat st s with
  | none =>
    rw [ho] at HD
    go_enter Tryz.func130, Tryz.ntmps130
    go_wp2_with fail
    refine (unhide HD).mono ?_
    rintro e w' ⟨rfl, hw'⟩
    subst w'
    rw [show sp none = .pointer none from rfl]
    go_wp2_with fail
    go_ret
    exact ⟨rfl, rfl⟩
  | some x =>
    rw [ho] at HD
    go_enter Tryz.func130, Tryz.ntmps130
    go_wp2_with fail
    refine (unhide HD).mono ?_
    rintro e w' ⟨rfl, hw'⟩
    subst w'
    rw [show sp (some x) = .pointer (some ⟨x.1, 0, none⟩) from rfl]
    go_wp2_with fail
    go_ret
    exact ⟨rfl, rfl⟩
/-- find: the seat's deed, or why there is none. -/
def fcode (st : Nat → Sd) (s : Int) : Int := if 0 ≤ s ∧ s < 5 then (if (st s.toNat).isSome = true then 0 else 7) else 1
set_option maxHeartbeats 400000 in
theorem h_find (s : Int) (hz : Hall w0 w hb vb tb gb h st r) : Calls Tryz.prog 132 #[.pointer (some ⟨hb, 0, none⟩), .int .i64 s] w fun e w' => e = .returned (.tuple #[sp (dat st s), .int .i64 (fcode st s)]) ∧ w' = w := by
  have HB := hide (h_busy s hz)
  by_cases hs : 0 ≤ s ∧ s < 5
  · obtain ⟨j, rfl, hj⟩ := seat_in hs
    have hsb : seatB (j : Int) = true := decide_eq_true hs
    have i0 : (0 : Int) ≤ (j : Int) := by omega
    have i5 : (j : Int) < 5 := by omega
    have c1 := hz.cs_ hj
    rw [dat_in hj] at HB ⊢
    have hf : fcode st (j : Int) = if (st j).isSome = true then 0 else 7 := by unfold fcode; rw [if_pos hs, Int.toNat_natCast]
    rw [hf]
    clear hz hf
    generalize st j = o at *
    cases o with
    | none =>
      go_enter Tryz.func132, Tryz.ntmps132
      go_wp2_with fail
      refine (hseat (j : Int) _).mono ?_
      rintro e w' ⟨rfl, hw'⟩
      subst w'
      rw [hsb]
      go_wp2_with fail
      refine (unhide HB).mono ?_
      rintro e w' ⟨rfl, hw'⟩
      subst w'
      rw [show Option.isSome (none : Sd) = false from rfl]
      go_wp2_with fail
      go_ret2
      exact ⟨rfl, rfl⟩
    | some x =>
      go_enter Tryz.func132, Tryz.ntmps132
      go_wp2_with fail
      refine (hseat (j : Int) _).mono ?_
      rintro e w' ⟨rfl, hw'⟩
      subst w'
      rw [hsb]
      go_wp2_with fail
      refine (unhide HB).mono ?_
      rintro e w' ⟨rfl, hw'⟩
      subst w'
      rw [show Option.isSome (some x) = true from rfl]
      go_wp2_with fail
      go_ret2
      exact ⟨rfl, rfl⟩
  · have hsb : seatB s = false := decide_eq_false hs
    have hf : fcode st s = 1 := by unfold fcode; rw [if_neg hs]
    rw [dat_out hs, hf]
    clear hz HB hf
    go_enter Tryz.func132, Tryz.ntmps132
    go_wp2_with fail
    refine (hseat s _).mono ?_
    rintro e w' ⟨rfl, hw'⟩
    subst w'
    rw [hsb]
    go_wp2_with fail
    go_ret2
    exact ⟨rfl, rfl⟩
set_option maxHeartbeats 400000 in
theorem h_leaveAll (hz : Hall w0 w hb vb tb gb h st r) : Calls Tryz.prog 89 #[.pointer (some ⟨hb, 0, none⟩)] w fun e w' => e = .returned (.tuple #[]) ∧ Hid (Hall w0 w' hb vb tb gb ⟨h.f, h.n, h.cs, fun _ => none⟩ (fun _ => none) r) := by
  have hbx := hz.box
  have c1 := hz.cs_ (s := 0) (by omega)
  have c2 := hz.cs_ (s := 1) (by omega)
  have c3 := hz.cs_ (s := 2) (by omega)
  have c4 := hz.cs_ (s := 3) (by omega)
  have c5 := hz.cs_ (s := 4) (by omega)
  have f1 := hz.fz 1
  have f2 := hz.fz 2
  have f3 := hz.fz 3
  have f4 := hz.fz 4
  have f5 := hz.fz 5
  have HZ := hide hz
  clear hz
  go_enter Tryz.func89, Tryz.ntmps89
  go_wp2_with fail
  go_end0
  refine ⟨rfl, (unhide HZ).leaveAll ?_ ?_⟩
  · rw [heap_setCell_at _ _ (heap_setCell_at _ _ (heap_setCell_at _ _ (heap_setCell_at _ _ (heap_setCell_at _ _ hbx))))]
    rfl
  · exact (((((Kp.refl [hb] w).setCell (.inl (by simp)) _).setCell (.inl (by simp)) _).setCell (.inl (by simp)) _).setCell (.inl (by simp)) _).setCell (.inl (by simp)) _
theorem run_index5 (w : World) (cs : Array Value) (k : Nat) (v : Value) (hk : k < 5) (hv : cs[k]? = some v) :
    (Instr.index 57 (.agg cs) (.int .i64 (k : Int))).run Tryz.prog w = .ok v w := by
  have hn : (k : Int) < 5 := by omega
  simp [Instr.index, run_underlying Tryz.underlying57, asIntOf, hk, hv, go_sem]
theorem parr5 (st : Nat → Sd) : ∃ A : Array Value, #[sp (st 0), sp (st 1), sp (st 2), sp (st 3), sp (st 4)] = A ∧ ∀ k, k < 5 → A[k]? = some (sp (st k)) := by
  refine ⟨_, rfl, fun k hk => ?_⟩
  rcases (show k = 0 ∨ k = 1 ∨ k = 2 ∨ k = 3 ∨ k = 4 by omega) with e | e | e | e | e <;> subst e <;> rfl
set_option maxHeartbeats 1000000 in
theorem h_least (hs : Sts st h.seat) (hz : Hall w0 w hb vb tb gb h st r) : Calls Tryz.prog 28 #[.pointer (some ⟨hb, 0, none⟩)] w fun e w' => e = .returned (.int .i64 (least h.n h.seat 5)) ∧ w' = w := by
  have c0 := hz.c0
  have v0 := hz.v0
  have c1 := hz.cs_ (s := 0) (by omega)
  have c2 := hz.cs_ (s := 1) (by omega)
  have c3 := hz.cs_ (s := 2) (by omega)
  have c4 := hz.cs_ (s := 3) (by omega)
  have c5 := hz.cs_ (s := 4) (by omega)
  have HZ := hide hz
  clear hz
  go_enter Tryz.func28, Tryz.ntmps28
  go_wp2_with fail
  refine (l_last (unhide HZ).vlt).mono ?_
  rintro e w' ⟨rfl, hw'⟩
  subst w'
  go_wp2_with fail
  obtain ⟨A, hA, hAk⟩ := parr5 st
  rw [hA]
  clear hA c0 v0 c1 c2 c3 c4 c5
  go_loop [3, 18] (fun x i => ∃ k : Nat, k ≤ 5 ∧ x = .int .i64 (least h.n h.seat k) ∧ i = .int .i64 k) (fun _ i => 5 - (intOf i).toNat)
  case atStart => exact ⟨0, by omega, rfl, rfl⟩
  case round =>
    obtain ⟨k, hk, rfl, rfl⟩ := hrel
    by_cases hlt : k < 5
    · have i0 : (0 : Int) ≤ (k : Int) := by omega
      have i1 : (k : Int) < 5 := by omega
      have hk1 := hs k
      have HD := hide (fun D d (hd : st k = some (D, d)) => (unhide HZ).ded hlt hd)
      have hx0 := hAk k hlt
      have hls : least h.n h.seat (k + 1) = match h.seat k with | some d => if d.y < least h.n h.seat k then d.y else least h.n h.seat k | none => least h.n h.seat k := rfl
      have HLS := hide hls
      clear hls
      cases ho : st k with
      | none =>
        rw [ho] at hx0 hk1
        have hx := fun w => run_index5 w A k _ hlt hx0
        rw [show sp none = .pointer none from rfl] at hx
        have e1 : least h.n h.seat (k + 1) = least h.n h.seat k := by rw [unhide HLS, ← hk1]; rfl
        have E1 := hide e1
        clear e1 HLS hk1
        go_wp2_with fail
        exact ⟨⟨k + 1, by omega, by rw [unhide E1], by go_num⟩, by simp [intOf]; omega⟩
      | some xx =>
        obtain ⟨D, d⟩ := xx
        rw [ho] at hx0 hk1
        have hx := fun w => run_index5 w A k _ hlt hx0
        rw [show sp (some (D, d)) = .pointer (some ⟨D, 0, none⟩) from rfl] at hx
        have e1 : least h.n h.seat (k + 1) = if d.y < least h.n h.seat k then d.y else least h.n h.seat k := by rw [unhide HLS, ← hk1]; rfl
        have E1 := hide e1
        have HD1 := hide (unhide HD D d ho)
        clear e1 HLS hk1 HD
        generalize least h.n h.seat k = z at *
        go_wp2_with fail
        refine (dat71 _ (unhide HD1)).mono ?_
        rintro e w' ⟨rfl, hw'⟩
        subst w'
        by_cases hlt2 : d.y < z
        · rw [if_pos hlt2] at E1
          go_wp2_with fail
          exact ⟨⟨k + 1, by omega, by rw [unhide E1], by go_num⟩, by simp [intOf]; omega⟩
        · rw [if_neg hlt2] at E1
          go_wp2_with fail
          exact ⟨⟨k + 1, by omega, by rw [unhide E1], by go_num⟩, by simp [intOf]; omega⟩
    · have e : k = 5 := by omega
      subst e
      go_wp2
      go_ret
      exact ⟨rfl, rfl⟩
end
set_option maxHeartbeats 1000000 in
theorem h_new (w : World) : Calls Tryz.prog 12 #[] w fun e w' => ∃ hb, e = .returned (.pointer (some ⟨hb, 0, none⟩)) ∧ ∃ F, (HalT hb ⟨fun _ => [dv], 0, [], fun _ => none⟩).holds w.heap.size w' F ∧ Kp [] w w' := by
  go_enter Tryz.func12, Tryz.ntmps12
  go_wp2_with fail
  refine (vnew w).mono ?_
  rintro e w1 ⟨vb, tb, gb, F, rfl, h1, k1⟩
  go_wp2_with fail
  go_ret
  have hz0 : Zoo w w1 [VltT vb tb gb (fun _ => [dv]) 0 [] []] := (zoo_nil (Kp.refl [] w)).cons h1 k1
  have hz1 := opt_none (opt_none (opt_none (opt_none (opt_none (hz0.box (hcells vb (fun _ => none)) 59)))))
  have hz2 : Hall w _ w1.heap.size vb tb gb ⟨fun _ => [dv], 0, [], fun _ => none⟩ (fun _ => none) [] := hz1.perm ((List.perm_append_comm (l₁ := seats (fun _ => none)) (l₂ := [BoxT w1.heap.size (hcells vb (fun _ => none)) 59, VltT vb tb gb (fun _ => [dv]) 0 [] []])).append_right [])
  have hz3 := hal_close (fun _ => rfl) hinv_new hz2
  obtain ⟨F', h5, _⟩ := zoo_at0 hz3
  exact ⟨_, rfl, F', h5, hz3.kp⟩
end
/- A row of pairs as a thing; the calls of a seat's deed, in a hall. -/
section
open Go.RowKit

/-- A row of pairs of one's own. -/
def PsT (a : Option Addr) (cap : Nat) (L : List Ver) : Thing where
  holds B w F := w.ownsRow B 106 3 (.slice a L.length cap) L.length (vcells L) ∧ F = ob a
  kp := fun ⟨h1, h2⟩ hk hS => ⟨own_kp h1 hk (fun g hg => hS g (by
    rw [h2]
    cases a with
    | none => simp [Value.ownBlock] at hg
    | some ad => simp [Value.ownBlock] at hg; simp [ob, hg])), h2⟩
  lo := fun ⟨h1, h2⟩ x hx => by
    rw [h2] at hx
    rcases h1.2 with ⟨hn, _⟩ | ⟨g, cap', cur, hv, h3, h4, h5⟩
    · simp only [Value.slice.injEq] at hn
      rw [hn.1] at hx
      simp [ob] at hx
    · simp only [Value.slice.injEq] at hv
      rw [hv.1] at hx
      simp [ob] at hx
      subst hx
      exact ⟨h3, lt_of_block h4⟩
  base := fun ⟨h1, h2⟩ hC => ⟨own_base h1 hC, h2⟩
theorem ps_nil {w0 w : World} {r : List Thing} (hz : Zoo w0 w r) : Zoo w0 w (PsT none 0 [] :: r) := by
  obtain ⟨X, h1, hk⟩ := hz
  exact ⟨X, ⟨[], X, ⟨World.ownsRow_nil _ _ _ _, rfl⟩, h1, fun _ hx => by simp at hx, rfl⟩, hk⟩

section
variable {w0 w : World} {vb tb gb : Nat} {f : Nat → List Ver} {n : Nat} {cs : List (List Ver)} {r : List Thing} {D : Nat} {md y : Int} {rs : List Int} {ws : List Ver}
theorem l_list (fr to_ : Int) (hz : Zoo w0 w (VltT vb tb gb f n cs [] :: BoxT D (dcells md y (ncell rs ws)) 162 :: r)) :
    Calls Tryz.prog 135 #[.pointer (some ⟨D, 0, none⟩), .pointer (some ⟨tb, 0, none⟩), .int .i64 fr, .int .i64 to_] w fun e w' => ∃ a cap, e = .returned (.tuple #[.slice a (dls f n y ws rs fr to_).1.length cap, .int .i64 (dls f n y ws rs fr to_).2.1]) ∧ Hid (Zoo w0 w' (VltT vb tb gb f n cs [] :: BoxT D (dcells md y (ncell (dls f n y ws rs fr to_).2.2 ws)) 162 :: PsT a cap (dls f n y ws rs fr to_).1 :: r)) := by
  have hz' := hz
  obtain ⟨X, ⟨Fv, Y, ⟨Ft, Fg, k1⟩, ⟨F, Z, ⟨h1, h2, h3⟩, _, _, e2⟩, hd, _⟩, _⟩ := hz'
  have hF : D ∉ Ft := fun hm => hd D (k1.tF D hm) (by rw [e2, h2]; simp)
  obtain ⟨F, ⟨h1, h2, h3⟩, k2⟩ := zoo_at1 hz
  refine (dlist59 fr to_ w k1.t h1 hF).mono ?_
  rintro e w' ⟨a, cap, rfl, ho, hd2, hk⟩
  refine ⟨a, cap, rfl, ?_⟩
  have hB : w0.heap.size ≤ w.heap.size := hz.kp.size
  have hlo : ∀ x ∈ ob a, w.heap.size ≤ x := fun x hx => by
    cases a with
    | none => simp [ob] at hx
    | some ad =>
      simp only [ob, List.mem_singleton] at hx
      subst hx
      exact own_ge ho rfl
  have h5 := k2 (ManyT [BoxT D (dcells md y (ncell (dls f n y ws rs fr to_).2.2 ws)) 162, PsT a cap (dls f n y ws rs fr to_).1]) w' ⟨F ++ (ob a ++ []), ⟨F, ob a ++ [], ⟨hd2, h2, h3⟩, ⟨ob a, [], ⟨own_base ho hB, rfl⟩, rfl, fun _ _ hy => by simp at hy, rfl⟩, fun x hx hy => ?_, rfl⟩, by rw [h2]; exact hk, fun x hx => ?_⟩
  · have h6 := h5.perm (List.Perm.swap _ _ _)
    have h7 := many_open h6
    exact h7.perm (List.perm_middle (l₁ := [BoxT D (dcells md y (ncell (dls f n y ws rs fr to_).2.2 ws)) 162, PsT a cap (dls f n y ws rs fr to_).1]))
  · rw [List.append_nil] at hy
    have := hlo x hy
    rw [h2] at hx
    rw [List.mem_singleton.1 hx] at this
    have := lt_of_block h1
    omega
  · rcases List.mem_append.1 hx with q | q
    · exact .inl q
    · rw [List.append_nil] at q
      exact .inr (hlo x q)
end

section
variable {w0 w : World} {hb vb tb gb : Nat} {h : HSt} {st : Nat → Sd} {r : List Thing} {s D : Nat} {d : Dp}
theorem h_get (k : Int) (hs : s < 5) (hd : st s = some (D, d)) (hz : Hall w0 w hb vb tb gb h st r) :
    Calls Tryz.prog 133 #[.pointer (some ⟨D, 0, none⟩), .pointer (some ⟨tb, 0, none⟩), .int .i64 k] w fun e w' => e = .returned (.tuple #[.agg #[.bool (dg h.f h.n d.y d.ws k).t, .string (dg h.f h.n d.y d.ws k).s], .int .i64 (dg h.f h.n d.y d.ws k).a]) ∧ Hid (Hall w0 w' hb vb tb gb h (upd st s (some (D, { d with rs := dr h.f h.n d.y d.rs d.ws k }))) r) := by
  obtain ⟨rest, h1, h2⟩ := hz.out hs
  rw [hd] at h1 h2
  refine (l_get k h1).mono ?_
  rintro e w' ⟨rfl, HZ⟩
  exact ⟨rfl, h2 w' tb h.f h.n h.cs (some (D, { d with rs := dr h.f h.n d.y d.rs d.ws k })) h.seat rfl (unhide HZ)⟩
theorem h_put (k : Int) (t : Bool) (b : ByteArray) (hsz : b.size ≤ maxLen) (hs : s < 5) (hd : st s = some (D, d)) (hz : Hall w0 w hb vb tb gb h st r) :
    Calls Tryz.prog 134 #[.pointer (some ⟨D, 0, none⟩), .int .i64 k, .agg #[.bool t, .string b]] w fun e w' => e = .returned (.int .i64 (dpc d.md k t b)) ∧ Hid (Hall w0 w' hb vb tb gb h (upd st s (some (D, { d with ws := dpw d.md d.ws k t b }))) r) := by
  obtain ⟨rest, h1, h2⟩ := hz.out hs
  rw [hd] at h1 h2
  refine (b_put1 k t b hsz h1).mono ?_
  rintro e w' ⟨rfl, HZ⟩
  exact ⟨rfl, h2 w' tb h.f h.n h.cs (some (D, { d with ws := dpw d.md d.ws k t b })) h.seat rfl (unhide HZ)⟩
theorem h_list (fr to_ : Int) (hs : s < 5) (hd : st s = some (D, d)) (hz : Hall w0 w hb vb tb gb h st r) :
    Calls Tryz.prog 135 #[.pointer (some ⟨D, 0, none⟩), .pointer (some ⟨tb, 0, none⟩), .int .i64 fr, .int .i64 to_] w fun e w' => ∃ a cap, e = .returned (.tuple #[.slice a (dls h.f h.n d.y d.ws d.rs fr to_).1.length cap, .int .i64 (dls h.f h.n d.y d.ws d.rs fr to_).2.1]) ∧ Hid (Hall w0 w' hb vb tb gb h (upd st s (some (D, { d with rs := (dls h.f h.n d.y d.ws d.rs fr to_).2.2 }))) (PsT a cap (dls h.f h.n d.y d.ws d.rs fr to_).1 :: r)) := by
  obtain ⟨rest, h1, h2⟩ := hz.out2 hs
  rw [hd] at h1 h2
  refine (l_list fr to_ h1).mono ?_
  rintro e w' ⟨a, cap, rfl, HZ⟩
  exact ⟨a, cap, rfl, h2 w' tb h.f h.n h.cs (some (D, { d with rs := (dls h.f h.n d.y d.ws d.rs fr to_).2.2 })) (PsT a cap (dls h.f h.n d.y d.ws d.rs fr to_).1) h.seat rfl (unhide HZ)⟩
theorem Hall.dedr (hz : Hall w0 w hb vb tb gb h st r) (hm : OptT (some (D, d)) ∈ r) : Ded w D d.md d.y d.rs d.ws := zoo_varm (p := D) hz (List.Mem.tail _ (List.Mem.tail _ (List.mem_append_right _ hm)))
theorem h_commit (hi : HInv h) (hw : WOk d.ws) (hm : OptT (some (D, d)) ∈ r) (hz : Hall w0 w hb vb tb gb h st r) :
    Calls Tryz.prog 136 #[.pointer (some ⟨vb, 0, none⟩), .pointer (some ⟨D, 0, none⟩)] w fun e w' => e = .returned (.tuple #[.int .i64 (vnum h.f h.n h.cs d.md d.y d.rs d.ws), .int .i64 (vcode h.f h.cs d.md d.y d.rs d.ws)]) ∧ Hid (Hall w0 w' hb vb tb gb ⟨vf h.f h.n h.cs d.md d.y d.rs d.ws, vn h.f h.n h.cs d.md d.y d.rs d.ws, vcs h.f h.cs d.md d.y d.rs d.ws, h.seat⟩ st r) := by
  refine (b_commit hi.vi (hz.dedr hm) hw hz.vlt).mono ?_
  rintro e w' ⟨rfl, HZ⟩
  exact ⟨rfl, Hall.of_vlt (unhide HZ)⟩
theorem h_tear (keep : Int) (hi : HInv h) (hw : WOk d.ws) (hm : OptT (some (D, d)) ∈ r) (hz : Hall w0 w hb vb tb gb h st r) :
    Calls Tryz.prog 137 #[.pointer (some ⟨vb, 0, none⟩), .pointer (some ⟨D, 0, none⟩), .int .i64 keep] w fun e w' => e = .returned (.tuple #[.int .i64 (tnum h.f h.cs d.md d.y d.rs d.ws keep), .int .i64 (vcode h.f h.cs d.md d.y d.rs d.ws)]) ∧ ∃ tb', Hid (Hall w0 w' hb vb tb' gb ⟨wal0 (tcs h.f h.cs d.md d.y d.rs d.ws keep), (tcs h.f h.cs d.md d.y d.rs d.ws keep).length, tcs h.f h.cs d.md d.y d.rs d.ws keep, h.seat⟩ st r) := by
  refine (b_tear keep hi.vi (hz.dedr hm) hw hz.vlt).mono ?_
  rintro e w' ⟨rfl, tb', HZ⟩
  exact ⟨rfl, tb', Hall.of_vlt (unhide HZ)⟩
theorem h_crash (hz : Hall w0 w hb vb tb gb h st r) :
    Calls Tryz.prog 88 #[.pointer (some ⟨vb, 0, none⟩)] w fun e w' => e = .returned (.tuple #[]) ∧ ∃ tb', Hid (Hall w0 w' hb vb tb' gb ⟨wal0 h.cs, h.cs.length, h.cs, h.seat⟩ st r) := by
  refine (b_crash hz.vlt).mono ?_
  rintro e w' ⟨rfl, tb', _, HZ⟩
  exact ⟨rfl, tb', Hall.of_vlt (unhide HZ)⟩
theorem h_clear (y : Int) (hz : Hall w0 w hb vb tb gb h st r) :
    Calls Tryz.prog 87 #[.pointer (some ⟨tb, 0, none⟩), .int .i64 y] w fun e w' => e = .returned (.int .i64 (cln h.f y 8 : Nat)) ∧ Hid (Hall w0 w' hb vb tb gb ⟨clm h.f y 8, h.n, h.cs, h.seat⟩ st r) := by
  obtain ⟨F, ⟨Ft, Fg, k⟩, k2⟩ := zoo_at0 hz.vlt
  refine (tclear46 y w k.t).mono ?_
  rintro e w' ⟨rfl, F', h1, h2, h3⟩
  exact ⟨rfl, Hall.of_vlt (k2 _ _ (k.table h1 h2 h3))⟩
theorem h_last (hz : Hall w0 w hb vb tb gb h st r) : Calls Tryz.prog 26 #[.pointer (some ⟨tb, 0, none⟩)] w fun e w' => e = .returned (.int .i64 h.n) ∧ w' = w := l_last hz.vlt
theorem h_first (hz : Hall w0 w hb vb tb gb h st r) : Calls Tryz.prog 27 #[.pointer (some ⟨tb, 0, none⟩)] w fun e w' => e = .returned (.int .i64 (fmx h.f 8)) ∧ w' = w := l_first hz.vlt
end
end
/- Plain words for halls: first come. -/
section
open Go.RowKit

end
/- Plain words for halls: to forget changes nothing that is seen. -/
section
open Go.RowKit

section
variable {f g : Nat → List Ver} {n : Nat} {y : Int} {ws : List Ver}
end

/-- Two halls, of which one forgot more. -/
structure HRel (h g : HSt) : Prop where
  hi : HInv h
  gi : HInv g
  sfx : Sfx h.f g.f
  n : h.n = g.n
  cs : h.cs = g.cs
  seat : h.seat = g.seat
theorem HRel.clear {h g : HSt} (r : HRel h g) {x : HStep} (hx : x.d = 8) : HRel (hdo h x) g := by
  have hi := r.hi.step x
  have e : hdo h x = { h with f := clm h.f (least h.n h.seat 5) 8 } := by
    have n0 : ¬ (x.d < 1 ∨ 10 < x.d) := by omega
    unfold hdo
    rw [if_neg n0, if_pos hx]
  rw [e] at hi ⊢
  exact ⟨hi, r.gi, r.sfx.clear _ r.hi.inv, r.n, r.cs, r.seat⟩
theorem HKind.eq {h : HSt} {x : HStep} {h' : HSt} {e : Ev} (k : HKind h x h' e) : hdo h x = h' ∧ hev h x = e := by
  unfold hdo hev
  cases k with
  | kind c => rw [if_pos c, if_pos c]; exact ⟨rfl, rfl⟩
  | clear c =>
    have n0 : ¬ (x.d < 1 ∨ 10 < x.d) := by omega
    rw [if_neg n0, if_neg n0, if_pos c, if_pos c]; exact ⟨rfl, rfl⟩
  | crash c =>
    have n0 : ¬ (x.d < 1 ∨ 10 < x.d) := by omega
    have n8 : ¬ x.d = 8 := by omega
    rw [if_neg n0, if_neg n0, if_neg n8, if_neg n8, if_pos c, if_pos c]; exact ⟨rfl, rfl⟩
  | range c1 c2 =>
    have n0 : ¬ (x.d < 1 ∨ 10 < x.d) := by omega
    have n8 : ¬ x.d = 8 := by omega
    have n9 : ¬ x.d = 9 := by omega
    rw [if_neg n0, if_neg n0, if_neg n8, if_neg n8, if_neg n9, if_neg n9, if_pos c2, if_pos c2]; exact ⟨rfl, rfl⟩
  | began c1 c2 c3 c4 =>
    have n0 : ¬ (x.d < 1 ∨ 10 < x.d) := by omega
    have n8 : ¬ x.d = 8 := by omega
    have n9 : ¬ x.d = 9 := by omega
    have hns : ¬ ¬ (0 ≤ x.s ∧ x.s < 5) := fun q => q c2
    rw [if_neg n0, if_neg n0, if_neg n8, if_neg n8, if_neg n9, if_neg n9, if_neg hns, if_neg hns, c3]
    dsimp only
    rw [if_pos ⟨c1, c4⟩, if_pos c1, c4]; exact ⟨rfl, rfl⟩
  | beganNot c1 c2 c3 c4 =>
    have n0 : ¬ (x.d < 1 ∨ 10 < x.d) := by omega
    have n8 : ¬ x.d = 8 := by omega
    have n9 : ¬ x.d = 9 := by omega
    have hns : ¬ ¬ (0 ≤ x.s ∧ x.s < 5) := fun q => q c2
    rw [if_neg n0, if_neg n0, if_neg n8, if_neg n8, if_neg n9, if_neg n9, if_neg hns, if_neg hns, c3]
    dsimp only
    have hq : ¬ (x.d = 1 ∧ bcode h.f h.n x.md x.at_ = 0) := fun q => c4 q.2
    rw [if_neg hq, if_pos c1]; exact ⟨rfl, rfl⟩
  | none_ c1 c2 c3 =>
    have n0 : ¬ (x.d < 1 ∨ 10 < x.d) := by omega
    have n8 : ¬ x.d = 8 := by omega
    have n9 : ¬ x.d = 9 := by omega
    have hns : ¬ ¬ (0 ≤ x.s ∧ x.s < 5) := fun q => q c2
    have hn1 : ¬ x.d = 1 := by omega
    rw [if_neg n0, if_neg n0, if_neg n8, if_neg n8, if_neg n9, if_neg n9, if_neg hns, if_neg hns, c3]
    dsimp only
    have hq : ¬ (x.d = 1 ∧ bcode h.f h.n x.md x.at_ = 0) := fun q => hn1 q.1
    rw [if_neg hq, if_neg hn1]; exact ⟨rfl, rfl⟩
  | there d c1 c2 c3 =>
    have n0 : ¬ (x.d < 1 ∨ 10 < x.d) := by omega
    have n8 : ¬ x.d = 8 := by omega
    have n9 : ¬ x.d = 9 := by omega
    have hns : ¬ ¬ (0 ≤ x.s ∧ x.s < 5) := fun q => q c2
    rw [if_neg n0, if_neg n0, if_neg n8, if_neg n8, if_neg n9, if_neg n9, if_neg hns, if_neg hns, c3]
    dsimp only
    rw [if_pos c1, if_pos c1]; exact ⟨rfl, rfl⟩
  | get d c1 c2 c3 =>
    have n0 : ¬ (x.d < 1 ∨ 10 < x.d) := by omega
    have n8 : ¬ x.d = 8 := by omega
    have n9 : ¬ x.d = 9 := by omega
    have hns : ¬ ¬ (0 ≤ x.s ∧ x.s < 5) := fun q => q c2
    have m1 : ¬ x.d = 1 := by omega
    rw [if_neg n0, if_neg n0, if_neg n8, if_neg n8, if_neg n9, if_neg n9, if_neg hns, if_neg hns, c3]
    dsimp only
    rw [if_neg m1, if_neg m1, if_pos c1, if_pos c1]; exact ⟨rfl, rfl⟩
  | put d c1 c2 c3 =>
    have n0 : ¬ (x.d < 1 ∨ 10 < x.d) := by omega
    have n8 : ¬ x.d = 8 := by omega
    have n9 : ¬ x.d = 9 := by omega
    have hns : ¬ ¬ (0 ≤ x.s ∧ x.s < 5) := fun q => q c2
    have m1 : ¬ x.d = 1 := by omega
    have m2 : ¬ x.d = 2 := by omega
    rw [if_neg n0, if_neg n0, if_neg n8, if_neg n8, if_neg n9, if_neg n9, if_neg hns, if_neg hns, c3]
    dsimp only
    rw [if_neg m1, if_neg m1, if_neg m2, if_neg m2, if_pos c1, if_pos c1]; exact ⟨rfl, rfl⟩
  | drop d c1 c2 c3 =>
    have n0 : ¬ (x.d < 1 ∨ 10 < x.d) := by omega
    have n8 : ¬ x.d = 8 := by omega
    have n9 : ¬ x.d = 9 := by omega
    have hns : ¬ ¬ (0 ≤ x.s ∧ x.s < 5) := fun q => q c2
    have m1 : ¬ x.d = 1 := by omega
    have m2 : ¬ x.d = 2 := by omega
    have m3 : ¬ x.d = 3 := by omega
    rw [if_neg n0, if_neg n0, if_neg n8, if_neg n8, if_neg n9, if_neg n9, if_neg hns, if_neg hns, c3]
    dsimp only
    rw [if_neg m1, if_neg m1, if_neg m2, if_neg m2, if_neg m3, if_neg m3, if_pos c1, if_pos c1]; exact ⟨rfl, rfl⟩
  | list d c1 c2 c3 =>
    have n0 : ¬ (x.d < 1 ∨ 10 < x.d) := by omega
    have n8 : ¬ x.d = 8 := by omega
    have n9 : ¬ x.d = 9 := by omega
    have hns : ¬ ¬ (0 ≤ x.s ∧ x.s < 5) := fun q => q c2
    have m1 : ¬ x.d = 1 := by omega
    have m2 : ¬ x.d = 2 := by omega
    have m3 : ¬ x.d = 3 := by omega
    have m4 : ¬ x.d = 4 := by omega
    rw [if_neg n0, if_neg n0, if_neg n8, if_neg n8, if_neg n9, if_neg n9, if_neg hns, if_neg hns, c3]
    dsimp only
    rw [if_neg m1, if_neg m1, if_neg m2, if_neg m2, if_neg m3, if_neg m3, if_neg m4, if_neg m4, if_pos c1, if_pos c1]; exact ⟨rfl, rfl⟩
  | commit d c1 c2 c3 =>
    have n0 : ¬ (x.d < 1 ∨ 10 < x.d) := by omega
    have n8 : ¬ x.d = 8 := by omega
    have n9 : ¬ x.d = 9 := by omega
    have hns : ¬ ¬ (0 ≤ x.s ∧ x.s < 5) := fun q => q c2
    have m1 : ¬ x.d = 1 := by omega
    have m2 : ¬ x.d = 2 := by omega
    have m3 : ¬ x.d = 3 := by omega
    have m4 : ¬ x.d = 4 := by omega
    have m5 : ¬ x.d = 5 := by omega
    rw [if_neg n0, if_neg n0, if_neg n8, if_neg n8, if_neg n9, if_neg n9, if_neg hns, if_neg hns, c3]
    dsimp only
    rw [if_neg m1, if_neg m1, if_neg m2, if_neg m2, if_neg m3, if_neg m3, if_neg m4, if_neg m4, if_neg m5, if_neg m5, if_pos c1, if_pos c1]; exact ⟨rfl, rfl⟩
  | tear d c1 c2 c3 =>
    have n0 : ¬ (x.d < 1 ∨ 10 < x.d) := by omega
    have n8 : ¬ x.d = 8 := by omega
    have n9 : ¬ x.d = 9 := by omega
    have hns : ¬ ¬ (0 ≤ x.s ∧ x.s < 5) := fun q => q c2
    have m1 : ¬ x.d = 1 := by omega
    have m2 : ¬ x.d = 2 := by omega
    have m3 : ¬ x.d = 3 := by omega
    have m4 : ¬ x.d = 4 := by omega
    have m5 : ¬ x.d = 5 := by omega
    have m6 : ¬ x.d = 6 := by omega
    rw [if_neg n0, if_neg n0, if_neg n8, if_neg n8, if_neg n9, if_neg n9, if_neg hns, if_neg hns, c3]
    dsimp only
    rw [if_neg m1, if_neg m1, if_neg m2, if_neg m2, if_neg m3, if_neg m3, if_neg m4, if_neg m4, if_neg m5, if_neg m5, if_neg m6, if_neg m6, if_pos c1, if_pos c1]; exact ⟨rfl, rfl⟩
  | abort d c1 c2 c3 =>
    have n0 : ¬ (x.d < 1 ∨ 10 < x.d) := by omega
    have n8 : ¬ x.d = 8 := by omega
    have n9 : ¬ x.d = 9 := by omega
    have hns : ¬ ¬ (0 ≤ x.s ∧ x.s < 5) := fun q => q c2
    have m1 : ¬ x.d = 1 := by omega
    have m2 : ¬ x.d = 2 := by omega
    have m3 : ¬ x.d = 3 := by omega
    have m4 : ¬ x.d = 4 := by omega
    have m5 : ¬ x.d = 5 := by omega
    have m6 : ¬ x.d = 6 := by omega
    have m10 : ¬ x.d = 10 := by omega
    rw [if_neg n0, if_neg n0, if_neg n8, if_neg n8, if_neg n9, if_neg n9, if_neg hns, if_neg hns, c3]
    dsimp only
    rw [if_neg m1, if_neg m1, if_neg m2, if_neg m2, if_neg m3, if_neg m3, if_neg m4, if_neg m4, if_neg m5, if_neg m5, if_neg m6, if_neg m6, if_neg m10, if_neg m10]; exact ⟨rfl, rfl⟩
end
/- A hall's begin, by its contract. -/
section
open Go.RowKit
attribute [local go_sem ↓] Go.wp_at_zero Go.wp_at_succ

def xcs (x : HStep) : Array Value := #[.int .i64 x.d, .int .i64 x.s, .int .i64 x.md, .int .i64 x.at_, .int .i64 x.key, .int .i64 x.to_, .int .i64 x.keep, .string x.b]
theorem Sts.put {st : Nat → Sd} {seat : Nat → Option Dp} (h : Sts st seat) (s : Nat) (d : Sd) : Sts (upd st s d) (upd seat s (d.map Prod.snd)) := fun j => by
  simp only [upd]
  split
  · rfl
  · exact h j
theorem upd_id {α : Type} {g : Nat → α} {k : Nat} {v : α} (h : g k = v) : upd g k v = g := by
  funext j
  unfold upd
  split
  · rename_i e; rw [e, h]
  · rfl
section
variable {w0 w : World} {hb vb tb gb : Nat} {h : HSt} {st : Nat → Sd} {r : List Thing}
theorem Hall.as {h' : HSt} (hz : Hall w0 w hb vb tb gb h st r) (e1 : h'.f = h.f) (e2 : h'.n = h.n) (e3 : h'.cs = h.cs) : Hall w0 w hb vb tb gb h' st r := by
  unfold Hall at hz ⊢
  rw [e1, e2, e3]
  exact hz
theorem h_vbegin {md at_ : Int} (hb0 : bcode h.f h.n md at_ = 0) (hz : Hall w0 w hb vb tb gb h st r) :
    Calls Tryz.prog 131 #[.pointer (some ⟨vb, 0, none⟩), .int .i64 md, .int .i64 at_] w fun e w' => ∃ D, e = .returned (.tuple #[.pointer (some ⟨D, 0, none⟩), .int .i64 0]) ∧ Hid (Hall w0 w' hb vb tb gb h st (OptT (some (D, ⟨md, bat h.n md at_, [], []⟩)) :: r)) := by
  refine (b_begin hb0 hz.vlt).mono ?_
  rintro e w' ⟨D, rfl, HZ⟩
  refine ⟨D, rfl, ?_⟩
  have h1 := unhide HZ
  have p1 : Zoo w0 w' (OptT (some (D, ⟨md, bat h.n md at_, [], []⟩)) :: BoxT hb (hcells vb st) 59 :: VltT vb tb gb h.f h.n h.cs [] :: (seats st ++ r)) := h1.perm ((List.Perm.swap _ _ _).trans (List.Perm.cons _ (List.Perm.swap _ _ _)))
  exact p1.perm (List.perm_middle (l₁ := BoxT hb (hcells vb st) 59 :: VltT vb tb gb h.f h.n h.cs [] :: seats st)).symm
theorem h_vnone {md at_ z : Int} (hb0 : bcode h.f h.n md at_ = z) (h0 : z ≠ 0) (hz : Hall w0 w hb vb tb gb h st r) :
    Calls Tryz.prog 131 #[.pointer (some ⟨vb, 0, none⟩), .int .i64 md, .int .i64 at_] w fun e w' => e = .returned (.tuple #[.pointer none, .int .i64 z]) ∧ Hid (Hall w0 w' hb vb tb gb h st r) := by
  refine (b_none hb0 h0 hz.vlt).mono ?_
  rintro e w' ⟨rfl, HZ⟩
  exact ⟨rfl, zoo_swap (unhide HZ)⟩
/-- A new deed sits down at an empty seat. -/
theorem Hall.sitNew {D : Nat} {d : Dp} {l1 l2 : List Thing} (hz : Hall w0 w hb vb tb gb h st (l1 ++ OptT (some (D, d)) :: l2)) {s : Nat} (hs : s < 5) (hn : st s = none) : Hall w0 (w.setCell ⟨hb, 1 + s, none⟩ (.pointer (some ⟨D, 0, none⟩))) hb vb tb gb h (upd st s (some (D, d))) (l1 ++ l2) := by
  have h1 := hz.perm (List.perm_middle (l₁ := l1))
  have h2 : Zoo w0 w (VltT vb tb gb h.f h.n h.cs [] :: OptT (some (D, d)) :: BoxT hb (hcells vb st) 59 :: (seats st ++ (l1 ++ l2))) := by
    have p := Zoo.perm h1 (List.perm_middle (l₁ := BoxT hb (hcells vb st) 59 :: VltT vb tb gb h.f h.n h.cs [] :: seats st))
    exact p.perm ((List.Perm.cons _ (List.Perm.swap _ _ _)).trans (List.Perm.swap _ _ _))
  exact Hall.join h2 hs hn

/-- What begin leaves. -/
def BgEnd (w0 : World) (hb vb tb gb : Nat) (r : List Thing) (h' : HSt) (v : Ev) (e : Ending) (w' : World) : Prop := ∃ st', e = .returned (.int .i64 v.c) ∧ v = evc v.c ∧ Sts st' h'.seat ∧ Hid (Hall w0 w' hb vb tb gb h' st' r)
set_option maxHeartbeats 1000000 in
theorem h_begin (x : HStep) (hx : x.d = 1) (hs : Sts st h.seat) (hz : Hall w0 w hb vb tb gb h st r) :
    Calls Tryz.prog 90 #[.pointer (some ⟨hb, 0, none⟩), .agg #[.int .i64 x.d, .int .i64 x.s, .int .i64 x.md, .int .i64 x.at_, .int .i64 x.key, .int .i64 x.to_, .int .i64 x.keep, .string x.b]] w fun e w' => BgEnd w0 hb vb tb gb r (hdo h x) (hev h x) e w' := by
  have HS := hide hs
  have HX := hide (hz.new (xcs x) 79)
  by_cases hsx : 0 ≤ x.s ∧ x.s < 5
  · obtain ⟨j, hj, h5⟩ := seat_in hsx
    have hjs : x.s.toNat = j := by omega
    have hsb : seatB (j : Int) = true := decide_eq_true (by omega)
    have i0 : (0 : Int) ≤ (j : Int) := by omega
    have i5 : (j : Int) < 5 := by omega
    cases hsd : st j with
    | some xx =>
      have hsj : h.seat j = some xx.2 := by rw [← hs j, hsd]; rfl
      have heq := (HKind.there (h := h) (x := x) xx.2 hx hsx (by rw [hjs]; exact hsj)).eq
      rw [heq.1, heq.2]
      clear heq hz hs
      have hda : dat st (j : Int) = some xx := by rw [dat_in h5, hsd]
      obtain ⟨xd, xs, xm, xa, xk, xt, xp, xb⟩ := x
      dsimp only [xcs] at *
      subst hx hj
      go_enter Tryz.func90, Tryz.ntmps90
      go_wp2_with fail
      generalize w.alloc (.cells #[.int .i64 1, .int .i64 (j : Int), .int .i64 xm, .int .i64 xa, .int .i64 xk, .int .i64 xt, .int .i64 xp, .string xb] 79) = W at HX ⊢
      generalize w.heap.size = q at HX ⊢
      have hq := (unhide HX).var (List.Mem.head _)
      have x1 : W.cell? ⟨q, 1, none⟩ = some (.int .i64 (j : Int)) := cell_of_block hq rfl
      clear hq
      refine (hseat (j : Int) _).mono ?_
      rintro e w' ⟨rfl, hw'⟩
      subst w'
      rw [hsb]
      go_wp2_with fail
      refine (h_busy (j : Int) (unhide HX)).mono ?_
      rintro e w' ⟨rfl, hw'⟩
      subst w'
      rw [hda, show Option.isSome (some xx) = true from rfl]
      go_wp2_with fail
      go_ret
      exact ⟨st, rfl, rfl, unhide HS, (unhide HX).tail⟩
    | none =>
      have hsj : h.seat j = none := by rw [← hs j, hsd]; rfl
      have hda : dat st (j : Int) = none := by rw [dat_in h5, hsd]
      by_cases hb0 : bcode h.f h.n x.md x.at_ = 0
      · have heq := (HKind.began (h := h) (x := x) hx hsx (by rw [hjs]; exact hsj) hb0).eq
        rw [heq.1, heq.2]
        clear heq hz hs
        have HB0 := hide hb0
        clear hb0
        obtain ⟨xd, xs, xm, xa, xk, xt, xp, xb⟩ := x
        dsimp only [xcs] at *
        subst hx hj
        go_enter Tryz.func90, Tryz.ntmps90
        go_wp2_with fail
        generalize w.alloc (.cells #[.int .i64 1, .int .i64 (j : Int), .int .i64 xm, .int .i64 xa, .int .i64 xk, .int .i64 xt, .int .i64 xp, .string xb] 79) = W at HX ⊢
        generalize w.heap.size = q at HX ⊢
        have hq := (unhide HX).var (List.Mem.head _)
        have x1 : W.cell? ⟨q, 1, none⟩ = some (.int .i64 (j : Int)) := cell_of_block hq rfl
        have x2 : W.cell? ⟨q, 2, none⟩ = some (.int .i64 xm) := cell_of_block hq rfl
        have x3 : W.cell? ⟨q, 3, none⟩ = some (.int .i64 xa) := cell_of_block hq rfl
        clear hq
        refine (hseat (j : Int) _).mono ?_
        rintro e w' ⟨rfl, hw'⟩
        subst w'
        rw [hsb]
        go_wp2_with fail
        refine (h_busy (j : Int) (unhide HX)).mono ?_
        rintro e w' ⟨rfl, hw'⟩
        subst w'
        rw [hda, show Option.isSome (none : Sd) = false from rfl]
        have c0 := (unhide HX).c0
        have HV := hide (fun W' (hk : Kp [] W W') => h_vbegin (unhide HB0) ((unhide HX).kp0 hk))
        go_wp2_with fail
        go_region_with (go_at_call 131; refine (unhide HV _ ((Kp.refl [] W).drewN _)).mono ?_; rintro e w' ⟨D, rfl, HY⟩)
        all_goals
          have hq2 := (unhide HY).var (List.Mem.tail _ (List.Mem.head _))
          have y1 : w'.cell? ⟨q, 1, none⟩ = some (.int .i64 (j : Int)) := cell_of_block hq2 rfl
          have c2 := (unhide HY).cs_ h5
          have f2 := (unhide HY).fz (1 + j)
          rw [hsd] at c2
          clear hq2 x1 x2 x3 c0 HV
          go_wp2_with fail
          go_region
        all_goals
          go_wp2_with fail
          go_ret
          exact ⟨upd st j (some (D, _)), rfl, rfl, by show Sts _ (upd h.seat ((j : Int).toNat) _); rw [hjs]; exact (unhide HS).put j _, ((((unhide HY).sitNew (l1 := []) h5 hsd).tail).kp0 (Kp.refl [] _).drew).as rfl rfl rfl⟩
      · have heq := (HKind.beganNot (h := h) (x := x) hx hsx (by rw [hjs]; exact hsj) hb0).eq
        rw [heq.1, heq.2]
        clear heq hz hs
        have HB0 := hide hb0
        clear hb0
        generalize hzz : bcode h.f h.n x.md x.at_ = z at HB0 ⊢
        have HZ0 := hide hzz
        clear hzz
        obtain ⟨xd, xs, xm, xa, xk, xt, xp, xb⟩ := x
        dsimp only [xcs] at *
        subst hx hj
        go_enter Tryz.func90, Tryz.ntmps90
        go_wp2_with fail
        generalize w.alloc (.cells #[.int .i64 1, .int .i64 (j : Int), .int .i64 xm, .int .i64 xa, .int .i64 xk, .int .i64 xt, .int .i64 xp, .string xb] 79) = W at HX ⊢
        generalize w.heap.size = q at HX ⊢
        have hq := (unhide HX).var (List.Mem.head _)
        have x1 : W.cell? ⟨q, 1, none⟩ = some (.int .i64 (j : Int)) := cell_of_block hq rfl
        have x2 : W.cell? ⟨q, 2, none⟩ = some (.int .i64 xm) := cell_of_block hq rfl
        have x3 : W.cell? ⟨q, 3, none⟩ = some (.int .i64 xa) := cell_of_block hq rfl
        clear hq
        refine (hseat (j : Int) _).mono ?_
        rintro e w' ⟨rfl, hw'⟩
        subst w'
        rw [hsb]
        go_wp2_with fail
        refine (h_busy (j : Int) (unhide HX)).mono ?_
        rintro e w' ⟨rfl, hw'⟩
        subst w'
        rw [hda, show Option.isSome (none : Sd) = false from rfl]
        have c0 := (unhide HX).c0
        have HV := hide (fun W' (hk : Kp [] W W') => h_vnone (unhide HZ0) (unhide HB0) ((unhide HX).kp0 hk))
        go_wp2_with fail
        go_region_with (go_at_call 131; refine (unhide HV _ ((Kp.refl [] W).drewN _)).mono ?_; rintro e w' ⟨rfl, HY⟩)
        all_goals
          have hq2 := (unhide HY).var (List.Mem.head _)
          have y1 : w'.cell? ⟨q, 1, none⟩ = some (.int .i64 (j : Int)) := cell_of_block hq2 rfl
          have c2 := (unhide HY).cs_ h5
          have f2 := (unhide HY).fz (1 + j)
          rw [hsd] at c2
          clear hq2 x1 x2 x3 c0 HV
          go_wp2_with fail
          go_region
        all_goals
          go_wp2_with fail
          go_ret
          exact ⟨st, rfl, rfl, unhide HS, by have h9 := (unhide HY).leave h5; rw [upd_id hsd] at h9; exact (h9.tail.tail).kp0 (Kp.refl [] _).drew⟩
  · have heq := (HKind.range (h := h) (x := x) (by omega) hsx).eq
    rw [heq.1, heq.2]
    clear heq hz hs
    have hsb : seatB x.s = false := decide_eq_false hsx
    obtain ⟨xd, xs, xm, xa, xk, xt, xp, xb⟩ := x
    dsimp only [xcs] at *
    subst hx
    go_enter Tryz.func90, Tryz.ntmps90
    go_wp2_with fail
    refine (hseat xs _).mono ?_
    rintro e w' ⟨rfl, hw'⟩
    subst w'
    rw [hsb]
    go_wp2_with fail
    go_ret
    exact ⟨st, rfl, rfl, unhide HS, (unhide HX).tail⟩
end
end
/- A hall's goOn: where there is no deed; Put. -/
section
open Go.RowKit
attribute [local go_sem ↓] Go.wp_at_zero Go.wp_at_succ

/-- What goOn, end and Do leave. -/
def GoEnd (w0 : World) (hb vb gb : Nat) (r : List Thing) (h' : HSt) (v : Ev) (e : Ending) (w' : World) : Prop := ∃ tb' st' a cap, e = .returned (.agg #[.int .i64 v.c, .int .i64 v.n, .bool v.t, .string v.s, .slice a v.l.length cap]) ∧ Sts st' h'.seat ∧ Hid (Hall w0 w' hb vb tb' gb h' st' (PsT a cap v.l :: r))
/-- An event in a variable. -/
structure EvF (w : World) (p : Nat) (a b c d e : Value) : Prop where
  c0 : w.cell? ⟨p, 0, none⟩ = some a
  c1 : w.cell? ⟨p, 1, none⟩ = some b
  c2 : w.cell? ⟨p, 2, none⟩ = some c
  c3 : w.cell? ⟨p, 3, none⟩ = some d
  c4 : w.cell? ⟨p, 4, none⟩ = some e
  f0 : w.frozen? ⟨p, 0, none⟩ = false
  f1 : w.frozen? ⟨p, 1, none⟩ = false
  f2 : w.frozen? ⟨p, 2, none⟩ = false
  f3 : w.frozen? ⟨p, 3, none⟩ = false
  f4 : w.frozen? ⟨p, 4, none⟩ = false
theorem evF {w : World} {p : Nat} {a b c d e : Value} {T : TypeId} (h : w.heap[p]? = some (.cells #[a, b, c, d, e] T (0, 0))) : EvF w p a b c d e :=
  ⟨cell_of_block h rfl, cell_of_block h rfl, cell_of_block h rfl, cell_of_block h rfl, cell_of_block h rfl, frozen_of_block _ h, frozen_of_block _ h, frozen_of_block _ h, frozen_of_block _ h, frozen_of_block _ h⟩
section
variable {w0 w : World} {hb vb tb gb : Nat} {h : HSt} {st : Nat → Sd} {r : List Thing}
theorem Hall.ps {tb' : Nat} {h' : HSt} {st' : Nat → Sd} {w' : World} (hz : Hall w0 w' hb vb tb' gb h' st' r) : Hall w0 w' hb vb tb' gb h' st' (PsT none 0 [] :: r) := Zoo.perm (ps_nil hz) (List.perm_middle (l₁ := BoxT hb (hcells vb st') 59 :: VltT vb tb' gb h'.f h'.n h'.cs [] :: seats st')).symm
/-- Behind an event's five cells, written; the variables are let go. -/
theorem Hall.fin {W : World} {p q : Nat} {c xc : Array Value} {T U : TypeId} (hz : Hall w0 W hb vb tb gb h st (BoxT p c T :: BoxT q xc U :: r)) (a b c' d e : Value) : Hall w0 (((((W.setCell ⟨p, 0, none⟩ a).setCell ⟨p, 1, none⟩ b).setCell ⟨p, 2, none⟩ c').setCell ⟨p, 3, none⟩ d).setCell ⟨p, 4, none⟩ e) hb vb tb gb h st r := (((((hz.set0 0 a).set0 1 b).set0 2 c').set0 3 d).set0 4 e).tail.tail
theorem f_not (hs : Sts st h.seat) {x : HStep} (hx : 2 ≤ x.d ∧ x.d ≤ 10 ∧ x.d ≠ 8 ∧ x.d ≠ 9) (hf : ¬ fcode st x.s = 0) : hdo h x = h ∧ hev h x = evc (fcode st x.s) := by
  unfold fcode at hf ⊢
  by_cases hsx : 0 ≤ x.s ∧ x.s < 5
  · rw [if_pos hsx] at hf ⊢
    cases hd : st x.s.toNat with
    | none =>
      have : h.seat x.s.toNat = none := by rw [← hs, hd]; rfl
      exact (HKind.none_ (h := h) (x := x) hx hsx this).eq
    | some y => rw [hd] at hf; exact absurd rfl hf
  · rw [if_neg hsx]
    exact (HKind.range (h := h) (x := x) (by omega) hsx).eq
theorem f_yes {s : Int} (hf : fcode st s = 0) : ∃ (j D : Nat) (d : Dp), s = (j : Int) ∧ j < 5 ∧ st j = some (D, d) := by
  unfold fcode at hf
  split at hf
  · rename_i hsx
    obtain ⟨j, rfl, h5⟩ := seat_in hsx
    rw [Int.toNat_natCast] at hf
    cases hd : st j with
    | none => rw [hd] at hf; exact absurd hf (by simp)
    | some y => exact ⟨j, y.1, y.2, rfl, h5, hd⟩
  · exact absurd hf (by simp)
set_option maxHeartbeats 1000000 in
theorem go_none (x : HStep) (hx : 2 ≤ x.d ∧ x.d ≤ 5) (hf : ¬ fcode st x.s = 0) (hs : Sts st h.seat) (hz : Hall w0 w hb vb tb gb h st r) :
    Calls Tryz.prog 91 #[.pointer (some ⟨hb, 0, none⟩), .agg #[.int .i64 x.d, .int .i64 x.s, .int .i64 x.md, .int .i64 x.at_, .int .i64 x.key, .int .i64 x.to_, .int .i64 x.keep, .string x.b]] w fun e w' => GoEnd w0 hb vb gb r (hdo h x) (hev h x) e w' := by
  have heq := f_not hs (x := x) (by omega) hf
  rw [heq.1, heq.2]
  clear heq
  have HS := hide hs
  have HX := hide (hz.two (xcs x) 79 #[.int .i64 0, .int .i64 0, .bool false, .string ⟨#[]⟩, .slice none 0 0] 102)
  clear hz hs
  generalize hzz : fcode st x.s = z at hf ⊢
  have HZ0 := hide hzz
  have hzb : (z != 0) = true := by simpa using hf
  clear hzz hf
  obtain ⟨xd, xs, xm, xa, xk, xt, xp, xb⟩ := x
  dsimp only [xcs] at *
  go_enter Tryz.func91, Tryz.ntmps91
  go_wp2_with fail
  generalize (w.alloc (.cells #[.int .i64 xd, .int .i64 xs, .int .i64 xm, .int .i64 xa, .int .i64 xk, .int .i64 xt, .int .i64 xp, .string xb] 79)).alloc (.cells #[.int .i64 0, .int .i64 0, .bool false, .string ⟨#[]⟩, .slice none 0 0] 102) = W at HX ⊢
  generalize w.heap.size = q at HX ⊢
  generalize q + 1 = p at HX ⊢
  have hq := (unhide HX).var (List.Mem.tail _ (List.Mem.head _))
  have x1 : W.cell? ⟨q, 1, none⟩ = some (.int .i64 xs) := cell_of_block hq rfl
  clear hq
  refine (h_find xs (unhide HX)).mono ?_
  rintro e w' ⟨rfl, hw'⟩
  subst w'
  rw [unhide HZ0]
  generalize sp (dat st xs) = o
  have HE := hide ((unhide HX).new #[.int .i64 z, .int .i64 0, .bool false, .string ⟨#[]⟩, .slice none 0 0] 102)
  have pl := lt_of_block ((unhide HX).var (List.Mem.head _))
  obtain ⟨e0, e1, e2, e3, e4, g0, g1, g2, g3, g4⟩ := evF ((unhide HX).var (List.Mem.head _))
  go_wp2_with fail
  refine bodyPost_ret (v := .agg #[.int .i64 z, .int .i64 0, .bool false, .string ⟨#[]⟩, .slice none 0 0]) (by simp [results, Tryz.results91, go_sem, e0, e1, e2, e3, e4, pl]) rfl ?_
  exact ⟨tb, st, none, 0, rfl, unhide HS, (((unhide HX).fin _ _ _ _ _).new _ _).tail.ps⟩
end
end
/- A hall's goOn: Put and Drop. -/
section
open Go.RowKit
attribute [local go_sem ↓] Go.wp_at_zero Go.wp_at_succ

section
variable {w0 w : World} {hb vb tb gb : Nat} {h : HSt} {st : Nat → Sd} {r : List Thing}
set_option maxHeartbeats 1000000 in
theorem go_put (x : HStep) (hx : x.d = 3) {j D : Nat} {d : Dp} (hj : x.s = (j : Int)) (h5 : j < 5) (hsd : st j = some (D, d)) (hs : Sts st h.seat) (hz : Hall w0 w hb vb tb gb h st r) (hsz : x.b.size ≤ maxLen) :
    Calls Tryz.prog 91 #[.pointer (some ⟨hb, 0, none⟩), .agg #[.int .i64 x.d, .int .i64 x.s, .int .i64 x.md, .int .i64 x.at_, .int .i64 x.key, .int .i64 x.to_, .int .i64 x.keep, .string x.b]] w fun e w' => GoEnd w0 hb vb gb r (hdo h x) (hev h x) e w' := by
  have HS := hide hs
  have HX := hide (hz.two (xcs x) 79 #[.int .i64 0, .int .i64 0, .bool false, .string ⟨#[]⟩, .slice none 0 0] 102)
  have hjs : x.s.toNat = j := by omega
  have i0 : (0 : Int) ≤ (j : Int) := by omega
  have i5 : (j : Int) < 5 := by omega
  have hsj : h.seat j = some d := by rw [← hs j, hsd]; rfl
  have heq := (HKind.put (h := h) (x := x) d hx ⟨by omega, by omega⟩ (by rw [hjs]; exact hsj)).eq
  rw [heq.1, heq.2]
  clear heq hz hs hsj
  have hda : dat st (j : Int) = some (D, d) := by rw [dat_in h5, hsd]
  have hfc : fcode st (j : Int) = 0 := by unfold fcode; rw [if_pos ⟨i0, i5⟩, Int.toNat_natCast, hsd]; rfl
  obtain ⟨xd, xs, xm, xa, xk, xt, xp, xb⟩ := x
  dsimp only [xcs] at *
  subst hx hj
  go_enter Tryz.func91, Tryz.ntmps91
  go_wp2_with fail
  generalize (w.alloc (.cells #[.int .i64 3, .int .i64 (j : Int), .int .i64 xm, .int .i64 xa, .int .i64 xk, .int .i64 xt, .int .i64 xp, .string xb] 79)).alloc (.cells #[.int .i64 0, .int .i64 0, .bool false, .string ⟨#[]⟩, .slice none 0 0] 102) = W at HX ⊢
  generalize w.heap.size = q at HX ⊢
  generalize q + 1 = p at HX ⊢
  have hq := (unhide HX).var (List.Mem.tail _ (List.Mem.head _))
  have x0 : W.cell? ⟨q, 0, none⟩ = some (.int .i64 3) := cell_of_block hq rfl
  have x1 : W.cell? ⟨q, 1, none⟩ = some (.int .i64 (j : Int)) := cell_of_block hq rfl
  have x4 : W.cell? ⟨q, 4, none⟩ = some (.int .i64 xk) := cell_of_block hq rfl
  have x5 : W.cell? ⟨q, 5, none⟩ = some (.int .i64 xt) := cell_of_block hq rfl
  have x6 : W.cell? ⟨q, 6, none⟩ = some (.int .i64 xp) := cell_of_block hq rfl
  have x7 : W.cell? ⟨q, 7, none⟩ = some (.string xb) := cell_of_block hq rfl
  have ql := lt_of_block hq
  clear hq
  refine (h_find (j : Int) (unhide HX)).mono ?_
  rintro e w' ⟨rfl, hw'⟩
  subst w'
  rw [hda, hfc]
  rw [show sp (some (D, d)) = .pointer (some ⟨D, 0, none⟩) from rfl]
  have HE := hide ((unhide HX).new #[.int .i64 0, .int .i64 0, .bool false, .string ⟨#[]⟩, .slice none 0 0] 102)
  have pl := lt_of_block ((unhide HX).var (List.Mem.head _))
  have hl := (unhide HX).lt
  have vl := (unhide HX).vlt_
  have c0 := (unhide HX).c0
  have v0 := (unhide HX).v0
  obtain ⟨e0, e1, e2, e3, e4, g0, g1, g2, g3, g4⟩ := evF ((unhide HX).var (List.Mem.head _))
  go_wp2_with fail
  generalize W.alloc (.cells #[.int .i64 0, .int .i64 0, .bool false, .string ⟨#[]⟩, .slice none 0 0] 102) = W2 at HE ⊢
  generalize W.heap.size = pe at HE ⊢
  clear e0 e1 e2 e3 e4 g0 g1 g2 g3 g4 x0 x1 x4 x5 x6 x7 ql pl hl vl c0 v0
  refine (h_put xk true xb hsz h5 hsd (unhide HE)).mono ?_
  rintro e w3 ⟨rfl, HY⟩
  have hep := (unhide HY).var (List.Mem.head _)
  have hpp := (unhide HY).var (List.Mem.tail _ (List.Mem.head _))
  obtain ⟨a0, a1, a2, a3, a4, b0, b1, b2, b3, b4⟩ := evF hep
  obtain ⟨e0, e1, e2, e3, e4, g0, g1, g2, g3, g4⟩ := evF hpp
  have pl := lt_of_block hpp
  have el := lt_of_block hep
  clear hep hpp HE
  have hne := (unhide HY).ne2
  go_wp2_with fail
  refine bodyPost_ret (v := .agg #[.int .i64 (dpc d.md xk true xb), .int .i64 0, .bool false, .string ⟨#[]⟩, .slice none 0 0]) (by simp [results, Tryz.results91, go_sem, e0, e1, e2, e3, e4]) rfl ?_
  exact ⟨tb, _, none, 0, rfl, by show Sts _ (upd h.seat ((j : Int).toNat) _); rw [hjs]; exact (unhide HS).put j (some (D, _)), ((((unhide HY).set0 0 _).tail).fin _ _ _ _ _).ps.as rfl rfl rfl⟩
set_option maxHeartbeats 1000000 in
theorem go_drop (x : HStep) (hx : x.d = 4) {j D : Nat} {d : Dp} (hj : x.s = (j : Int)) (h5 : j < 5) (hsd : st j = some (D, d)) (hs : Sts st h.seat) (hz : Hall w0 w hb vb tb gb h st r) (hsz : x.b.size ≤ maxLen) :
    Calls Tryz.prog 91 #[.pointer (some ⟨hb, 0, none⟩), .agg #[.int .i64 x.d, .int .i64 x.s, .int .i64 x.md, .int .i64 x.at_, .int .i64 x.key, .int .i64 x.to_, .int .i64 x.keep, .string x.b]] w fun e w' => GoEnd w0 hb vb gb r (hdo h x) (hev h x) e w' := by
  have HS := hide hs
  have HX := hide (hz.two (xcs x) 79 #[.int .i64 0, .int .i64 0, .bool false, .string ⟨#[]⟩, .slice none 0 0] 102)
  have hjs : x.s.toNat = j := by omega
  have i0 : (0 : Int) ≤ (j : Int) := by omega
  have i5 : (j : Int) < 5 := by omega
  have hsj : h.seat j = some d := by rw [← hs j, hsd]; rfl
  have heq := (HKind.drop (h := h) (x := x) d hx ⟨by omega, by omega⟩ (by rw [hjs]; exact hsj)).eq
  rw [heq.1, heq.2]
  clear heq hz hs hsj
  have hda : dat st (j : Int) = some (D, d) := by rw [dat_in h5, hsd]
  have hfc : fcode st (j : Int) = 0 := by unfold fcode; rw [if_pos ⟨i0, i5⟩, Int.toNat_natCast, hsd]; rfl
  obtain ⟨xd, xs, xm, xa, xk, xt, xp, xb⟩ := x
  dsimp only [xcs] at *
  subst hx hj
  go_enter Tryz.func91, Tryz.ntmps91
  go_wp2_with fail
  generalize (w.alloc (.cells #[.int .i64 4, .int .i64 (j : Int), .int .i64 xm, .int .i64 xa, .int .i64 xk, .int .i64 xt, .int .i64 xp, .string xb] 79)).alloc (.cells #[.int .i64 0, .int .i64 0, .bool false, .string ⟨#[]⟩, .slice none 0 0] 102) = W at HX ⊢
  generalize w.heap.size = q at HX ⊢
  generalize q + 1 = p at HX ⊢
  have hq := (unhide HX).var (List.Mem.tail _ (List.Mem.head _))
  have x0 : W.cell? ⟨q, 0, none⟩ = some (.int .i64 4) := cell_of_block hq rfl
  have x1 : W.cell? ⟨q, 1, none⟩ = some (.int .i64 (j : Int)) := cell_of_block hq rfl
  have x4 : W.cell? ⟨q, 4, none⟩ = some (.int .i64 xk) := cell_of_block hq rfl
  have x5 : W.cell? ⟨q, 5, none⟩ = some (.int .i64 xt) := cell_of_block hq rfl
  have x6 : W.cell? ⟨q, 6, none⟩ = some (.int .i64 xp) := cell_of_block hq rfl
  have x7 : W.cell? ⟨q, 7, none⟩ = some (.string xb) := cell_of_block hq rfl
  have ql := lt_of_block hq
  clear hq
  refine (h_find (j : Int) (unhide HX)).mono ?_
  rintro e w' ⟨rfl, hw'⟩
  subst w'
  rw [hda, hfc]
  rw [show sp (some (D, d)) = .pointer (some ⟨D, 0, none⟩) from rfl]
  have HE := hide ((unhide HX).new #[.int .i64 0, .int .i64 0, .bool false, .string ⟨#[]⟩, .slice none 0 0] 102)
  have pl := lt_of_block ((unhide HX).var (List.Mem.head _))
  have hl := (unhide HX).lt
  have vl := (unhide HX).vlt_
  have c0 := (unhide HX).c0
  have v0 := (unhide HX).v0
  obtain ⟨e0, e1, e2, e3, e4, g0, g1, g2, g3, g4⟩ := evF ((unhide HX).var (List.Mem.head _))
  go_wp2_with fail
  generalize W.alloc (.cells #[.int .i64 0, .int .i64 0, .bool false, .string ⟨#[]⟩, .slice none 0 0] 102) = W2 at HE ⊢
  generalize W.heap.size = pe at HE ⊢
  clear e0 e1 e2 e3 e4 g0 g1 g2 g3 g4 x0 x1 x4 x5 x6 x7 ql pl hl vl c0 v0
  refine (h_put xk false ⟨#[]⟩ (Nat.zero_le _) h5 hsd (unhide HE)).mono ?_
  rintro e w3 ⟨rfl, HY⟩
  have hep := (unhide HY).var (List.Mem.head _)
  have hpp := (unhide HY).var (List.Mem.tail _ (List.Mem.head _))
  obtain ⟨a0, a1, a2, a3, a4, b0, b1, b2, b3, b4⟩ := evF hep
  obtain ⟨e0, e1, e2, e3, e4, g0, g1, g2, g3, g4⟩ := evF hpp
  have pl := lt_of_block hpp
  have el := lt_of_block hep
  clear hep hpp HE
  have hne := (unhide HY).ne2
  go_wp2_with fail
  refine bodyPost_ret (v := .agg #[.int .i64 (dpc d.md xk false ⟨#[]⟩), .int .i64 0, .bool false, .string ⟨#[]⟩, .slice none 0 0]) (by simp [results, Tryz.results91, go_sem, e0, e1, e2, e3, e4]) rfl ?_
  exact ⟨tb, _, none, 0, rfl, by show Sts _ (upd h.seat ((j : Int).toNat) _); rw [hjs]; exact (unhide HS).put j (some (D, _)), ((((unhide HY).set0 0 _).tail).fin _ _ _ _ _).ps.as rfl rfl rfl⟩
end
end
/- A hall's goOn: Get. -/
section
open Go.RowKit
attribute [local go_sem ↓] Go.wp_at_zero Go.wp_at_succ

section
variable {w0 w : World} {hb vb tb gb : Nat} {h : HSt} {st : Nat → Sd} {r : List Thing}
set_option maxHeartbeats 1000000 in
theorem go_get (x : HStep) (hx : x.d = 2) {j D : Nat} {d : Dp} (hj : x.s = (j : Int)) (h5 : j < 5) (hsd : st j = some (D, d)) (hs : Sts st h.seat) (hz : Hall w0 w hb vb tb gb h st r) :
    Calls Tryz.prog 91 #[.pointer (some ⟨hb, 0, none⟩), .agg #[.int .i64 x.d, .int .i64 x.s, .int .i64 x.md, .int .i64 x.at_, .int .i64 x.key, .int .i64 x.to_, .int .i64 x.keep, .string x.b]] w fun e w' => GoEnd w0 hb vb gb r (hdo h x) (hev h x) e w' := by
  have HS := hide hs
  have HX := hide (hz.two (xcs x) 79 #[.int .i64 0, .int .i64 0, .bool false, .string ⟨#[]⟩, .slice none 0 0] 102)
  have hjs : x.s.toNat = j := by omega
  have i0 : (0 : Int) ≤ (j : Int) := by omega
  have i5 : (j : Int) < 5 := by omega
  have hsj : h.seat j = some d := by rw [← hs j, hsd]; rfl
  have heq := (HKind.get (h := h) (x := x) d hx ⟨by omega, by omega⟩ (by rw [hjs]; exact hsj)).eq
  rw [heq.1, heq.2]
  clear heq hz hs hsj
  have hda : dat st (j : Int) = some (D, d) := by rw [dat_in h5, hsd]
  have hfc : fcode st (j : Int) = 0 := by unfold fcode; rw [if_pos ⟨i0, i5⟩, Int.toNat_natCast, hsd]; rfl
  obtain ⟨xd, xs, xm, xa, xk, xt, xp, xb⟩ := x
  dsimp only [xcs] at *
  subst hx hj
  go_enter Tryz.func91, Tryz.ntmps91
  go_wp2_with fail
  generalize (w.alloc (.cells #[.int .i64 2, .int .i64 (j : Int), .int .i64 xm, .int .i64 xa, .int .i64 xk, .int .i64 xt, .int .i64 xp, .string xb] 79)).alloc (.cells #[.int .i64 0, .int .i64 0, .bool false, .string ⟨#[]⟩, .slice none 0 0] 102) = W at HX ⊢
  generalize w.heap.size = q at HX ⊢
  generalize q + 1 = p at HX ⊢
  have hq := (unhide HX).var (List.Mem.tail _ (List.Mem.head _))
  have x0 : W.cell? ⟨q, 0, none⟩ = some (.int .i64 2) := cell_of_block hq rfl
  have x1 : W.cell? ⟨q, 1, none⟩ = some (.int .i64 (j : Int)) := cell_of_block hq rfl
  have x4 : W.cell? ⟨q, 4, none⟩ = some (.int .i64 xk) := cell_of_block hq rfl
  have x5 : W.cell? ⟨q, 5, none⟩ = some (.int .i64 xt) := cell_of_block hq rfl
  have x6 : W.cell? ⟨q, 6, none⟩ = some (.int .i64 xp) := cell_of_block hq rfl
  have x7 : W.cell? ⟨q, 7, none⟩ = some (.string xb) := cell_of_block hq rfl
  have ql := lt_of_block hq
  clear hq
  refine (h_find (j : Int) (unhide HX)).mono ?_
  rintro e w' ⟨rfl, hw'⟩
  subst w'
  rw [hda, hfc]
  rw [show sp (some (D, d)) = .pointer (some ⟨D, 0, none⟩) from rfl]
  have HE := hide ((unhide HX).new #[.int .i64 0, .int .i64 0, .bool false, .string ⟨#[]⟩, .slice none 0 0] 102)
  have pl := lt_of_block ((unhide HX).var (List.Mem.head _))
  have hl := (unhide HX).lt
  have vl := (unhide HX).vlt_
  have c0 := (unhide HX).c0
  have v0 := (unhide HX).v0
  obtain ⟨e0, e1, e2, e3, e4, g0, g1, g2, g3, g4⟩ := evF ((unhide HX).var (List.Mem.head _))
  go_wp2_with fail
  generalize W.alloc (.cells #[.int .i64 0, .int .i64 0, .bool false, .string ⟨#[]⟩, .slice none 0 0] 102) = W2 at HE ⊢
  generalize W.heap.size = pe at HE ⊢
  clear e0 e1 e2 e3 e4 g0 g1 g2 g3 g4 x0 x1 x4 x5 x6 x7 ql pl hl vl c0 v0
  have c0 := (unhide HE).c0
  have v0 := (unhide HE).v0
  have hq := (unhide HE).var (List.Mem.tail _ (List.Mem.tail _ (List.Mem.head _)))
  have x4 : W2.cell? ⟨q, 4, none⟩ = some (.int .i64 xk) := cell_of_block hq rfl
  clear hq
  have HG := hide (fun W' (hk : Kp [] W2 W') => h_get xk h5 hsd ((unhide HE).kp0 hk))
  go_region_with (go_at_call 133; refine (unhide HG _ (Kp.refl [] W2).drew).mono ?_; rintro e w3 ⟨rfl, HY⟩; (have hep := (unhide HY).var (List.Mem.head _)); (obtain ⟨a0, a1, a2, a3, a4, b0, b1, b2, b3, b4⟩ := evF hep); clear hep)
  all_goals
    have hpp := (unhide HY).var (List.Mem.tail _ (List.Mem.head _))
    obtain ⟨e0, e1, e2, e3, e4, g0, g1, g2, g3, g4⟩ := evF hpp
    have pl := lt_of_block hpp
    clear hpp
    have hne := (unhide HY).ne2
    go_wp2_with fail
    refine bodyPost_ret (v := .agg #[.int .i64 (dg h.f h.n d.y d.ws xk).a, .int .i64 0, .bool (dg h.f h.n d.y d.ws xk).t, .string (dg h.f h.n d.y d.ws xk).s, .slice none 0 0]) (by simp [results, Tryz.results91, go_sem, e0, e1, e2, e3, e4]) rfl ?_
    exact ⟨tb, _, none, 0, rfl, by show Sts _ (upd h.seat ((j : Int).toNat) _); rw [hjs]; exact (unhide HS).put j (some (D, _)), ((((((unhide HY).set0 2 _).set0 3 _).set0 0 _).tail).fin _ _ _ _ _).ps.as rfl rfl rfl⟩
end
end
/- A hall's goOn: List. -/
section
open Go.RowKit
attribute [local go_sem ↓] Go.wp_at_zero Go.wp_at_succ

section
variable {w0 w : World} {hb vb tb gb : Nat} {h : HSt} {st : Nat → Sd} {r : List Thing}
set_option maxHeartbeats 1000000 in
theorem go_list (x : HStep) (hx : x.d = 5) {j D : Nat} {d : Dp} (hj : x.s = (j : Int)) (h5 : j < 5) (hsd : st j = some (D, d)) (hs : Sts st h.seat) (hz : Hall w0 w hb vb tb gb h st r) :
    Calls Tryz.prog 91 #[.pointer (some ⟨hb, 0, none⟩), .agg #[.int .i64 x.d, .int .i64 x.s, .int .i64 x.md, .int .i64 x.at_, .int .i64 x.key, .int .i64 x.to_, .int .i64 x.keep, .string x.b]] w fun e w' => GoEnd w0 hb vb gb r (hdo h x) (hev h x) e w' := by
  have HS := hide hs
  have HX := hide (hz.two (xcs x) 79 #[.int .i64 0, .int .i64 0, .bool false, .string ⟨#[]⟩, .slice none 0 0] 102)
  have hjs : x.s.toNat = j := by omega
  have i0 : (0 : Int) ≤ (j : Int) := by omega
  have i5 : (j : Int) < 5 := by omega
  have hsj : h.seat j = some d := by rw [← hs j, hsd]; rfl
  have heq := (HKind.list (h := h) (x := x) d hx ⟨by omega, by omega⟩ (by rw [hjs]; exact hsj)).eq
  rw [heq.1, heq.2]
  clear heq hz hs hsj
  have hda : dat st (j : Int) = some (D, d) := by rw [dat_in h5, hsd]
  have hfc : fcode st (j : Int) = 0 := by unfold fcode; rw [if_pos ⟨i0, i5⟩, Int.toNat_natCast, hsd]; rfl
  obtain ⟨xd, xs, xm, xa, xk, xt, xp, xb⟩ := x
  dsimp only [xcs] at *
  subst hx hj
  go_enter Tryz.func91, Tryz.ntmps91
  go_wp2_with fail
  generalize (w.alloc (.cells #[.int .i64 5, .int .i64 (j : Int), .int .i64 xm, .int .i64 xa, .int .i64 xk, .int .i64 xt, .int .i64 xp, .string xb] 79)).alloc (.cells #[.int .i64 0, .int .i64 0, .bool false, .string ⟨#[]⟩, .slice none 0 0] 102) = W at HX ⊢
  generalize w.heap.size = q at HX ⊢
  generalize q + 1 = p at HX ⊢
  have hq := (unhide HX).var (List.Mem.tail _ (List.Mem.head _))
  have x0 : W.cell? ⟨q, 0, none⟩ = some (.int .i64 5) := cell_of_block hq rfl
  have x1 : W.cell? ⟨q, 1, none⟩ = some (.int .i64 (j : Int)) := cell_of_block hq rfl
  have x4 : W.cell? ⟨q, 4, none⟩ = some (.int .i64 xk) := cell_of_block hq rfl
  have x5 : W.cell? ⟨q, 5, none⟩ = some (.int .i64 xt) := cell_of_block hq rfl
  have x6 : W.cell? ⟨q, 6, none⟩ = some (.int .i64 xp) := cell_of_block hq rfl
  have x7 : W.cell? ⟨q, 7, none⟩ = some (.string xb) := cell_of_block hq rfl
  have ql := lt_of_block hq
  clear hq
  refine (h_find (j : Int) (unhide HX)).mono ?_
  rintro e w' ⟨rfl, hw'⟩
  subst w'
  rw [hda, hfc]
  rw [show sp (some (D, d)) = .pointer (some ⟨D, 0, none⟩) from rfl]
  have HE := hide ((unhide HX).new #[.int .i64 0, .int .i64 0, .bool false, .string ⟨#[]⟩, .slice none 0 0] 102)
  have pl := lt_of_block ((unhide HX).var (List.Mem.head _))
  have hl := (unhide HX).lt
  have vl := (unhide HX).vlt_
  have c0 := (unhide HX).c0
  have v0 := (unhide HX).v0
  obtain ⟨e0, e1, e2, e3, e4, g0, g1, g2, g3, g4⟩ := evF ((unhide HX).var (List.Mem.head _))
  go_wp2_with fail
  generalize W.alloc (.cells #[.int .i64 0, .int .i64 0, .bool false, .string ⟨#[]⟩, .slice none 0 0] 102) = W2 at HE ⊢
  generalize W.heap.size = pe at HE ⊢
  clear e0 e1 e2 e3 e4 g0 g1 g2 g3 g4 x0 x1 x4 x5 x6 x7 ql pl hl vl c0 v0
  have c0 := (unhide HE).c0
  have v0 := (unhide HE).v0
  have hq := (unhide HE).var (List.Mem.tail _ (List.Mem.tail _ (List.Mem.head _)))
  have x4 : W2.cell? ⟨q, 4, none⟩ = some (.int .i64 xk) := cell_of_block hq rfl
  have x5 : W2.cell? ⟨q, 5, none⟩ = some (.int .i64 xt) := cell_of_block hq rfl
  clear hq
  have HG := hide (fun W' (hk : Kp [] W2 W') => h_list xk xt h5 hsd ((unhide HE).kp0 hk))
  go_region_with (go_at_call 135; refine (unhide HG _ (Kp.refl [] W2).drew).mono ?_; rintro e w3 ⟨a, cap, rfl, HY0⟩; (have HY := hide ((unhide HY0).perm (List.perm_middle (l₁ := [_, _, _])).symm)); clear HY0; (have hep := (unhide HY).var (List.Mem.head _)); (obtain ⟨a0, a1, a2, a3, a4, b0, b1, b2, b3, b4⟩ := evF hep); clear hep)
  all_goals
    have hpp := (unhide HY).var (List.Mem.tail _ (List.Mem.head _))
    obtain ⟨e0, e1, e2, e3, e4, g0, g1, g2, g3, g4⟩ := evF hpp
    have pl := lt_of_block hpp
    clear hpp
    have hne := (unhide HY).ne2
    go_wp2_with fail
    refine bodyPost_ret (v := .agg #[.int .i64 (dls h.f h.n d.y d.ws d.rs xk xt).2.1, .int .i64 0, .bool false, .string ⟨#[]⟩, .slice a (dls h.f h.n d.y d.ws d.rs xk xt).1.length cap]) (by simp [results, Tryz.results91, go_sem, e0, e1, e2, e3, e4]) rfl ?_
    exact ⟨tb, _, a, cap, rfl, by show Sts _ (upd h.seat ((j : Int).toNat) _); rw [hjs]; exact (unhide HS).put j (some (D, _)), (((((unhide HY).set0 4 _).set0 0 _).tail).fin _ _ _ _ _).as rfl rfl rfl⟩
end
end
/- A hall's end: where there is no deed; Commit, Abort, Tear. -/
section
open Go.RowKit
attribute [local go_sem ↓] Go.wp_at_zero Go.wp_at_succ

section
variable {w0 w : World} {hb vb tb gb : Nat} {h : HSt} {st : Nat → Sd} {r : List Thing}
set_option maxHeartbeats 1000000 in
theorem end_none (x : HStep) (hx : x.d = 6 ∨ x.d = 7 ∨ x.d = 10) (hf : ¬ fcode st x.s = 0) (hs : Sts st h.seat) (hz : Hall w0 w hb vb tb gb h st r) :
    Calls Tryz.prog 92 #[.pointer (some ⟨hb, 0, none⟩), .agg #[.int .i64 x.d, .int .i64 x.s, .int .i64 x.md, .int .i64 x.at_, .int .i64 x.key, .int .i64 x.to_, .int .i64 x.keep, .string x.b]] w fun e w' => GoEnd w0 hb vb gb r (hdo h x) (hev h x) e w' := by
  have heq := f_not hs (x := x) (by omega) hf
  rw [heq.1, heq.2]
  clear heq
  have HS := hide hs
  have HX := hide (hz.two (xcs x) 79 #[.int .i64 0, .int .i64 0, .bool false, .string ⟨#[]⟩, .slice none 0 0] 102)
  clear hz hs
  generalize hzz : fcode st x.s = z at hf ⊢
  have HZ0 := hide hzz
  have hzb : (z != 0) = true := by simpa using hf
  clear hzz hf
  obtain ⟨xd, xs, xm, xa, xk, xt, xp, xb⟩ := x
  dsimp only [xcs] at *
  go_enter Tryz.func92, Tryz.ntmps92
  go_wp2_with fail
  generalize (w.alloc (.cells #[.int .i64 xd, .int .i64 xs, .int .i64 xm, .int .i64 xa, .int .i64 xk, .int .i64 xt, .int .i64 xp, .string xb] 79)).alloc (.cells #[.int .i64 0, .int .i64 0, .bool false, .string ⟨#[]⟩, .slice none 0 0] 102) = W at HX ⊢
  generalize w.heap.size = q at HX ⊢
  generalize q + 1 = p at HX ⊢
  have hq := (unhide HX).var (List.Mem.tail _ (List.Mem.head _))
  have x1 : W.cell? ⟨q, 1, none⟩ = some (.int .i64 xs) := cell_of_block hq rfl
  clear hq
  refine (h_find xs (unhide HX)).mono ?_
  rintro e w' ⟨rfl, hw'⟩
  subst w'
  rw [unhide HZ0]
  generalize sp (dat st xs) = o
  have HE := hide ((unhide HX).new #[.int .i64 z, .int .i64 0, .bool false, .string ⟨#[]⟩, .slice none 0 0] 102)
  have pl := lt_of_block ((unhide HX).var (List.Mem.head _))
  obtain ⟨e0, e1, e2, e3, e4, g0, g1, g2, g3, g4⟩ := evF ((unhide HX).var (List.Mem.head _))
  go_wp2_with fail
  refine bodyPost_ret (v := .agg #[.int .i64 z, .int .i64 0, .bool false, .string ⟨#[]⟩, .slice none 0 0]) (by simp [results, Tryz.results92, go_sem, e0, e1, e2, e3, e4, pl]) rfl ?_
  exact ⟨tb, st, none, 0, rfl, unhide HS, (((unhide HX).fin _ _ _ _ _).new _ _).tail.ps⟩
set_option maxHeartbeats 1000000 in
theorem end_commit (x : HStep) (hx : x.d = 6) {j D : Nat} {d : Dp} (hj : x.s = (j : Int)) (h5 : j < 5) (hsd : st j = some (D, d)) (hs : Sts st h.seat) (hz : Hall w0 w hb vb tb gb h st r) (hi : HInv h) :
    Calls Tryz.prog 92 #[.pointer (some ⟨hb, 0, none⟩), .agg #[.int .i64 x.d, .int .i64 x.s, .int .i64 x.md, .int .i64 x.at_, .int .i64 x.key, .int .i64 x.to_, .int .i64 x.keep, .string x.b]] w fun e w' => GoEnd w0 hb vb gb r (hdo h x) (hev h x) e w' := by
  have HS := hide hs
  have HX := hide (hz.two (xcs x) 79 #[.int .i64 0, .int .i64 0, .bool false, .string ⟨#[]⟩, .slice none 0 0] 102)
  have hjs : x.s.toNat = j := by omega
  have i0 : (0 : Int) ≤ (j : Int) := by omega
  have i5 : (j : Int) < 5 := by omega
  have hsj : h.seat j = some d := by rw [← hs j, hsd]; rfl
  have heq := (HKind.commit (h := h) (x := x) d hx ⟨by omega, by omega⟩ (by rw [hjs]; exact hsj)).eq
  rw [heq.1, heq.2]
  clear heq hz hs hsj
  have hda : dat st (j : Int) = some (D, d) := by rw [dat_in h5, hsd]
  have hfc : fcode st (j : Int) = 0 := by unfold fcode; rw [if_pos ⟨i0, i5⟩, Int.toNat_natCast, hsd]; rfl
  have HI := hide hi
  have HW := hide (hi.ok j d (by rw [← unhide HS j, hsd]; rfl))
  clear hi
  obtain ⟨xd, xs, xm, xa, xk, xt, xp, xb⟩ := x
  dsimp only [xcs] at *
  subst hx hj
  go_enter Tryz.func92, Tryz.ntmps92
  go_wp2_with fail
  generalize (w.alloc (.cells #[.int .i64 6, .int .i64 (j : Int), .int .i64 xm, .int .i64 xa, .int .i64 xk, .int .i64 xt, .int .i64 xp, .string xb] 79)).alloc (.cells #[.int .i64 0, .int .i64 0, .bool false, .string ⟨#[]⟩, .slice none 0 0] 102) = W at HX ⊢
  generalize w.heap.size = q at HX ⊢
  generalize q + 1 = p at HX ⊢
  have hq := (unhide HX).var (List.Mem.tail _ (List.Mem.head _))
  have x0 : W.cell? ⟨q, 0, none⟩ = some (.int .i64 6) := cell_of_block hq rfl
  have x1 : W.cell? ⟨q, 1, none⟩ = some (.int .i64 (j : Int)) := cell_of_block hq rfl
  have x4 : W.cell? ⟨q, 4, none⟩ = some (.int .i64 xk) := cell_of_block hq rfl
  have x5 : W.cell? ⟨q, 5, none⟩ = some (.int .i64 xt) := cell_of_block hq rfl
  have x6 : W.cell? ⟨q, 6, none⟩ = some (.int .i64 xp) := cell_of_block hq rfl
  have x7 : W.cell? ⟨q, 7, none⟩ = some (.string xb) := cell_of_block hq rfl
  have ql := lt_of_block hq
  clear hq
  refine (h_find (j : Int) (unhide HX)).mono ?_
  rintro e w' ⟨rfl, hw'⟩
  subst w'
  rw [hda, hfc]
  rw [show sp (some (D, d)) = .pointer (some ⟨D, 0, none⟩) from rfl]
  have HE := hide ((unhide HX).new #[.int .i64 0, .int .i64 0, .bool false, .string ⟨#[]⟩, .slice none 0 0] 102)
  have pl := lt_of_block ((unhide HX).var (List.Mem.head _))
  have hl := (unhide HX).lt
  have vl := (unhide HX).vlt_
  have c0 := (unhide HX).c0
  have v0 := (unhide HX).v0
  obtain ⟨e0, e1, e2, e3, e4, g0, g1, g2, g3, g4⟩ := evF ((unhide HX).var (List.Mem.head _))
  go_wp2_with fail
  generalize W.alloc (.cells #[.int .i64 0, .int .i64 0, .bool false, .string ⟨#[]⟩, .slice none 0 0] 102) = W2 at HE ⊢
  generalize W.heap.size = pe at HE ⊢
  clear e0 e1 e2 e3 e4 g0 g1 g2 g3 g4 x0 x1 x4 x5 x6 x7 ql pl hl vl c0 v0
  have c2 := (unhide HE).cs_ h5
  have f2 := (unhide HE).fz (1 + j)
  have hq := (unhide HE).var (List.Mem.tail _ (List.Mem.tail _ (List.Mem.head _)))
  have x1 : W2.cell? ⟨q, 1, none⟩ = some (.int .i64 (j : Int)) := cell_of_block hq rfl
  clear hq
  have HL := hide ((unhide HE).leave h5)
  rw [hsd] at HL
  go_region
  have HL2 := hide (((unhide HL).kp0 (Kp.refl [] _).drew).perm (List.perm_middle (l₁ := [_, _, _])).symm)
  clear HL HE HX c2 f2 x1
  generalize World.drew _ = W3 at HL2 ⊢
  have hq := (unhide HL2).var (List.Mem.tail _ (List.Mem.tail _ (List.Mem.head _)))
  have x0 : W3.cell? ⟨q, 0, none⟩ = some (.int .i64 6) := cell_of_block hq rfl
  have x6 : W3.cell? ⟨q, 6, none⟩ = some (.int .i64 xp) := cell_of_block hq rfl
  clear hq
  have c0 := (unhide HL2).c0
  go_wp2_with fail
  refine (h_commit (unhide HI) (unhide HW) (List.Mem.tail _ (List.Mem.tail _ (List.Mem.tail _ (List.Mem.head _)))) (unhide HL2)).mono ?_
  rintro e w4 ⟨rfl, HY⟩
  clear x0 x6 c0 HL2
  have hep := (unhide HY).var (List.Mem.head _)
  have hpp := (unhide HY).var (List.Mem.tail _ (List.Mem.head _))
  obtain ⟨a0, a1, a2, a3, a4, b0, b1, b2, b3, b4⟩ := evF hep
  obtain ⟨e0, e1, e2, e3, e4, g0, g1, g2, g3, g4⟩ := evF hpp
  clear hep hpp
  have hne := (unhide HY).ne2
  go_wp2_with fail
  refine bodyPost_ret (v := .agg #[.int .i64 (vcode h.f h.cs d.md d.y d.rs d.ws), .int .i64 (vnum h.f h.n h.cs d.md d.y d.rs d.ws), .bool false, .string ⟨#[]⟩, .slice none 0 0]) (by simp [results, Tryz.results92, go_sem, e0, e1, e2, e3, e4]) rfl ?_
  exact ⟨tb, _, none, 0, rfl, by show Sts _ (upd h.seat ((j : Int).toNat) none); rw [hjs]; exact (unhide HS).put j none, (((((unhide HY).set0 1 _).set0 0 _).tail).fin _ _ _ _ _).tail.ps.as rfl rfl rfl⟩
set_option maxHeartbeats 1000000 in
theorem end_abort (x : HStep) (hx : x.d = 7) {j D : Nat} {d : Dp} (hj : x.s = (j : Int)) (h5 : j < 5) (hsd : st j = some (D, d)) (hs : Sts st h.seat) (hz : Hall w0 w hb vb tb gb h st r) (hi : HInv h) :
    Calls Tryz.prog 92 #[.pointer (some ⟨hb, 0, none⟩), .agg #[.int .i64 x.d, .int .i64 x.s, .int .i64 x.md, .int .i64 x.at_, .int .i64 x.key, .int .i64 x.to_, .int .i64 x.keep, .string x.b]] w fun e w' => GoEnd w0 hb vb gb r (hdo h x) (hev h x) e w' := by
  have HS := hide hs
  have HX := hide (hz.two (xcs x) 79 #[.int .i64 0, .int .i64 0, .bool false, .string ⟨#[]⟩, .slice none 0 0] 102)
  have hjs : x.s.toNat = j := by omega
  have i0 : (0 : Int) ≤ (j : Int) := by omega
  have i5 : (j : Int) < 5 := by omega
  have hsj : h.seat j = some d := by rw [← hs j, hsd]; rfl
  have heq := (HKind.abort (h := h) (x := x) d hx ⟨by omega, by omega⟩ (by rw [hjs]; exact hsj)).eq
  rw [heq.1, heq.2]
  clear heq hz hs hsj
  have hda : dat st (j : Int) = some (D, d) := by rw [dat_in h5, hsd]
  have hfc : fcode st (j : Int) = 0 := by unfold fcode; rw [if_pos ⟨i0, i5⟩, Int.toNat_natCast, hsd]; rfl
  have HI := hide hi
  have HW := hide (hi.ok j d (by rw [← unhide HS j, hsd]; rfl))
  clear hi
  obtain ⟨xd, xs, xm, xa, xk, xt, xp, xb⟩ := x
  dsimp only [xcs] at *
  subst hx hj
  go_enter Tryz.func92, Tryz.ntmps92
  go_wp2_with fail
  generalize (w.alloc (.cells #[.int .i64 7, .int .i64 (j : Int), .int .i64 xm, .int .i64 xa, .int .i64 xk, .int .i64 xt, .int .i64 xp, .string xb] 79)).alloc (.cells #[.int .i64 0, .int .i64 0, .bool false, .string ⟨#[]⟩, .slice none 0 0] 102) = W at HX ⊢
  generalize w.heap.size = q at HX ⊢
  generalize q + 1 = p at HX ⊢
  have hq := (unhide HX).var (List.Mem.tail _ (List.Mem.head _))
  have x0 : W.cell? ⟨q, 0, none⟩ = some (.int .i64 7) := cell_of_block hq rfl
  have x1 : W.cell? ⟨q, 1, none⟩ = some (.int .i64 (j : Int)) := cell_of_block hq rfl
  have x4 : W.cell? ⟨q, 4, none⟩ = some (.int .i64 xk) := cell_of_block hq rfl
  have x5 : W.cell? ⟨q, 5, none⟩ = some (.int .i64 xt) := cell_of_block hq rfl
  have x6 : W.cell? ⟨q, 6, none⟩ = some (.int .i64 xp) := cell_of_block hq rfl
  have x7 : W.cell? ⟨q, 7, none⟩ = some (.string xb) := cell_of_block hq rfl
  have ql := lt_of_block hq
  clear hq
  refine (h_find (j : Int) (unhide HX)).mono ?_
  rintro e w' ⟨rfl, hw'⟩
  subst w'
  rw [hda, hfc]
  rw [show sp (some (D, d)) = .pointer (some ⟨D, 0, none⟩) from rfl]
  have HE := hide ((unhide HX).new #[.int .i64 0, .int .i64 0, .bool false, .string ⟨#[]⟩, .slice none 0 0] 102)
  have pl := lt_of_block ((unhide HX).var (List.Mem.head _))
  have hl := (unhide HX).lt
  have vl := (unhide HX).vlt_
  have c0 := (unhide HX).c0
  have v0 := (unhide HX).v0
  obtain ⟨e0, e1, e2, e3, e4, g0, g1, g2, g3, g4⟩ := evF ((unhide HX).var (List.Mem.head _))
  go_wp2_with fail
  generalize W.alloc (.cells #[.int .i64 0, .int .i64 0, .bool false, .string ⟨#[]⟩, .slice none 0 0] 102) = W2 at HE ⊢
  generalize W.heap.size = pe at HE ⊢
  clear e0 e1 e2 e3 e4 g0 g1 g2 g3 g4 x0 x1 x4 x5 x6 x7 ql pl hl vl c0 v0
  have c2 := (unhide HE).cs_ h5
  have f2 := (unhide HE).fz (1 + j)
  have hq := (unhide HE).var (List.Mem.tail _ (List.Mem.tail _ (List.Mem.head _)))
  have x1 : W2.cell? ⟨q, 1, none⟩ = some (.int .i64 (j : Int)) := cell_of_block hq rfl
  clear hq
  have HL := hide ((unhide HE).leave h5)
  rw [hsd] at HL
  go_region
  have HL2 := hide (((unhide HL).kp0 (Kp.refl [] _).drew).perm (List.perm_middle (l₁ := [_, _, _])).symm)
  clear HL HE HX c2 f2 x1
  generalize World.drew _ = W3 at HL2 ⊢
  have hq := (unhide HL2).var (List.Mem.tail _ (List.Mem.tail _ (List.Mem.head _)))
  have x0 : W3.cell? ⟨q, 0, none⟩ = some (.int .i64 7) := cell_of_block hq rfl
  have x6 : W3.cell? ⟨q, 6, none⟩ = some (.int .i64 xp) := cell_of_block hq rfl
  clear hq
  have c0 := (unhide HL2).c0
  have HY := HL2
  have hep := (unhide HY).var (List.Mem.head _)
  have hpp := (unhide HY).var (List.Mem.tail _ (List.Mem.head _))
  obtain ⟨a0, a1, a2, a3, a4, b0, b1, b2, b3, b4⟩ := evF hep
  obtain ⟨e0, e1, e2, e3, e4, g0, g1, g2, g3, g4⟩ := evF hpp
  clear hep hpp
  have hne := (unhide HY).ne2
  go_wp2_with fail
  refine bodyPost_ret (v := .agg #[.int .i64 0, .int .i64 0, .bool false, .string ⟨#[]⟩, .slice none 0 0]) (by simp [results, Tryz.results92, go_sem, e0, e1, e2, e3, e4]) rfl ?_
  exact ⟨tb, _, none, 0, rfl, by show Sts _ (upd h.seat ((j : Int).toNat) none); rw [hjs]; exact (unhide HS).put j none, (((unhide HY).tail).fin _ _ _ _ _).tail.ps.as rfl rfl rfl⟩
end
end
/- A hall's end: Tear. -/
section
open Go.RowKit
attribute [local go_sem ↓] Go.wp_at_zero Go.wp_at_succ

theorem ev_set10 (a b c d e x y : Value) : ((#[a, b, c, d, e] : Array Value).setIfInBounds 1 x).setIfInBounds 0 y = #[y, x, c, d, e] := rfl
section
variable {w0 w : World} {hb vb tb gb : Nat} {h : HSt} {st : Nat → Sd} {r : List Thing}
set_option maxHeartbeats 1000000 in
theorem end_tear (x : HStep) (hx : x.d = 10) {j D : Nat} {d : Dp} (hj : x.s = (j : Int)) (h5 : j < 5) (hsd : st j = some (D, d)) (hs : Sts st h.seat) (hz : Hall w0 w hb vb tb gb h st r) (hi : HInv h) :
    Calls Tryz.prog 92 #[.pointer (some ⟨hb, 0, none⟩), .agg #[.int .i64 x.d, .int .i64 x.s, .int .i64 x.md, .int .i64 x.at_, .int .i64 x.key, .int .i64 x.to_, .int .i64 x.keep, .string x.b]] w fun e w' => GoEnd w0 hb vb gb r (hdo h x) (hev h x) e w' := by
  have HS := hide hs
  have HX := hide (hz.two (xcs x) 79 #[.int .i64 0, .int .i64 0, .bool false, .string ⟨#[]⟩, .slice none 0 0] 102)
  have hjs : x.s.toNat = j := by omega
  have i0 : (0 : Int) ≤ (j : Int) := by omega
  have i5 : (j : Int) < 5 := by omega
  have hsj : h.seat j = some d := by rw [← hs j, hsd]; rfl
  have heq := (HKind.tear (h := h) (x := x) d hx ⟨by omega, by omega⟩ (by rw [hjs]; exact hsj)).eq
  rw [heq.1, heq.2]
  clear heq hz hs hsj
  have hda : dat st (j : Int) = some (D, d) := by rw [dat_in h5, hsd]
  have hfc : fcode st (j : Int) = 0 := by unfold fcode; rw [if_pos ⟨i0, i5⟩, Int.toNat_natCast, hsd]; rfl
  have HI := hide hi
  have HW := hide (hi.ok j d (by rw [← unhide HS j, hsd]; rfl))
  clear hi
  obtain ⟨xd, xs, xm, xa, xk, xt, xp, xb⟩ := x
  dsimp only [xcs] at *
  subst hx hj
  go_enter Tryz.func92, Tryz.ntmps92
  go_wp2_with fail
  generalize (w.alloc (.cells #[.int .i64 10, .int .i64 (j : Int), .int .i64 xm, .int .i64 xa, .int .i64 xk, .int .i64 xt, .int .i64 xp, .string xb] 79)).alloc (.cells #[.int .i64 0, .int .i64 0, .bool false, .string ⟨#[]⟩, .slice none 0 0] 102) = W at HX ⊢
  generalize w.heap.size = q at HX ⊢
  generalize q + 1 = p at HX ⊢
  have hq := (unhide HX).var (List.Mem.tail _ (List.Mem.head _))
  have x0 : W.cell? ⟨q, 0, none⟩ = some (.int .i64 10) := cell_of_block hq rfl
  have x1 : W.cell? ⟨q, 1, none⟩ = some (.int .i64 (j : Int)) := cell_of_block hq rfl
  have x4 : W.cell? ⟨q, 4, none⟩ = some (.int .i64 xk) := cell_of_block hq rfl
  have x5 : W.cell? ⟨q, 5, none⟩ = some (.int .i64 xt) := cell_of_block hq rfl
  have x6 : W.cell? ⟨q, 6, none⟩ = some (.int .i64 xp) := cell_of_block hq rfl
  have x7 : W.cell? ⟨q, 7, none⟩ = some (.string xb) := cell_of_block hq rfl
  have ql := lt_of_block hq
  clear hq
  refine (h_find (j : Int) (unhide HX)).mono ?_
  rintro e w' ⟨rfl, hw'⟩
  subst w'
  rw [hda, hfc]
  rw [show sp (some (D, d)) = .pointer (some ⟨D, 0, none⟩) from rfl]
  have HE := hide ((unhide HX).new #[.int .i64 0, .int .i64 0, .bool false, .string ⟨#[]⟩, .slice none 0 0] 102)
  have pl := lt_of_block ((unhide HX).var (List.Mem.head _))
  have hl := (unhide HX).lt
  have vl := (unhide HX).vlt_
  have c0 := (unhide HX).c0
  have v0 := (unhide HX).v0
  obtain ⟨e0, e1, e2, e3, e4, g0, g1, g2, g3, g4⟩ := evF ((unhide HX).var (List.Mem.head _))
  go_wp2_with fail
  generalize W.alloc (.cells #[.int .i64 0, .int .i64 0, .bool false, .string ⟨#[]⟩, .slice none 0 0] 102) = W2 at HE ⊢
  generalize W.heap.size = pe at HE ⊢
  clear e0 e1 e2 e3 e4 g0 g1 g2 g3 g4 x0 x1 x4 x5 x6 x7 ql pl hl vl c0 v0
  have c2 := (unhide HE).cs_ h5
  have f2 := (unhide HE).fz (1 + j)
  have hq := (unhide HE).var (List.Mem.tail _ (List.Mem.tail _ (List.Mem.head _)))
  have x1 : W2.cell? ⟨q, 1, none⟩ = some (.int .i64 (j : Int)) := cell_of_block hq rfl
  clear hq
  have HL := hide ((unhide HE).leave h5)
  rw [hsd] at HL
  go_region
  have HL2 := hide (((unhide HL).kp0 (Kp.refl [] _).drew).perm (List.perm_middle (l₁ := [_, _, _])).symm)
  clear HL HE HX c2 f2 x1
  generalize World.drew _ = W3 at HL2 ⊢
  have hq := (unhide HL2).var (List.Mem.tail _ (List.Mem.tail _ (List.Mem.head _)))
  have x0 : W3.cell? ⟨q, 0, none⟩ = some (.int .i64 10) := cell_of_block hq rfl
  have x6 : W3.cell? ⟨q, 6, none⟩ = some (.int .i64 xp) := cell_of_block hq rfl
  clear hq
  have c0 := (unhide HL2).c0
  have HG := hide (fun W' (hk : Kp [] W3 W') => h_tear xp (unhide HI) (unhide HW) (List.Mem.tail _ (List.Mem.tail _ (List.Mem.tail _ (List.Mem.head _)))) ((unhide HL2).kp0 hk))
  go_wp2_with fail
  go_region_with (go_at_call 137; refine (unhide HG _ (Kp.refl [] W3).drew).mono ?_; rintro e w4 ⟨rfl, tb', HY⟩; (have hep := (unhide HY).var (List.Mem.head _)); (obtain ⟨a0, a1, a2, a3, a4, b0, b1, b2, b3, b4⟩ := evF hep); clear hep)
  all_goals
    have HY2 := hide (((unhide HY).set0 1 (.int .i64 (tnum h.f h.cs d.md d.y d.rs d.ws xp))).set0 0 (.int .i64 (vcode h.f h.cs d.md d.y d.rs d.ws)))
    clear a0 a1 a2 a3 a4 b0 b1 b2 b3 b4 HY HG x0 x6 c0
    rw [ev_set10] at HY2
    go_wp2_with fail
    refine (h_leaveAll (unhide HY2)).mono ?_
    rintro e w5 ⟨rfl, HY⟩
    clear HY2
    have hep := (unhide HY).var (List.Mem.head _)
    have hpp := (unhide HY).var (List.Mem.tail _ (List.Mem.head _))
    obtain ⟨a0, a1, a2, a3, a4, b0, b1, b2, b3, b4⟩ := evF hep
    obtain ⟨e0, e1, e2, e3, e4, g0, g1, g2, g3, g4⟩ := evF hpp
    clear hep hpp
    have hne := (unhide HY).ne2
    go_wp2_with fail
    refine bodyPost_ret (v := .agg #[.int .i64 (vcode h.f h.cs d.md d.y d.rs d.ws), .int .i64 (tnum h.f h.cs d.md d.y d.rs d.ws xp), .bool false, .string ⟨#[]⟩, .slice none 0 0]) (by simp [results, Tryz.results92, go_sem, e0, e1, e2, e3, e4]) rfl ?_
    exact ⟨tb', _, none, 0, rfl, fun _ => rfl, (((unhide HY).tail).fin _ _ _ _ _).tail.ps.as rfl rfl rfl⟩
end
end
/- A hall's Do: the kinds by themselves. -/
section
open Go.RowKit
attribute [local go_sem ↓] Go.wp_at_zero Go.wp_at_succ

section
variable {w0 w : World} {hb vb tb gb : Nat} {h : HSt} {st : Nat → Sd} {r : List Thing}
set_option maxHeartbeats 1000000 in
theorem do_kind (x : HStep) (hs : Sts st h.seat) (hz : Hall w0 w hb vb tb gb h st r) (hx : x.d < 1 ∨ 10 < x.d) :
    Calls Tryz.prog 53 #[.pointer (some ⟨hb, 0, none⟩), .agg #[.int .i64 x.d, .int .i64 x.s, .int .i64 x.md, .int .i64 x.at_, .int .i64 x.key, .int .i64 x.to_, .int .i64 x.keep, .string x.b]] w fun e w' => GoEnd w0 hb vb gb r (hdo h x) (hev h x) e w' := by
  have heq := (HKind.kind (h := h) (x := x) hx).eq
  rw [heq.1, heq.2]
  clear heq
  have HS := hide hs
  have HX := hide (hz.two (xcs x) 79 #[.int .i64 3, .int .i64 0, .bool false, .string ⟨#[]⟩, .slice none 0 0] 102)
  clear hz hs
  obtain ⟨xd, xs, xm, xa, xk, xt, xp, xb⟩ := x
  dsimp only [xcs] at *
  have k1 : (xd == 1) = false := beq_eq_false_iff_ne.2 (by omega)
  have k2 : (xd == 2) = false := beq_eq_false_iff_ne.2 (by omega)
  have k3 : (xd == 3) = false := beq_eq_false_iff_ne.2 (by omega)
  have k4 : (xd == 4) = false := beq_eq_false_iff_ne.2 (by omega)
  have k5 : (xd == 5) = false := beq_eq_false_iff_ne.2 (by omega)
  have k6 : (xd == 6) = false := beq_eq_false_iff_ne.2 (by omega)
  have k7 : (xd == 7) = false := beq_eq_false_iff_ne.2 (by omega)
  have k8 : (xd == 8) = false := beq_eq_false_iff_ne.2 (by omega)
  have k9 : (xd == 9) = false := beq_eq_false_iff_ne.2 (by omega)
  have k10 : (xd == 10) = false := beq_eq_false_iff_ne.2 (by omega)
  go_enter Tryz.func53, Tryz.ntmps53
  go_wp2_with fail
  refine bodyPost_ret (v := .agg #[.int .i64 3, .int .i64 0, .bool false, .string ⟨#[]⟩, .slice none 0 0]) (by simp [results, Tryz.results53, go_sem]) rfl ?_
  exact ⟨tb, st, none, 0, rfl, unhide HS, (unhide HX).tail.tail.ps⟩
set_option maxHeartbeats 1000000 in
theorem do_crash (x : HStep) (hs : Sts st h.seat) (hz : Hall w0 w hb vb tb gb h st r) (hx : x.d = 9) :
    Calls Tryz.prog 53 #[.pointer (some ⟨hb, 0, none⟩), .agg #[.int .i64 x.d, .int .i64 x.s, .int .i64 x.md, .int .i64 x.at_, .int .i64 x.key, .int .i64 x.to_, .int .i64 x.keep, .string x.b]] w fun e w' => GoEnd w0 hb vb gb r (hdo h x) (hev h x) e w' := by
  have heq := (HKind.crash (h := h) (x := x) hx).eq
  rw [heq.1, heq.2]
  clear heq
  have HS := hide hs
  have HX := hide (hz.two (xcs x) 79 #[.int .i64 0, .int .i64 0, .bool false, .string ⟨#[]⟩, .slice none 0 0] 102)
  have c0 := hz.c0
  have hl := hz.lt
  clear hz hs
  obtain ⟨xd, xs, xm, xa, xk, xt, xp, xb⟩ := x
  dsimp only [xcs] at *
  subst hx
  go_enter Tryz.func53, Tryz.ntmps53
  go_wp2_with fail
  generalize (w.alloc (.cells #[.int .i64 9, .int .i64 xs, .int .i64 xm, .int .i64 xa, .int .i64 xk, .int .i64 xt, .int .i64 xp, .string xb] 79)).alloc (.cells #[.int .i64 0, .int .i64 0, .bool false, .string ⟨#[]⟩, .slice none 0 0] 102) = W at HX ⊢
  generalize w.heap.size = q at HX ⊢
  generalize q + 1 = p at HX ⊢
  refine (h_crash (unhide HX)).mono ?_
  rintro e w1 ⟨rfl, tb', H1⟩
  clear HX
  go_wp2_with fail
  refine (h_leaveAll (unhide H1)).mono ?_
  rintro e w2 ⟨rfl, HY⟩
  clear H1
  obtain ⟨e0, e1, e2, e3, e4, g0, g1, g2, g3, g4⟩ := evF ((unhide HY).var (List.Mem.head _))
  go_wp2_with fail
  refine bodyPost_ret (v := .agg #[.int .i64 0, .int .i64 0, .bool false, .string ⟨#[]⟩, .slice none 0 0]) (by simp [results, Tryz.results53, go_sem, e0, e1, e2, e3, e4]) rfl ?_
  exact ⟨tb', _, none, 0, rfl, fun _ => rfl, ((unhide HY).fin _ _ _ _ _).ps.as rfl rfl rfl⟩
set_option maxHeartbeats 1000000 in
theorem do_begin (x : HStep) (hs : Sts st h.seat) (hz : Hall w0 w hb vb tb gb h st r) (hx : x.d = 1) :
    Calls Tryz.prog 53 #[.pointer (some ⟨hb, 0, none⟩), .agg #[.int .i64 x.d, .int .i64 x.s, .int .i64 x.md, .int .i64 x.at_, .int .i64 x.key, .int .i64 x.to_, .int .i64 x.keep, .string x.b]] w fun e w' => GoEnd w0 hb vb gb r (hdo h x) (hev h x) e w' := by
  have HS := hide hs
  have HX := hide (hz.two (xcs x) 79 #[.int .i64 0, .int .i64 0, .bool false, .string ⟨#[]⟩, .slice none 0 0] 102)
  clear hz hs
  have HB := hide (fun W (hz : Hall w0 W hb vb tb gb h st (BoxT (w.heap.size + 1) #[.int .i64 0, .int .i64 0, .bool false, .string ⟨#[]⟩, .slice none 0 0] 102 :: BoxT w.heap.size (xcs x) 79 :: r)) => h_begin x hx (unhide HS) hz)
  generalize hdo h x = h' at *
  generalize hev h x = v at *
  obtain ⟨xd, xs, xm, xa, xk, xt, xp, xb⟩ := x
  dsimp only [xcs] at *
  subst hx
  go_enter Tryz.func53, Tryz.ntmps53
  go_wp2_with fail
  have HB2 := hide (unhide HB _ (unhide HX))
  clear HB
  generalize (w.alloc (.cells #[.int .i64 1, .int .i64 xs, .int .i64 xm, .int .i64 xa, .int .i64 xk, .int .i64 xt, .int .i64 xp, .string xb] 79)).alloc (.cells #[.int .i64 0, .int .i64 0, .bool false, .string ⟨#[]⟩, .slice none 0 0] 102) = W at HX HB2 ⊢
  generalize w.heap.size = q at HX HB2 ⊢
  generalize q + 1 = p at HX HB2 ⊢
  refine (unhide HB2).mono ?_
  rintro e w1 ⟨st', rfl, hv, hs', HY⟩
  have HS' := hide hs'
  have HV := hide hv
  clear HX HB2 hs' hv
  obtain ⟨e0, e1, e2, e3, e4, g0, g1, g2, g3, g4⟩ := evF ((unhide HY).var (List.Mem.head _))
  go_wp2_with fail
  refine bodyPost_ret (v := .agg #[.int .i64 v.c, .int .i64 0, .bool false, .string ⟨#[]⟩, .slice none 0 0]) (by simp [results, Tryz.results53, go_sem, e0, e1, e2, e3, e4]) rfl ?_
  rw [unhide HV]
  exact ⟨tb, st', none, 0, rfl, unhide HS', ((unhide HY).fin _ _ _ _ _).ps⟩
set_option maxHeartbeats 1000000 in
theorem do_on2 (x : HStep) (hz : Hall w0 w hb vb tb gb h st r) (hx : x.d = 2) (hc : ∀ {w : World} {r : List Thing}, Hall w0 w hb vb tb gb h st r → Calls Tryz.prog 91 #[.pointer (some ⟨hb, 0, none⟩), .agg #[.int .i64 x.d, .int .i64 x.s, .int .i64 x.md, .int .i64 x.at_, .int .i64 x.key, .int .i64 x.to_, .int .i64 x.keep, .string x.b]] w fun e w' => GoEnd w0 hb vb gb r (hdo h x) (hev h x) e w') :
    Calls Tryz.prog 53 #[.pointer (some ⟨hb, 0, none⟩), .agg #[.int .i64 x.d, .int .i64 x.s, .int .i64 x.md, .int .i64 x.at_, .int .i64 x.key, .int .i64 x.to_, .int .i64 x.keep, .string x.b]] w fun e w' => GoEnd w0 hb vb gb r (hdo h x) (hev h x) e w' := by
  have HX := hide (hz.two (xcs x) 79 #[.int .i64 0, .int .i64 0, .bool false, .string ⟨#[]⟩, .slice none 0 0] 102)
  clear hz
  have HB := hide (hc (unhide HX))
  clear hc
  generalize hdo h x = h' at *
  generalize hev h x = v at *
  obtain ⟨xd, xs, xm, xa, xk, xt, xp, xb⟩ := x
  dsimp only [xcs] at *
  subst hx
  go_enter Tryz.func53, Tryz.ntmps53
  go_wp2_with fail
  generalize (w.alloc (.cells #[.int .i64 2, .int .i64 xs, .int .i64 xm, .int .i64 xa, .int .i64 xk, .int .i64 xt, .int .i64 xp, .string xb] 79)).alloc (.cells #[.int .i64 0, .int .i64 0, .bool false, .string ⟨#[]⟩, .slice none 0 0] 102) = W at HX HB ⊢
  generalize w.heap.size = q at HX HB ⊢
  generalize q + 1 = p at HX HB ⊢
  refine (unhide HB).mono ?_
  rintro e w1 ⟨tb', st', a, cap, rfl, hs', HY0⟩
  have HY := hide ((unhide HY0).perm (List.perm_middle (l₁ := [_, _])).symm)
  have HS' := hide hs'
  clear HX HB hs' HY0
  obtain ⟨e0, e1, e2, e3, e4, g0, g1, g2, g3, g4⟩ := evF ((unhide HY).var (List.Mem.head _))
  go_wp2_with fail
  refine bodyPost_ret (v := .agg #[.int .i64 v.c, .int .i64 v.n, .bool v.t, .string v.s, .slice a v.l.length cap]) (by simp [results, Tryz.results53, go_sem, e0, e1, e2, e3, e4]) rfl ?_
  exact ⟨tb', st', a, cap, rfl, unhide HS', (unhide HY).fin _ _ _ _ _⟩
set_option maxHeartbeats 1000000 in
theorem do_on3 (x : HStep) (hz : Hall w0 w hb vb tb gb h st r) (hx : x.d = 3) (hc : ∀ {w : World} {r : List Thing}, Hall w0 w hb vb tb gb h st r → Calls Tryz.prog 91 #[.pointer (some ⟨hb, 0, none⟩), .agg #[.int .i64 x.d, .int .i64 x.s, .int .i64 x.md, .int .i64 x.at_, .int .i64 x.key, .int .i64 x.to_, .int .i64 x.keep, .string x.b]] w fun e w' => GoEnd w0 hb vb gb r (hdo h x) (hev h x) e w') :
    Calls Tryz.prog 53 #[.pointer (some ⟨hb, 0, none⟩), .agg #[.int .i64 x.d, .int .i64 x.s, .int .i64 x.md, .int .i64 x.at_, .int .i64 x.key, .int .i64 x.to_, .int .i64 x.keep, .string x.b]] w fun e w' => GoEnd w0 hb vb gb r (hdo h x) (hev h x) e w' := by
  have HX := hide (hz.two (xcs x) 79 #[.int .i64 0, .int .i64 0, .bool false, .string ⟨#[]⟩, .slice none 0 0] 102)
  clear hz
  have HB := hide (hc (unhide HX))
  clear hc
  generalize hdo h x = h' at *
  generalize hev h x = v at *
  obtain ⟨xd, xs, xm, xa, xk, xt, xp, xb⟩ := x
  dsimp only [xcs] at *
  subst hx
  go_enter Tryz.func53, Tryz.ntmps53
  go_wp2_with fail
  generalize (w.alloc (.cells #[.int .i64 3, .int .i64 xs, .int .i64 xm, .int .i64 xa, .int .i64 xk, .int .i64 xt, .int .i64 xp, .string xb] 79)).alloc (.cells #[.int .i64 0, .int .i64 0, .bool false, .string ⟨#[]⟩, .slice none 0 0] 102) = W at HX HB ⊢
  generalize w.heap.size = q at HX HB ⊢
  generalize q + 1 = p at HX HB ⊢
  refine (unhide HB).mono ?_
  rintro e w1 ⟨tb', st', a, cap, rfl, hs', HY0⟩
  have HY := hide ((unhide HY0).perm (List.perm_middle (l₁ := [_, _])).symm)
  have HS' := hide hs'
  clear HX HB hs' HY0
  obtain ⟨e0, e1, e2, e3, e4, g0, g1, g2, g3, g4⟩ := evF ((unhide HY).var (List.Mem.head _))
  go_wp2_with fail
  refine bodyPost_ret (v := .agg #[.int .i64 v.c, .int .i64 v.n, .bool v.t, .string v.s, .slice a v.l.length cap]) (by simp [results, Tryz.results53, go_sem, e0, e1, e2, e3, e4]) rfl ?_
  exact ⟨tb', st', a, cap, rfl, unhide HS', (unhide HY).fin _ _ _ _ _⟩
set_option maxHeartbeats 1000000 in
theorem do_on4 (x : HStep) (hz : Hall w0 w hb vb tb gb h st r) (hx : x.d = 4) (hc : ∀ {w : World} {r : List Thing}, Hall w0 w hb vb tb gb h st r → Calls Tryz.prog 91 #[.pointer (some ⟨hb, 0, none⟩), .agg #[.int .i64 x.d, .int .i64 x.s, .int .i64 x.md, .int .i64 x.at_, .int .i64 x.key, .int .i64 x.to_, .int .i64 x.keep, .string x.b]] w fun e w' => GoEnd w0 hb vb gb r (hdo h x) (hev h x) e w') :
    Calls Tryz.prog 53 #[.pointer (some ⟨hb, 0, none⟩), .agg #[.int .i64 x.d, .int .i64 x.s, .int .i64 x.md, .int .i64 x.at_, .int .i64 x.key, .int .i64 x.to_, .int .i64 x.keep, .string x.b]] w fun e w' => GoEnd w0 hb vb gb r (hdo h x) (hev h x) e w' := by
  have HX := hide (hz.two (xcs x) 79 #[.int .i64 0, .int .i64 0, .bool false, .string ⟨#[]⟩, .slice none 0 0] 102)
  clear hz
  have HB := hide (hc (unhide HX))
  clear hc
  generalize hdo h x = h' at *
  generalize hev h x = v at *
  obtain ⟨xd, xs, xm, xa, xk, xt, xp, xb⟩ := x
  dsimp only [xcs] at *
  subst hx
  go_enter Tryz.func53, Tryz.ntmps53
  go_wp2_with fail
  generalize (w.alloc (.cells #[.int .i64 4, .int .i64 xs, .int .i64 xm, .int .i64 xa, .int .i64 xk, .int .i64 xt, .int .i64 xp, .string xb] 79)).alloc (.cells #[.int .i64 0, .int .i64 0, .bool false, .string ⟨#[]⟩, .slice none 0 0] 102) = W at HX HB ⊢
  generalize w.heap.size = q at HX HB ⊢
  generalize q + 1 = p at HX HB ⊢
  refine (unhide HB).mono ?_
  rintro e w1 ⟨tb', st', a, cap, rfl, hs', HY0⟩
  have HY := hide ((unhide HY0).perm (List.perm_middle (l₁ := [_, _])).symm)
  have HS' := hide hs'
  clear HX HB hs' HY0
  obtain ⟨e0, e1, e2, e3, e4, g0, g1, g2, g3, g4⟩ := evF ((unhide HY).var (List.Mem.head _))
  go_wp2_with fail
  refine bodyPost_ret (v := .agg #[.int .i64 v.c, .int .i64 v.n, .bool v.t, .string v.s, .slice a v.l.length cap]) (by simp [results, Tryz.results53, go_sem, e0, e1, e2, e3, e4]) rfl ?_
  exact ⟨tb', st', a, cap, rfl, unhide HS', (unhide HY).fin _ _ _ _ _⟩
set_option maxHeartbeats 1000000 in
theorem do_on5 (x : HStep) (hz : Hall w0 w hb vb tb gb h st r) (hx : x.d = 5) (hc : ∀ {w : World} {r : List Thing}, Hall w0 w hb vb tb gb h st r → Calls Tryz.prog 91 #[.pointer (some ⟨hb, 0, none⟩), .agg #[.int .i64 x.d, .int .i64 x.s, .int .i64 x.md, .int .i64 x.at_, .int .i64 x.key, .int .i64 x.to_, .int .i64 x.keep, .string x.b]] w fun e w' => GoEnd w0 hb vb gb r (hdo h x) (hev h x) e w') :
    Calls Tryz.prog 53 #[.pointer (some ⟨hb, 0, none⟩), .agg #[.int .i64 x.d, .int .i64 x.s, .int .i64 x.md, .int .i64 x.at_, .int .i64 x.key, .int .i64 x.to_, .int .i64 x.keep, .string x.b]] w fun e w' => GoEnd w0 hb vb gb r (hdo h x) (hev h x) e w' := by
  have HX := hide (hz.two (xcs x) 79 #[.int .i64 0, .int .i64 0, .bool false, .string ⟨#[]⟩, .slice none 0 0] 102)
  clear hz
  have HB := hide (hc (unhide HX))
  clear hc
  generalize hdo h x = h' at *
  generalize hev h x = v at *
  obtain ⟨xd, xs, xm, xa, xk, xt, xp, xb⟩ := x
  dsimp only [xcs] at *
  subst hx
  go_enter Tryz.func53, Tryz.ntmps53
  go_wp2_with fail
  generalize (w.alloc (.cells #[.int .i64 5, .int .i64 xs, .int .i64 xm, .int .i64 xa, .int .i64 xk, .int .i64 xt, .int .i64 xp, .string xb] 79)).alloc (.cells #[.int .i64 0, .int .i64 0, .bool false, .string ⟨#[]⟩, .slice none 0 0] 102) = W at HX HB ⊢
  generalize w.heap.size = q at HX HB ⊢
  generalize q + 1 = p at HX HB ⊢
  refine (unhide HB).mono ?_
  rintro e w1 ⟨tb', st', a, cap, rfl, hs', HY0⟩
  have HY := hide ((unhide HY0).perm (List.perm_middle (l₁ := [_, _])).symm)
  have HS' := hide hs'
  clear HX HB hs' HY0
  obtain ⟨e0, e1, e2, e3, e4, g0, g1, g2, g3, g4⟩ := evF ((unhide HY).var (List.Mem.head _))
  go_wp2_with fail
  refine bodyPost_ret (v := .agg #[.int .i64 v.c, .int .i64 v.n, .bool v.t, .string v.s, .slice a v.l.length cap]) (by simp [results, Tryz.results53, go_sem, e0, e1, e2, e3, e4]) rfl ?_
  exact ⟨tb', st', a, cap, rfl, unhide HS', (unhide HY).fin _ _ _ _ _⟩
set_option maxHeartbeats 1000000 in
theorem do_end6 (x : HStep) (hz : Hall w0 w hb vb tb gb h st r) (hx : x.d = 6) (hc : ∀ {w : World} {r : List Thing}, Hall w0 w hb vb tb gb h st r → Calls Tryz.prog 92 #[.pointer (some ⟨hb, 0, none⟩), .agg #[.int .i64 x.d, .int .i64 x.s, .int .i64 x.md, .int .i64 x.at_, .int .i64 x.key, .int .i64 x.to_, .int .i64 x.keep, .string x.b]] w fun e w' => GoEnd w0 hb vb gb r (hdo h x) (hev h x) e w') :
    Calls Tryz.prog 53 #[.pointer (some ⟨hb, 0, none⟩), .agg #[.int .i64 x.d, .int .i64 x.s, .int .i64 x.md, .int .i64 x.at_, .int .i64 x.key, .int .i64 x.to_, .int .i64 x.keep, .string x.b]] w fun e w' => GoEnd w0 hb vb gb r (hdo h x) (hev h x) e w' := by
  have HX := hide (hz.two (xcs x) 79 #[.int .i64 0, .int .i64 0, .bool false, .string ⟨#[]⟩, .slice none 0 0] 102)
  clear hz
  have HB := hide (hc (unhide HX))
  clear hc
  generalize hdo h x = h' at *
  generalize hev h x = v at *
  obtain ⟨xd, xs, xm, xa, xk, xt, xp, xb⟩ := x
  dsimp only [xcs] at *
  subst hx
  go_enter Tryz.func53, Tryz.ntmps53
  go_wp2_with fail
  generalize (w.alloc (.cells #[.int .i64 6, .int .i64 xs, .int .i64 xm, .int .i64 xa, .int .i64 xk, .int .i64 xt, .int .i64 xp, .string xb] 79)).alloc (.cells #[.int .i64 0, .int .i64 0, .bool false, .string ⟨#[]⟩, .slice none 0 0] 102) = W at HX HB ⊢
  generalize w.heap.size = q at HX HB ⊢
  generalize q + 1 = p at HX HB ⊢
  refine (unhide HB).mono ?_
  rintro e w1 ⟨tb', st', a, cap, rfl, hs', HY0⟩
  have HY := hide ((unhide HY0).perm (List.perm_middle (l₁ := [_, _])).symm)
  have HS' := hide hs'
  clear HX HB hs' HY0
  obtain ⟨e0, e1, e2, e3, e4, g0, g1, g2, g3, g4⟩ := evF ((unhide HY).var (List.Mem.head _))
  go_wp2_with fail
  refine bodyPost_ret (v := .agg #[.int .i64 v.c, .int .i64 v.n, .bool v.t, .string v.s, .slice a v.l.length cap]) (by simp [results, Tryz.results53, go_sem, e0, e1, e2, e3, e4]) rfl ?_
  exact ⟨tb', st', a, cap, rfl, unhide HS', (unhide HY).fin _ _ _ _ _⟩
set_option maxHeartbeats 1000000 in
theorem do_end7 (x : HStep) (hz : Hall w0 w hb vb tb gb h st r) (hx : x.d = 7) (hc : ∀ {w : World} {r : List Thing}, Hall w0 w hb vb tb gb h st r → Calls Tryz.prog 92 #[.pointer (some ⟨hb, 0, none⟩), .agg #[.int .i64 x.d, .int .i64 x.s, .int .i64 x.md, .int .i64 x.at_, .int .i64 x.key, .int .i64 x.to_, .int .i64 x.keep, .string x.b]] w fun e w' => GoEnd w0 hb vb gb r (hdo h x) (hev h x) e w') :
    Calls Tryz.prog 53 #[.pointer (some ⟨hb, 0, none⟩), .agg #[.int .i64 x.d, .int .i64 x.s, .int .i64 x.md, .int .i64 x.at_, .int .i64 x.key, .int .i64 x.to_, .int .i64 x.keep, .string x.b]] w fun e w' => GoEnd w0 hb vb gb r (hdo h x) (hev h x) e w' := by
  have HX := hide (hz.two (xcs x) 79 #[.int .i64 0, .int .i64 0, .bool false, .string ⟨#[]⟩, .slice none 0 0] 102)
  clear hz
  have HB := hide (hc (unhide HX))
  clear hc
  generalize hdo h x = h' at *
  generalize hev h x = v at *
  obtain ⟨xd, xs, xm, xa, xk, xt, xp, xb⟩ := x
  dsimp only [xcs] at *
  subst hx
  go_enter Tryz.func53, Tryz.ntmps53
  go_wp2_with fail
  generalize (w.alloc (.cells #[.int .i64 7, .int .i64 xs, .int .i64 xm, .int .i64 xa, .int .i64 xk, .int .i64 xt, .int .i64 xp, .string xb] 79)).alloc (.cells #[.int .i64 0, .int .i64 0, .bool false, .string ⟨#[]⟩, .slice none 0 0] 102) = W at HX HB ⊢
  generalize w.heap.size = q at HX HB ⊢
  generalize q + 1 = p at HX HB ⊢
  refine (unhide HB).mono ?_
  rintro e w1 ⟨tb', st', a, cap, rfl, hs', HY0⟩
  have HY := hide ((unhide HY0).perm (List.perm_middle (l₁ := [_, _])).symm)
  have HS' := hide hs'
  clear HX HB hs' HY0
  obtain ⟨e0, e1, e2, e3, e4, g0, g1, g2, g3, g4⟩ := evF ((unhide HY).var (List.Mem.head _))
  go_wp2_with fail
  refine bodyPost_ret (v := .agg #[.int .i64 v.c, .int .i64 v.n, .bool v.t, .string v.s, .slice a v.l.length cap]) (by simp [results, Tryz.results53, go_sem, e0, e1, e2, e3, e4]) rfl ?_
  exact ⟨tb', st', a, cap, rfl, unhide HS', (unhide HY).fin _ _ _ _ _⟩
set_option maxHeartbeats 1000000 in
theorem do_end10 (x : HStep) (hz : Hall w0 w hb vb tb gb h st r) (hx : x.d = 10) (hc : ∀ {w : World} {r : List Thing}, Hall w0 w hb vb tb gb h st r → Calls Tryz.prog 92 #[.pointer (some ⟨hb, 0, none⟩), .agg #[.int .i64 x.d, .int .i64 x.s, .int .i64 x.md, .int .i64 x.at_, .int .i64 x.key, .int .i64 x.to_, .int .i64 x.keep, .string x.b]] w fun e w' => GoEnd w0 hb vb gb r (hdo h x) (hev h x) e w') :
    Calls Tryz.prog 53 #[.pointer (some ⟨hb, 0, none⟩), .agg #[.int .i64 x.d, .int .i64 x.s, .int .i64 x.md, .int .i64 x.at_, .int .i64 x.key, .int .i64 x.to_, .int .i64 x.keep, .string x.b]] w fun e w' => GoEnd w0 hb vb gb r (hdo h x) (hev h x) e w' := by
  have HX := hide (hz.two (xcs x) 79 #[.int .i64 0, .int .i64 0, .bool false, .string ⟨#[]⟩, .slice none 0 0] 102)
  clear hz
  have HB := hide (hc (unhide HX))
  clear hc
  generalize hdo h x = h' at *
  generalize hev h x = v at *
  obtain ⟨xd, xs, xm, xa, xk, xt, xp, xb⟩ := x
  dsimp only [xcs] at *
  subst hx
  go_enter Tryz.func53, Tryz.ntmps53
  go_wp2_with fail
  generalize (w.alloc (.cells #[.int .i64 10, .int .i64 xs, .int .i64 xm, .int .i64 xa, .int .i64 xk, .int .i64 xt, .int .i64 xp, .string xb] 79)).alloc (.cells #[.int .i64 0, .int .i64 0, .bool false, .string ⟨#[]⟩, .slice none 0 0] 102) = W at HX HB ⊢
  generalize w.heap.size = q at HX HB ⊢
  generalize q + 1 = p at HX HB ⊢
  refine (unhide HB).mono ?_
  rintro e w1 ⟨tb', st', a, cap, rfl, hs', HY0⟩
  have HY := hide ((unhide HY0).perm (List.perm_middle (l₁ := [_, _])).symm)
  have HS' := hide hs'
  clear HX HB hs' HY0
  obtain ⟨e0, e1, e2, e3, e4, g0, g1, g2, g3, g4⟩ := evF ((unhide HY).var (List.Mem.head _))
  go_wp2_with fail
  refine bodyPost_ret (v := .agg #[.int .i64 v.c, .int .i64 v.n, .bool v.t, .string v.s, .slice a v.l.length cap]) (by simp [results, Tryz.results53, go_sem, e0, e1, e2, e3, e4]) rfl ?_
  exact ⟨tb', st', a, cap, rfl, unhide HS', (unhide HY).fin _ _ _ _ _⟩
end
end
/- A hall's Do: Clear; Do of whatever step. -/
section
open Go.RowKit
attribute [local go_sem ↓] Go.wp_at_zero Go.wp_at_succ

section
variable {w0 w : World} {hb vb tb gb : Nat} {h : HSt} {st : Nat → Sd} {r : List Thing}
set_option maxHeartbeats 1000000 in
theorem do_clear (x : HStep) (hs : Sts st h.seat) (hz : Hall w0 w hb vb tb gb h st r) (hx : x.d = 8) :
    Calls Tryz.prog 53 #[.pointer (some ⟨hb, 0, none⟩), .agg #[.int .i64 x.d, .int .i64 x.s, .int .i64 x.md, .int .i64 x.at_, .int .i64 x.key, .int .i64 x.to_, .int .i64 x.keep, .string x.b]] w fun e w' => GoEnd w0 hb vb gb r (hdo h x) (hev h x) e w' := by
  have heq := (HKind.clear (h := h) (x := x) hx).eq
  rw [heq.1, heq.2]
  clear heq
  have HS := hide hs
  have HX := hide (hz.two (xcs x) 79 #[.int .i64 0, .int .i64 0, .bool false, .string ⟨#[]⟩, .slice none 0 0] 102)
  have hl := hz.lt
  have vl := hz.vlt_
  clear hz hs
  have HLE := hide (fun W r (hz : Hall w0 W hb vb tb gb h st r) => h_least (unhide HS) hz)
  generalize least h.n h.seat 5 = y at *
  obtain ⟨xd, xs, xm, xa, xk, xt, xp, xb⟩ := x
  dsimp only [xcs] at *
  subst hx
  go_enter Tryz.func53, Tryz.ntmps53
  go_wp2_with fail
  generalize (w.alloc (.cells #[.int .i64 8, .int .i64 xs, .int .i64 xm, .int .i64 xa, .int .i64 xk, .int .i64 xt, .int .i64 xp, .string xb] 79)).alloc (.cells #[.int .i64 0, .int .i64 0, .bool false, .string ⟨#[]⟩, .slice none 0 0] 102) = W at HX ⊢
  generalize w.heap.size = q at HX ⊢
  generalize q + 1 = p at HX ⊢
  have HXD := hide ((unhide HX).kp0 (Kp.refl [] _).drew)
  clear HX
  have c0 := (unhide HXD).c0
  have v0 := (unhide HXD).v0
  refine wp_region_held_drew (S := fun w' => w'.cell? ⟨hb, 0, none⟩ = some (.pointer (some ⟨vb, 0, none⟩)) ∧ w'.cell? ⟨vb, 0, none⟩ = some (.pointer (some ⟨tb, 0, none⟩))) (by kernel_rfl) (⟨c0, v0⟩) (fun hHeld => ?_)
  refine wpAnyH_tk (i := 0) (v := ?_) rfl (by kernel_rfl) (by kernel_rfl) (by kernel_rfl) (fun _ _ _ h => h) (Or.inl ⟨by rfl, ?_⟩) hHeld ?_
  rotate_left
  · intro w hSw
    try dsimp only at hSw
    go_simp
    try with_reducible rfl
  try simp only [Act.put, List.setIfInBounds_toArray, List.set_cons_zero, List.set_cons_succ]
  refine wpAnyH_tk (i := 1) (v := ?_) rfl (by kernel_rfl) (by kernel_rfl) (by kernel_rfl) (fun _ _ _ h => h) (Or.inl ⟨by rfl, ?_⟩) hHeld ?_
  rotate_left
  · intro w hSw
    try dsimp only at hSw
    go_simp
    try with_reducible rfl
  try simp only [Act.put, List.setIfInBounds_toArray, List.set_cons_zero, List.set_cons_succ]
  refine wpAnyH_tk (i := 2) (v := ?_) rfl (by kernel_rfl) (by kernel_rfl) (by kernel_rfl) (fun _ _ _ h => h) (Or.inl ⟨by rfl, ?_⟩) hHeld ?_
  rotate_left
  · intro w hSw
    try dsimp only at hSw
    go_simp
    try with_reducible rfl
  try simp only [Act.put, List.setIfInBounds_toArray, List.set_cons_zero, List.set_cons_succ]
  refine wpAnyH_tk (i := 3) (v := ?_) rfl (by kernel_rfl) (by kernel_rfl) (by kernel_rfl) (fun _ _ _ h => h) (Or.inl ⟨by rfl, ?_⟩) hHeld ?_
  rotate_left
  · intro w hSw
    try dsimp only at hSw
    go_simp
    try with_reducible rfl
  try simp only [Act.put, List.setIfInBounds_toArray, List.set_cons_zero, List.set_cons_succ]
  refine wpAnyH_tk (i := 4) (v := ?_) rfl (by kernel_rfl) (by kernel_rfl) (by kernel_rfl) (fun _ _ _ h => h) (Or.inl ⟨by rfl, ?_⟩) hHeld ?_
  rotate_left
  · intro w hSw
    try dsimp only at hSw
    go_simp
    try with_reducible rfl
  try simp only [Act.put, List.setIfInBounds_toArray, List.set_cons_zero, List.set_cons_succ]
  refine wpAnyH_tk (i := 5) (v := ?_) rfl (by kernel_rfl) (by kernel_rfl) (by kernel_rfl) (fun _ _ _ h => h) (Or.inl ⟨by rfl, ?_⟩) hHeld ?_
  rotate_left
  · intro w hSw
    try dsimp only at hSw
    go_simp
    try with_reducible rfl
  try simp only [Act.put, List.setIfInBounds_toArray, List.set_cons_zero, List.set_cons_succ]
  refine wpAnyH_tk (i := 6) (v := ?_) rfl (by kernel_rfl) (by kernel_rfl) (by kernel_rfl) (fun _ _ _ h => h) (Or.inl ⟨by rfl, ?_⟩) hHeld ?_
  rotate_left
  · intro w hSw
    try dsimp only at hSw
    go_simp
    try with_reducible rfl
  try simp only [Act.put, List.setIfInBounds_toArray, List.set_cons_zero, List.set_cons_succ]
  refine wpAnyH_tk (i := 7) (v := ?_) rfl (by kernel_rfl) (by kernel_rfl) (by kernel_rfl) (fun _ _ _ h => h) (Or.inl ⟨by rfl, ?_⟩) hHeld ?_
  rotate_left
  · intro w hSw
    try dsimp only at hSw
    go_simp
    try with_reducible rfl
  try simp only [Act.put, List.setIfInBounds_toArray, List.set_cons_zero, List.set_cons_succ]
  refine wpAnyH_only (i := 8) rfl (by kernel_rfl) (fun K hK => ?_)
  go_simp
  refine (unhide HLE _ _ (unhide HXD)).mono ?_
  rintro e w' ⟨rfl, hw'⟩
  subst w'
  go_wp2_with fail
  refine hK.out _ _ (⟨c0, v0⟩) (fun hHeld2 => ?_)
  clear hK K hHeld
  have hHeld := hHeld2
  clear hHeld2
  try simp only [Act.put, List.setIfInBounds_toArray, List.set_cons_zero, List.set_cons_succ]
  refine wpAnyH_only (i := 9) rfl (by kernel_rfl) (fun K hK => ?_)
  go_simp
  refine (h_clear y (unhide HXD)).mono ?_
  rintro e w3 ⟨rfl, HY⟩
  go_wp2_with fail
  refine hK.out _ _ (⟨(unhide HY).c0, (unhide HY).v0⟩) (fun hHeld2 => ?_)
  clear hK K hHeld
  have hHeld := hHeld2
  clear hHeld2
  try simp only [Act.put, List.setIfInBounds_toArray, List.set_cons_zero, List.set_cons_succ]
  refine wpAnyH_tk (i := 10) (v := ?_) rfl (by kernel_rfl) (by kernel_rfl) (by kernel_rfl) (fun _ _ _ h => h) (Or.inl ⟨by rfl, ?_⟩) hHeld ?_
  rotate_left
  · intro w hSw
    try dsimp only at hSw
    go_simp
    try with_reducible rfl
  try simp only [Act.put, List.setIfInBounds_toArray, List.set_cons_zero, List.set_cons_succ]
  refine wpAnyH_only (i := 11) rfl (by kernel_rfl) (fun K hK => ?_)
  go_simp
  obtain ⟨e0, e1, e2, e3, e4, g0, g1, g2, g3, g4⟩ := evF ((unhide HY).var (List.Mem.head _))
  go_simp
  have HF := hide ((((((unhide HY).set0 0 (.int .i64 0)).set0 1 (.int .i64 (cln h.f y 8 : Nat))).set0 2 (.bool false)).set0 3 (.string ⟨#[]⟩)).set0 4 (.slice none 0 0))
  go_wp2_with fail
  refine hK.out _ _ (⟨(unhide HF).c0, (unhide HF).v0⟩) (fun hHeld2 => ?_)
  clear hK K hHeld
  have hHeld := hHeld2
  clear hHeld2
  try simp only [Act.put, List.setIfInBounds_toArray, List.set_cons_zero, List.set_cons_succ]
  refine wpAnyH_done (by kernel_rfl) ?_ _
  go_wp2_with fail
  refine bodyPost_ret (v := .agg #[.int .i64 0, .int .i64 (cln h.f y 8 : Nat), .bool false, .string ⟨#[]⟩, .slice none 0 0]) (by simp [results, Tryz.results53, go_sem, e0, e1, e2, e3, e4]) rfl ?_
  exact ⟨tb, st, none, 0, rfl, unhide HS, ((unhide HY).fin _ _ _ _ _).ps.as rfl rfl rfl⟩
theorem h_do (x : HStep) (hsz : x.b.size ≤ maxLen) (hs : Sts st h.seat) (hi : HInv h) (hz : Hall w0 w hb vb tb gb h st r) :
    Calls Tryz.prog 53 #[.pointer (some ⟨hb, 0, none⟩), .agg #[.int .i64 x.d, .int .i64 x.s, .int .i64 x.md, .int .i64 x.at_, .int .i64 x.key, .int .i64 x.to_, .int .i64 x.keep, .string x.b]] w fun e w' => GoEnd w0 hb vb gb r (hdo h x) (hev h x) e w' := by
  by_cases c0 : x.d < 1 ∨ 10 < x.d
  · exact do_kind x hs hz c0
  by_cases c1 : x.d = 1
  · exact do_begin x hs hz c1
  by_cases c8 : x.d = 8
  · exact do_clear x hs hz c8
  by_cases c9 : x.d = 9
  · exact do_crash x hs hz c9
  by_cases hf : fcode st x.s = 0
  · obtain ⟨j, D, d, hj, h5, hsd⟩ := f_yes hf
    by_cases c2 : x.d = 2
    · exact do_on2 x hz c2 (fun hz' => go_get x c2 hj h5 hsd hs hz')
    by_cases c3 : x.d = 3
    · exact do_on3 x hz c3 (fun hz' => go_put x c3 hj h5 hsd hs hz' hsz)
    by_cases c4 : x.d = 4
    · exact do_on4 x hz c4 (fun hz' => go_drop x c4 hj h5 hsd hs hz' hsz)
    by_cases c5 : x.d = 5
    · exact do_on5 x hz c5 (fun hz' => go_list x c5 hj h5 hsd hs hz')
    by_cases c6 : x.d = 6
    · exact do_end6 x hz c6 (fun hz' => end_commit x c6 hj h5 hsd hs hz' hi)
    by_cases c7 : x.d = 7
    · exact do_end7 x hz c7 (fun hz' => end_abort x c7 hj h5 hsd hs hz' hi)
    · exact do_end10 x hz (by omega) (fun hz' => end_tear x (by omega) hj h5 hsd hs hz' hi)
  · by_cases c2 : x.d = 2
    · exact do_on2 x hz c2 (fun hz' => go_none x (by omega) hf hs hz')
    by_cases c3 : x.d = 3
    · exact do_on3 x hz c3 (fun hz' => go_none x (by omega) hf hs hz')
    by_cases c4 : x.d = 4
    · exact do_on4 x hz c4 (fun hz' => go_none x (by omega) hf hs hz')
    by_cases c5 : x.d = 5
    · exact do_on5 x hz c5 (fun hz' => go_none x (by omega) hf hs hz')
    by_cases c6 : x.d = 6
    · exact do_end6 x hz c6 (fun hz' => end_none x (by omega) hf hs hz')
    by_cases c7 : x.d = 7
    · exact do_end7 x hz c7 (fun hz' => end_none x (by omega) hf hs hz')
    · exact do_end10 x hz (by omega) (fun hz' => end_none x (by omega) hf hs hz')
/-- Do of whatever step, of a hall at the head of a list of things. -/
theorem hal_do (x : HStep) (hsz : x.b.size ≤ maxLen) (hz : Zoo w0 w (HalT hb h :: r)) :
    Calls Tryz.prog 53 #[.pointer (some ⟨hb, 0, none⟩), .agg #[.int .i64 x.d, .int .i64 x.s, .int .i64 x.md, .int .i64 x.at_, .int .i64 x.key, .int .i64 x.to_, .int .i64 x.keep, .string x.b]] w fun e w' => ∃ a cap, e = .returned (.agg #[.int .i64 (hev h x).c, .int .i64 (hev h x).n, .bool (hev h x).t, .string (hev h x).s, .slice a (hev h x).l.length cap]) ∧ Hid (Zoo w0 w' (HalT hb (hdo h x) :: PsT a cap (hev h x).l :: r)) := by
  obtain ⟨vb, tb, gb, st, hs, hi, hz'⟩ := hal_open hz
  refine (h_do x hsz hs hi hz').mono ?_
  rintro e w' ⟨tb', st', a, cap, rfl, hs', HY⟩
  exact ⟨a, cap, rfl, hal_close hs' (hi.step x) (unhide HY)⟩
end
end
/- Plain words for halls: one alone writes what it means. -/
section
open Go.RowKit

section
variable {f : Nat → List Ver} {n : Nat} {cs : List (List Ver)} {md y : Int} {rs : List Int} {ws : List Ver}
end
end
/- hallBegun answers true. -/
section
open Go.RowKit
attribute [local go_sem ↓] Go.wp_at_zero Go.wp_at_succ

def hs0 : HSt := ⟨fun _ => [dv], 0, [], fun _ => none⟩
end
/- Steps of a hall that are handed in; greatSteps, by its contract. -/
section
open Go.RowKit
attribute [local go_sem ↓] Go.wp_at_zero Go.wp_at_succ

end
/- Plain words for halls: one seat alone, whose deeds are done one behind the other. -/
section
open Go.RowKit

end
end Go.Proofs.YtldkeaeohceckadGreatDoor
