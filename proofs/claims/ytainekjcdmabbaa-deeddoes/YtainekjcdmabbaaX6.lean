/- What TableDoes asks of a table and of a sheet beside it, call by call. -/
import Derived.Test.YtainekjcdmabbaaX3
namespace Go.Proofs.Ytainekjcdmabbaa
open Go.RowKit
set_option maxRecDepth 20000

section
variable {w0 w : World} {tb sb : Nat} {f : Nat → List Ver} {n : Nat}
theorem bth_read (k y : Int) (h : Bth w0 w tb sb f f n n) :
    Calls Try.prog 36 #[.pointer (some ⟨tb, 0, none⟩), .int .i64 k, .int .i64 y] w fun e w' => e = .returned (.tuple #[.agg #[.bool (tr f n k y).t, .string (tr f n k y).s], .int .i64 (tr f n k y).a]) ∧ Hid (Bth w0 w' tb sb f f n n) ∧ Hid (Kp [] w w') := by
  obtain ⟨F, G, h1, h2⟩ := h
  refine (tread32 k y w h1).mono ?_
  rintro e w' ⟨rfl, hk⟩
  exact ⟨rfl, Bth.kp0 ⟨F, G, h1, h2⟩ hk, hk⟩
theorem bth_sread (k y : Int) (h : Bth w0 w tb sb f f n n) :
    Calls Try.prog 37 #[.pointer (some ⟨sb, 0, none⟩), .int .i64 k, .int .i64 y] w fun e w' => e = .returned (.tuple #[.agg #[.bool (tr f n k y).t, .string (tr f n k y).s], .int .i64 (tr f n k y).a]) ∧ Hid (Bth w0 w' tb sb f f n n) ∧ Hid (Kp [] w w') := by
  obtain ⟨F, G, h1, h2, h3⟩ := h
  refine (sread33 k y w h2).mono ?_
  rintro e w' ⟨rfl, hk⟩
  exact ⟨rfl, Bth.kp0 ⟨F, G, h1, h2, h3⟩ hk, hk⟩
theorem bth_list (fr to_ y : Int) (h : Bth w0 w tb sb f f n n) :
    Calls Try.prog 38 #[.pointer (some ⟨tb, 0, none⟩), .int .i64 fr, .int .i64 to_, .int .i64 y] w fun e w' => ∃ a cap, e = .returned (.tuple #[.slice a (lst f n fr to_ y).1.length cap, .int .i64 (lst f n fr to_ y).2]) ∧ Hid (SlO w' a (lst f n fr to_ y).1) ∧ Hid (Bth w0 w' tb sb f f n n) ∧ Hid (Kp [] w w') := by
  obtain ⟨F, G, h1, h2⟩ := h
  refine (tlist34 fr to_ y w h1).mono ?_
  rintro e w' ⟨a, cap, rfl, ho, hk⟩
  exact ⟨a, cap, rfl, slo_own ho rfl, Bth.kp0 ⟨F, G, h1, h2⟩ hk, hk⟩
theorem bth_slist (fr to_ y : Int) (h : Bth w0 w tb sb f f n n) :
    Calls Try.prog 39 #[.pointer (some ⟨sb, 0, none⟩), .int .i64 fr, .int .i64 to_, .int .i64 y] w fun e w' => ∃ a cap, e = .returned (.tuple #[.slice a (lst f n fr to_ y).1.length cap, .int .i64 (lst f n fr to_ y).2]) ∧ Hid (SlO w' a (lst f n fr to_ y).1) ∧ Hid (Bth w0 w' tb sb f f n n) ∧ Hid (Kp [] w w') := by
  obtain ⟨F, G, h1, h2, h3⟩ := h
  refine (slist35 fr to_ y w h2).mono ?_
  rintro e w' ⟨a, cap, rfl, ho, hk⟩
  exact ⟨a, cap, rfl, slo_own ho rfl, Bth.kp0 ⟨F, G, h1, h2, h3⟩ hk, hk⟩
theorem Bth.ncell (h : Bth w0 w tb sb f f n n) : w.cell? ⟨sb, 8, none⟩ = some (.int .i64 n) := by
  obtain ⟨F, G, h1, ⟨g, o, cap, h2⟩, h3⟩ := h
  exact h2.ncell
end

theorem lgo_len (f : Nat → List Ver) (n : Nat) (y : Int) : ∀ (m k : Nat) (acc : List Ver), (lgo f n y k m acc).1.length ≤ acc.length + m := by
  intro m
  induction m with
  | zero => intro k acc; simp [lgo]
  | succ m ih =>
    intro k acc
    simp only [lgo]
    split
    · split
      · have := ih (k + 1) (acc ++ [⟨k, (tr f n k y).t, (tr f n k y).s⟩])
        simp only [List.length_append, List.length_cons, List.length_nil] at this
        omega
      · have := ih (k + 1) acc
        omega
    · simp
theorem lst_len (f : Nat → List Ver) (n : Nat) (fr to_ y : Int) : (lst f n fr to_ y).1.length ≤ 1000 := by
  unfold lst
  split
  · rename_i h
    have h1 := h.1
    have h2 := h.2
    simp [keyB] at h1 h2
    have := lgo_len f n y (to_ + 1 - fr).toNat fr.toNat []
    simp only [List.length_nil] at this
    omega
  · simp

/-- What stands ahead of the last answer of TableDoes. -/
structure Dos (w0 w : World) (tb sb p q : Nat) (f : Nat → List Ver) (n : Nat) (v : Ver) (pa : Option Addr) (ps L : List Ver) (la lb : Option Addr) : Prop where
  b : Bth w0 w tb sb f f n n
  n8 : w.cell? ⟨sb, 8, none⟩ = some (.int .i64 n)
  p0 : w.cell? ⟨p, 0, none⟩ = some (.bool v.t)
  p1 : w.cell? ⟨p, 1, none⟩ = some (.string v.s)
  q0 : w.cell? ⟨q, 0, none⟩ = some (.bool v.t)
  q1 : w.cell? ⟨q, 1, none⟩ = some (.string v.s)
  prs : Prs w pa ps
  l1 : SlO w la L
  l2 : SlO w lb L

section
variable {w0 w w' : World} {tb sb p q : Nat} {f : Nat → List Ver} {n : Nat} {v : Ver} {pa : Option Addr} {ps L : List Ver} {la lb : Option Addr}
theorem Dos.kp0 (h : Dos w0 w tb sb p q f n v pa ps L la lb) (hk : Kp [] w w') : Dos w0 w' tb sb p q f n v pa ps L la lb :=
  ⟨h.b.kp0 hk, hk.cell (p := ⟨sb, 8, none⟩) (by simp) h.n8, hk.cell (p := ⟨p, 0, none⟩) (by simp) h.p0, hk.cell (p := ⟨p, 1, none⟩) (by simp) h.p1, hk.cell (p := ⟨q, 0, none⟩) (by simp) h.q0, hk.cell (p := ⟨q, 1, none⟩) (by simp) h.q1, h.prs.kp0 hk, h.l1.kp0 hk, h.l2.kp0 hk⟩
theorem Dos.s (h : Dos w0 w tb sb p q f n v pa ps L la lb) : w.cell? ⟨sb, 8, none⟩ = some (.int .i64 n) ∧ w.cell? ⟨p, 0, none⟩ = some (.bool v.t) ∧ w.cell? ⟨p, 1, none⟩ = some (.string v.s) ∧ w.cell? ⟨q, 0, none⟩ = some (.bool v.t) ∧ w.cell? ⟨q, 1, none⟩ = some (.string v.s) := ⟨h.n8, h.p0, h.p1, h.q0, h.q1⟩
theorem dos36 (pc : Nat) (h : Dos w0 w tb sb p q f n v pa ps L la lb) (hm : ps.length ≤ 1000) : Calls Try.prog 40 #[.slice pa ps.length pc] w fun e w' => e = .returned (.int .i64 (pf (-1) ps)) ∧ Hid (Dos w0 w' tb sb p q f n v pa ps L la lb) := by
  refine (tcheck36 pa pc ps w h.prs hm).mono ?_
  rintro e w' ⟨rfl, hk⟩
  exact ⟨rfl, h.kp0 hk⟩
theorem dos37 (pc : Nat) (h : Dos w0 w tb sb p q f n v pa ps L la lb) (hm : ps.length ≤ 1000) : Calls Try.prog 41 #[.slice pa ps.length pc] w fun e w' => e = .returned (.int .i64 (pf (-1) ps)) ∧ Hid (Dos w0 w' tb sb p q f n v pa ps L la lb) := by
  refine (pfault37 pa pc ps w h.prs hm).mono ?_
  rintro e w' ⟨rfl, hk⟩
  exact ⟨rfl, h.kp0 hk⟩
theorem dos38 (h : Dos w0 w tb sb p q f n v pa ps L la lb) : Calls Try.prog 42 #[.pointer (some ⟨tb, 0, none⟩)] w fun e w' => e = .returned (.int .i64 n) ∧ Hid (Dos w0 w' tb sb p q f n v pa ps L la lb) := by
  obtain ⟨F, G, h1, h2⟩ := h.b
  refine (tlast38 w h1).mono ?_
  rintro e w' ⟨rfl, rfl⟩
  exact ⟨rfl, h⟩
theorem dos39 (lc ld : Nat) (h : Dos w0 w tb sb p q f n v pa ps L la lb) (hm : L.length ≤ 1000) : Calls Try.prog 43 #[.slice la L.length lc, .slice lb L.length ld] w fun e w' => e = .returned (.bool true) ∧ Hid (Dos w0 w' tb sb p q f n v pa ps L la lb) := by
  refine (same39 la lb lc ld w h.l1 h.l2 hm).mono ?_
  rintro e w' ⟨rfl, m, rfl⟩
  exact ⟨rfl, h.kp0 ((Kp.refl [] w).drewN m)⟩
theorem dos40 (k : Int) (h : Dos w0 w tb sb p q f n v pa ps L la lb) : Calls Try.prog 44 #[.pointer (some ⟨tb, 0, none⟩), .int .i64 k] w fun e w' => e = .returned (.int .i64 (snc f k)) ∧ Hid (Dos w0 w' tb sb p q f n v pa ps L la lb) := by
  obtain ⟨F, G, h1, h2⟩ := h.b
  refine (tsince40 k w h1).mono ?_
  rintro e w' ⟨rfl, hk⟩
  exact ⟨rfl, h.kp0 hk⟩
theorem dos41 (k : Int) (h : Dos w0 w tb sb p q f n v pa ps L la lb) : Calls Try.prog 45 #[.pointer (some ⟨sb, 0, none⟩), .int .i64 k] w fun e w' => e = .returned (.int .i64 (snc f k)) ∧ Hid (Dos w0 w' tb sb p q f n v pa ps L la lb) := by
  obtain ⟨F, G, h1, h2, h3⟩ := h.b
  refine (ssince41 k w h2).mono ?_
  rintro e w' ⟨rfl, hk⟩
  exact ⟨rfl, h.kp0 hk⟩
theorem dos42 (h : Dos w0 w tb sb p q f n v pa ps L la lb) : Calls Try.prog 46 #[.pointer (some ⟨tb, 0, none⟩)] w fun e w' => e = .returned (.int .i64 (fmx f 8)) ∧ Hid (Dos w0 w' tb sb p q f n v pa ps L la lb) := by
  obtain ⟨F, G, h1, h2⟩ := h.b
  refine (tfirst42 w h1).mono ?_
  rintro e w' ⟨rfl, rfl⟩
  exact ⟨rfl, h⟩
theorem dos43 (h : Dos w0 w tb sb p q f n v pa ps L la lb) : Calls Try.prog 47 #[.pointer (some ⟨sb, 0, none⟩)] w fun e w' => e = .returned (.int .i64 (fmx f 8)) ∧ Hid (Dos w0 w' tb sb p q f n v pa ps L la lb) := by
  obtain ⟨F, G, h1, h2, h3⟩ := h.b
  refine (sfirst43 w h2).mono ?_
  rintro e w' ⟨rfl, rfl⟩
  exact ⟨rfl, h⟩
end
end Go.Proofs.Ytainekjcdmabbaa
