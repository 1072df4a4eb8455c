/- What is seen of a hall and of a court: their answers, whatever world comes of this one. -/
import Derived.Test.YtehhpmfeaeabgacCt5
namespace Go.Proofs.Ytehhpmfeaeabgac
open Go.RowKit
set_option maxRecDepth 20000

structure HV (w : World) (hb vb tb : Nat) (dd : Nat → Sd) (h : HSt) : Prop where
  sts : Sts dd h.seat
  c0 : w.cell? ⟨hb, 0, none⟩ = some (.pointer (some ⟨vb, 0, none⟩))
  v0 : w.cell? ⟨vb, 0, none⟩ = some (.pointer (some ⟨tb, 0, none⟩))
  last : ∀ W, Kp [] w W → Calls Try.prog 17 #[.pointer (some ⟨tb, 0, none⟩)] W fun e w' => e = .returned (.int .i64 h.n) ∧ w' = W
  first : ∀ W, Kp [] w W → Calls Try.prog 18 #[.pointer (some ⟨tb, 0, none⟩)] W fun e w' => e = .returned (.int .i64 (fmx h.f 8)) ∧ w' = W
  least : ∀ W, Kp [] w W → Calls Try.prog 20 #[.pointer (some ⟨hb, 0, none⟩)] W fun e w' => e = .returned (.int .i64 (least h.n h.seat 5)) ∧ w' = W
  deed : ∀ W (s : Int), Kp [] w W → Calls Try.prog 24 #[.pointer (some ⟨hb, 0, none⟩), .int .i64 s] W fun e w' => e = .returned (sp (dat dd s)) ∧ w' = W
  busy : ∀ W (s : Int), Kp [] w W → Calls Try.prog 25 #[.pointer (some ⟨hb, 0, none⟩), .int .i64 s] W fun e w' => e = .returned (.bool (dat dd s).isSome) ∧ w' = W
  mode : ∀ W (s D : Nat) (d : Dp), s < 5 → dd s = some (D, d) → Kp [] w W → Calls Try.prog 26 #[.pointer (some ⟨D, 0, none⟩)] W fun e w' => e = .returned (.int .i64 d.md) ∧ w' = W
  at_ : ∀ W (s D : Nat) (d : Dp), s < 5 → dd s = some (D, d) → Kp [] w W → Calls Try.prog 27 #[.pointer (some ⟨D, 0, none⟩)] W fun e w' => e = .returned (.int .i64 d.y) ∧ w' = W
  read : ∀ W (k y : Int), Kp [] w W → Calls Try.prog 28 #[.pointer (some ⟨tb, 0, none⟩), .int .i64 k, .int .i64 y] W fun e w' => e = .returned (.tuple #[.agg #[.bool (tr h.f h.n k y).t, .string (tr h.f h.n k y).s], .int .i64 (tr h.f h.n k y).a]) ∧ Kp [] W w'
  since : ∀ W (k : Int), Kp [] w W → Calls Try.prog 30 #[.pointer (some ⟨tb, 0, none⟩), .int .i64 k] W fun e w' => e = .returned (.int .i64 (snc h.f k)) ∧ Kp [] W w'
  log : ∀ W, Kp [] w W → Calls Try.prog 32 #[.pointer (some ⟨vb, 0, none⟩)] W fun e w' => BtEnd (lb h.cs ++ []) W e w'
theorem hal_hv {w0 w : World} {hb : Nat} {h : HSt} {os : List Thing} (hz : Zoo w0 w os) (hm : HalT hb h ∈ os) : ∃ vb tb dd, HV w hb vb tb dd h := by
  obtain ⟨l1, l2, rfl⟩ := List.append_of_mem hm
  obtain ⟨vb, tb, gb, st, hs, _, hl⟩ := hal_open (hz.perm List.perm_middle)
  refine ⟨vb, tb, st, hs, hl.c0, hl.v0, fun W hk => h_last (hl.kp0 hk), fun W hk => h_first (hl.kp0 hk), fun W hk => h_least hs (hl.kp0 hk), fun W s hk => h_deed s (hl.kp0 hk), fun W s hk => h_busy s (hl.kp0 hk), fun W s D d h5 hd hk => dmode70 W ((hl.kp0 hk).ded h5 hd), fun W s D d h5 hd hk => dat71 W ((hl.kp0 hk).ded h5 hd), fun W k y hk => ?_, fun W k hk => ?_, fun W hk => h_log rfl (hl.kp0 hk)⟩
  · obtain ⟨F, ⟨Ft, Fg, q⟩, _⟩ := zoo_at0 (hl.kp0 hk).vlt
    exact tread32 k y W q.t
  · obtain ⟨F, ⟨Ft, Fg, q⟩, _⟩ := zoo_at0 (hl.kp0 hk).vlt
    exact tsince40 k W q.t

structure CW (w : World) (cb sb : Nat) (dd : Nat → Sd) (h : HSt) : Prop where
  sts : Sts dd h.seat
  c0 : w.cell? ⟨cb, 0, none⟩ = some (.pointer (some ⟨sb, 0, none⟩))
  n0 : w.cell? ⟨sb, 8, none⟩ = some (.int .i64 h.n)
  seat : ∀ s : Nat, s < 5 → w.cell? ⟨cb, 3 + s, none⟩ = some (.pointer (ad (dd s)))
  mode : ∀ (s D : Nat) (d : Dp), s < 5 → dd s = some (D, d) → w.cell? ⟨D, 0, none⟩ = some (.int .i64 d.md) ∧ w.cell? ⟨D, 1, none⟩ = some (.int .i64 d.y)
  first : ∀ W, Kp [] w W → Calls Try.prog 19 #[.pointer (some ⟨sb, 0, none⟩)] W fun e w' => e = .returned (.int .i64 (fmx h.f 8)) ∧ w' = W
  least : ∀ W, Kp [] w W → Calls Try.prog 21 #[.pointer (some ⟨cb, 0, none⟩)] W fun e w' => e = .returned (.int .i64 (least h.n h.seat 5)) ∧ w' = W
  read : ∀ W (k y : Int), Kp [] w W → Calls Try.prog 29 #[.pointer (some ⟨sb, 0, none⟩), .int .i64 k, .int .i64 y] W fun e w' => e = .returned (.tuple #[.agg #[.bool (tr h.f h.n k y).t, .string (tr h.f h.n k y).s], .int .i64 (tr h.f h.n k y).a]) ∧ Kp [] W w'
  since : ∀ W (k : Int), Kp [] w W → Calls Try.prog 31 #[.pointer (some ⟨sb, 0, none⟩), .int .i64 k] W fun e w' => e = .returned (.int .i64 (snc h.f k)) ∧ Kp [] W w'
  bytes : ∀ W, Kp [] w W → Calls Try.prog 33 #[.pointer (some ⟨cb, 1, none⟩)] W fun e w' => BtEnd (lb h.cs ++ []) W e w'
theorem cou_cw {w0 w : World} {cb : Nat} {h : HSt} {os : List Thing} (hz : Zoo w0 w os) (hm : CouT cb h ∈ os) : ∃ sb dd, CW w cb sb dd h := by
  obtain ⟨l1, l2, rfl⟩ := List.append_of_mem hm
  obtain ⟨sb, st, hs, _, hl⟩ := cou_open (hz.perm List.perm_middle)
  obtain ⟨G, Gr, Gs, bx, k, _⟩ := hl.crt
  refine ⟨sb, st, hs, hl.c0, hl.n0, fun s h5 => hl.cs_ h5, fun s D d h5 hd => ?_, fun W hk => sfirst43 W (k.s.kp0 hk), fun W hk => c_least hs (hl.kp0 hk), fun W x y hk => sread33 x y W (k.s.kp0 hk), fun W x hk => ssince41 x W (k.s.kp0 hk), fun W hk => rxbytes W (k.r.kp0 hk)⟩
  obtain ⟨H, ra, rc, wa, wc, q⟩ := hl.wrk h5 hd
  exact ⟨cell_of_block q.box rfl, cell_of_block q.box rfl⟩
theorem cou_new (w : World) : Calls Try.prog 13 #[] w fun e w' => ∃ cb F, e = .returned (.pointer (some ⟨cb, 0, none⟩)) ∧ (CouT cb hs0).holds w.heap.size w' F ∧ Kp [] w w' := by
  refine (cnew w).mono ?_
  rintro e w' ⟨cb, sb, G, rfl, h1, hk⟩
  have hz0 : Zoo w w' [CrtT cb sb (fun _ => [dv]) 0 [] [] (fun _ => none)] := (zoo_nil (Kp.refl [] w)).cons h1 hk
  have hz1 := wopt_none (wopt_none (wopt_none (wopt_none (wopt_none hz0))))
  have hz2 : Cou w w' cb sb hs0 (fun _ => none) [] := hz1.perm (List.perm_middle (l₁ := wseats (fun _ => none)))
  have hz3 := cou_close (fun _ => rfl) hinv_new hz2
  obtain ⟨F', h5, _⟩ := zoo_at0 hz3
  exact ⟨cb, F', rfl, h5, hz3.kp⟩
end Go.Proofs.Ytehhpmfeaeabgac
