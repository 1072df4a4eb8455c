/- A table and a deed beside it, since w0; each call with what it keeps. Steps that are handed in; greatDeeds. -/
import Derived.Test.YtainekjcdmabbaaD4
import Derived.Test.YtainekjcdmabbaaG1
namespace Go.Proofs.Ytainekjcdmabbaa
open Go.RowKit
set_option maxRecDepth 20000
attribute [local go_sem ↓] Go.wp_at_zero Go.wp_at_succ

/-- A table that was made since w0, a deed beside it; the blocks of X are later ones, and none of theirs. -/
structure Tdx (w0 w : World) (tb db : Nat) (f : Nat → List Ver) (n : Nat) (md y : Int) (rs : List Int) (ws : List Ver) (X : List Nat) : Prop where
  t : Tbx w0 w tb f n (db :: X)
  d : Ded w db md y rs ws
  x : db ∉ X

section
variable {w0 w w' : World} {tb db : Nat} {f : Nat → List Ver} {n : Nat} {md y : Int} {rs : List Int} {ws : List Ver} {X : List Nat}
theorem Tdx.kp (h : Tdx w0 w tb db f n md y rs ws X) : Kp [] w0 w := h.t.kp
theorem Tdx.kp0 (h : Tdx w0 w tb db f n md y rs ws X) (hk : Kp [] w w') : Tdx w0 w' tb db f n md y rs ws X := ⟨h.t.kp0 hk, h.d.kp0 hk, h.x⟩
theorem Tdx.alloc (h : Tdx w0 w tb db f n md y rs ws X) (o : Obj) : Tdx w0 (w.alloc o) tb db f n md y rs ws (w.heap.size :: X) := by
  have hlt := h.d.lt
  refine ⟨(h.t.alloc o).sub (fun x hx => ?_), h.d.kp0 ((Kp.refl [] w).alloc o), fun hm => ?_⟩
  · rcases List.mem_cons.1 hx with e | e
    · subst e; simp
    · rcases List.mem_cons.1 e with q | q
      · subst q; simp
      · simp [q]
  · rcases List.mem_cons.1 hm with e | e
    · omega
    · exact h.x e
theorem Tdx.sub {Z : List Nat} (h : Tdx w0 w tb db f n md y rs ws X) (hZ : ∀ x, x ∈ Z → x ∈ X) : Tdx w0 w tb db f n md y rs ws Z :=
  ⟨h.t.sub (fun x hx => by rcases List.mem_cons.1 hx with e | e; (subst e; simp); simp [hZ x e]), h.d, fun hm => h.x (hZ db hm)⟩
theorem Tdx.set {S : List Nat} (h : Tdx w0 w tb db f n md y rs ws X) (hk : Kp S w w') (hS : ∀ x, x ∈ S → x ∈ X) : Tdx w0 w' tb db f n md y rs ws X :=
  ⟨h.t.set hk (fun x hx => List.mem_cons_of_mem _ (hS x hx)), h.d.kp hk (fun hm => h.x (hS db hm)), h.x⟩
theorem tdx_new (md y : Int) (h : Tbx w0 w tb f n X) (hm : 1 ≤ md ∧ md ≤ 3) :
    Calls Try.prog 54 #[.int .i64 md, .int .i64 y] w fun e w' => ∃ db, e = .returned (.pointer (some ⟨db, 0, none⟩)) ∧ Hid (Tdx w0 w' tb db f n md y [] [] X) := by
  refine (dnew54 md y w).mono ?_
  rintro e w' (⟨_, _, rfl, hd, hk⟩ | ⟨h1, _, _⟩)
  · refine ⟨_, rfl, h.fresh hk (Nat.le_refl _) hd.lt, hd, fun hm => ?_⟩
    have := (h.lo _ hm).2
    omega
  · exact absurd hm h1
theorem tdx_get (k : Int) (h : Tdx w0 w tb db f n md y rs ws X) :
    Calls Try.prog 55 #[.pointer (some ⟨db, 0, none⟩), .pointer (some ⟨tb, 0, none⟩), .int .i64 k] w fun e w' => e = .returned (.tuple #[.agg #[.bool (dg f n y ws k).t, .string (dg f n y ws k).s], .int .i64 (dg f n y ws k).a]) ∧
      Hid (Tdx w0 w' tb db f n md y (dr f n y rs ws k) ws X) ∧ Hid (Kp [db] w w') := by
  obtain ⟨F, h1, h2⟩ := h.t
  refine (dget55 k w h1 h.d).mono ?_
  rintro e w' ⟨rfl, hd, hk⟩
  exact ⟨rfl, ⟨h.t.set hk (by simp), hd, h.x⟩, hk⟩
theorem tdx_put (k : Int) (t : Bool) (s : ByteArray) (h : Tdx w0 w tb db f n md y rs ws X) (hs : s.size ≤ maxLen) :
    Calls Try.prog 57 #[.pointer (some ⟨db, 0, none⟩), .int .i64 k, .agg #[.bool t, .string s]] w fun e w' => e = .returned (.int .i64 (dpc md k t s)) ∧ Hid (Tdx w0 w' tb db f n md y rs (dpw md ws k t s) X) ∧ Hid (Kp [db] w w') := by
  refine (dput57 k t s w h.d hs).mono ?_
  rintro e w' ⟨rfl, hd, hk⟩
  exact ⟨rfl, ⟨h.t.set hk (by simp), hd, h.x⟩, hk⟩
theorem tdx_reads (h : Tdx w0 w tb db f n md y rs ws X) :
    Calls Try.prog 64 #[.pointer (some ⟨db, 0, none⟩)] w fun e w' => ∃ a cap, e = .returned (.slice a (rk rs 8).length cap) ∧ Hid (SlI w' a (rk rs 8)) ∧ Hid (Tdx w0 w' tb db f n md y rs ws X) ∧ Hid (Kp [] w w') := by
  refine (dreads64 w h.d).mono ?_
  rintro e w' ⟨a, cap, rfl, ho, hk⟩
  exact ⟨a, cap, rfl, sli_own ho rfl, h.kp0 hk, hk⟩
theorem tdx_writes (h : Tdx w0 w tb db f n md y rs ws X) :
    Calls Try.prog 66 #[.pointer (some ⟨db, 0, none⟩)] w fun e w' => ∃ a cap, e = .returned (.slice a (wk ws 8).length cap) ∧ Hid (SlO w' a (wk ws 8)) ∧ Hid (Tdx w0 w' tb db f n md y rs ws X) ∧ Hid (Kp [] w w') := by
  refine (dwrites66 w h.d).mono ?_
  rintro e w' ⟨a, cap, rfl, ho, hk⟩
  exact ⟨a, cap, rfl, slo_own ho rfl, h.kp0 hk, hk⟩
theorem tdx_may (h : Tdx w0 w tb db f n md y rs ws X) (c : Int) (hc : dm f md y rs ws = c) :
    Calls Try.prog 68 #[.pointer (some ⟨db, 0, none⟩), .pointer (some ⟨tb, 0, none⟩)] w fun e w' => e = .returned (.int .i64 c) ∧ Hid (Tdx w0 w' tb db f n md y rs ws X) ∧ Hid (Kp [] w w') := by
  obtain ⟨F, h1, h2⟩ := h.t
  refine (dmay68 w h1 h.d).mono ?_
  rintro e w' ⟨rfl, hk⟩
  exact ⟨by rw [hc], h.kp0 hk, hk⟩
theorem tdx_mode (h : Tdx w0 w tb db f n md y rs ws X) : Calls Try.prog 70 #[.pointer (some ⟨db, 0, none⟩)] w fun e w' => e = .returned (.int .i64 md) ∧ w' = w := dmode70 w h.d
theorem tdx_at (h : Tdx w0 w tb db f n md y rs ws X) : Calls Try.prog 71 #[.pointer (some ⟨db, 0, none⟩)] w fun e w' => e = .returned (.int .i64 y) ∧ w' = w := dat71 w h.d
theorem tdx_same (h : Tdx w0 w tb db f n md y rs ws X) {f' : Nat → List Ver} {n' : Nat} (h1 : Tbx w0 w' tb f' n' (db :: X)) (h2 : SameX (db :: X) w w') : Tdx w0 w' tb db f' n' md y rs ws X ∧ SameX X w w' :=
  ⟨⟨h1, by have := h2 db (by simp); unfold Ded; rw [this]; exact h.d, h.x⟩, fun x hx => h2 x (by simp [hx])⟩
theorem tdx_write (a : Option Addr) (c : Nat) (ps : List Ver) (h : Tdx w0 w tb db f n md y rs ws X) (hp : Prs w a ps) (hm : ps.length ≤ 1000) (hf : 0 < ps.length → ∀ g o, a = some ⟨g, o, none⟩ → g < w0.heap.size ∨ g ∈ X) :
    Calls Try.prog 49 #[.pointer (some ⟨tb, 0, none⟩), .slice a ps.length c] w fun e w' => e = .returned (.tuple #[.int .i64 (wnum n ps), .int .i64 (wcode n ps)]) ∧ Hid (Tdx w0 w' tb db (wst f n ps) (wn n ps) md y rs ws X) ∧ Hid (SameX X w w') := by
  refine (tbx_write a c ps h.t hp hm (fun h0 g o e => by rcases hf h0 g o e with q | q; exact .inl q; exact .inr (by simp [q]))).mono ?_
  rintro e w' ⟨rfl, t1, t2⟩
  exact ⟨rfl, tdx_same h (unhide t1) (unhide t2)⟩
theorem tdx_clear (l : Int) (h : Tdx w0 w tb db f n md y rs ws X) :
    Calls Try.prog 50 #[.pointer (some ⟨tb, 0, none⟩), .int .i64 l] w fun e w' => e = .returned (.int .i64 (cln f l 8 : Nat)) ∧ Hid (Tdx w0 w' tb db (clm f l 8) n md y rs ws X) ∧ Hid (SameX X w w') := by
  refine (tbx_clear l h.t).mono ?_
  rintro e w' ⟨rfl, t1, t2⟩
  exact ⟨rfl, tdx_same h (unhide t1) (unhide t2)⟩
end

/-- A step: 0 Get of k, 1 Put of t, s to k, 2 List from k to to_, 3 another one writes the pairs, 4 another one clears. -/
structure DStep where
  d : Int
  k : Int
  to_ : Int
  t : Bool
  s : ByteArray
  a : Option Addr
  c : Nat
  ps : List Ver

structure StD1 (w : World) (b o : Nat) (st : DStep) : Prop where
  c0 : w.cell? ⟨b, o, none⟩ = some (.int .i64 st.d)
  c1 : w.cell? ⟨b, o + 1, none⟩ = some (.int .i64 st.k)
  c2 : w.cell? ⟨b, o + 2, none⟩ = some (.int .i64 st.to_)
  c3 : w.cell? ⟨b, o + 3, none⟩ = some (.bool st.t)
  c4 : w.cell? ⟨b, o + 3 + 1, none⟩ = some (.string st.s)
  c5 : w.cell? ⟨b, o + 5, none⟩ = some (.slice st.a st.ps.length st.c)
  prs : Prs w st.a st.ps
  str : st.s.size ≤ maxLen
/-- The steps lie in block b from o on, n of them, and behind each its pairs. -/
def StD (w : World) (b o n : Nat) (st : Nat → DStep) : Prop := ∀ i, i < n → StD1 w b (o + i * 6) (st i)
def DSts (w : World) (a : Option Addr) (n : Nat) (st : Nat → DStep) : Prop := n ≤ maxLen ∧ (0 < n → ∃ b o, a = some ⟨b, o, none⟩ ∧ StD w b o n st)
theorem StD1.kp0 {w w' : World} {b o : Nat} {st : DStep} (h : StD1 w b o st) (hk : Kp [] w w') : StD1 w' b o st :=
  ⟨hk.cell (p := ⟨b, o, none⟩) (by simp) h.c0, hk.cell (p := ⟨b, o + 1, none⟩) (by simp) h.c1, hk.cell (p := ⟨b, o + 2, none⟩) (by simp) h.c2, hk.cell (p := ⟨b, o + 3, none⟩) (by simp) h.c3, hk.cell (p := ⟨b, o + 3 + 1, none⟩) (by simp) h.c4, hk.cell (p := ⟨b, o + 5, none⟩) (by simp) h.c5, h.prs.kp0 hk, h.str⟩
theorem StD.kp0 {w w' : World} {b o n : Nat} {st : Nat → DStep} (h : StD w b o n st) (hk : Kp [] w w') : StD w' b o n st := fun i hi => (h i hi).kp0 hk
theorem DSts.kp0 {w w' : World} {a : Option Addr} {n : Nat} {st : Nat → DStep} (h : DSts w a n st) (hk : Kp [] w w') : DSts w' a n st := by
  refine ⟨h.1, fun hp => ?_⟩
  obtain ⟨b, o, e, hs⟩ := h.2 hp
  exact ⟨b, o, e, hs.kp0 hk⟩

def GdEnd (n : Nat) (st : Nat → DStep) (w : World) (e : Ending) (w' : World) : Prop := ∃ q : Bool, e = .returned (.bool q) ∧ (q = false → n ≤ 60 ∧ ∀ i, i < n → (st i).ps.length ≤ 50) ∧ w' = w
theorem gdEnd_mk {n : Nat} {st : Nat → DStep} {w : World} (q : Bool) (h : q = false → n ≤ 60 ∧ ∀ i, i < n → (st i).ps.length ≤ 50) : GdEnd n st w (.returned (.bool q)) w := ⟨q, rfl, h, rfl⟩

set_option maxHeartbeats 1000000 in
theorem gdeeds53 (a : Option Addr) (n c : Nat) (st : Nat → DStep) (w : World) (h : DSts w a n st) :
    Calls Try.prog 53 #[.slice a n c] w fun e w' => GdEnd n st w e w' := by
  obtain ⟨hm, h⟩ := h
  unfold maxLen at hm
  have HP := hide h
  clear h
  go_enter Try.func53, Try.ntmps53
  go_wp2_with fail
  go_loop [3] (fun i => ∃ k : Nat, k ≤ n ∧ k ≤ 100 ∧ i = .int .i64 k ∧ Hid (∀ i, i < k → (st i).ps.length ≤ 50)) (fun i => n - (intOf i).toNat)
  case atStart => exact ⟨0, Nat.zero_le _, by omega, rfl, fun i hi => by omega⟩
  case round =>
    obtain ⟨k, hk, hk2, rfl, HL⟩ := hrel
    by_cases hlt : k < n
    · by_cases hlt2 : k < 100
      · obtain ⟨b, o, rfl, hs⟩ := (unhide HP) (by omega)
        have h1 := hs k hlt
        have q5 := h1.c5
        have q4 := h1.c4
        have hsz := h1.str
        unfold maxLen at hsz
        have HR := hide h1.prs
        have i0 : (0 : Int) ≤ (k : Int) := by omega
        have i1 : (k : Int) < (n : Int) := by omega
        clear hs h1
        generalize (st k).s = s at *
        go_wp2_with fail
        refine (gpairs30 (st k).a (st k).c (st k).ps w (unhide HR)).mono ?_
        rintro e w' ⟨q, rfl, hq, hw'⟩
        subst w'
        cases q with
        | true =>
          clear hq
          go_wp2_with fail
          go_ret
          exact gdEnd_mk _ (fun h => by simp at h)
        | false =>
          have hq' := hq rfl
          clear hq
          by_cases hs : 100 < s.size
          · go_wp2_with fail
            go_ret
            exact gdEnd_mk _ (fun h => by simp at h)
          · go_wp2_with fail
            refine ⟨⟨k + 1, by omega, by omega, by go_num, fun i hi => ?_⟩, by simp [intOf]; omega⟩
            rcases Nat.lt_or_ge i k with e | e
            · exact unhide HL i e
            · have : i = k := by omega
              rw [this]; exact hq'
      · go_wp2
        go_ret
        exact gdEnd_mk _ (fun h => by simp at h; omega)
    · have e : k = n := by omega
      go_wp2
      go_ret
      refine gdEnd_mk _ (fun h => ⟨by simp at h; omega, ?_⟩)
      rw [← e]; exact unhide HL
end Go.Proofs.Ytainekjcdmabbaa
