/- The document's own sheet of lines: its memory; Since, Read, First and Clear, by their contracts. -/
import Derived.Test.YtfcfoabdangfhabL5
import Derived.Test.YtfcfoabdangfhabT6
namespace Go.Proofs.Ytfcfoabdangfhab
open Go.RowKit
set_option maxRecDepth 20000
attribute [local go_sem ↓] Go.wp_at_zero Go.wp_at_succ

def scell (g o cap : Nat → Nat) (f : Nat → List Ver) : Nat → Value := fun k => .slice (some ⟨g k, o k, none⟩) (f k).length (cap k)

/-- A sheet's memory: the box sb holds the lines and the number of commits; G: all blocks that are the sheet's own. -/
structure ShtL (B : Nat) (w : World) (sb : Nat) (G : List Nat) (g o cap : Nat → Nat) (f : Nat → List Ver) (n : Nat) : Prop where
  box : w.heap[sb]? = some (.cells (tcells (scell g o cap f) n) 62 (0, 0))
  sla : ∀ k, k < 8 → SlA w (g k) (o k) (f k)
  cap : ∀ k, k < 8 → (f k).length ≤ cap k
  ne : ∀ k, k < 8 → sb ≠ g k
  sG : sb ∈ G
  gG : ∀ k, k < 8 → g k ∈ G
  lo : ∀ x, x ∈ G → B ≤ x ∧ x < w.heap.size
  inv : Inv f n
  hB : B ≤ w.heap.size
def Sht (B : Nat) (w : World) (sb : Nat) (G : List Nat) (f : Nat → List Ver) (n : Nat) : Prop := ∃ g o cap, ShtL B w sb G g o cap f n

section
variable {B : Nat} {w w' : World} {sb : Nat} {G S : List Nat} {g o cap : Nat → Nat} {f : Nat → List Ver} {n : Nat}
theorem ShtL.kp (h : ShtL B w sb G g o cap f n) (hk : Kp S w w') (hS : ∀ x, x ∈ G → x ∉ S) : ShtL B w' sb G g o cap f n :=
  ⟨by rw [hk.block sb (h.lo sb h.sG).2 (hS _ h.sG)]; exact h.box, fun k hk8 => (h.sla k hk8).kp hk (hS _ (h.gG k hk8)), h.cap, h.ne, h.sG, h.gG, fun x hx => ⟨(h.lo x hx).1, Nat.lt_of_lt_of_le (h.lo x hx).2 hk.size⟩, h.inv, Nat.le_trans h.hB hk.size⟩
theorem Sht.kp (h : Sht B w sb G f n) (hk : Kp S w w') (hS : ∀ x, x ∈ G → x ∉ S) : Sht B w' sb G f n := by
  obtain ⟨g, o, cap, h⟩ := h
  exact ⟨g, o, cap, h.kp hk hS⟩
theorem Sht.kp0 (h : Sht B w sb G f n) (hk : Kp [] w w') : Sht B w' sb G f n := h.kp hk (fun _ _ => by simp)
theorem Sht.lo (h : Sht B w sb G f n) : ∀ x, x ∈ G → B ≤ x ∧ x < w.heap.size := by
  obtain ⟨g, o, cap, h⟩ := h
  exact h.lo
theorem ShtL.ncell (h : ShtL B w sb G g o cap f n) : w.cell? ⟨sb, 8, none⟩ = some (.int .i64 n) := cell_of_block h.box (tcells_n _ _)
theorem ShtL.kcell (h : ShtL B w sb G g o cap f n) {k : Nat} (hk : k < 8) : w.cell? ⟨sb, k, none⟩ = some (.slice (some ⟨g k, o k, none⟩) (f k).length (cap k)) := cell_of_block h.box (tcells_at _ _ hk)
theorem ShtL.lin (h : ShtL B w sb G g o cap f n) {k : Nat} (hk : k < 8) : LinX B w sb (tcells (scell g o cap f) n) 62 k (g k) (o k) (cap k) (f k) :=
  ⟨h.box, tcells_at _ _ hk, h.sla k hk, h.ne k hk, (h.lo sb h.sG).1, (h.lo _ (h.gG k hk)).1, h.inv.pos k hk, h.cap k hk⟩
theorem ShtL.step {k g' o' cap' : Nat} {vs : List Ver} (h : ShtL B w sb G g o cap f n) (hk : k < 8)
    (hl : LinX B w' sb ((tcells (scell g o cap f) n).setIfInBounds k (.slice (some ⟨g', o', none⟩) vs.length cap')) 62 k g' o' cap' vs) (hg : g' = g k ∨ w.heap.size ≤ g') (hkp : Kp [sb] w w') (hi : Inv (upd f k vs) n) :
    ShtL B w' sb (g' :: G) (upd g k g') (upd o k o') (upd cap k cap') (upd f k vs) n ∧ Kp G w w' ∧ ∀ x, x ∈ g' :: G → x ∈ G ∨ w.heap.size ≤ x := by
  have hb := hl.box
  rw [tcells_set _ _ hk] at hb
  refine ⟨⟨?_, fun j hj => ?_, fun j hj => ?_, fun j hj => ?_, List.mem_cons_of_mem _ h.sG, fun j hj => ?_, fun x hx => ?_, hi, Nat.le_trans h.hB hkp.size⟩, ?_, ?_⟩
  · rw [hb]
    congr 2
    refine tcells_congr _ (fun j _ => ?_)
    unfold scell
    by_cases e : j = k
    · subst e; simp [upd]
    · rw [upd_other _ _ _ e, upd_other _ _ _ e, upd_other _ _ _ e, upd_other _ _ _ e, upd_other _ _ _ e]
  · by_cases e : j = k
    · subst e; rw [upd_same, upd_same, upd_same]; exact hl.sla
    · rw [upd_other _ _ _ e, upd_other _ _ _ e, upd_other _ _ _ e]
      exact (h.sla j hj).kp hkp (by simp; exact fun e => h.ne j hj e.symm)
  · by_cases e : j = k
    · subst e; rw [upd_same, upd_same]; exact hl.cap
    · rw [upd_other _ _ _ e, upd_other _ _ _ e]; exact h.cap j hj
  · by_cases e : j = k
    · subst e; rw [upd_same]; exact hl.ne
    · rw [upd_other _ _ _ e]; exact h.ne j hj
  · by_cases e : j = k
    · subst e; rw [upd_same]; exact List.mem_cons_self
    · rw [upd_other _ _ _ e]; exact List.mem_cons_of_mem _ (h.gG j hj)
  · rcases List.mem_cons.1 hx with e | e
    · subst e; exact ⟨hl.hg, hl.glt⟩
    · exact ⟨(h.lo x e).1, Nat.lt_of_lt_of_le (h.lo x e).2 hkp.size⟩
  · exact hkp.mono (by simp; exact .inl h.sG)
  · intro x hx
    rcases List.mem_cons.1 hx with e | e
    · subst e
      rcases hg with e2 | e2
      · rw [e2]; exact .inl (h.gG k hk)
      · exact .inr e2
    · exact .inl e
end

set_option maxHeartbeats 400000 in
theorem sread33 {B sb n : Nat} {G : List Nat} {f : Nat → List Ver} (k y : Int) (w : World) (h : Sht B w sb G f n) :
    Calls Try.prog 29 #[.pointer (some ⟨sb, 0, none⟩), .int .i64 k, .int .i64 y] w fun e w' => e = .returned (.tuple #[.agg #[.bool (tr f n k y).t, .string (tr f n k y).s], .int .i64 (tr f n k y).a]) ∧ Kp [] w w' := by
  obtain ⟨g, o, cap, h⟩ := h
  by_cases hk : keyB k = true
  · by_cases hy : y ≤ n
    · have hs : tr f n k y = rd3 (f k.toNat) y := by unfold tr; rw [if_pos ⟨hk, hy⟩]
      obtain ⟨j, hj, rfl⟩ := keyB_nat hk
      rw [hs, Int.toNat_natCast]
      have hlt := (h.lo sb h.sG).2
      have q := h.kcell hj
      have q8 := h.ncell
      have HC := hide (h.sla j hj)
      have HI := hide h.inv
      have hl := h.inv.len41 hj
      clear h hs
      have i0 : (0 : Int) ≤ (j : Int) := by omega
      have i1 : (j : Int) < 8 := by omega
      go_enter Try.func29, Try.ntmps29
      go_wp2_with fail
      refine (key12 _ _).mono ?_
      rintro e w' ⟨rfl, rfl⟩
      rw [hk]
      clear hk
      go_wp2_with fail
      refine (lread10 (g j) (o j) (cap j) y _ ((unhide HC).kp ((Kp.refl [] w).alloc _) (by simp)) ((unhide HI).rise j hj) ((unhide HI).pos j hj) (by omega)).mono ?_
      rintro e w1 ⟨t, s, c, rfl, hrd, hkp⟩
      obtain ⟨rfl, rfl, rfl⟩ := rd3_of ((unhide HI).rise j hj) ((unhide HI).pos j hj) hrd
      have p0 : w1.cell? ⟨w.heap.size, 0, none⟩ = some (.bool false) := hkp.cell (by simp) (by simp)
      have p1 : w1.cell? ⟨w.heap.size, 1, none⟩ = some (.string ⟨#[]⟩) := hkp.cell (by simp) (by simp)
      have p2 : w1.frozen? ⟨w.heap.size, 0, none⟩ = false := by rw [hkp.frozen (by simp) (by simp)]; simp
      have p3 : w1.frozen? ⟨w.heap.size, 1, none⟩ = false := by rw [hkp.frozen (by simp) (by simp)]; simp
      have HK := hide hkp
      clear hrd hkp
      go_wp2
      refine bodyPost_ret (v := .tuple #[.agg #[.bool (rd3 (f j) y).t, .string (rd3 (f j) y).s], .int .i64 (rd3 (f j) y).a]) (by simp [results, Try.results29, go_sem, p0, p1]) rfl ⟨rfl, ?_⟩
      exact ((((Kp.refl [] w).alloc _).trans0 (unhide HK)).setCell (.inr (Nat.le_refl _)) _).setCell (.inr (Nat.le_refl _)) _
    · have hs : tr f n k y = ⟨1, false, ByteArray.empty⟩ := by unfold tr; rw [if_neg (fun h => hy h.2)]
      rw [hs]
      have q8 := h.ncell
      have hlt := (h.lo sb h.sG).2
      clear h hs
      go_enter Try.func29, Try.ntmps29
      go_wp2_with fail
      refine (key12 _ _).mono ?_
      rintro e w' ⟨rfl, rfl⟩
      rw [hk]
      clear hk
      go_wp2
      exact bodyPost_ret (v := .tuple #[.agg #[.bool false, .string ByteArray.empty], .int .i64 1]) (by simp [results, Try.results29, go_sem]; rfl) rfl ⟨rfl, ((Kp.refl [] w).alloc _)⟩
  · have hs : tr f n k y = ⟨1, false, ByteArray.empty⟩ := by unfold tr; rw [if_neg (fun h => hk h.1)]
    rw [hs]
    have hk2 : keyB k = false := by simpa using hk
    clear h hs hk
    go_enter Try.func29, Try.ntmps29
    go_wp2_with fail
    refine (key12 _ _).mono ?_
    rintro e w' ⟨rfl, rfl⟩
    rw [hk2]
    clear hk2
    go_wp2
    exact bodyPost_ret (v := .tuple #[.agg #[.bool false, .string ByteArray.empty], .int .i64 1]) (by simp [results, Try.results29, go_sem]; rfl) rfl ⟨rfl, ((Kp.refl [] w).alloc _)⟩

/-- The sheet at the head of a round of Clear, the first k lines cleared. -/
def SClI (B : Nat) (w : World) (sb : Nat) (G : List Nat) (f : Nat → List Ver) (n : Nat) (y : Int) (k : Nat) (wr : World) : Prop :=
  ∃ Gk, Sht B wr sb Gk (clm f y k) n ∧ Kp G w wr ∧ ∀ x, x ∈ Gk → x ∈ G ∨ w.heap.size ≤ x

end Go.Proofs.Ytfcfoabdangfhab
