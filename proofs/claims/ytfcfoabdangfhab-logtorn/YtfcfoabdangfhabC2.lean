/- Read of a chain, by its contract. -/
import Derived.Test.YtfcfoabdangfhabC1
import Derived.Deep.RegionWith
namespace Go.Proofs.Ytfcfoabdangfhab
open Go.RowKit
set_option maxRecDepth 20000
attribute [local go_sem ↓] Go.wp_at_zero Go.wp_at_succ

theorem IsCnt.pos {vs : List Ver} {y : Int} {c : Nat} (h : IsCnt vs y c) (hp : 0 < vs.length) (h1 : va vs 0 ≤ y) : 0 < c := by
  rcases Nat.eq_zero_or_pos c with e | e
  · subst e; have := h.hi 0 (Nat.le_refl _) hp; omega
  · exact e

theorem read_facts {B b g cap : Nat} {vs : List Ver} {w w1 : World} (o : Obj) (h : Chn B w b g cap vs) (hk : Kp [] (w.alloc o).drew w1) {c : Nat} (hc : 0 < c) (hl : c ≤ vs.length) :
    w1.cell? ⟨b, 0, none⟩ = some (.slice (some ⟨g, 0, none⟩) vs.length cap) ∧ w1.cell? ⟨g, (c - 1) * 3 + 1, none⟩ = some (.bool (vt vs (c - 1))) ∧ w1.cell? ⟨g, (c - 1) * 3 + 1 + 1, none⟩ = some (.string (vb vs (c - 1))) := by
  have h2 := h.kp (((Kp.refl [] w).alloc o).drew.trans0 hk) (by simp) (by simp)
  refine ⟨h2.cell, ?_, ?_⟩
  · have := h2.sla.at1 (c - 1) (by omega); rwa [Nat.zero_add] at this
  · have := h2.sla.at2 (c - 1) (by omega); rwa [Nat.zero_add] at this

theorem new_facts {w w1 : World} {x y : Value} (hk : Kp [] (w.alloc (.cells #[x, y] 38)).drew w1) :
    w1.cell? ⟨w.heap.size, 0, none⟩ = some x ∧ w1.cell? ⟨w.heap.size, 1, none⟩ = some y ∧ w1.frozen? ⟨w.heap.size, 0, none⟩ = false ∧ w1.frozen? ⟨w.heap.size, 1, none⟩ = false := by
  refine ⟨hk.cell (by simp) (by simp), hk.cell (by simp) (by simp), ?_, ?_⟩
  · rw [hk.frozen (by simp) (by simp)]; simp
  · rw [hk.frozen (by simp) (by simp)]; simp

theorem wrap_pred {c : Nat} (h : 0 < c) (h2 : c ≤ 1000) : IntKind.i64.wrap ((c : Int) - 1) = ((c - 1 : Nat) : Int) := by rw [wrap_i64_id _ (by omega) (by omega)]; omega

theorem count_read {B b g cap : Nat} {vs : List Ver} (y : Int) (w : World) (h : Chn B w b g cap vs) (hr : Rise vs) (hm : vs.length ≤ 1000) (h1 : va vs 0 ≤ y) (x u : Value) :
    Calls Try.prog 58 #[.pointer (some ⟨b, 0, none⟩), .int .i64 y] (w.alloc (.cells #[x, u] 38)).drew fun e w1 => ∃ c : Nat, e = .returned (.int .i64 c) ∧ Hid (IsCnt vs y c) ∧ 0 < c ∧
      w1.cell? ⟨b, 0, none⟩ = some (.slice (some ⟨g, 0, none⟩) vs.length cap) ∧ w1.cell? ⟨g, (c - 1) * 3 + 1, none⟩ = some (.bool (vt vs (c - 1))) ∧ w1.cell? ⟨g, (c - 1) * 3 + 1 + 1, none⟩ = some (.string (vb vs (c - 1))) ∧
      w1.cell? ⟨w.heap.size, 0, none⟩ = some x ∧ w1.cell? ⟨w.heap.size, 1, none⟩ = some u ∧ w1.frozen? ⟨w.heap.size, 0, none⟩ = false ∧ w1.frozen? ⟨w.heap.size, 1, none⟩ = false ∧
      IntKind.i64.wrap ((c : Int) - 1) = ((c - 1 : Nat) : Int) ∧ (0 : Int) ≤ ((c - 1 : Nat) : Int) ∧ ((c - 1 : Nat) : Int) < (vs.length : Int) ∧ Hid (Kp [] (w.alloc (.cells #[x, u] 38)).drew w1) := by
  refine (count28 y _ (h.kp (((Kp.refl [] w).alloc _).drew) (by simp) (by simp)) hr hm).mono ?_
  rintro e w1 ⟨c, hcn, rfl, hk⟩
  have hc0 := hcn.pos h.pos h1
  have hcl := hcn.le
  obtain ⟨q0, q1, q2⟩ := read_facts _ h hk hc0 hcl
  obtain ⟨q3, q4, q5, q6⟩ := new_facts hk
  exact ⟨c, rfl, hcn, hc0, q0, q1, q2, q3, q4, q5, q6, wrap_pred hc0 (by omega), by omega, by omega, hk⟩

/-- What Read tells. -/
def Rd (vs : List Ver) (y : Int) (t : Bool) (s : ByteArray) (code : Int) : Prop :=
  (y < 0 ∧ t = false ∧ s = ByteArray.empty ∧ code = 1) ∨ (0 ≤ y ∧ y < va vs 0 ∧ t = false ∧ s = ByteArray.empty ∧ code = 12) ∨
    (0 ≤ y ∧ va vs 0 ≤ y ∧ ∃ c, IsCnt vs y c ∧ 0 < c ∧ t = vt vs (c - 1) ∧ s = vb vs (c - 1) ∧ code = 0)

theorem Rd.uniq {vs : List Ver} {y : Int} {t t' : Bool} {s s' : ByteArray} {c c' : Int} (h : Rd vs y t s c) (k : Rd vs y t' s' c') : t = t' ∧ s = s' ∧ c = c' := by
  rcases h with ⟨h1, rfl, rfl, rfl⟩ | ⟨h0, h1, rfl, rfl, rfl⟩ | ⟨h0, h1, n, hn, _, rfl, rfl, rfl⟩
  · rcases k with ⟨k1, rfl, rfl, rfl⟩ | ⟨k0, k1, rfl, rfl, rfl⟩ | ⟨k0, k1, m, km, _, rfl, rfl, rfl⟩
    · exact ⟨rfl, rfl, rfl⟩
    · omega
    · omega
  · rcases k with ⟨k1, rfl, rfl, rfl⟩ | ⟨k0, k1, rfl, rfl, rfl⟩ | ⟨k0, k1, m, km, _, rfl, rfl, rfl⟩
    · omega
    · exact ⟨rfl, rfl, rfl⟩
    · omega
  · rcases k with ⟨k1, rfl, rfl, rfl⟩ | ⟨k0, k1, rfl, rfl, rfl⟩ | ⟨k0, k1, m, km, _, rfl, rfl, rfl⟩
    · omega
    · omega
    · have e := hn.uniq km
      subst e
      exact ⟨rfl, rfl, rfl⟩

set_option maxHeartbeats 400000 in
theorem read9 {B b g cap : Nat} {vs : List Ver} (y : Int) (w : World) (h : Chn B w b g cap vs) (hr : Rise vs) (hm : vs.length ≤ 1000) :
    Calls Try.prog 49 #[.pointer (some ⟨b, 0, none⟩), .int .i64 y] w fun e w' => ∃ t s code, e = .returned (.tuple #[.agg #[.bool t, .string s], .int .i64 code]) ∧ Rd vs y t s code ∧ Kp [] w w' := by
  have hc := h.cell
  have hb := h.blt
  have hp := h.pos
  have hbn : b ≠ w.heap.size := by omega
  have HC := hide h
  have HR := hide hr
  clear h hr
  by_cases h0 : y < 0
  · go_enter Try.func49, Try.ntmps49
    go_wp2_with fail
    exact bodyPost_ret (v := .tuple #[.agg #[.bool false, .string ByteArray.empty], .int .i64 1]) (by simp [results, Try.results49, go_sem]; rfl) rfl ⟨_, _, _, rfl, .inl ⟨h0, rfl, rfl, rfl⟩, ((Kp.refl [] w).alloc _)⟩
  by_cases h1 : y < va vs 0
  · go_enter Try.func49, Try.ntmps49
    go_wp2_with fail
    refine (first17 _ ((unhide HC).kp (((Kp.refl [] w).alloc _)) (by simp) (by simp))).mono ?_
    rintro e w' ⟨rfl, rfl⟩
    go_wp2_with fail
    exact bodyPost_ret (v := .tuple #[.agg #[.bool false, .string ByteArray.empty], .int .i64 12]) (by simp [results, Try.results49, go_sem]; rfl) rfl ⟨_, _, _, rfl, .inr (.inl ⟨by omega, h1, rfl, rfl, rfl⟩), ((Kp.refl [] w).alloc _)⟩
  have h1 : va vs 0 ≤ y := by omega
  go_enter Try.func49, Try.ntmps49
  go_wp2_with fail
  refine (first17 _ ((unhide HC).kp (((Kp.refl [] w).alloc _)) (by simp) (by simp))).mono ?_
  rintro e w' ⟨rfl, rfl⟩
  go_wp2_with fail
  go_region_with (go_at_call 58; refine (count_read y w (unhide HC) (unhide HR) hm h1 _ _).mono ?_; rintro e w1 ⟨c, rfl, HN, hc0, q0, q1, q2, q3, q4, q5, q6, q7, q8, q9, HK⟩)
  all_goals
    go_wp2
  all_goals
    refine bodyPost_ret (v := .tuple #[.agg #[.bool (vt vs (c - 1)), .string (vb vs (c - 1))], .int .i64 0]) (by simp [results, Try.results49, go_sem, Act.put, q3, q4]) rfl ⟨_, _, _, rfl, .inr (.inr ⟨by omega, h1, c, unhide HN, hc0, rfl, rfl, rfl⟩), ?_⟩
    exact ((((Kp.refl [] w).alloc _).drew.trans0 (unhide HK)).setCell (.inr (Nat.le_refl _)) _).setCell (.inr (Nat.le_refl _)) _
end Go.Proofs.Ytfcfoabdangfhab
