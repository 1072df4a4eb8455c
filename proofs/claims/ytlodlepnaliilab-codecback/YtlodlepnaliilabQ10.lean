/- SamePairs of lists that may be others, by its contract. -/
import Derived.Test.YtlodlepnaliilabPq
import Derived.ChangeKeysEq
namespace Go.Proofs.Ytlodlepnaliilab
open Go.RowKit
set_option maxRecDepth 20000
attribute [local go_sem ↓] Go.wp_at_zero Go.wp_at_succ

theorem Try.held40 : Try.prog.stoodInHeld 40 = false := by kernel_rfl
theorem toList_inj {s s' : ByteArray} (h : s.toList = s'.toList) : s = s' := by
  rw [ByteArray.toList_eq, ByteArray.toList_eq] at h
  exact ByteArray.ext (Array.toList_inj.1 h)
theorem eqPair (d : Nat) (x x' : Int) (t t' : Bool) (s s' : ByteArray) (hne : ¬ (x = x' ∧ t = t' ∧ s = s')) (W : World) :
    (Op.equalIn (d + 4) 40 (.agg #[.int .i64 x, .bool t, .string s]) (.agg #[.int .i64 x', .bool t', .string s'])).run Try.prog W = .ok false W := by
  have hu : Try.prog.underlying 40 = some (.struct (Try.prog.fieldsOf 40)) := by simp [Program.fieldsOf, Try.underlying40]
  rw [run_equalIn_struct W (d + 3) 40 _ _ hu Try.held40]
  simp [Program.fieldsOf, Try.underlying40, Op.eqFields, go_sem, Try.underlying4, Try.underlying9, Try.underlying38, Try.underlying3]
  intro e1 e2 e3
  exact hne ⟨e1, e2, toList_inj e3⟩
theorem neqPair (x x' : Int) (t t' : Bool) (s s' : ByteArray) (hne : ¬ (x = x' ∧ t = t' ∧ s = s')) (W : World) :
    (binOp .neq 40 (.agg #[.int .i64 x, .bool t, .string s]) (.agg #[.int .i64 x', .bool t', .string s'])).run Try.prog W = .ok (.bool true) W := by
  have h := eqPair 9996 x x' t t' s s' hne W
  simp only [binOp]
  simp [Op.equal, Op.maxDepth, h]

def SmEnd (vs us : List Ver) (w : World) (e : Ending) (w' : World) : Prop := ∃ q : Bool, e = .returned (.bool q) ∧ (q = true ↔ vs = us) ∧ ∃ m, w' = w.drewN m
theorem smEnd_mk {vs us : List Ver} {w : World} (q : Bool) (m : Nat) (h : q = true ↔ vs = us) : SmEnd vs us w (.returned (.bool q)) (w.drewN m) := ⟨q, rfl, h, m, rfl⟩

theorem ver_eta {vs : List Ver} {k : Nat} (h : k < vs.length) : vs[k]? = some ⟨va vs k, vt vs k, vb vs k⟩ := by
  rw [List.getElem?_eq_getElem h]
  simp [va, vt, vb, List.getD_eq_getElem?_getD, List.getElem?_eq_getElem h]
theorem vers_same {vs us : List Ver} (hl : vs.length = us.length) (h : ∀ k, k < vs.length → va vs k = va us k ∧ vt vs k = vt us k ∧ vb vs k = vb us k) : vs = us := by
  apply List.ext_getElem? 
  intro k
  by_cases hk : k < vs.length
  · obtain ⟨h1, h2, h3⟩ := h k hk
    rw [ver_eta hk, ver_eta (by omega), h1, h2, h3]
  · rw [List.getElem?_eq_none (by omega), List.getElem?_eq_none (by omega)]

set_option maxHeartbeats 1000000 in
theorem samep14 {vs us : List Ver} (a a' : Option Addr) (cap cap' : Nat) (w : World) (h : SlO w a vs) (h' : SlO w a' us) (hm : vs.length ≤ 1000) :
    Calls Try.prog 14 #[.slice a vs.length cap, .slice a' us.length cap'] w fun e w' => SmEnd vs us w e w' := by
  have HS := hide h
  have HS' := hide h'
  clear h h'
  by_cases hl : vs.length = us.length
  · have HL := hide hl
    have hl' : (vs.length : Int) = (us.length : Int) := by omega
    go_enter Try.func14, Try.ntmps14
    rw [← hl]
    clear hl hl'
    go_wp2_with fail
    go_loopw [5] (fun i wr => ∃ d m : Nat, d ≤ vs.length ∧ i = .int .i64 d ∧ wr = w.drewN m ∧ Hid (∀ k, k < d → va vs k = va us k ∧ vt vs k = vt us k ∧ vb vs k = vb us k)) (fun i _ => vs.length - (intOf i).toNat)
    case atStart => exact ⟨0, 0, Nat.zero_le _, rfl, rfl, fun k hk => by omega⟩
    case round =>
      obtain ⟨d, m, hd, rfl, rfl, HK⟩ := hrel
      by_cases hlt : d < vs.length
      · obtain ⟨g, o, rfl, hs⟩ := unhide HS (by omega)
        obtain ⟨g', o', rfl, hs'⟩ := unhide HS' (by have := unhide HL; omega)
        have q0 := hs.at0 d hlt
        have q1 := hs.at1 d hlt
        have q2 : w.cell? ⟨g, o + d * 3 + 1 + 1, none⟩ = some (.string (vb vs d)) := hs.at2 d hlt
        have p0 := hs'.at0 d (by have := unhide HL; omega)
        have p1 := hs'.at1 d (by have := unhide HL; omega)
        have p2 : w.cell? ⟨g', o' + d * 3 + 1 + 1, none⟩ = some (.string (vb us d)) := hs'.at2 d (by have := unhide HL; omega)
        have i0 : (0 : Int) ≤ (d : Int) := by omega
        have i1 : (d : Int) < (vs.length : Int) := by omega
        clear hs hs'
        by_cases e0 : va vs d = va us d ∧ vt vs d = vt us d ∧ vb vs d = vb us d
        · have HE : Hid (∀ k, k < d + 1 → va vs k = va us k ∧ vt vs k = vt us k ∧ vb vs k = vb us k) := fun k hk => by
            rcases Nat.lt_or_ge k d with e | e
            · exact unhide HK k e
            · have : k = d := by omega
              subst this; exact e0
          rw [← e0.1] at p0
          rw [← e0.2.1] at p1
          rw [← e0.2.2] at p2
          clear e0
          go_wp2_with fail
          go_quiet (fail)
          go_wp2
          exact ⟨⟨d + 1, m + nq, by omega, by go_num, rfl, HE⟩, by simp [intOf]; omega⟩
        · have HNE : Hid (¬ vs = us) := fun e => e0 (by rw [e]; exact ⟨rfl, rfl, rfl⟩)
          have hne := fun W => neqPair _ _ _ _ _ _ e0 W
          clear e0
          generalize va vs d = x at *
          generalize va us d = x' at *
          generalize vt vs d = t at *
          generalize vt us d = t' at *
          generalize vb vs d = s at *
          generalize vb us d = s' at *
          go_wp2_with fail
          go_quiet (fail)
          go_wp2
          go_ret
          exact ⟨false, rfl, ⟨fun h => by simp at h, fun h => absurd h (unhide HNE)⟩, m + nq, by simp⟩
      · go_wp2
        go_ret
        refine smEnd_mk _ _ ⟨fun _ => vers_same (unhide HL) (fun k hk => unhide HK k (by omega)), fun _ => rfl⟩
  · have hl' : ¬ (vs.length : Int) = (us.length : Int) := by omega
    have HL := hide hl
    go_enter Try.func14, Try.ntmps14
    go_wp2_with fail
    go_ret
    exact smEnd_mk false 0 ⟨fun h => by simp at h, fun h => absurd (by rw [h]) (unhide HL)⟩
end Go.Proofs.Ytlodlepnaliilab
