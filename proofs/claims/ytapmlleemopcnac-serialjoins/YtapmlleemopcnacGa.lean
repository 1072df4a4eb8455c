/- Acts that are handed in; greatActs, by its contract. -/
import Derived.Test.YtapmlleemopcnacM10
namespace Go.Proofs.Ytapmlleemopcnac
open Go.RowKit
set_option maxRecDepth 20000
attribute [local go_sem ↓] Go.wp_at_zero Go.wp_at_succ

/-- An act that was handed in: where its parts lie. -/
structure AcH (w : World) (b o : Nat) (x : Ac) : Prop where
  c0 : w.cell? ⟨b, o, none⟩ = some (.int .i64 x.kd)
  c1 : w.cell? ⟨b, o + 1, none⟩ = some (.int .i64 x.key)
  c2 : w.cell? ⟨b, o + 2, none⟩ = some (.int .i64 x.to_)
  c3 : w.cell? ⟨b, o + 3, none⟩ = some (.bool x.t)
  c4 : w.cell? ⟨b, o + 4, none⟩ = some (.string x.s)
  str : x.s.size ≤ maxLen
  ls : ∃ la lc, w.cell? ⟨b, o + 5, none⟩ = some (.slice la x.l.length lc) ∧ Prs w la x.l
def AcsH (w : World) (a : Option Addr) (l : List Ac) : Prop := l.length ≤ maxLen ∧ (0 < l.length → ∃ b o, a = some ⟨b, o, none⟩ ∧ ∀ i x, l[i]? = some x → AcH w b (o + i * 6) x)
theorem prs_kp0 {w w' : World} {a : Option Addr} {ps : List Ver} (h : Prs w a ps) (hk : Kp [] w w') : Prs w' a ps := h.kp hk (fun _ _ _ => by simp)
theorem AcH.kp0 {w w' : World} {b o : Nat} {x : Ac} (h : AcH w b o x) (hk : Kp [] w w') : AcH w' b o x := by
  obtain ⟨la, lc, h1, h2⟩ := h.ls
  exact ⟨hk.cell (by simp) h.c0, hk.cell (by simp) h.c1, hk.cell (by simp) h.c2, hk.cell (by simp) h.c3, hk.cell (by simp) h.c4, h.str, la, lc, hk.cell (by simp) h1, prs_kp0 h2 hk⟩
theorem AcsH.kp0 {w w' : World} {a : Option Addr} {l : List Ac} (h : AcsH w a l) (hk : Kp [] w w') : AcsH w' a l := ⟨h.1, fun hp => by
  obtain ⟨b, o, e, h1⟩ := h.2 hp
  exact ⟨b, o, e, fun i x hx => (h1 i x hx).kp0 hk⟩⟩
theorem AcsH.ins {w : World} {a : Option Addr} {l : List Ac} (h : AcsH w a l) : ActsIn w a l := fun hp => by
  obtain ⟨b, o, e, h1⟩ := h.2 hp
  refine ⟨b, o, e, fun i x hx => ?_⟩
  have h2 := h1 i x hx
  obtain ⟨la, lc, h3, h4⟩ := h2.ls
  exact ⟨h2.c0, h2.c1, h2.c2, h2.c3, h2.c4, la, lc, h3, h4.mem⟩
def GaEnd (l : List Ac) (w : World) (e : Ending) (w' : World) : Prop := ∃ q : Bool, e = .returned (.bool q) ∧ (q = false → ActsOk l) ∧ w' = w
theorem gaEnd_mk {l : List Ac} {w : World} (q : Bool) (h : q = false → ActsOk l) : GaEnd l w (.returned (.bool q)) w := ⟨q, rfl, h, rfl⟩
set_option maxHeartbeats 1000000 in
theorem gacts (a : Option Addr) (c : Nat) (l : List Ac) (w : World) (h : AcsH w a l) :
    Calls Try.prog 49 #[.slice a l.length c] w fun e w' => GaEnd l w e w' := by
  have hm := h.1
  unfold maxLen at hm
  have HP := hide h
  clear h
  obtain ⟨n, hn⟩ : ∃ n, l.length = n := ⟨_, rfl⟩
  have HN := hide hn
  rw [hn] at hm ⊢
  clear hn
  go_enter Try.func49, Try.ntmps49
  go_wp2_with fail
  go_loop [3] (fun i => ∃ k : Nat, k ≤ n ∧ k ≤ 200 ∧ i = .int .i64 k ∧ Hid (∀ j x, j < k → l[j]? = some x → x.l.length ≤ 50)) (fun i => n - (intOf i).toNat)
  case atStart => exact ⟨0, Nat.zero_le _, by omega, rfl, fun j x hj => by omega⟩
  case round =>
    obtain ⟨k, hk, hk2, rfl, HL⟩ := hrel
    have fin : (k = n ∨ k = 200) → ∀ q : Bool, q = decide ((150 : Int) < (n : Int)) → GaEnd l w (.returned (.bool q)) w := fun hc q hq => by
      refine gaEnd_mk q (fun hf => ?_)
      rw [hf] at hq
      have h1 := of_decide_eq_false hq.symm
      have hnn := unhide HN
      refine ⟨by omega, fun x hx => ?_⟩
      obtain ⟨j, hj, e⟩ := List.getElem_of_mem hx
      have := unhide HL j x (by omega) (by rw [List.getElem?_eq_getElem hj, e])
      omega
    have HF := hide fin
    clear fin
    by_cases hlt : k < n
    · have i1 : (k : Int) < (n : Int) := by omega
      have i0 : (0 : Int) ≤ (k : Int) := by omega
      by_cases hlt2 : k < 200
      · have i2 : (k : Int) < 200 := by omega
        have hln : k < l.length := by have := unhide HN; omega
        obtain ⟨b, o, rfl, hb⟩ := (unhide HP).2 (by omega)
        obtain ⟨x, hx⟩ : ∃ x, l[k]? = some x := ⟨_, List.getElem?_eq_getElem hln⟩
        have hat := hb k x hx
        obtain ⟨la, lc, z5, hls⟩ := hat.ls
        have q4 : w.cell? ⟨b, o + k * 6 + 3 + 1, none⟩ = _ := hat.c4
        have q5 : w.cell? ⟨b, o + k * 6 + 5, none⟩ = _ := z5
        have hsz := hat.str
        unfold maxLen at hsz
        have HX := hide hx
        have HGP := hide (gpairs30 la lc x.l w hls)
        clear hb hat hx z5 hls
        obtain ⟨kd, key, to_, xt, xs, xl⟩ := x
        dsimp only at q4 q5 hsz HGP
        by_cases hs : 100 < xs.size
        · have hs2 : (100 : Int) < (xs.size : Int) := by omega
          go_wp2_with fail
          go_ret
          exact gaEnd_mk _ (fun h => by simp at h)
        · have hs2 : ¬ (100 : Int) < (xs.size : Int) := by omega
          go_wp2_with fail
          refine (unhide HGP).mono ?_
          rintro e w' ⟨q, rfl, hq, hw'⟩
          subst w'
          cases q with
          | true =>
            go_wp2_with fail
            go_ret
            exact gaEnd_mk _ (fun h => by simp at h)
          | false =>
            have hl5 := hq rfl
            clear hq
            go_wp2_with fail
            refine ⟨⟨k + 1, by omega, by omega, by go_num, fun j y hj hy => ?_⟩, by simp [intOf]; omega⟩
            rcases Nat.lt_or_ge j k with e | e
            · exact unhide HL j y e hy
            · have : j = k := by omega
              subst this
              rw [unhide HX] at hy
              cases hy
              exact hl5
      · have i2 : ¬ (k : Int) < 200 := by omega
        go_wp2_with fail
        go_ret
        exact unhide HF (.inr (by omega)) _ (by simp)
    · have i1 : ¬ (k : Int) < (n : Int) := by omega
      go_wp2_with fail
      go_ret
      exact unhide HF (.inl (by omega)) _ (by simp)
end Go.Proofs.Ytapmlleemopcnac
