/- Tear and Put of a log, by their contracts. -/
import Derived.Test.YtfcfoabdangfhabJ2
import Derived.Test.YtfcfoabdangfhabQ3
namespace Go.Proofs.Ytfcfoabdangfhab
open Go.RowKit
set_option maxRecDepth 20000
attribute [local go_sem ↓] Go.wp_at_zero Go.wp_at_succ

/-- What a call that changes a log leaves. -/
def LgTo (B : Nat) (w : World) (gb : Nat) (F : List Nat) (cs : List (List Ver)) (torn : List UInt8) (w' : World) : Prop := ∃ F', Lg B w' gb F' cs torn ∧ Kp F w w' ∧ ∀ x, x ∈ F' → x ∈ F ∨ w.heap.size ≤ x
theorem lgTo_same {B : Nat} {w w' : World} {gb : Nat} {F : List Nat} {cs : List (List Ver)} {torn : List UInt8} (h : Lg B w gb F cs torn) (hk : Kp [] w w') : LgTo B w gb F cs torn w' :=
  ⟨F, h.kp0 hk, hk.mono (fun x hx => by simp at hx), fun x hx => .inl hx⟩

section
variable {B : Nat} {w W w2 : World} {gb : Nat} {F : List Nat} {a a' : Option Addr} {cap cap' N : Nat} {cs : List (List Ver)} {bs : List UInt8}
theorem LgL.far (h : LgL B w gb F a cap cs []) (hW : Kp [] w W) (hk : Kp (ob a) W w2) :
    w2.heap[gb]? = some (.cells #[.slice a (lb cs ++ []).length cap, .int .i64 (lb cs).length, .int .i64 cs.length] 82 (0, 0)) := by
  rw [hk.block gb (Nat.lt_of_lt_of_le (h.lo gb h.gF).2 hW.size) h.ne, hW.block gb (h.lo gb h.gF).2 (by simp)]
  exact h.box
theorem LgL.far_cells (h : LgL B w gb F a cap cs []) (hW : Kp [] w W) (hk : Kp (ob a) W w2) :
    w2.cell? ⟨gb, 0, none⟩ = some (.slice a (lb cs).length cap) ∧ w2.frozen? ⟨gb, 0, none⟩ = false ∧ w2.cell? ⟨gb, 1, none⟩ = some (.int .i64 (lb cs).length) ∧ w2.frozen? ⟨gb, 1, none⟩ = false ∧ w2.cell? ⟨gb, 2, none⟩ = some (.int .i64 cs.length) ∧ w2.frozen? ⟨gb, 2, none⟩ = false := by
  have hb := h.far hW hk
  rw [List.append_nil] at hb
  exact ⟨cell_of_block hb rfl, frozen_of_block _ hb, cell_of_block hb rfl, frozen_of_block _ hb, cell_of_block hb rfl, frozen_of_block _ hb⟩

/-- The box with other cells: a log again. -/
theorem LgL.turn (h : LgL B w gb F a cap cs []) (hW : Kp [] w W) (hk : Kp (ob a) W w2) (ho : OwnU B w2 a' cap' bs) (hn : ∀ x ∈ ob a', x ∈ ob a ∨ W.heap.size ≤ x)
    {W3 : World} (hk3 : Kp [gb] w2 W3) {cs' : List (List Ver)} {torn : List UInt8} (hbs : bs = lb cs' ++ torn) (hb : W3.heap[gb]? = some (.cells #[.slice a' bs.length cap', .int .i64 (lb cs').length, .int .i64 cs'.length] 82 (0, 0)))
    (hi : LInv cs') (ht : torn.length ≤ 114) : LgTo B w gb F cs' torn W3 := by
  subst hbs
  have hgl := (h.lo gb h.gF).2
  have hne : gb ∉ ob a' := fun hm => by
    rcases hn gb hm with e | e
    · exact h.ne e
    · have := hW.size; omega
  have hKF : Kp F w W3 := by
    have k1 : Kp F w w2 := (hW.mono (fun x hx => by simp at hx)).trans hk (fun x hx => .inl (h.aF x hx))
    exact k1.trans hk3 (fun x hx => .inl (by rw [List.mem_singleton.1 hx]; exact h.gF))
  have ho3 : OwnU B W3 a' cap' (lb cs' ++ torn) := ho.kp hk3 (fun x hx e => hne (by rw [← List.mem_singleton.1 e]; exact hx))
  refine ⟨F ++ ob a', ⟨a', cap', hb, ho3, hne, by simp [h.gF], fun x hx => by simp [hx], fun x hx => ?_, hi, ht, Nat.le_trans h.hB hKF.size⟩, hKF, fun x hx => ?_⟩
  · rcases List.mem_append.1 hx with e | e
    · exact ⟨(h.lo x e).1, Nat.lt_of_lt_of_le (h.lo x e).2 hKF.size⟩
    · exact ho3.lo x e
  · rcases List.mem_append.1 hx with e | e
    · exact .inl e
    · rcases hn x e with e2 | e2
      · exact .inl (h.aF x e2)
      · exact .inr (Nat.le_trans hW.size e2)

theorem LgL.tear_cut (h : LgL B w gb F a cap cs []) (hW : Kp [] w W) (hk : Kp (ob a) W w2) {t : List UInt8} (ho : OwnU B w2 a' cap' (lb cs ++ t)) (hn : ∀ x ∈ ob a', x ∈ ob a ∨ W.heap.size ≤ x) (hN : N = (lb cs ++ t).length) (ht : t.length ≤ 114) :
    LgTo B w gb F cs t (w2.setCell ⟨gb, 0, none⟩ (.slice a' N cap')) := by
  subst hN
  refine h.turn hW hk ho hn ((Kp.refl [gb] w2).setCell (.inl (by simp)) _) rfl ?_ h.inv ht
  rw [heap_setCell_at 0 _ (h.far hW hk)]
  rfl
theorem LgL.tear_all (h : LgL B w gb F a cap cs []) (hW : Kp [] w W) (hk : Kp (ob a) W w2) {ps : List Ver} (hc : lcode cs ps = 0) (ho : OwnU B w2 a' cap' (lb cs ++ enc ps)) (hn : ∀ x ∈ ob a', x ∈ ob a ∨ W.heap.size ≤ x) (hN : N = (lb cs ++ enc ps).length)
    {x y : Int} (hx : x = ((lb cs).length + (enc ps).length : Nat)) (hy : y = (cs.length + 1 : Nat)) :
    LgTo B w gb F (cs ++ [ps]) [] (((w2.setCell ⟨gb, 0, none⟩ (.slice a' N cap')).setCell ⟨gb, 1, none⟩ (.int .i64 x)).setCell ⟨gb, 2, none⟩ (.int .i64 y)) := by
  subst hN hx hy
  refine h.turn hW hk ho hn ((((Kp.refl [gb] w2).setCell (.inl (by simp)) _).setCell (.inl (by simp)) _).setCell (.inl (by simp)) _) (cs' := cs ++ [ps]) (torn := []) (by rw [lb_snoc, List.append_nil]) ?_ (h.inv.snoc hc) (by simp)
  rw [heap_setCell_at 2 _ (heap_setCell_at 1 _ (heap_setCell_at 0 _ (h.far hW hk)))]
  rw [lb_snoc]
  simp
end

theorem byt_srcn {w : World} {a : Option Addr} {bs : List UInt8} (h : Byt w a bs) {n c : Nat} (hn : n = bs.length) : Src Try.prog 1 23 (.slice a n c) bs.length (bcells bs) w := by
  subst hn
  exact h.src c

set_option maxHeartbeats 2000000 in
theorem ltear30 {B gb : Nat} {F : List Nat} {cs : List (List Ver)} (a2 : Option Addr) (c : Nat) (ps : List Ver) (keep : Int) (w : World) (h : Lg B w gb F cs []) (hp : Prs w a2 ps) (hm : ps.length ≤ 1000) :
    Calls Try.prog 30 #[.pointer (some ⟨gb, 0, none⟩), .slice a2 ps.length c, .int .i64 keep] w fun e w' => e = .returned (.int .i64 (lcode cs ps)) ∧ LgTo B w gb F (ltear cs ps keep) (ltorn cs ps keep) w' := by
  have hinv := h.inv
  have hn40 := hinv.n40
  have hb3000 := hinv.b3000
  have HS := hide (fun w' (hk : Kp [] w w') => lgTo_same h hk)
  obtain ⟨a, cap, h⟩ := h
  by_cases hpf : pf (-1) ps = 0
  · have hel := enc_le hpf
    have HE := hide (encode_ok a2 c ps w hp hpf)
    by_cases hf : 40 ≤ cs.length ∨ 3000 < (lb cs).length + (enc ps).length
    · have hc := lcode_full hpf hf
      obtain ⟨e1, e2⟩ := ltear_code (cs := cs) (ps := ps) keep (by rw [hc]; simp)
      rw [hc, e1, e2]
      have HB := hide h
      clear h hp hpf hc e1 e2
      by_cases h40 : 40 ≤ cs.length
      · clear hf
        go_enter Try.func30, Try.ntmps30
        go_wp2_with fail
        refine (unhide HE).mono ?_
        rintro e w1 ⟨gx, cx, nx, rfl, hn, hr⟩
        have r2 : w1.cell? ⟨gb, 2, none⟩ = some (.int .i64 cs.length) := hr.kp.cell (by simp) (unhide HB).c2
        have HK := hide hr.kp
        clear hn hr
        generalize cs.length = C at *
        go_wp2_with fail
        go_ret
        exact ⟨rfl, unhide HS _ (unhide HK)⟩
      · have hfull : 3000 < (lb cs).length + (enc ps).length := hf.resolve_left h40
        clear hf
        go_enter Try.func30, Try.ntmps30
        go_wp2_with fail
        refine (unhide HE).mono ?_
        rintro e w1 ⟨gx, cx, nx, rfl, hn, hr⟩
        have r2 : w1.cell? ⟨gb, 2, none⟩ = some (.int .i64 cs.length) := hr.kp.cell (by simp) (unhide HB).c2
        have r1 : w1.cell? ⟨gb, 1, none⟩ = some (.int .i64 (lb cs).length) := hr.kp.cell (by simp) (unhide HB).c1
        have HK := hide hr.kp
        rw [← hn] at hfull hel
        clear hn hr
        have HC := hide HB
        clear HB
        have HS2 : Hid (LgTo B w gb F cs [] w1) := unhide HS _ (unhide HK)
        clear HS HC
        generalize cs.length = C at *
        generalize (lb cs).length = L at *
        have f1 : ¬ (40 : Int) ≤ (C : Int) := by omega
        have f2 : (3000 : Int) < (L : Int) + (nx : Int) := by omega
        go_wp2_with fail
        go_ret
        exact ⟨rfl, HS2⟩
    · have hc := lcode_ok hpf hf
      rw [hc]
      have h40 : ¬ 40 ≤ cs.length := fun q => hf (.inl q)
      have hroom : ¬ 3000 < (lb cs).length + (enc ps).length := fun q => hf (.inr q)
      have HC := hide hc
      have HB := hide h
      by_cases hk : ((enc ps).length : Int) ≤ keep
      · obtain ⟨e1, e2⟩ := ltear_all hc hk
        rw [e1, e2]
        clear h hp hpf hc e1 e2 hf
        go_enter Try.func30, Try.ntmps30
        go_wp2_with fail
        refine (unhide HE).mono ?_
        rintro e w1 ⟨gx, cx, nx, rfl, hn, hr⟩
        have r0 : w1.cell? ⟨gb, 0, none⟩ = some (.slice a (lb cs).length cap) := hr.kp.cell (by simp) (by have := (unhide HB).c0; rwa [List.append_nil] at this)
        have r1 : w1.cell? ⟨gb, 1, none⟩ = some (.int .i64 (lb cs).length) := hr.kp.cell (by simp) (unhide HB).c1
        have r2 : w1.cell? ⟨gb, 2, none⟩ = some (.int .i64 cs.length) := hr.kp.cell (by simp) (unhide HB).c2
        have hO : OwnU B w1 a cap (lb cs) := by have := (unhide HB).own.kp0 hr.kp; rwa [List.append_nil] at this
        have hsl := own_part hO (lb cs).length (lb cs).length (Nat.le_refl _) _ rfl
        have hsx := own_part hr.ownU nx nx (by omega) _ rfl
        have HO := hide hO
        have HR := hide hr
        have HK := hide hr.kp
        rw [← hn] at hroom hel hk
        have HN := hide hn
        have hB1 : B ≤ w1.heap.size := Nat.le_trans (unhide HB).hB hr.kp.size
        clear hn hr hO
        obtain ⟨C, hC⟩ : ∃ C, cs.length = C := ⟨_, rfl⟩
        obtain ⟨L, hL⟩ : ∃ L, (lb cs).length = L := ⟨_, rfl⟩
        rw [hC] at hn40 h40 r2
        rw [hL] at hb3000 hroom r0 r1 hsl
        have f1 : ¬ (40 : Int) ≤ (C : Int) := by omega
        have f2 : ¬ (3000 : Int) < (L : Int) + (nx : Int) := by omega
        have m0 : ¬ keep < 0 := by omega
        have HCC := hide hC
        have HLL := hide hL
        clear hC hL
        rcases Int.lt_or_eq_of_le hk with hk2 | hk2
        case' inr => subst hk2
        all_goals
         go_wp2_with fail
         go_region_law (refine step_appx (by rfl) (.tmp 47) (.tmp 50) 23 (by rfl) ((unhide HO).kp0 (Kp.refl [] _).drew) (by simpa using hB1) L (unhide HLL).symm (.slice (some ⟨gx, 0, none⟩) nx cx) (enc ps) (by rfl) (by rfl) (byt_srcn ((unhide HR).byt.kp0 (Kp.refl [] _).drew) (unhide HN)) (by have := unhide HLL; have := unhide HN; omega) ?_; intro a3 c3 n3 w3 hn3 ho3 hk3 hx3; obtain ⟨s0, s1, s2, s3, s4, s5⟩ := (unhide HB).far_cells ((unhide HK).trans0 (Kp.refl [] _).drew) (unhide hk3); rw [unhide HLL] at s0 s2; rw [unhide HCC] at s4)
         all_goals
          go_wp2_with fail
          go_ret
          exact ⟨rfl, (unhide HB).tear_all ((unhide HK).trans0 (Kp.refl [] _).drew) (unhide hk3) (unhide HC) (unhide ho3) (unhide hx3) (unhide hn3) (by have := unhide HLL; have := unhide HN; omega) (by have := unhide HCC; omega)⟩
      · obtain ⟨e1, e2⟩ := ltear_cut hc hk
        rw [e1, e2]
        clear h hp hpf hc e1 e2 hf
        by_cases hneg : keep < 0
        · rw [show keep.toNat = 0 by omega]
          go_enter Try.func30, Try.ntmps30
          go_wp2_with fail
          refine (unhide HE).mono ?_
          rintro e w1 ⟨gx, cx, nx, rfl, hn, hr⟩
          have r0 : w1.cell? ⟨gb, 0, none⟩ = some (.slice a (lb cs).length cap) := hr.kp.cell (by simp) (by have := (unhide HB).c0; rwa [List.append_nil] at this)
          have r1 : w1.cell? ⟨gb, 1, none⟩ = some (.int .i64 (lb cs).length) := hr.kp.cell (by simp) (unhide HB).c1
          have r2 : w1.cell? ⟨gb, 2, none⟩ = some (.int .i64 cs.length) := hr.kp.cell (by simp) (unhide HB).c2
          have hO : OwnU B w1 a cap (lb cs) := by have := (unhide HB).own.kp0 hr.kp; rwa [List.append_nil] at this
          have hsl := own_part hO (lb cs).length (lb cs).length (Nat.le_refl _) _ rfl
          have hsx := own_part hr.ownU 0 nx (by omega) (0) (by omega)
          have HO := hide hO
          have HR := hide ((hr.ownU.take 0 (by omega)).byt)
          have HK := hide hr.kp
          have hlt : ((enc ps).take 0).length = 0 := by simp
          rw [← hn] at hroom hel hk
          have HT := hide hlt
          have hB1 : B ≤ w1.heap.size := Nat.le_trans (unhide HB).hB hr.kp.size
          clear hn hr hO hlt
          obtain ⟨C, hC⟩ : ∃ C, cs.length = C := ⟨_, rfl⟩
          obtain ⟨L, hL⟩ : ∃ L, (lb cs).length = L := ⟨_, rfl⟩
          rw [hC] at hn40 h40 r2
          rw [hL] at hb3000 hroom r0 r1 hsl
          have f1 : ¬ (40 : Int) ≤ (C : Int) := by omega
          have f2 : ¬ (3000 : Int) < (L : Int) + (nx : Int) := by omega
          have m1 : ¬ (nx : Int) < 0 := by omega
          have m2 : ¬ (0 : Int) = (nx : Int) := by omega
          have HCC := hide hC
          have HLL := hide hL
          clear hC hL
          go_wp2_with fail
          go_region_law (refine step_appx (by rfl) (.tmp 47) (.tmp 50) 23 (by rfl) ((unhide HO).kp0 (Kp.refl [] _).drew) (by simpa using hB1) L (unhide HLL).symm (.slice (some ⟨gx, 0, none⟩) 0 cx) ((enc ps).take 0) (by rfl) (by rfl) (byt_srcn ((unhide HR).kp0 (Kp.refl [] _).drew) (unhide HT).symm) (by have := unhide HLL; have := unhide HT; omega) ?_; intro a3 c3 n3 w3 hn3 ho3 hk3 hx3; obtain ⟨s0, s1, s2, s3, s4, s5⟩ := (unhide HB).far_cells ((unhide HK).trans0 (Kp.refl [] _).drew) (unhide hk3); rw [unhide HLL] at s0 s2; rw [unhide HCC] at s4)
          all_goals
           go_wp2_with fail
           go_ret
           exact ⟨rfl, (unhide HB).tear_cut ((unhide HK).trans0 (Kp.refl [] _).drew) (unhide hk3) (unhide ho3) (unhide hx3) (unhide hn3) (by have := unhide HT; omega)⟩
        · obtain ⟨k, rfl⟩ : ∃ k : Nat, keep = (k : Int) := ⟨keep.toNat, by omega⟩
          rw [Int.toNat_natCast]
          go_enter Try.func30, Try.ntmps30
          go_wp2_with fail
          refine (unhide HE).mono ?_
          rintro e w1 ⟨gx, cx, nx, rfl, hn, hr⟩
          have r0 : w1.cell? ⟨gb, 0, none⟩ = some (.slice a (lb cs).length cap) := hr.kp.cell (by simp) (by have := (unhide HB).c0; rwa [List.append_nil] at this)
          have r1 : w1.cell? ⟨gb, 1, none⟩ = some (.int .i64 (lb cs).length) := hr.kp.cell (by simp) (unhide HB).c1
          have r2 : w1.cell? ⟨gb, 2, none⟩ = some (.int .i64 cs.length) := hr.kp.cell (by simp) (unhide HB).c2
          have hO : OwnU B w1 a cap (lb cs) := by have := (unhide HB).own.kp0 hr.kp; rwa [List.append_nil] at this
          have hsl := own_part hO (lb cs).length (lb cs).length (Nat.le_refl _) _ rfl
          have hsx := own_part hr.ownU k nx (by omega) ((k : Int)) (by omega)
          have HO := hide hO
          have HR := hide ((hr.ownU.take k (by omega)).byt)
          have HK := hide hr.kp
          have hlt : ((enc ps).take k).length = k := by simp; omega
          rw [← hn] at hroom hel hk
          have HT := hide hlt
          have hB1 : B ≤ w1.heap.size := Nat.le_trans (unhide HB).hB hr.kp.size
          clear hn hr hO hlt
          obtain ⟨C, hC⟩ : ∃ C, cs.length = C := ⟨_, rfl⟩
          obtain ⟨L, hL⟩ : ∃ L, (lb cs).length = L := ⟨_, rfl⟩
          rw [hC] at hn40 h40 r2
          rw [hL] at hb3000 hroom r0 r1 hsl
          have f1 : ¬ (40 : Int) ≤ (C : Int) := by omega
          have f2 : ¬ (3000 : Int) < (L : Int) + (nx : Int) := by omega
          have m1 : ¬ (nx : Int) < (k : Int) := by omega
          have m2 : ¬ ((k : Int) : Int) = (nx : Int) := by omega
          have HCC := hide hC
          have HLL := hide hL
          clear hC hL
          go_wp2_with fail
          go_region_law (refine step_appx (by rfl) (.tmp 47) (.tmp 50) 23 (by rfl) ((unhide HO).kp0 (Kp.refl [] _).drew) (by simpa using hB1) L (unhide HLL).symm (.slice (some ⟨gx, 0, none⟩) k cx) ((enc ps).take k) (by rfl) (by rfl) (byt_srcn ((unhide HR).kp0 (Kp.refl [] _).drew) (unhide HT).symm) (by have := unhide HLL; have := unhide HT; omega) ?_; intro a3 c3 n3 w3 hn3 ho3 hk3 hx3; obtain ⟨s0, s1, s2, s3, s4, s5⟩ := (unhide HB).far_cells ((unhide HK).trans0 (Kp.refl [] _).drew) (unhide hk3); rw [unhide HLL] at s0 s2; rw [unhide HCC] at s4)
          all_goals
           go_wp2_with fail
           go_ret
           exact ⟨rfl, (unhide HB).tear_cut ((unhide HK).trans0 (Kp.refl [] _).drew) (unhide hk3) (unhide ho3) (unhide hx3) (unhide hn3) (by have := unhide HT; omega)⟩
  · have hc := lcode_bad (cs := cs) hpf
    obtain ⟨e1, e2⟩ := ltear_code (cs := cs) (ps := ps) keep (by rw [hc]; exact hpf)
    rw [hc, e1, e2]
    have HE := hide (encode_bad a2 c ps w hp hm hpf)
    clear h hp hc e1 e2
    generalize pf (-1) ps = z at *
    go_enter Try.func30, Try.ntmps30
    go_wp2_with fail
    refine (unhide HE).mono ?_
    rintro e w1 ⟨rfl, hk1⟩
    have HK := hide (unhide HS _ hk1)
    clear hk1 HS HE
    go_wp2_with fail
    go_ret
    exact ⟨rfl, unhide HK⟩

set_option maxHeartbeats 400000 in
theorem lput31 {B gb : Nat} {F : List Nat} {cs : List (List Ver)} (a2 : Option Addr) (c : Nat) (ps : List Ver) (w : World) (h : Lg B w gb F cs []) (hp : Prs w a2 ps) (hm : ps.length ≤ 1000) :
    Calls Try.prog 31 #[.pointer (some ⟨gb, 0, none⟩), .slice a2 ps.length c] w fun e w' => e = .returned (.int .i64 (lcode cs ps)) ∧ LgTo B w gb F (lput cs ps) [] w' := by
  have ht := ltear30 a2 c ps 9223372036854775807 w h hp hm
  rw [lput_is.1, lput_is.2] at ht
  have HT := hide ht
  clear h hp ht
  generalize lput cs ps = cs' at *
  generalize lcode cs ps = z at *
  go_enter Try.func31, Try.ntmps31
  go_wp2_with fail
  refine (unhide HT).mono ?_
  rintro e w1 ⟨rfl, h1⟩
  have H1 := hide h1
  clear h1
  go_wp2_with fail
  go_ret
  exact ⟨rfl, unhide H1⟩
end Go.Proofs.Ytfcfoabdangfhab
