/- Bound together for a claim. -/
import Derived.Test.YtldkeaeohceckadGreatDoorM1
import Derived.Deep.RegionLaw
import Derived.Deep.RegionWith
namespace Go.Proofs.YtldkeaeohceckadGreatDoor
set_option maxRecDepth 20000
set_option maxHeartbeats 64000000
/- Tear and Put of a log, by their contracts. -/
section
open Go.RowKit
attribute [local go_sem ↓] Go.wp_at_zero Go.wp_at_succ

/-- What a call that changes a log leaves. -/
def LgTo (B : Nat) (w : World) (gb : Nat) (F : List Nat) (cs : List (List Ver)) (torn : List UInt8) (w' : World) : Prop := ∃ F', Lg B w' gb F' cs torn ∧ Kp F w w' ∧ ∀ x, x ∈ F' → x ∈ F ∨ w.heap.size ≤ x
theorem lgTo_same {B : Nat} {w w' : World} {gb : Nat} {F : List Nat} {cs : List (List Ver)} {torn : List UInt8} (h : Lg B w gb F cs torn) (hk : Kp [] w w') : LgTo B w gb F cs torn w' :=
  ⟨F, h.kp0 hk, hk.mono (fun x hx => by simp at hx), fun x hx => .inl hx⟩

section
variable {B : Nat} {w W w2 : World} {gb : Nat} {F : List Nat} {a a' : Option Addr} {cap cap' N : Nat} {cs : List (List Ver)} {bs : List UInt8}
theorem LgL.far (h : LgL B w gb F a cap cs []) (hW : Kp [] w W) (hk : Kp (ob a) W w2) :
    w2.heap[gb]? = some (.cells #[.slice a (lb cs ++ []).length cap, .int .i64 (lb cs).length, .int .i64 cs.length] 144 (0, 0)) := by
  rw [hk.block gb (Nat.lt_of_lt_of_le (h.lo gb h.gF).2 hW.size) h.ne, hW.block gb (h.lo gb h.gF).2 (by simp)]
  exact h.box
theorem LgL.far_cells (h : LgL B w gb F a cap cs []) (hW : Kp [] w W) (hk : Kp (ob a) W w2) :
    w2.cell? ⟨gb, 0, none⟩ = some (.slice a (lb cs).length cap) ∧ w2.frozen? ⟨gb, 0, none⟩ = false ∧ w2.cell? ⟨gb, 1, none⟩ = some (.int .i64 (lb cs).length) ∧ w2.frozen? ⟨gb, 1, none⟩ = false ∧ w2.cell? ⟨gb, 2, none⟩ = some (.int .i64 cs.length) ∧ w2.frozen? ⟨gb, 2, none⟩ = false := by
  have hb := h.far hW hk
  rw [List.append_nil] at hb
  exact ⟨cell_of_block hb rfl, frozen_of_block _ hb, cell_of_block hb rfl, frozen_of_block _ hb, cell_of_block hb rfl, frozen_of_block _ hb⟩

/-- The box with other cells: a log again. -/
theorem LgL.turn (h : LgL B w gb F a cap cs []) (hW : Kp [] w W) (hk : Kp (ob a) W w2) (ho : OwnU B w2 a' cap' bs) (hn : ∀ x ∈ ob a', x ∈ ob a ∨ W.heap.size ≤ x)
    {W3 : World} (hk3 : Kp [gb] w2 W3) {cs' : List (List Ver)} {torn : List UInt8} (hbs : bs = lb cs' ++ torn) (hb : W3.heap[gb]? = some (.cells #[.slice a' bs.length cap', .int .i64 (lb cs').length, .int .i64 cs'.length] 144 (0, 0)))
    (hi : LInv cs') (ht : torn.length ≤ 114) : LgTo B w gb F cs' torn W3 := by
  subst hbs
  have hgl := (h.lo gb h.gF).2
  have hne : gb ∉ ob a' := fun hm => by
    rcases hn gb hm with e | e
    · exact h.ne e
    · have := hW.size; omega
  have hKF : Kp F w W3 := by
    have k1 : Kp F w w2 := (hW.mono (fun x hx => by simp at hx)).trans hk (fun x hx => .inl (h.aF x hx))
    exact k1.trans hk3 (fun x hx => .inl (by rw [List.mem_singleton.1 hx]; exact h.gF))
  have ho3 : OwnU B W3 a' cap' (lb cs' ++ torn) := ho.kp hk3 (fun x hx e => hne (by rw [← List.mem_singleton.1 e]; exact hx))
  refine ⟨F ++ ob a', ⟨a', cap', hb, ho3, hne, by simp [h.gF], fun x hx => by simp [hx], fun x hx => ?_, hi, ht, Nat.le_trans h.hB hKF.size⟩, hKF, fun x hx => ?_⟩
  · rcases List.mem_append.1 hx with e | e
    · exact ⟨(h.lo x e).1, Nat.lt_of_lt_of_le (h.lo x e).2 hKF.size⟩
    · exact ho3.lo x e
  · rcases List.mem_append.1 hx with e | e
    · exact .inl e
    · rcases hn x e with e2 | e2
      · exact .inl (h.aF x e2)
      · exact .inr (Nat.le_trans hW.size e2)

theorem LgL.tear_cut (h : LgL B w gb F a cap cs []) (hW : Kp [] w W) (hk : Kp (ob a) W w2) {t : List UInt8} (ho : OwnU B w2 a' cap' (lb cs ++ t)) (hn : ∀ x ∈ ob a', x ∈ ob a ∨ W.heap.size ≤ x) (hN : N = (lb cs ++ t).length) (ht : t.length ≤ 114) :
    LgTo B w gb F cs t (w2.setCell ⟨gb, 0, none⟩ (.slice a' N cap')) := by
  subst hN
  refine h.turn hW hk ho hn ((Kp.refl [gb] w2).setCell (.inl (by simp)) _) rfl ?_ h.inv ht
  rw [heap_setCell_at 0 _ (h.far hW hk)]
  rfl
theorem LgL.tear_all (h : LgL B w gb F a cap cs []) (hW : Kp [] w W) (hk : Kp (ob a) W w2) {ps : List Ver} (hc : lcode cs ps = 0) (ho : OwnU B w2 a' cap' (lb cs ++ enc ps)) (hn : ∀ x ∈ ob a', x ∈ ob a ∨ W.heap.size ≤ x) (hN : N = (lb cs ++ enc ps).length)
    {x y : Int} (hx : x = ((lb cs).length + (enc ps).length : Nat)) (hy : y = (cs.length + 1 : Nat)) :
    LgTo B w gb F (cs ++ [ps]) [] (((w2.setCell ⟨gb, 0, none⟩ (.slice a' N cap')).setCell ⟨gb, 1, none⟩ (.int .i64 x)).setCell ⟨gb, 2, none⟩ (.int .i64 y)) := by
  subst hN hx hy
  refine h.turn hW hk ho hn ((((Kp.refl [gb] w2).setCell (.inl (by simp)) _).setCell (.inl (by simp)) _).setCell (.inl (by simp)) _) (cs' := cs ++ [ps]) (torn := []) (by rw [lb_snoc, List.append_nil]) ?_ (h.inv.snoc hc) (by simp)
  rw [heap_setCell_at 2 _ (heap_setCell_at 1 _ (heap_setCell_at 0 _ (h.far hW hk)))]
  rw [lb_snoc]
  simp
end

theorem byt_srcn {w : World} {a : Option Addr} {bs : List UInt8} (h : Byt w a bs) {n c : Nat} (hn : n = bs.length) : Src Tryz.prog 1 42 (.slice a n c) bs.length (bcells bs) w := by
  subst hn
  exact h.src c

set_option maxHeartbeats 2000000 in
theorem ltear30 {B gb : Nat} {F : List Nat} {cs : List (List Ver)} (a2 : Option Addr) (c : Nat) (ps : List Ver) (keep : Int) (w : World) (h : Lg B w gb F cs []) (hp : Prs w a2 ps) (hm : ps.length ≤ 1000) :
    Calls Tryz.prog 188 #[.pointer (some ⟨gb, 0, none⟩), .slice a2 ps.length c, .int .i64 keep] w fun e w' => e = .returned (.int .i64 (lcode cs ps)) ∧ LgTo B w gb F (ltear cs ps keep) (ltorn cs ps keep) w' := by
  have hinv := h.inv
  have hn40 := hinv.n40
  have hb3000 := hinv.b3000
  have HS := hide (fun w' (hk : Kp [] w w') => lgTo_same h hk)
  obtain ⟨a, cap, h⟩ := h
  by_cases hpf : pf (-1) ps = 0
  · have hel := enc_le hpf
    have HE := hide (encode_ok a2 c ps w hp hpf)
    by_cases hf : 40 ≤ cs.length ∨ 3000 < (lb cs).length + (enc ps).length
    · have hc := lcode_full hpf hf
      obtain ⟨e1, e2⟩ := ltear_code (cs := cs) (ps := ps) keep (by rw [hc]; simp)
      rw [hc, e1, e2]
      have HB := hide h
      clear h hp hpf hc e1 e2
      by_cases h40 : 40 ≤ cs.length
      · clear hf
        go_enter Tryz.func188, Tryz.ntmps188
        go_wp2_with fail
        refine (unhide HE).mono ?_
        rintro e w1 ⟨gx, cx, nx, rfl, hn, hr⟩
        have r2 : w1.cell? ⟨gb, 2, none⟩ = some (.int .i64 cs.length) := hr.kp.cell (by simp) (unhide HB).c2
        have HK := hide hr.kp
        clear hn hr
        generalize cs.length = C at *
        go_wp2_with fail
        go_ret
        exact ⟨rfl, unhide HS _ (unhide HK)⟩
      · have hfull : 3000 < (lb cs).length + (enc ps).length := hf.resolve_left h40
        clear hf
        go_enter Tryz.func188, Tryz.ntmps188
        go_wp2_with fail
        refine (unhide HE).mono ?_
        rintro e w1 ⟨gx, cx, nx, rfl, hn, hr⟩
        have r2 : w1.cell? ⟨gb, 2, none⟩ = some (.int .i64 cs.length) := hr.kp.cell (by simp) (unhide HB).c2
        have r1 : w1.cell? ⟨gb, 1, none⟩ = some (.int .i64 (lb cs).length) := hr.kp.cell (by simp) (unhide HB).c1
        have HK := hide hr.kp
        rw [← hn] at hfull hel
        clear hn hr
        have HC := hide HB
        clear HB
        have HS2 : Hid (LgTo B w gb F cs [] w1) := unhide HS _ (unhide HK)
        clear HS HC
        generalize cs.length = C at *
        generalize (lb cs).length = L at *
        have f1 : ¬ (40 : Int) ≤ (C : Int) := by omega
        have f2 : (3000 : Int) < (L : Int) + (nx : Int) := by omega
        go_wp2_with fail
        go_ret
        exact ⟨rfl, HS2⟩
    · have hc := lcode_ok hpf hf
      rw [hc]
      have h40 : ¬ 40 ≤ cs.length := fun q => hf (.inl q)
      have hroom : ¬ 3000 < (lb cs).length + (enc ps).length := fun q => hf (.inr q)
      have HC := hide hc
      have HB := hide h
      by_cases hk : ((enc ps).length : Int) ≤ keep
      · obtain ⟨e1, e2⟩ := ltear_all hc hk
        rw [e1, e2]
        clear h hp hpf hc e1 e2 hf
        go_enter Tryz.func188, Tryz.ntmps188
        go_wp2_with fail
        refine (unhide HE).mono ?_
        rintro e w1 ⟨gx, cx, nx, rfl, hn, hr⟩
        have r0 : w1.cell? ⟨gb, 0, none⟩ = some (.slice a (lb cs).length cap) := hr.kp.cell (by simp) (by have := (unhide HB).c0; rwa [List.append_nil] at this)
        have r1 : w1.cell? ⟨gb, 1, none⟩ = some (.int .i64 (lb cs).length) := hr.kp.cell (by simp) (unhide HB).c1
        have r2 : w1.cell? ⟨gb, 2, none⟩ = some (.int .i64 cs.length) := hr.kp.cell (by simp) (unhide HB).c2
        have hO : OwnU B w1 a cap (lb cs) := by have := (unhide HB).own.kp0 hr.kp; rwa [List.append_nil] at this
        have hsl := own_part hO (lb cs).length (lb cs).length (Nat.le_refl _) _ rfl
        have hsx := own_part hr.ownU nx nx (by omega) _ rfl
        have HO := hide hO
        have HR := hide hr
        have HK := hide hr.kp
        rw [← hn] at hroom hel hk
        have HN := hide hn
        have hB1 : B ≤ w1.heap.size := Nat.le_trans (unhide HB).hB hr.kp.size
        clear hn hr hO
        obtain ⟨C, hC⟩ : ∃ C, cs.length = C := ⟨_, rfl⟩
        obtain ⟨L, hL⟩ : ∃ L, (lb cs).length = L := ⟨_, rfl⟩
        rw [hC] at hn40 h40 r2
        rw [hL] at hb3000 hroom r0 r1 hsl
        have f1 : ¬ (40 : Int) ≤ (C : Int) := by omega
        have f2 : ¬ (3000 : Int) < (L : Int) + (nx : Int) := by omega
        have m0 : ¬ keep < 0 := by omega
        have HCC := hide hC
        have HLL := hide hL
        clear hC hL
        rcases Int.lt_or_eq_of_le hk with hk2 | hk2
        case' inr => subst hk2
        all_goals
         go_wp2_with fail
         go_region_law (refine step_appx (by rfl) (.tmp 47) (.tmp 50) 42 (by rfl) ((unhide HO).kp0 (Kp.refl [] _).drew) (by simpa using hB1) L (unhide HLL).symm (.slice (some ⟨gx, 0, none⟩) nx cx) (enc ps) (by rfl) (by rfl) (byt_srcn ((unhide HR).byt.kp0 (Kp.refl [] _).drew) (unhide HN)) (by have := unhide HLL; have := unhide HN; omega) ?_; intro a3 c3 n3 w3 hn3 ho3 hk3 hx3; obtain ⟨s0, s1, s2, s3, s4, s5⟩ := (unhide HB).far_cells ((unhide HK).trans0 (Kp.refl [] _).drew) (unhide hk3); rw [unhide HLL] at s0 s2; rw [unhide HCC] at s4)
         all_goals
          go_wp2_with fail
          go_ret
          exact ⟨rfl, (unhide HB).tear_all ((unhide HK).trans0 (Kp.refl [] _).drew) (unhide hk3) (unhide HC) (unhide ho3) (unhide hx3) (unhide hn3) (by have := unhide HLL; have := unhide HN; omega) (by have := unhide HCC; omega)⟩
      · obtain ⟨e1, e2⟩ := ltear_cut hc hk
        rw [e1, e2]
        clear h hp hpf hc e1 e2 hf
        by_cases hneg : keep < 0
        · rw [show keep.toNat = 0 by omega]
          go_enter Tryz.func188, Tryz.ntmps188
          go_wp2_with fail
          refine (unhide HE).mono ?_
          rintro e w1 ⟨gx, cx, nx, rfl, hn, hr⟩
          have r0 : w1.cell? ⟨gb, 0, none⟩ = some (.slice a (lb cs).length cap) := hr.kp.cell (by simp) (by have := (unhide HB).c0; rwa [List.append_nil] at this)
          have r1 : w1.cell? ⟨gb, 1, none⟩ = some (.int .i64 (lb cs).length) := hr.kp.cell (by simp) (unhide HB).c1
          have r2 : w1.cell? ⟨gb, 2, none⟩ = some (.int .i64 cs.length) := hr.kp.cell (by simp) (unhide HB).c2
          have hO : OwnU B w1 a cap (lb cs) := by have := (unhide HB).own.kp0 hr.kp; rwa [List.append_nil] at this
          have hsl := own_part hO (lb cs).length (lb cs).length (Nat.le_refl _) _ rfl
          have hsx := own_part hr.ownU 0 nx (by omega) (0) (by omega)
          have HO := hide hO
          have HR := hide ((hr.ownU.take 0 (by omega)).byt)
          have HK := hide hr.kp
          have hlt : ((enc ps).take 0).length = 0 := by simp
          rw [← hn] at hroom hel hk
          have HT := hide hlt
          have hB1 : B ≤ w1.heap.size := Nat.le_trans (unhide HB).hB hr.kp.size
          clear hn hr hO hlt
          obtain ⟨C, hC⟩ : ∃ C, cs.length = C := ⟨_, rfl⟩
          obtain ⟨L, hL⟩ : ∃ L, (lb cs).length = L := ⟨_, rfl⟩
          rw [hC] at hn40 h40 r2
          rw [hL] at hb3000 hroom r0 r1 hsl
          have f1 : ¬ (40 : Int) ≤ (C : Int) := by omega
          have f2 : ¬ (3000 : Int) < (L : Int) + (nx : Int) := by omega
          have m1 : ¬ (nx : Int) < 0 := by omega
          have m2 : ¬ (0 : Int) = (nx : Int) := by omega
          have HCC := hide hC
          have HLL := hide hL
          clear hC hL
          go_wp2_with fail
          go_region_law (refine step_appx (by rfl) (.tmp 47) (.tmp 50) 42 (by rfl) ((unhide HO).kp0 (Kp.refl [] _).drew) (by simpa using hB1) L (unhide HLL).symm (.slice (some ⟨gx, 0, none⟩) 0 cx) ((enc ps).take 0) (by rfl) (by rfl) (byt_srcn ((unhide HR).kp0 (Kp.refl [] _).drew) (unhide HT).symm) (by have := unhide HLL; have := unhide HT; omega) ?_; intro a3 c3 n3 w3 hn3 ho3 hk3 hx3; obtain ⟨s0, s1, s2, s3, s4, s5⟩ := (unhide HB).far_cells ((unhide HK).trans0 (Kp.refl [] _).drew) (unhide hk3); rw [unhide HLL] at s0 s2; rw [unhide HCC] at s4)
          all_goals
           go_wp2_with fail
           go_ret
           exact ⟨rfl, (unhide HB).tear_cut ((unhide HK).trans0 (Kp.refl [] _).drew) (unhide hk3) (unhide ho3) (unhide hx3) (unhide hn3) (by have := unhide HT; omega)⟩
        · obtain ⟨k, rfl⟩ : ∃ k : Nat, keep = (k : Int) := ⟨keep.toNat, by omega⟩
          rw [Int.toNat_natCast]
          go_enter Tryz.func188, Tryz.ntmps188
          go_wp2_with fail
          refine (unhide HE).mono ?_
          rintro e w1 ⟨gx, cx, nx, rfl, hn, hr⟩
          have r0 : w1.cell? ⟨gb, 0, none⟩ = some (.slice a (lb cs).length cap) := hr.kp.cell (by simp) (by have := (unhide HB).c0; rwa [List.append_nil] at this)
          have r1 : w1.cell? ⟨gb, 1, none⟩ = some (.int .i64 (lb cs).length) := hr.kp.cell (by simp) (unhide HB).c1
          have r2 : w1.cell? ⟨gb, 2, none⟩ = some (.int .i64 cs.length) := hr.kp.cell (by simp) (unhide HB).c2
          have hO : OwnU B w1 a cap (lb cs) := by have := (unhide HB).own.kp0 hr.kp; rwa [List.append_nil] at this
          have hsl := own_part hO (lb cs).length (lb cs).length (Nat.le_refl _) _ rfl
          have hsx := own_part hr.ownU k nx (by omega) ((k : Int)) (by omega)
          have HO := hide hO
          have HR := hide ((hr.ownU.take k (by omega)).byt)
          have HK := hide hr.kp
          have hlt : ((enc ps).take k).length = k := by simp; omega
          rw [← hn] at hroom hel hk
          have HT := hide hlt
          have hB1 : B ≤ w1.heap.size := Nat.le_trans (unhide HB).hB hr.kp.size
          clear hn hr hO hlt
          obtain ⟨C, hC⟩ : ∃ C, cs.length = C := ⟨_, rfl⟩
          obtain ⟨L, hL⟩ : ∃ L, (lb cs).length = L := ⟨_, rfl⟩
          rw [hC] at hn40 h40 r2
          rw [hL] at hb3000 hroom r0 r1 hsl
          have f1 : ¬ (40 : Int) ≤ (C : Int) := by omega
          have f2 : ¬ (3000 : Int) < (L : Int) + (nx : Int) := by omega
          have m1 : ¬ (nx : Int) < (k : Int) := by omega
          have m2 : ¬ ((k : Int) : Int) = (nx : Int) := by omega
          have HCC := hide hC
          have HLL := hide hL
          clear hC hL
          go_wp2_with fail
          go_region_law (refine step_appx (by rfl) (.tmp 47) (.tmp 50) 42 (by rfl) ((unhide HO).kp0 (Kp.refl [] _).drew) (by simpa using hB1) L (unhide HLL).symm (.slice (some ⟨gx, 0, none⟩) k cx) ((enc ps).take k) (by rfl) (by rfl) (byt_srcn ((unhide HR).kp0 (Kp.refl [] _).drew) (unhide HT).symm) (by have := unhide HLL; have := unhide HT; omega) ?_; intro a3 c3 n3 w3 hn3 ho3 hk3 hx3; obtain ⟨s0, s1, s2, s3, s4, s5⟩ := (unhide HB).far_cells ((unhide HK).trans0 (Kp.refl [] _).drew) (unhide hk3); rw [unhide HLL] at s0 s2; rw [unhide HCC] at s4)
          all_goals
           go_wp2_with fail
           go_ret
           exact ⟨rfl, (unhide HB).tear_cut ((unhide HK).trans0 (Kp.refl [] _).drew) (unhide hk3) (unhide ho3) (unhide hx3) (unhide hn3) (by have := unhide HT; omega)⟩
  · have hc := lcode_bad (cs := cs) hpf
    obtain ⟨e1, e2⟩ := ltear_code (cs := cs) (ps := ps) keep (by rw [hc]; exact hpf)
    rw [hc, e1, e2]
    have HE := hide (encode_bad a2 c ps w hp hm hpf)
    clear h hp hc e1 e2
    generalize pf (-1) ps = z at *
    go_enter Tryz.func188, Tryz.ntmps188
    go_wp2_with fail
    refine (unhide HE).mono ?_
    rintro e w1 ⟨rfl, hk1⟩
    have HK := hide (unhide HS _ hk1)
    clear hk1 HS HE
    go_wp2_with fail
    go_ret
    exact ⟨rfl, unhide HK⟩

set_option maxHeartbeats 400000 in
theorem lput31 {B gb : Nat} {F : List Nat} {cs : List (List Ver)} (a2 : Option Addr) (c : Nat) (ps : List Ver) (w : World) (h : Lg B w gb F cs []) (hp : Prs w a2 ps) (hm : ps.length ≤ 1000) :
    Calls Tryz.prog 170 #[.pointer (some ⟨gb, 0, none⟩), .slice a2 ps.length c] w fun e w' => e = .returned (.int .i64 (lcode cs ps)) ∧ LgTo B w gb F (lput cs ps) [] w' := by
  have ht := ltear30 a2 c ps 9223372036854775807 w h hp hm
  rw [lput_is.1, lput_is.2] at ht
  have HT := hide ht
  clear h hp ht
  generalize lput cs ps = cs' at *
  generalize lcode cs ps = z at *
  go_enter Tryz.func170, Tryz.ntmps170
  go_wp2_with fail
  refine (unhide HT).mono ?_
  rintro e w1 ⟨rfl, h1⟩
  have H1 := hide h1
  clear h1
  go_wp2_with fail
  go_ret
  exact ⟨rfl, unhide H1⟩
end
/- Tear of the document's roll, by its contract. -/
section
open Go.RowKit
attribute [local go_sem ↓] Go.wp_at_zero Go.wp_at_succ

theorem LInv.take {cs : List (List Ver)} (h : LInv cs) (k : Nat) : LInv (cs.take k) :=
  ⟨fun c hc => h.pf c (List.mem_of_mem_take hc), by have := h.n40; simp; omega, by have := h.b3000; have := lb_take_le cs k; omega⟩
section
variable {B : Nat} {w W w4 : World} {rb : Nat} {G : List Nat} {aL a' : Option Addr} {capL cap' : Nat} {xs : List El} {aT : Option Addr} {cT : Nat}
theorem RlL.torn (h : RlL B w rb G aL capL xs aT cT []) (hW : Kp [] w W) (hk : Kp [] W w4) {a3 : Option Addr} {c3 N : Nat} {t : List UInt8} (ho : OwnU B w4 a3 c3 t) (hn : ∀ x ∈ ob a3, W.heap.size ≤ x) (hN : N = t.length) (ht : t ≠ []) (htl : t.length ≤ 114) :
    RlTo B w rb G (cps xs) t (w4.setCell ⟨rb, 1, none⟩ (.slice a3 N c3)) := by
  subst hN
  have hWs := hW.size
  have hW1 := (h.kp hW (fun _ _ => by simp)).kp hk (fun _ _ => by simp)
  have hk3 : Kp [rb] w4 (w4.setCell ⟨rb, 1, none⟩ (.slice a3 t.length c3)) := (Kp.refl [rb] w4).setCell (.inl (by simp)) _
  have hKG : Kp G w (w4.setCell ⟨rb, 1, none⟩ (.slice a3 t.length c3)) := ((hW.trans0 hk).mono (fun x hx => by simp at hx)).trans hk3 (fun x hx => .inl (by rw [List.mem_singleton.1 hx]; exact h.rG))
  have hrb : ∀ x ∈ ob a3, x ≠ rb := fun x hx q => by
    have h1 := hn x hx
    have h2 := (h.lo rb h.rG).2
    omega
  refine ⟨G ++ ob a3, ⟨aL, capL, xs, a3, c3, ⟨?_, ?_, fun e he => ?_, ?_, fun q => absurd q ht, fun x hx => ⟨by simp [hx], hrb x hx⟩, h.ne, by simp [h.rG], fun x hx => by simp [h.aG x hx], fun x hx => ?_, h.inv, htl, Nat.le_trans h.hB hKG.size⟩, rfl⟩, hKG, fun x hx => ?_⟩
  · rw [heap_setCell_at 1 _ hW1.box]; rfl
  · exact hW1.own.kp hk3 (fun x hx q => h.ne (by rw [← List.mem_singleton.1 q]; exact hx))
  · exact ⟨(hW1.els e he).1.kp hk3 (fun x hx q => ((h.els e he).2 x hx).2.1 (List.mem_singleton.1 q)), fun x hx => ⟨by simp [((h.els e he).2 x hx).1], ((h.els e he).2 x hx).2⟩⟩
  · exact ho.byt.kpo hk3 (fun x hx q => hrb x hx (List.mem_singleton.1 q))
  · rcases List.mem_append.1 hx with q | q
    · exact ⟨(h.lo x q).1, Nat.lt_of_lt_of_le (h.lo x q).2 hKG.size⟩
    · exact ⟨(ho.lo x q).1, Nat.lt_of_lt_of_le (ho.lo x q).2 hk3.size⟩
  · rcases List.mem_append.1 hx with q | q
    · exact .inl q
    · exact .inr (Nat.le_trans hWs (hn x q))
end

end
/- The document's roll of commits, at a place of a greater box: its memory; Mend and Bytes, by their contracts. -/
section
open Go.RowKit
attribute [local go_sem ↓] Go.wp_at_zero Go.wp_at_succ

/-- A roll's memory: the box rb holds, from place o on, the commits and what is torn; bx: all its cells; G: all blocks that are the roll's own, the box among them. -/
structure RxL (B : Nat) (w : World) (rb o : Nat) (bx : Array Value) (T : TypeId) (G : List Nat) (aL : Option Addr) (capL : Nat) (xs : List El) (aT : Option Addr) (cT : Nat) (torn : List UInt8) : Prop where
  box : w.heap[rb]? = some (.cells bx T (0, 0))
  b0 : bx[o]? = some (.slice aL xs.length capL)
  b1 : bx[o + 1]? = some (.slice aT torn.length cT)
  own : OwnE B w aL capL xs
  els : ∀ e ∈ xs, SlO w e.a e.ps ∧ ∀ x ∈ ob e.a, x ∈ G ∧ x ≠ rb ∧ x ∉ ob aL
  tb : Byt w aT torn
  tn : torn = [] → aT = none ∧ cT = 0
  tG : ∀ x ∈ ob aT, x ∈ G ∧ x ≠ rb
  ne : rb ∉ ob aL
  rG : rb ∈ G
  aG : ∀ x ∈ ob aL, x ∈ G
  lo : ∀ x ∈ G, B ≤ x ∧ x < w.heap.size
  inv : LInv (cps xs)
  tl : torn.length ≤ 114
  hB : B ≤ w.heap.size
def Rx (B : Nat) (w : World) (rb o : Nat) (bx : Array Value) (T : TypeId) (G : List Nat) (cs : List (List Ver)) (torn : List UInt8) : Prop := ∃ aL capL xs aT cT, RxL B w rb o bx T G aL capL xs aT cT torn ∧ cs = cps xs
/-- All cells but the two at o are as they were. -/
def SameB (o : Nat) (bx bx' : Array Value) : Prop := bx'.size = bx.size ∧ ∀ i, i ≠ o → i ≠ o + 1 → bx'[i]? = bx[i]?
theorem SameB.trans {o : Nat} {a b c : Array Value} (h : SameB o a b) (k : SameB o b c) : SameB o a c := ⟨k.1.trans h.1, fun i h1 h2 => (k.2 i h1 h2).trans (h.2 i h1 h2)⟩
theorem sameB_set (o : Nat) (bx : Array Value) (i : Nat) (v : Value) (hi : i = o ∨ i = o + 1) : SameB o bx (bx.setIfInBounds i v) := ⟨by simp, fun j h1 h2 => by rw [Array.getElem?_setIfInBounds_ne (by omega)]⟩
theorem set_here {bx : Array Value} {i : Nat} {u : Value} (h : bx[i]? = some u) (v : Value) : (bx.setIfInBounds i v)[i]? = some v := by
  have hl : i < bx.size := (Array.getElem?_eq_some_iff.1 h).1
  simp [hl]
theorem set_there {bx : Array Value} {i j : Nat} {u : Value} (h : bx[j]? = some u) (hn : i ≠ j) (v : Value) : (bx.setIfInBounds i v)[j]? = some u := by
  rw [Array.getElem?_setIfInBounds_ne hn]; exact h

section
variable {B : Nat} {w w' : World} {rb o : Nat} {bx : Array Value} {T : TypeId} {G S : List Nat} {aL : Option Addr} {capL : Nat} {xs : List El} {aT : Option Addr} {cT : Nat} {torn : List UInt8} {cs : List (List Ver)}
theorem RxL.kp (h : RxL B w rb o bx T G aL capL xs aT cT torn) (hk : Kp S w w') (hS : ∀ x, x ∈ G → x ∉ S) : RxL B w' rb o bx T G aL capL xs aT cT torn :=
  ⟨by rw [hk.block rb (h.lo rb h.rG).2 (hS _ h.rG)]; exact h.box, h.b0, h.b1, h.own.kp hk (fun x hx => hS x (h.aG x hx)), fun e he => ⟨(h.els e he).1.kp hk (fun x hx => hS x ((h.els e he).2 x hx).1), (h.els e he).2⟩, h.tb.kpo hk (fun x hx => hS x (h.tG x hx).1), h.tn, h.tG, h.ne, h.rG, h.aG, fun x hx => ⟨(h.lo x hx).1, Nat.lt_of_lt_of_le (h.lo x hx).2 hk.size⟩, h.inv, h.tl, Nat.le_trans h.hB hk.size⟩
theorem Rx.kp (h : Rx B w rb o bx T G cs torn) (hk : Kp S w w') (hS : ∀ x, x ∈ G → x ∉ S) : Rx B w' rb o bx T G cs torn := by
  obtain ⟨aL, capL, xs, aT, cT, h, e⟩ := h
  exact ⟨aL, capL, xs, aT, cT, h.kp hk hS, e⟩
theorem Rx.kp0 (h : Rx B w rb o bx T G cs torn) (hk : Kp [] w w') : Rx B w' rb o bx T G cs torn := h.kp hk (fun _ _ => by simp)
theorem Rx.lo (h : Rx B w rb o bx T G cs torn) : ∀ x, x ∈ G → B ≤ x ∧ x < w.heap.size := by
  obtain ⟨aL, capL, xs, aT, cT, h, e⟩ := h
  exact h.lo
theorem Rx.inv (h : Rx B w rb o bx T G cs torn) : LInv cs := by
  obtain ⟨aL, capL, xs, aT, cT, h, e⟩ := h
  subst e
  exact h.inv
theorem Rx.base {C : Nat} (h : Rx B w rb o bx T G cs torn) (hC : C ≤ B) : Rx C w rb o bx T G cs torn := by
  obtain ⟨aL, capL, xs, aT, cT, h, e⟩ := h
  exact ⟨aL, capL, xs, aT, cT, ⟨h.box, h.b0, h.b1, h.own.base hC, h.els, h.tb, h.tn, h.tG, h.ne, h.rG, h.aG, fun x hx => ⟨Nat.le_trans hC (h.lo x hx).1, (h.lo x hx).2⟩, h.inv, h.tl, Nat.le_trans hC h.hB⟩, e⟩
theorem RxL.c0 (h : RxL B w rb o bx T G aL capL xs aT cT torn) : w.cell? ⟨rb, o, none⟩ = some (.slice aL xs.length capL) := cell_of_block h.box h.b0
theorem RxL.c1 (h : RxL B w rb o bx T G aL capL xs aT cT torn) : w.cell? ⟨rb, o + 1, none⟩ = some (.slice aT torn.length cT) := cell_of_block h.box h.b1
theorem RxL.fz (h : RxL B w rb o bx T G aL capL xs aT cT torn) (i : Nat) : w.frozen? ⟨rb, i, none⟩ = false := frozen_of_block i h.box
end

/-- What a call that changes a roll leaves. -/
def RxTo (B : Nat) (w : World) (rb o : Nat) (bx : Array Value) (T : TypeId) (G : List Nat) (cs : List (List Ver)) (torn : List UInt8) (w' : World) : Prop := ∃ G' bx', Rx B w' rb o bx' T G' cs torn ∧ SameB o bx bx' ∧ Kp G w w' ∧ ∀ x, x ∈ G' → x ∈ G ∨ w.heap.size ≤ x
theorem RxL.mend {B : Nat} {w : World} {rb o : Nat} {bx : Array Value} {T : TypeId} {G : List Nat} {aL : Option Addr} {capL : Nat} {xs : List El} {aT : Option Addr} {cT : Nat} {torn : List UInt8} (h : RxL B w rb o bx T G aL capL xs aT cT torn) :
    RxTo B w rb o bx T G (cps xs) [] (w.setCell ⟨rb, o + 1, none⟩ (.slice none 0 0)) := by
  have hk : Kp [rb] w (w.setCell ⟨rb, o + 1, none⟩ (.slice none 0 0)) := (Kp.refl [rb] w).setCell (.inl (by simp)) _
  refine ⟨G, bx.setIfInBounds (o + 1) (.slice none 0 0), ⟨aL, capL, xs, none, 0, ⟨?_, set_there h.b0 (by omega) _, set_here h.b1 _, ?_, fun e he => ⟨?_, (h.els e he).2⟩, byt_nil _ _, fun _ => ⟨rfl, rfl⟩, by simp [ob], h.ne, h.rG, h.aG, fun x hx => ⟨(h.lo x hx).1, Nat.lt_of_lt_of_le (h.lo x hx).2 hk.size⟩, h.inv, by simp, Nat.le_trans h.hB hk.size⟩, rfl⟩, sameB_set _ _ _ _ (.inr rfl), hk.mono (fun x hx => .inl (by rw [List.mem_singleton.1 hx]; exact h.rG)), fun x hx => .inl hx⟩
  · exact heap_setCell_at (o + 1) _ h.box
  · exact h.own.kp hk (fun x hx e => h.ne (by rw [← List.mem_singleton.1 e]; exact hx))
  · exact (h.els e he).1.kp hk (fun x hx e2 => ((h.els e he).2 x hx).2.1 (List.mem_singleton.1 e2))

end
/- Put of the document's roll at a place of a greater box, by its contract. -/
section
open Go.RowKit
attribute [local go_sem ↓] Go.wp_at_zero Go.wp_at_succ

section
variable {B : Nat} {w W w4 : World} {rb o : Nat} {bx : Array Value} {T : TypeId} {G : List Nat} {aL a' : Option Addr} {capL cap' : Nat} {xs : List El} {aT : Option Addr} {cT : Nat}
theorem RxL.far (h : RxL B w rb o bx T G aL capL xs aT cT []) (hW : Kp [] w W) (hk : Kp (ob aL) W w4) :
    w4.heap[rb]? = some (.cells bx T (0, 0)) := by
  rw [hk.block rb (Nat.lt_of_lt_of_le (h.lo rb h.rG).2 hW.size) h.ne, hW.block rb (h.lo rb h.rG).2 (by simp)]
  exact h.box
theorem RxL.far_cells (h : RxL B w rb o bx T G aL capL xs aT cT []) (hW : Kp [] w W) (hk : Kp (ob aL) W w4) : w4.cell? ⟨rb, o, none⟩ = some (.slice aL xs.length capL) ∧ w4.frozen? ⟨rb, o, none⟩ = false ∧ rb < w4.heap.size := by
  have hb := h.far hW hk
  exact ⟨cell_of_block hb h.b0, frozen_of_block _ hb, lt_of_block hb⟩

theorem RxL.put (h : RxL B w rb o bx T G aL capL xs aT cT []) (hW : Kp [] w W) (e : El) (he : SlO W e.a e.ps) (hen : ∀ x ∈ ob e.a, w.heap.size ≤ x ∧ x < W.heap.size) (hk : Kp (ob aL) W w4) (ho : OwnE B w4 a' cap' (xs ++ [e])) (hn : ∀ x ∈ ob a', x ∈ ob aL ∨ W.heap.size ≤ x)
    (hc : lcode (cps xs) e.ps = 0) : RxTo B w rb o bx T G (cps xs ++ [e.ps]) [] (w4.setCell ⟨rb, o, none⟩ (.slice a' (xs.length + 1) cap')) := by
  obtain ⟨rfl, rfl⟩ := h.tn rfl
  have hgl := (h.lo rb h.rG).2
  have hWs := hW.size
  have hk3 : Kp [rb] w4 (w4.setCell ⟨rb, o, none⟩ (.slice a' (xs.length + 1) cap')) := (Kp.refl [rb] w4).setCell (.inl (by simp)) _
  have hne : rb ∉ ob a' := fun hm => by
    rcases hn rb hm with q | q
    · exact h.ne q
    · omega
  have hKG : Kp G w (w4.setCell ⟨rb, o, none⟩ (.slice a' (xs.length + 1) cap')) := by
    have k1 : Kp G w w4 := (hW.mono (fun x hx => by simp at hx)).trans hk (fun x hx => .inl (h.aG x hx))
    exact k1.trans hk3 (fun x hx => .inl (by rw [List.mem_singleton.1 hx]; exact h.rG))
  refine ⟨G ++ ob e.a ++ ob a', bx.setIfInBounds o (.slice a' (xs.length + 1) cap'), ⟨a', cap', xs ++ [e], none, 0, ⟨?_, by rw [set_here h.b0]; simp, set_there h.b1 (by omega) _, ?_, fun e0 he0 => ?_, byt_nil _ _, fun _ => ⟨rfl, rfl⟩, by simp [ob], hne, by simp [h.rG], fun x hx => by simp [hx], fun x hx => ?_, ?_, by simp, Nat.le_trans h.hB hKG.size⟩, ?_⟩, sameB_set _ _ _ _ (.inl rfl), hKG, fun x hx => ?_⟩
  · exact heap_setCell_at o _ (h.far hW hk)
  · exact ho.kp hk3 (fun x hx q => hne (by rw [← List.mem_singleton.1 q]; exact hx))
  · rcases List.mem_append.1 he0 with q | q
    · obtain ⟨s1, s2⟩ := h.els e0 q
      refine ⟨((s1.kp0 hW).kp hk (fun x hx => (s2 x hx).2.2)).kp hk3 (fun x hx q2 => (s2 x hx).2.1 (List.mem_singleton.1 q2)), fun x hx => ⟨by simp [(s2 x hx).1], (s2 x hx).2.1, fun q2 => ?_⟩⟩
      rcases hn x q2 with q3 | q3
      · exact (s2 x hx).2.2 q3
      · have := (h.lo x (s2 x hx).1).2; omega
    · rw [List.mem_singleton.1 q]
      have haL : ∀ x ∈ ob e.a, x ∉ ob aL := fun x hx q2 => by
        have h1 := (hen x hx).1
        have h2 := (h.lo x (h.aG x q2)).2
        omega
      have hrb : ∀ x ∈ ob e.a, x ≠ rb := fun x hx q2 => by
        have h1 := (hen x hx).1
        omega
      refine ⟨(he.kp hk haL).kp hk3 (fun x hx q2 => hrb x hx (List.mem_singleton.1 q2)), fun x hx => ⟨by simp [hx], hrb x hx, fun q2 => ?_⟩⟩
      rcases hn x q2 with q3 | q3
      · exact haL x hx q3
      · have := (hen x hx).2; omega
  · have hs4 : W.heap.size ≤ (w4.setCell ⟨rb, o, none⟩ (.slice a' (xs.length + 1) cap')).heap.size := Nat.le_trans hk.size hk3.size
    rcases List.mem_append.1 hx with q | q
    · rcases List.mem_append.1 q with q | q
      · exact ⟨(h.lo x q).1, Nat.lt_of_lt_of_le (h.lo x q).2 hKG.size⟩
      · have h1 := hen x q
        have := h.hB
        exact ⟨by omega, by omega⟩
    · have h1 := ho.lo x q
      exact ⟨h1.1, Nat.lt_of_lt_of_le h1.2 hk3.size⟩
  · rw [cps_append]
    exact h.inv.snoc hc
  · rw [cps_append]; rfl
  · rcases List.mem_append.1 hx with q | q
    · rcases List.mem_append.1 q with q | q
      · exact .inl q
      · exact .inr (hen x q).1
    · rcases hn x q with q3 | q3
      · exact .inl (h.aG x q3)
      · exact .inr (by omega)
end

end
/- Tear of the document's roll at a place of a greater box, by its contract. -/
section
open Go.RowKit
attribute [local go_sem ↓] Go.wp_at_zero Go.wp_at_succ

section
variable {B : Nat} {w W w4 : World} {rb o : Nat} {bx : Array Value} {T : TypeId} {G : List Nat} {aL a' : Option Addr} {capL cap' : Nat} {xs : List El} {aT : Option Addr} {cT : Nat}
theorem RxL.torn (h : RxL B w rb o bx T G aL capL xs aT cT []) (hW : Kp [] w W) (hk : Kp [] W w4) {a3 : Option Addr} {c3 N : Nat} {t : List UInt8} (ho : OwnU B w4 a3 c3 t) (hn : ∀ x ∈ ob a3, W.heap.size ≤ x) (hN : N = t.length) (ht : t ≠ []) (htl : t.length ≤ 114) :
    RxTo B w rb o bx T G (cps xs) t (w4.setCell ⟨rb, o + 1, none⟩ (.slice a3 N c3)) := by
  subst hN
  have hWs := hW.size
  have hW1 := (h.kp hW (fun _ _ => by simp)).kp hk (fun _ _ => by simp)
  have hk3 : Kp [rb] w4 (w4.setCell ⟨rb, o + 1, none⟩ (.slice a3 t.length c3)) := (Kp.refl [rb] w4).setCell (.inl (by simp)) _
  have hKG : Kp G w (w4.setCell ⟨rb, o + 1, none⟩ (.slice a3 t.length c3)) := ((hW.trans0 hk).mono (fun x hx => by simp at hx)).trans hk3 (fun x hx => .inl (by rw [List.mem_singleton.1 hx]; exact h.rG))
  have hrb : ∀ x ∈ ob a3, x ≠ rb := fun x hx q => by
    have h1 := hn x hx
    have h2 := (h.lo rb h.rG).2
    omega
  refine ⟨G ++ ob a3, bx.setIfInBounds (o + 1) (.slice a3 t.length c3), ⟨aL, capL, xs, a3, c3, ⟨?_, set_there h.b0 (by omega) _, set_here h.b1 _, ?_, fun e he => ?_, ?_, fun q => absurd q ht, fun x hx => ⟨by simp [hx], hrb x hx⟩, h.ne, by simp [h.rG], fun x hx => by simp [h.aG x hx], fun x hx => ?_, h.inv, htl, Nat.le_trans h.hB hKG.size⟩, rfl⟩, sameB_set _ _ _ _ (.inr rfl), hKG, fun x hx => ?_⟩
  · exact heap_setCell_at (o + 1) _ hW1.box
  · exact hW1.own.kp hk3 (fun x hx q => h.ne (by rw [← List.mem_singleton.1 q]; exact hx))
  · exact ⟨(hW1.els e he).1.kp hk3 (fun x hx q => ((h.els e he).2 x hx).2.1 (List.mem_singleton.1 q)), fun x hx => ⟨by simp [((h.els e he).2 x hx).1], ((h.els e he).2 x hx).2⟩⟩
  · exact ho.byt.kpo hk3 (fun x hx q => hrb x hx (List.mem_singleton.1 q))
  · rcases List.mem_append.1 hx with q | q
    · exact ⟨(h.lo x q).1, Nat.lt_of_lt_of_le (h.lo x q).2 hKG.size⟩
    · exact ⟨(ho.lo x q).1, Nat.lt_of_lt_of_le (ho.lo x q).2 hk3.size⟩
  · rcases List.mem_append.1 hx with q | q
    · exact .inl q
    · exact .inr (Nat.le_trans hWs (hn x q))
end

end
/- readPairs, by its contract. -/
section
open Go.RowKit
attribute [local go_sem ↓] Go.wp_at_zero Go.wp_at_succ

theorem rp_step (m : Nat) (bs : List UInt8) : rp (m + 1) bs = if (rd1 bs).2.2 = true then (rp m (bs.drop (rd1 bs).2.1)).map ((rd1 bs).1 :: ·) else none := by
  match bs with
  | [] => simp [rp, rd1]
  | [x] => simp [rp, rd1]
  | k :: l :: r =>
    have e0 : ub (k :: l :: r) 0 = k.toNat := rfl
    have e1 : ub (k :: l :: r) 1 = l.toNat := rfl
    have h2 : ¬ (k :: l :: r).length < 2 := by simp
    have hlen : (k :: l :: r).length = r.length + 2 := rfl
    by_cases hl : l = 255
    · subst hl
      have er : rd1 (k :: 255 :: r) = (⟨k.toNat, false, ByteArray.empty⟩, 2, true) := by unfold rd1; rw [if_neg h2, e0, e1, if_pos (show UInt8.toNat 255 = 255 from rfl)]
      rw [er]
      simp [rp]
    · have hl' : ¬ l.toNat = 255 := fun e => hl (UInt8.toNat_inj.1 (by rw [e]; rfl))
      by_cases hr : r.length < l.toNat
      · have er : rd1 (k :: l :: r) = (dv, 0, false) := by unfold rd1; rw [if_neg h2, e1, if_neg hl', if_pos (by omega)]
        rw [er]
        simp [rp, hl, hr]
      · have ed : (k :: l :: r).drop (2 + l.toNat) = r.drop l.toNat := by rw [show 2 + l.toNat = l.toNat + 1 + 1 by omega]; rfl
        have et : ((k :: l :: r).take (2 + l.toNat)).drop 2 = r.take l.toNat := by rw [show 2 + l.toNat = l.toNat + 1 + 1 by omega]; rfl
        have er : rd1 (k :: l :: r) = (⟨k.toNat, true, ⟨(r.take l.toNat).toArray⟩⟩, 2 + l.toNat, true) := by unfold rd1; rw [if_neg h2, e0, e1, if_neg hl', if_neg (by omega), et]
        rw [er]
        simp only [rp, if_neg hl, if_neg hr, ed]
        simp
theorem rd1_le {bs : List UInt8} (h : (rd1 bs).2.2 = true) : (rd1 bs).2.1 ≤ bs.length := by
  unfold rd1 at h ⊢
  split at h
  · simp at h
  · rename_i h1
    rw [if_neg h1]
    split at h
    · rename_i h3
      rw [if_pos h3]
      simp; omega
    · rename_i h3
      rw [if_neg h3]
      split at h
      · simp at h
      · rename_i h4
        rw [if_neg h4]
        simp; omega

/-- At the head of a round of readPairs. -/
structure RpI (R : Option (List Ver)) (w : World) (m : Nat) (acc : List Ver) (a : Option Addr) (cap : Nat) (ab : Option Addr) (nb cb : Nat) (bs : List UInt8) (wr : World) : Prop where
  goes : (rp m bs).map (acc ++ ·) = R
  own : wr.ownsRow w.heap.size 106 3 (.slice a acc.length cap) acc.length (vcells acc)
  kp : Kp [] w wr
  byt : Byt w ab bs
  len : nb = bs.length
  cap : nb ≤ cb
  small : bs.length ≤ 10000

theorem RpI.fail {R : Option (List Ver)} {w : World} {m : Nat} {acc : List Ver} {a : Option Addr} {cap : Nat} {ab : Option Addr} {nb cb : Nat} {bs : List UInt8} {wr : World} (h : RpI R w (m + 1) acc a cap ab nb cb bs wr) (hr : (rd1 bs).2.2 = false) : R = none := by
  have := h.goes
  rw [rp_step, if_neg (by rw [hr]; decide)] at this
  rw [← this]; rfl
theorem RpI.next {R : Option (List Ver)} {w : World} {m : Nat} {acc : List Ver} {a : Option Addr} {cap : Nat} {ab : Option Addr} {nb cb : Nat} {bs : List UInt8} {wr W w2 : World} (h : RpI R w (m + 1) acc a cap ab nb cb bs wr) (hr : (rd1 bs).2.2 = true) {v : Ver} {sz : Nat} (hv : (rd1 bs).1 = v) (hs : (rd1 bs).2.1 = sz)
    (hw : Kp [] wr W) {g2 cap2 : Nat} (hown : w2.ownsRow w.heap.size 106 3 (.slice (some ⟨g2, 0, none⟩) (acc.length + 1) cap2) (acc.length + 1) (vcells acc ++ [.int .i64 v.a, .bool v.t, .string v.s]))
    (hgrow : W.grownBy w2 (Value.slice a acc.length cap).ownBlock) {ab' : Option Addr} (hb : Byt w ab' (bs.drop sz)) : RpI R w m (acc ++ [v]) (some ⟨g2, 0, none⟩) cap2 ab' (nb - sz) (cb - sz) (bs.drop sz) w2 := by
  subst hv hs
  refine ⟨?_, ?_, (h.kp.trans0 hw).grown hgrow (fun g hg => .inr (own_ge h.own hg)), hb, by rw [h.len]; simp, by have := h.cap; omega, by have := h.small; simp; omega⟩
  · rw [← h.goes, rp_step, if_pos hr, Option.map_map]
    congr 1
    funext x
    simp
  · have hv : vcells acc ++ [.int .i64 (rd1 bs).1.a, .bool (rd1 bs).1.t, .string (rd1 bs).1.s] = vcells (acc ++ [(rd1 bs).1]) := by rw [vcells_append]; rfl
    rw [hv] at hown
    simpa using hown

def RpsEnd (R : Option (List Ver)) (w : World) (e : Ending) (w' : World) : Prop :=
  ∃ a n cap, ∃ q : Bool, e = .returned (.tuple #[.slice a n cap, .bool q]) ∧ (q = true → ∃ ws, R = some ws ∧ n = ws.length ∧ w'.ownsRow w.heap.size 106 3 (.slice a n cap) n (vcells ws)) ∧ (q = false → R = none) ∧ Kp [] w w'
theorem rpsEnd_none {R : Option (List Ver)} {w w' : World} (h : R = none) (hk : Kp [] w w') : RpsEnd R w (.returned (.tuple #[.slice none 0 0, .bool false])) w' := ⟨none, 0, 0, false, rfl, (fun h => by simp at h), fun _ => h, hk⟩
theorem RpI.last {R : Option (List Ver)} {w : World} {acc : List Ver} {a : Option Addr} {cap : Nat} {ab : Option Addr} {nb cb : Nat} {bs : List UInt8} {wr : World} (h : RpI R w 0 acc a cap ab nb cb bs wr) (q : Bool) (hq : q = decide (nb = 0)) : RpsEnd R w (.returned (.tuple #[.slice a acc.length cap, .bool q])) wr := by
  have hg := h.goes
  have hl := h.len
  refine ⟨a, acc.length, cap, q, rfl, fun e => ⟨acc, ?_, rfl, h.own⟩, fun e => ?_, h.kp⟩
  · have e2 : nb = 0 := by subst hq; simpa using e
    have e3 : bs = [] := List.eq_nil_of_length_eq_zero (by omega)
    subst e3
    rw [← hg]; simp [rp]
  · have e2 : ¬ nb = 0 := by subst hq; simpa using e
    have e3 : ¬ bs = [] := fun e => by subst e; simp at hl; omega
    rw [← hg]; simp [rp, e3]

theorem beq0 (n : Nat) : ((n : Int) == 0) = decide (n = 0) := by rw [Bool.eq_iff_iff]; simp

set_option maxHeartbeats 2000000 in
theorem readPairs20 (ab : Option Addr) (n c : Nat) (bs : List UInt8) (m : Nat) (w : World) (h : Byt w ab bs) (hn : n = bs.length) (hc : n ≤ c) (hm : bs.length ≤ 10000) (hm2 : m ≤ 255) :
    Calls Tryz.prog 182 #[.slice ab n c, .int .i64 m] w fun e w' => RpsEnd (rp m bs) w e w' := by
  obtain ⟨i0, hi0, hz0, hz1, hz2⟩ := info_parts Tryz.info106
  have H0 : Hid (RpI (rp m bs) w m [] none 0 ab n c bs w) := ⟨by simp, World.ownsRow_nil _ _ _ _, Kp.refl _ _, h, hn, hc, hm⟩
  generalize rp m bs = R at *
  clear h hn hc hm
  go_enter Tryz.func182, Tryz.ntmps182
  go_wp2_with fail
  go_loopw [0, 6, 11] (fun b s i wr => ∃ (k : Nat) (acc : List Ver) (a : Option Addr) (cap : Nat) (ab : Option Addr) (nb cb : Nat) (bs : List UInt8), k ≤ m ∧ acc.length ≤ k ∧ b = .slice ab nb cb ∧ s = .slice a acc.length cap ∧ i = .int .i64 k ∧ Hid (RpI R w (m - k) acc a cap ab nb cb bs wr)) (fun _ _ i _ => m - (intOf i).toNat)
  case atStart => exact ⟨0, [], none, 0, ab, n, c, bs, by omega, by simp, rfl, rfl, rfl, H0⟩
  case round =>
    clear H0
    obtain ⟨k, acc, a, cap, ab, nb, cb, bs, hk, hal, rfl, rfl, rfl, HE⟩ := hrel
    by_cases hlt : k < m
    · have i1 : (k : Int) < (m : Int) := by omega
      rw [show m - k = (m - (k + 1)) + 1 by omega] at HE
      go_wp2_with fail
      refine (readPair23 ab nb cb bs wr ((unhide HE).byt.kp0 (unhide HE).kp) (unhide HE).len (unhide HE).cap (unhide HE).small).mono ?_
      rintro e w1 ⟨rfl, hk1⟩
      have HK1 := hide hk1
      clear hk1
      cases hr : (rd1 bs).2.2 with
      | false =>
        have HR := hide ((unhide HE).fail hr)
        clear hr
        have HK2 := hide ((((unhide HE).kp.trans0 (unhide HK1)).alloc (.cells #[.int .i64 (rd1 bs).1.a, .bool (rd1 bs).1.t, .string (rd1 bs).1.s] 106)))
        generalize (rd1 bs).1 = v at *
        generalize (rd1 bs).2.1 = sz at *
        go_wp2_with fail
        go_ret2
        exact rpsEnd_none (unhide HR) (unhide HK2)
      | true =>
        have hle := rd1_le hr
        obtain ⟨ab', hsl, hb'⟩ := part_l (unhide HE).byt (rd1 bs).2.1 cb nb (unhide HE).len hle (by have := (unhide HE).len; have := (unhide HE).cap; omega) (rd1 bs).2.1 rfl
        obtain ⟨v, hv⟩ : ∃ v, (rd1 bs).1 = v := ⟨_, rfl⟩
        obtain ⟨sz, hz⟩ : ∃ sz, (rd1 bs).2.1 = sz := ⟨_, rfl⟩
        rw [hv, hz]
        rw [hz] at hsl hb'
        have HR := hide hr
        have HV := hide hv
        have HZ := hide hz
        have HB := hide hb'
        clear hr hv hz hb' hle
        have hwl := ((unhide HE).kp.trans0 (unhide HK1)).size
        have hOW := hide (own_kp0 (unhide HE).own (((unhide HK1).alloc (.cells #[.int .i64 v.a, .bool v.t, .string v.s] 106)).alloc (.cells #[.int .i64 v.a, .bool v.t, .string v.s] 106)))
        go_wp2_with (at_builtin; refine wpList_append_lies _ rfl _ _ 100 rfl w.heap.size 106 i0 _ 3 32 Tryz.underlying100 hi0 hz0 hz1 hz2 rfl (by omega) (.slice a acc.length cap) acc.length (vcells acc) rfl (unhide hOW) ⟨w1.heap.size + 1, 0, none⟩ 1 1 [.int .i64 v.a, .bool v.t, .string v.s] (by rfl) (by rfl) (World.news_of_block (cs := #[.int .i64 v.a, .bool v.t, .string v.s]) (t := 106) (fr := (0, 0)) (by have := heap_alloc_new (w1.alloc (.cells #[.int .i64 v.a, .bool v.t, .string v.s] 106)) (.cells #[.int .i64 v.a, .bool v.t, .string v.s] 106); simpa using this)) (by simp [Value.oneCell']) (by omega) (by unfold maxLen; omega) (by omega) (by simp; omega) _ rfl ?_; intro g2 cap2 w2 hown hgrow hat hlt2; have HE2 := hide ((unhide HE).next (unhide HR) (unhide HV) (unhide HZ) (((unhide HK1).alloc _).alloc _) hown hgrow (unhide HB)); clear hown hgrow hat)
        exact ⟨⟨k + 1, _, _, _, _, _, _, _, by omega, by simp; omega, rfl, by simp, by go_num, HE2⟩, by simp [intOf]; omega⟩
    · have e : k = m := by omega
      subst e
      rw [Nat.sub_self] at HE
      go_wp2_with fail
      go_ret2
      exact (unhide HE).last _ (beq0 nb)
end
/- Decode, by its contract. -/
section
open Go.RowKit
attribute [local go_sem ↓] Go.wp_at_zero Go.wp_at_succ

/-- What Decode leaves: the pairs lie in memory of their own. -/
def DecEnd (D : List Ver × Nat × Int) (w : World) (e : Ending) (w' : World) : Prop :=
  ∃ a n cap, e = .returned (.tuple #[.slice a n cap, .int .i64 (D.2.1 : Nat), .int .i64 D.2.2]) ∧ n = D.1.length ∧ w'.ownsRow w.heap.size 106 3 (.slice a n cap) n (vcells D.1) ∧ Kp [] w w'
theorem decEnd_code {D : List Ver × Nat × Int} {w w' : World} (c : Int) (h : D = ([], 0, c)) (hk : Kp [] w w') : DecEnd D w (.returned (.tuple #[.slice none 0 0, .int .i64 0, .int .i64 c])) w' := by
  subst h
  exact ⟨none, 0, 0, rfl, rfl, World.ownsRow_nil _ _ _ _, hk⟩
theorem decEnd_mk {D : List Ver × Nat × Int} {w w' : World} (ws : List Ver) (z : Nat) (h : D = (ws, z, 0)) (a : Option Addr) (n cap : Nat) (hn : n = ws.length) (ho : w'.ownsRow w.heap.size 106 3 (.slice a n cap) n (vcells ws)) (hk : Kp [] w w') :
    DecEnd D w (.returned (.tuple #[.slice a n cap, .int .i64 z, .int .i64 0])) w' := by
  subst h
  exact ⟨a, n, cap, rfl, hn, ho, hk⟩

theorem dec_short0 {bs : List UInt8} (h : bs.length = 0) : dec bs = ([], 0, 6) := by unfold dec; rw [if_pos (.inl h)]
theorem dec_short {bs : List UInt8} (h : bs.length < ub bs 0) : dec bs = ([], 0, 6) := by unfold dec; rw [if_pos (.inr h)]
theorem dec_form {bs : List UInt8} (h0 : bs.length ≠ 0) (h : ¬ bs.length < ub bs 0) (h2 : ub bs 0 < 2) : dec bs = ([], 0, 4) := by
  unfold dec
  rw [if_neg (fun q => q.elim h0 h)]
  exact if_pos h2
theorem dec_pairs {bs : List UInt8} (h0 : bs.length ≠ 0) (h : ¬ bs.length < ub bs 0) (h2 : ¬ ub bs 0 < 2) : dec bs = match rp (ub bs 1) ((bs.take (ub bs 0)).drop 2) with
    | none => ([], 0, 4)
    | some ws => if pf (-1) ws = 0 then (ws, ub bs 0, 0) else ([], 0, pf (-1) ws) := by
  unfold dec
  rw [if_neg (fun q => q.elim h0 h)]
  exact if_neg h2

/-- Pairs that readPairs made may be checked. -/
theorem own_prs {B n : Nat} {w : World} {a : Option Addr} {cap : Nat} {ws : List Ver} (h : w.ownsRow B 106 3 (.slice a n cap) n (vcells ws)) (hn : n = ws.length) (hl : ws.length ≤ 1000) (hs : ∀ p ∈ ws, p.s.size ≤ 255) : Prs w a ws := by
  refine ⟨by unfold maxLen; omega, fun k hk => ?_, slo_own h hn⟩
  have : (vb ws k).size ≤ 255 := by
    simp only [vb, List.getD_eq_getElem?_getD, List.getElem?_eq_getElem hk, Option.getD_some]
    exact hs _ (List.getElem_mem hk)
  unfold maxLen; omega

set_option maxHeartbeats 2000000 in
theorem decode12 (a : Option Addr) (n c : Nat) (bs : List UInt8) (w : World) (h : Byt w a bs) (hn : n = bs.length) (hc : n ≤ c) (hm : bs.length ≤ 10000) :
    Calls Tryz.prog 161 #[.slice a n c] w fun e w' => DecEnd (dec bs) w e w' := by
  by_cases h0 : bs.length = 0
  · have hd := dec_short0 h0
    generalize dec bs = D at *
    have HD := hide hd
    have hn0 : n = 0 := by omega
    subst hn0
    clear h hd hn h0
    go_enter Tryz.func161, Tryz.ntmps161
    go_wp2_with fail
    go_ret3
    exact decEnd_code 6 (unhide HD) (Kp.refl _ _)
  · obtain ⟨g, o, rfl, hs⟩ := h (by omega)
    have q0 := hs 0 (by omega)
    have u0 := ub_lt bs 0
    have HB := hide h
    have i0 : (0 : Int) < (n : Int) := by omega
    have j0 : 0 < n := by omega
    have j0' : ¬ n = 0 := by omega
    have j0'' : ¬ (n : Int) = 0 := by omega
    simp only [Nat.add_zero] at q0
    by_cases h1 : bs.length < ub bs 0
    · have hd := dec_short h1
      have k0 : (n : Int) < (ub bs 0 : Nat) := by omega
      generalize dec bs = D at *
      have HD := hide hd
      clear h hd hn h0 h1 hs
      generalize ub bs 0 = x at *
      go_enter Tryz.func161, Tryz.ntmps161
      go_wp2_with fail
      go_ret3
      exact decEnd_code 6 (unhide HD) (Kp.refl _ _)
    · have k0 : ¬ (n : Int) < (ub bs 0 : Nat) := by omega
      by_cases h2 : ub bs 0 < 2
      · have hd := dec_form h0 h1 h2
        generalize dec bs = D at *
        have HD := hide hd
        clear h hd hn h0 h1 hs
        generalize ub bs 0 = x at *
        go_enter Tryz.func161, Tryz.ntmps161
        go_wp2_with fail
        go_ret3
        exact decEnd_code 4 (unhide HD) (Kp.refl _ _)
      · have hd := dec_pairs h0 h1 h2
        have q1 := hs 1 (by omega)
        have u1 := ub_lt bs 1
        have hwr : IntKind.i64.wrap ((ub bs 1 : Nat) : Int) = ((ub bs 1 : Nat) : Int) := wrap_i64_id _ (by omega) (by omega)
        have i1 : (1 : Int) < (n : Int) := by omega
        have j1 : 1 < n := by omega
        have k2 : ub bs 0 ≤ c := by omega
        obtain ⟨a2, hsl, hb2⟩ := part_lh (unhide HB) 2 (ub bs 0) c n (by omega) (by omega) (by omega) 2 (ub bs 0 : Nat) rfl rfl
        have hl2 : ub bs 0 - 2 = ((bs.take (ub bs 0)).drop 2).length := by simp; omega
        have hrp := fun W (hk : Kp [] w W) => readPairs20 a2 (ub bs 0 - 2) (c - 2) ((bs.take (ub bs 0)).drop 2) (ub bs 1) W (hb2.kp0 hk) hl2 (by omega) (by omega) (by omega)
        generalize dec bs = D at *
        generalize hR : rp (ub bs 1) ((bs.take (ub bs 0)).drop 2) = R at *
        have HR := hide hR
        have HD := hide hd
        have HRP := hide hrp
        clear h hd hn h0 h1 hs hb2 hl2 hrp hR
        generalize ub bs 0 = x at *
        generalize ub bs 1 = y at *
        go_enter Tryz.func161, Tryz.ntmps161
        go_wp2_with fail
        go_region_with (go_at_call 182; refine (unhide HRP w.drew (Kp.refl [] w).drew).mono ?_; rintro e w1 ⟨ar, nr, cr, q, rfl, hq1, hq2, hk1⟩; have HQ1 := hide hq1; have HQ2 := hide hq2; have HK1 := hide ((Kp.refl [] w).drew.trans0 hk1); clear hq1 hq2 hk1)
        cases q with
        | false =>
          have hd := unhide HD
          rw [unhide HQ2 rfl] at hd
          have HD2 := hide hd
          clear hd
          go_wp2_with fail
          go_ret3
          exact decEnd_code 4 (unhide HD2) (unhide HK1)
        | true =>
          obtain ⟨ws, hR, hnr, hown⟩ := unhide HQ1 rfl
          have hd := unhide HD
          rw [hR] at hd
          simp only at hd
          obtain ⟨hw1, _, hw3⟩ := rp_back ((unhide HR).trans hR)
          subst hnr
          have hwl : ws.length ≤ 1000 := by omega
          have HO := hide (own_base hown (Nat.le_refl w.heap.size))
          have hpr := own_prs hown rfl hwl hw3
          have hch := tcheck36 ar cr ws w1 hpr hwl
          have HCH := hide hch
          have HD2 := hide hd
          clear hd hR hown hw1 hw3 hpr hch HQ1 HQ2 HR HD HRP
          by_cases hp : pf (-1) ws = 0
          · have hd := unhide HD2
            rw [if_pos hp] at hd
            have HD3 := hide hd
            have HP := hide hp
            clear hd hp HD2
            go_wp2_with fail
            refine (unhide HCH).mono ?_
            rintro e w2 ⟨rfl, hk2⟩
            have HK2 := hide hk2
            clear hk2
            rw [unhide HP]
            go_wp2_with fail
            go_ret3
            exact decEnd_mk ws x (unhide HD3) ar _ cr rfl (own_kp0 (unhide HO) (unhide HK2)) ((unhide HK1).trans0 (unhide HK2))
          · have hd := unhide HD2
            rw [if_neg hp] at hd
            have HD3 := hide hd
            clear hd HD2
            go_wp2_with fail
            refine (unhide HCH).mono ?_
            rintro e w2 ⟨rfl, hk2⟩
            have HK2 := hide ((unhide HK1).trans0 hk2)
            clear hk2 HCH
            generalize pf (-1) ws = z at *
            go_wp2_with fail
            go_ret3
            exact decEnd_code z (unhide HD3) (unhide HK2)
end
/- The table of bytes, by its contract. -/
section
open Go.RowKit
attribute [local go_sem ↓] Go.wp_at_zero Go.wp_at_succ

/-- At the head of a round: the commits xs are read. -/
structure TaI (w : World) (bs : List UInt8) (D : List (List Ver)) (tb : Nat) (xs : List (List Ver)) (wr : World) : Prop where
  tbl : ∃ F, Tbl w.heap.size wr tb F (wal0 xs) xs.length
  kp : Kp [] w wr
  n40 : xs.length ≤ 40
  goes : xs ++ dcs (40 - xs.length) (bs.drop (lb xs).length) = D
  ple : (lb xs).length ≤ bs.length

theorem TaI.stop {w : World} {bs : List UInt8} {D xs : List (List Ver)} {tb : Nat} {wr : World} (h : TaI w bs D tb xs wr) (hc : (dec (bs.drop (lb xs).length)).2.2 ≠ 0) : xs = D := by
  have hg := h.goes
  rcases Nat.eq_zero_or_pos (40 - xs.length) with e | e
  · rw [e] at hg; simpa [dcs] using hg
  · obtain ⟨m, hm⟩ := Nat.exists_eq_succ_of_ne_zero (Nat.pos_iff_ne_zero.1 e)
    rw [hm] at hg
    simp only [dcs] at hg
    rw [if_neg hc] at hg
    simpa using hg
theorem TaI.full {w : World} {bs : List UInt8} {D xs : List (List Ver)} {tb : Nat} {wr : World} (h : TaI w bs D tb xs wr) (hc : 40 ≤ xs.length) : xs = D := by
  have hg := h.goes
  rw [show 40 - xs.length = 0 by omega] at hg
  simpa [dcs] using hg
theorem TaI.next {w : World} {bs : List UInt8} {D xs : List (List Ver)} {tb : Nat} {wr w' : World} (h : TaI w bs D tb xs wr) (hc : (dec (bs.drop (lb xs).length)).2.2 = 0) (hn : xs.length < 40)
    (ht : ∃ F, Tbl w.heap.size w' tb F (wst (wal0 xs) xs.length (dec (bs.drop (lb xs).length)).1) (wn xs.length (dec (bs.drop (lb xs).length)).1)) (hk : Kp [] w w') :
    TaI w bs D tb (xs ++ [(dec (bs.drop (lb xs).length)).1]) w' ∧ (lb (xs ++ [(dec (bs.drop (lb xs).length)).1])).length = (lb xs).length + (dec (bs.drop (lb xs).length)).2.1 ∧ 2 ≤ (dec (bs.drop (lb xs).length)).2.1 := by
  obtain ⟨h1, h2, h3, h4⟩ := dec_ok hc
  have hl : (lb (xs ++ [(dec (bs.drop (lb xs).length)).1])).length = (lb xs).length + (dec (bs.drop (lb xs).length)).2.1 := by rw [lb_snoc, List.length_append, ← h4]
  refine ⟨⟨?_, hk, by simp; omega, ?_, ?_⟩, hl, by rw [h4]; exact (enc_le h1).1⟩
  · rw [(wcode_ok h1 hn).2, ← wal0_snoc] at ht
    simpa using ht
  · have hg := h.goes
    rw [show 40 - xs.length = (40 - (xs.length + 1)) + 1 by omega] at hg
    simp only [dcs] at hg
    rw [if_pos hc, List.drop_drop] at hg
    rw [hl, List.length_append, List.append_assoc]
    exact hg
  · rw [hl]
    have := h.ple
    simp only [List.length_drop] at h2
    omega

def TaEnd (D : List (List Ver)) (w : World) (e : Ending) (w' : World) : Prop := ∃ tb F p, e = .returned (.tuple #[.pointer (some ⟨tb, 0, none⟩), .int .i64 (p : Nat)]) ∧ p = (lb D).length ∧ Tbl w.heap.size w' tb F (wal0 D) D.length ∧ Kp [] w w'
theorem TaEnd_mk {D xs : List (List Ver)} {w : World} {tb : Nat} {bs : List UInt8} {wr w' : World} (h : TaI w bs D tb xs wr) (hx : xs = D) (hk : Kp [] wr w') {p : Nat} (hp : p = (lb xs).length) : TaEnd D w (.returned (.tuple #[.pointer (some ⟨tb, 0, none⟩), .int .i64 p])) w' := by
  subst hx
  obtain ⟨F, ht⟩ := h.tbl
  exact ⟨tb, F, p, rfl, hp, ht.kp0 hk, h.kp.trans0 hk⟩

/-- Write of pairs that lie in memory of their own. -/
theorem ta_write {w : World} {bs : List UInt8} {D xs : List (List Ver)} {tb : Nat} {wr W : World} (h : TaI w bs D tb xs wr) (hW : Kp [] wr W) (a : Option Addr) (n c : Nat) (ps : List Ver) (hn : n = ps.length) (ho : W.ownsRow wr.heap.size 106 3 (.slice a n c) n (vcells ps)) (hl : ps.length ≤ 1000) (hs : ∀ p ∈ ps, p.s.size ≤ 255) :
    Calls Tryz.prog 162 #[.pointer (some ⟨tb, 0, none⟩), .slice a n c] W fun e w' => e = .returned (.tuple #[.int .i64 (wnum xs.length ps), .int .i64 (wcode xs.length ps)]) ∧
      (∃ F, Tbl w.heap.size w' tb F (wst (wal0 xs) xs.length ps) (wn xs.length ps)) ∧ Kp [] w w' := by
  obtain ⟨F, ht⟩ := h.tbl
  have hpr := own_prs ho hn hl hs
  subst hn
  refine (twrite45 a c ps W (ht.kp0 hW) hpr (fun _ g o e hg => ?_) hl).mono ?_
  · have h1 := own_ge (g := g) ho (by subst e; rfl)
    have h2 := (ht.lo g hg).2
    omega
  · rintro e w' ⟨rfl, F', k1, k2, k3⟩
    exact ⟨rfl, ⟨F', k1⟩, (h.kp.trans0 hW).trans k2 (fun x hx => .inr (ht.lo x hx).1)⟩

set_option maxHeartbeats 2000000 in
theorem ltable25 (a : Option Addr) (n c : Nat) (bs : List UInt8) (w : World) (h : Byt w a bs) (hn : n = bs.length) (hc : n ≤ c) (hm : bs.length ≤ 10000) :
    Calls Tryz.prog 127 #[.slice a n c] w fun e w' => TaEnd (dcs 40 bs) w e w' := by
  have HB := hide h
  have HN := hide hn
  have hn' : n ≤ 10000 := by omega
  have HG : Hid (dcs 40 bs = dcs 40 bs) := rfl
  generalize hD : dcs 40 bs = D at *
  have HD := hide hD
  clear h hD HG hn
  go_enter Tryz.func127, Tryz.ntmps127
  go_wp2_with fail
  refine (tnew47 w).mono ?_
  rintro e w1 ⟨rfl, ht, hk⟩
  have H0 : Hid (TaI w bs D w.heap.size [] w1) := ⟨ht, hk, by simp, by simpa [lb] using unhide HD, by simp [lb]⟩
  clear ht hk HD
  generalize w.heap.size = tb at *
  go_wp2_with fail
  go_loopw [5] (fun i wr => ∃ (p : Nat) (xs : List (List Ver)), i = .int .i64 p ∧ p ≤ n ∧ Hid (p = (lb xs).length) ∧ Hid (TaI w bs D tb xs wr)) (fun i _ => n - (intOf i).toNat)
  case atStart => exact ⟨0, [], rfl, by omega, rfl, H0⟩
  case round =>
    clear H0
    obtain ⟨p, xs, rfl, hp, HP, HI⟩ := hrel
    obtain ⟨a2, hsl, hb2⟩ := part_l ((unhide HB).kp0 (unhide HI).kp) p c n (unhide HN) (by have := unhide HN; omega) (by have := unhide HN; omega) p rfl
    have hd := decode12 a2 (n - p) (c - p) (bs.drop p) wr hb2 (by rw [List.length_drop]; have := unhide HN; omega) (by omega) (by simp; omega)
    have HDD := hide hd
    have ip : (p : Int) ≤ (n : Int) := by omega
    clear hb2 hd
    by_cases hcode : (dec (bs.drop p)).2.2 = 0
    · have hok := dec_ok hcode
      have hl8 := @dec_len (bs.drop p)
      have hst := @dec_str (bs.drop p)
      have hle2 : (dec (bs.drop p)).2.1 ≤ n - p := by have := hok.2.1; rw [List.length_drop] at this; have := unhide HN; omega
      by_cases h40 : 40 ≤ xs.length
      · have hw9 := wcode_full hok.1 h40
        have HX := hide ((unhide HI).full h40)
        have HW := hide (fun W hW a n c hn ho => ta_write (unhide HI) (W := W) hW a n c _ hn ho (by omega) hst)
        rw [hw9] at HW
        have hD2 : ∃ z, (dec (bs.drop p)).2.1 = z := ⟨_, rfl⟩
        obtain ⟨z, hz⟩ := hD2
        clear hok hl8 hst hw9
        go_wp2_with fail
        refine (unhide HDD).mono ?_
        rintro e w2 ⟨a3, n3, c3, rfl, hn3, ho3, hk3⟩
        rw [hcode, hz]
        have HWW := hide (unhide HW w2 hk3 a3 n3 c3 hn3 ho3)
        clear hn3 ho3 hk3 HW HDD hsl
        generalize wnum xs.length (dec (bs.drop p)).1 = y at *
        go_wp2_with fail
        refine (unhide HWW).mono ?_
        rintro e w3 ⟨rfl, ⟨F3, ht3⟩, hk3⟩
        have HE : Hid (TaEnd D w (.returned (.tuple #[.pointer (some ⟨tb, 0, none⟩), .int .i64 p])) w3) := by
          have hx := unhide HX
          have e9 : wst (wal0 xs) xs.length (dec (bs.drop p)).1 = wal0 xs ∧ wn xs.length (dec (bs.drop p)).1 = xs.length := by
            have := wcode_full (dec_ok hcode).1 h40
            unfold wst wn
            rw [this]
            simp
          rw [e9.1, e9.2, hx] at ht3
          exact ⟨tb, F3, p, rfl, by rw [← hx]; exact unhide HP, ht3, hk3⟩
        clear ht3 hk3 HWW
        go_wp2_with fail
        go_ret2
        exact unhide HE
      · have hw0 := (wcode_ok hok.1 (by omega : xs.length < 40)).1
        have HW := hide (fun W hW a n c hn ho => ta_write (unhide HI) (W := W) hW a n c _ hn ho (by omega) hst)
        rw [hw0] at HW
        have hD2 : ∃ z, (dec (bs.drop p)).2.1 = z := ⟨_, rfl⟩
        obtain ⟨z, hz⟩ := hD2
        rw [hz] at hle2
        clear hok hl8 hst hw0
        go_wp2_with fail
        refine (unhide HDD).mono ?_
        rintro e w2 ⟨a3, n3, c3, rfl, hn3, ho3, hk3⟩
        rw [hcode, hz]
        have HWW := hide (unhide HW w2 hk3 a3 n3 c3 hn3 ho3)
        clear hn3 ho3 hk3 HW HDD hsl
        generalize wnum xs.length (dec (bs.drop p)).1 = y at *
        go_wp2_with fail
        refine (unhide HWW).mono ?_
        rintro e w3 ⟨rfl, ht3, hk3⟩
        have hpx := unhide HP
        subst hpx
        obtain ⟨j1, j2, j3⟩ := (unhide HI).next hcode (by omega) ht3 hk3
        rw [hz] at j2 j3
        have J1 := hide j1
        have J2 := hide j2
        clear ht3 hk3 HWW j1 j2
        go_wp2_with fail
        exact ⟨⟨_, _, by go_num, by omega, (unhide J2).symm, J1⟩, by simp [intOf]; omega⟩
    · have HX := hide ((unhide HI).stop (by rw [← unhide HP]; exact hcode))
      generalize dec (bs.drop p) = Dd at *
      obtain ⟨d1, d2, d3⟩ := Dd
      simp only at hcode
      go_wp2_with fail
      refine (unhide HDD).mono ?_
      rintro e w2 ⟨a3, n3, c3, rfl, hn3, ho3, hk3⟩
      have HE := hide (TaEnd_mk (unhide HI) (unhide HX) hk3 (unhide HP))
      clear hn3 ho3 hk3 HDD hsl
      go_wp2_with fail
      go_ret2
      exact unhide HE
end
/- Put and List of a deed, by their contracts. -/
section
open Go.RowKit
attribute [local go_sem ↓] Go.wp_at_zero Go.wp_at_succ

theorem Tbl.kp1 {B : Nat} {w w' : World} {tb db : Nat} {F : List Nat} {f : Nat → List Ver} {n : Nat} (h : Tbl B w tb F f n) (hk : Kp [db] w w') (hF : db ∉ F) : Tbl B w' tb F f n :=
  h.kp hk (fun x hx hm => hF (by have e : x = db := by simpa using hm
                                 rw [← e]; exact hx))

theorem dpw_not {md : Int} {ws : List Ver} {k : Int} {t : Bool} {s : ByteArray} (h : ¬ dpc md k t s = 0) : dpw md ws k t s = ws := by unfold dpw; rw [if_neg h]
theorem dpw_yes {md : Int} {ws : List Ver} {k : Int} {t : Bool} {s : ByteArray} (h : dpc md k t s = 0) : dpw md ws k t s = ws ++ [⟨k, t, s⟩] := by unfold dpw; rw [if_pos h]

set_option maxHeartbeats 1000000 in
theorem dput57 {db : Nat} {md y : Int} {rs : List Int} {ws : List Ver} (k : Int) (t : Bool) (s : ByteArray) (w : World) (h : Ded w db md y rs ws) (hs : s.size ≤ maxLen) :
    Calls Tryz.prog 134 #[.pointer (some ⟨db, 0, none⟩), .int .i64 k, .agg #[.bool t, .string s]] w fun e w' => e = .returned (.int .i64 (dpc md k t s)) ∧ Ded w' db md y rs (dpw md ws k t s) ∧ Kp [db] w w' := by
  have HD := hide h
  have hlt := h.lt
  have qm := h.mcell
  clear h
  by_cases hk : keyB k = true
  · by_cases hm : md = 3
    · have hc : dpc md k t s = 3 := by unfold dpc; rw [if_pos hk, if_pos hm]
      rw [dpw_not (by rw [hc]; decide), hc]
      clear hc
      subst hm
      go_enter Tryz.func134, Tryz.ntmps134
      go_wp2_with fail
      refine (key11 _ _).mono ?_
      rintro e w' ⟨rfl, rfl⟩
      rw [hk]
      clear hk
      go_wp2_with fail
      go_ret
      exact ⟨rfl, (unhide HD).kp0 ((Kp.refl [] w).alloc _), ((Kp.refl [] w).alloc _).mono (by simp)⟩
    · have hc : dpc md k t s = chk t s := by unfold dpc; rw [if_pos hk, if_neg hm]
      have em : (md == 3) = false := beq_eq_false_iff_ne.2 hm
      by_cases h0 : chk t s = 0
      · obtain ⟨j, hj, rfl⟩ := keyB_nat hk
        rw [dpw_yes (by rw [hc]; exact h0), hc, h0]
        have H0 := hide h0
        have i0 : (0 : Int) ≤ (j : Int) := by omega
        have i1 : (j : Int) < 8 := by omega
        clear hc h0 hm
        go_enter Tryz.func134, Tryz.ntmps134
        go_wp2_with fail
        refine (key11 _ _).mono ?_
        rintro e w' ⟨rfl, rfl⟩
        rw [hk]
        clear hk
        go_wp2_with fail
        refine (check13 t s _ hs).mono ?_
        rintro e w1 ⟨rfl, hkp⟩
        rw [unhide H0]
        have b0 : w1.cell? ⟨w.heap.size, 0, none⟩ = some (.bool t) := hkp.cell (by simp) (by simp)
        have b1 : w1.cell? ⟨w.heap.size, 1, none⟩ = some (.string s) := hkp.cell (by simp) (by simp)
        have hkp1 := ((Kp.refl [] w).alloc (.cells #[.bool t, .string s] 99)).trans0 hkp
        have hd1 := (unhide HD).kp0 hkp1
        have c1 := hd1.ncell1 hj
        have c2 := hd1.ncell2 hj
        have c3 := hd1.ncell3 hj
        have f1 := hd1.frozen (2 + j * 4 + 1)
        have f2 := hd1.frozen (2 + j * 4 + 2)
        have f3 := hd1.frozen (2 + j * 4 + 2 + 1)
        have hne : db ≠ w.heap.size := by omega
        have HD1 := hide hd1
        have HK1 := hide hkp1
        clear hd1 hkp hkp1 qm em
        go_wp2_with fail
        go_region
        all_goals
          go_wp2_with fail
          go_ret
          refine ⟨rfl, ((unhide HD1).kp0 (Kp.refl [] w1).drew).write hj t s, ?_⟩
          exact ((((unhide HK1).mono (T := [db]) (by simp)).drew.setCell (.inl (by simp)) _).setCell (.inl (by simp)) _).setCell (.inl (by simp)) _
      · rw [dpw_not (by rw [hc]; exact h0), hc]
        clear hc hm
        go_enter Tryz.func134, Tryz.ntmps134
        go_wp2_with fail
        refine (key11 _ _).mono ?_
        rintro e w' ⟨rfl, rfl⟩
        rw [hk]
        clear hk
        go_wp2_with fail
        refine (check13 t s _ hs).mono ?_
        rintro e w1 ⟨rfl, hkp⟩
        have hkp1 := ((Kp.refl [] w).alloc (.cells #[.bool t, .string s] 99)).trans0 hkp
        have HK1 := hide hkp1
        clear hkp hkp1 qm em
        generalize hcc : chk t s = c at *
        have HCC := hide hcc
        clear hcc
        go_wp2_with fail
        go_ret
        exact ⟨ret_int (unhide HCC).symm, (unhide HD).kp0 (unhide HK1), (unhide HK1).mono (by simp)⟩
  · have hk2 : keyB k = false := by simpa using hk
    have hc : dpc md k t s = 1 := by unfold dpc; rw [if_neg hk]
    rw [dpw_not (by rw [hc]; decide), hc]
    clear hc hk
    go_enter Tryz.func134, Tryz.ntmps134
    go_wp2_with fail
    refine (key11 _ _).mono ?_
    rintro e w' ⟨rfl, rfl⟩
    rw [hk2]
    clear hk2
    go_wp2_with fail
    go_ret
    exact ⟨rfl, (unhide HD).kp0 ((Kp.refl [] w).alloc _), ((Kp.refl [] w).alloc _).mono (by simp)⟩

/-- What List tells, and what it leaves. -/
def DlEnd (L : List Ver × Int × List Int) (w : World) (db : Nat) (md y : Int) (ws : List Ver) (e : Ending) (w' : World) : Prop :=
  ∃ a cap, e = .returned (.tuple #[.slice a L.1.length cap, .int .i64 L.2.1]) ∧ w'.ownsRow w.heap.size 106 3 (.slice a L.1.length cap) L.1.length (vcells L.1) ∧ Ded w' db md y L.2.2 ws ∧ Kp [db] w w'
theorem dlEnd_mk {L : List Ver × Int × List Int} {w w' : World} {db : Nat} {md y : Int} {ws : List Ver} (acc : List Ver) (code : Int) (rs : List Int) (a : Option Addr) (cap : Nat) (h : L = (acc, code, rs)) (ho : w'.ownsRow w.heap.size 106 3 (.slice a acc.length cap) acc.length (vcells acc))
    (hd : Ded w' db md y rs ws) (hk : Kp [db] w w') : DlEnd L w db md y ws (.returned (.tuple #[.slice a acc.length cap, .int .i64 code])) w' := by
  subst h; exact ⟨a, cap, rfl, ho, hd, hk⟩

/-- What stands at the head of a round of List. -/
structure DlI (R : List Ver × Int × List Int) (w : World) (db : Nat) (md y : Int) (f : Nat → List Ver) (n : Nat) (ws : List Ver) (t k : Nat) (acc : List Ver) (rs : List Int) (a : Option Addr) (cap : Nat) (wr : World) : Prop where
  goes : dgo f n y ws k (t + 1 - k) acc rs = R
  own : wr.ownsRow w.heap.size 106 3 (.slice a acc.length cap) acc.length (vcells acc)
  ded : Ded wr db md y rs ws
  kp : Kp [db] w wr
  len : acc.length ≤ k
  lt : db < w.heap.size

section
variable {R : List Ver × Int × List Int} {w wr w1 W w2 : World} {db : Nat} {md y : Int} {f : Nat → List Ver} {n : Nat} {ws : List Ver} {t k : Nat} {acc : List Ver} {rs : List Int} {a : Option Addr} {cap : Nat}
theorem DlI.own1 (h : DlI R w db md y f n ws t k acc rs a cap wr) (hk : Kp [db] wr w1) : w1.ownsRow w.heap.size 106 3 (.slice a acc.length cap) acc.length (vcells acc) :=
  own_kp h.own hk (fun g hg => by have := own_ge h.own hg; have := h.lt; simp; omega)
theorem DlI.skip (h : DlI R w db md y f n ws t k acc rs a cap wr) (hk : k ≤ t) (hw : Kp [db] wr w1) (hd : Ded w1 db md y (dr f n y rs ws k) ws)
    (h0 : (dg f n y ws k).a = 0) (ht : ¬ (dg f n y ws k).t = true) : DlI R w db md y f n ws t (k + 1) acc (dr f n y rs ws k) a cap w1 :=
  ⟨by have := h.goes; rw [show t + 1 - k = (t + 1 - (k + 1)) + 1 by omega] at this; exact dgo_skip this h0 ht, h.own1 hw, hd, h.kp.trans hw (by simp), by have := h.len; omega, h.lt⟩
theorem DlI.more (h : DlI R w db md y f n ws t k acc rs a cap wr) (hk : k ≤ t) (hw : Kp [db] wr W) (hd : Ded W db md y (dr f n y rs ws k) ws)
    (h0 : (dg f n y ws k).a = 0) (ht : (dg f n y ws k).t = true) {g2 cap2 : Nat} (hown : w2.ownsRow w.heap.size 106 3 (.slice (some ⟨g2, 0, none⟩) (acc.length + 1) cap2) (acc.length + 1) (vcells acc ++ [.int .i64 k, .bool true, .string (dg f n y ws k).s]))
    (hgrow : W.grownBy w2 (Value.slice a acc.length cap).ownBlock) : DlI R w db md y f n ws t (k + 1) (acc ++ [⟨k, (dg f n y ws k).t, (dg f n y ws k).s⟩]) (dr f n y rs ws k) (some ⟨g2, 0, none⟩) cap2 w2 := by
  have hkp : Kp [db] w w2 := (h.kp.trans hw (by simp)).grown hgrow (fun g hg => .inr (own_ge h.own hg))
  refine ⟨by have := h.goes; rw [show t + 1 - k = (t + 1 - (k + 1)) + 1 by omega] at this; exact dgo_more this h0 ht, ?_, ?_, hkp, by have := h.len; simp; omega, h.lt⟩
  · have hv : vcells acc ++ [.int .i64 k, .bool true, .string (dg f n y ws k).s] = vcells (acc ++ [⟨k, (dg f n y ws k).t, (dg f n y ws k).s⟩]) := by rw [vcells_append, ht]; rfl
    rw [hv] at hown
    simpa using hown
  · unfold Ded at hd ⊢
    rw [hgrow.block db (lt_of_block hd) (fun e => by have := own_ge h.own e.symm; have := h.lt; omega)]
    exact hd
end

theorem dls_in {f : Nat → List Ver} {n : Nat} {y : Int} {ws : List Ver} {rs : List Int} {p t : Nat} (hf : keyB p = true) (ht : keyB t = true) : dls f n y ws rs p t = dgo f n y ws p (t + 1 - p) [] rs := by
  unfold dls
  rw [if_pos ⟨hf, ht⟩, Int.toNat_natCast]
  congr 1
  omega
theorem dls_out {f : Nat → List Ver} {n : Nat} {y : Int} {ws : List Ver} {rs : List Int} {p t : Int} (h : ¬ (keyB p = true ∧ keyB t = true)) : dls f n y ws rs p t = ([], 1, rs) := by
  unfold dls
  rw [if_neg h]

set_option maxHeartbeats 2000000 in
theorem dlist59 {B tb n db : Nat} {F : List Nat} {f : Nat → List Ver} {md y : Int} {rs : List Int} {ws : List Ver} (fr to_ : Int) (w : World) (h : Tbl B w tb F f n) (hd : Ded w db md y rs ws) (hF : db ∉ F) :
    Calls Tryz.prog 135 #[.pointer (some ⟨db, 0, none⟩), .pointer (some ⟨tb, 0, none⟩), .int .i64 fr, .int .i64 to_] w fun e w' => DlEnd (dls f n y ws rs fr to_) w db md y ws e w' := by
  obtain ⟨in0, hi0, hz0, hz1, hz2⟩ := info_parts Tryz.info106
  have HT := hide h
  have HD := hide hd
  have HF := hide hF
  clear h hd hF
  by_cases hf : keyB fr = true
  · by_cases ht : keyB to_ = true
    · obtain ⟨p, hp, rfl⟩ := keyB_nat hf
      obtain ⟨t, ht8, rfl⟩ := keyB_nat ht
      have H0 : Hid (DlI (dls f n y ws rs p t) w db md y f n ws t p [] rs none 0 w) := ⟨(dls_in hf ht).symm, World.ownsRow_nil _ _ _ _, unhide HD, Kp.refl _ _, by simp, (unhide HD).lt⟩
      generalize dls f n y ws rs p t = R at *
      go_enter Tryz.func135, Tryz.ntmps135
      go_wp2_with fail
      refine (key11 _ _).mono ?_
      rintro e w' ⟨rfl, hw'⟩
      subst w'
      rw [hf]
      go_wp2_with fail
      refine (key11 _ _).mono ?_
      rintro e w' ⟨rfl, hw'⟩
      subst w'
      rw [ht]
      clear hf ht
      go_wp2_with fail
      go_loopw [10, 11] (fun s i wr => ∃ (k : Nat) (acc : List Ver) (rk : List Int) (a : Option Addr) (cap : Nat), k ≤ 8 ∧ s = .slice a acc.length cap ∧ i = .int .i64 k ∧ Hid (DlI R w db md y f n ws t k acc rk a cap wr)) (fun _ i _ => 8 - (intOf i).toNat)
      case atStart => exact ⟨p, [], rs, none, 0, by omega, rfl, rfl, H0⟩
      case round =>
        obtain ⟨k, acc, rk, a, cap, hk, rfl, rfl, HL⟩ := hrel
        by_cases hlt : k ≤ t
        · have j0 : (k : Int) ≤ (t : Int) := by omega
          go_wp2_with fail
          refine (dget55 k _ ((unhide HT).kp1 (unhide HL).kp (unhide HF)) (unhide HL).ded).mono ?_
          rintro e w1 ⟨rfl, hd1, hk1⟩
          have HK1 := hide hk1
          have HD1 := hide hd1
          clear hk1 hd1
          by_cases h0 : (dg f n y ws k).a = 0
          · have H00 := hide h0
            rw [h0]
            clear h0
            by_cases h1 : (dg f n y ws k).t = true
            · have H1 := hide h1
              rw [h1]
              have hOW := hide ((unhide HL).own1 (((unhide HK1).alloc (.cells #[.bool true, .string (dg f n y ws k).s] 99)).alloc (.cells #[.int .i64 k, .bool true, .string (dg f n y ws k).s] 106)))
              have hal := (unhide HL).len
              have hwl := ((unhide HL).kp.trans (unhide HK1) (by simp)).size
              go_wp2_with (at_builtin; refine wpList_append_lies _ rfl _ _ 100 rfl w.heap.size 106 in0 _ 3 32 Tryz.underlying100 hi0 hz0 hz1 hz2 rfl (by omega) (.slice a acc.length cap) acc.length (vcells acc) rfl (unhide hOW) ⟨w1.heap.size + 1, 0, none⟩ 1 1 [.int .i64 k, .bool true, .string (dg f n y ws k).s] (by rfl) (by rfl) (World.news_of_block (cs := #[.int .i64 k, .bool true, .string (dg f n y ws k).s]) (t := 106) (fr := (0, 0)) (by have := heap_alloc_new (w1.alloc (.cells #[.bool true, .string (dg f n y ws k).s] 99)) (.cells #[.int .i64 k, .bool true, .string (dg f n y ws k).s] 106); simpa using this)) (by simp [Value.oneCell']) (by omega) (by unfold maxLen; omega) (by omega) (by simp; omega) _ rfl ?_; intro g2 cap2 w2 hown hgrow hat hlt2)
              have HL2 := hide ((unhide HL).more hlt (((unhide HK1).alloc _).alloc _) ((unhide HD1).kp0 (((Kp.refl [] w1).alloc _).alloc _)) (unhide H00) (unhide H1) hown hgrow)
              clear hown hgrow hat
              go_wp2_with fail
              exact ⟨⟨k + 1, _, _, _, _, by omega, by simp, by go_num, HL2⟩, by simp [intOf]; omega⟩
            · have HL2 := hide ((unhide HL).skip hlt ((unhide HK1).alloc (.cells #[.bool (dg f n y ws k).t, .string (dg f n y ws k).s] 99)) ((unhide HD1).kp0 ((Kp.refl [] w1).alloc _)) (unhide H00) h1)
              have h1' : (dg f n y ws k).t = false := by simpa using h1
              rw [h1'] at HL2 ⊢
              clear h1 h1'
              go_wp2_with fail
              exact ⟨⟨k + 1, acc, _, a, cap, by omega, rfl, by go_num, HL2⟩, by simp [intOf]; omega⟩
          · have hg := (unhide HL).goes
            rw [show t + 1 - k = (t - k) + 1 by omega] at hg
            have hst := dgo_stop hg h0
            clear hg
            have HST := hide hst
            have HK2 := hide (((unhide HL).kp.trans (unhide HK1) (by simp)).alloc (.cells #[.bool (dg f n y ws k).t, .string (dg f n y ws k).s] 99))
            have HD2 := hide ((unhide HD1).kp0 ((Kp.refl [] w1).alloc (.cells #[.bool (dg f n y ws k).t, .string (dg f n y ws k).s] 99)))
            clear hst
            generalize (dg f n y ws k).a = q at *
            generalize (dg f n y ws k).t = qt at *
            generalize (dg f n y ws k).s = qs at *
            go_wp2_with fail
            go_ret2
            exact dlEnd_mk [] _ _ none 0 (unhide HST) (World.ownsRow_nil _ _ _ _) (unhide HD2) (unhide HK2)
        · have j0 : ¬ (k : Int) ≤ (t : Int) := by omega
          have hst := dgo_end (unhide HL).goes (by omega)
          have HST := hide hst
          clear hst
          go_wp2_with fail
          go_ret2
          exact dlEnd_mk acc 0 _ a cap (unhide HST) (unhide HL).own (unhide HL).ded (unhide HL).kp
    · have HE1 := hide (dls_out (f := f) (n := n) (y := y) (ws := ws) (rs := rs) (p := fr) (t := to_) (fun h => ht h.2))
      have ht2 : keyB to_ = false := by simpa using ht
      clear ht
      go_enter Tryz.func135, Tryz.ntmps135
      go_wp2_with fail
      refine (key11 _ _).mono ?_
      rintro e w' ⟨rfl, rfl⟩
      rw [hf]
      go_wp2_with fail
      refine (key11 _ _).mono ?_
      rintro e w' ⟨rfl, rfl⟩
      rw [ht2]
      go_wp2_with fail
      go_ret2
      exact dlEnd_mk [] 1 _ none 0 (unhide HE1) (World.ownsRow_nil _ _ _ _) (unhide HD) (Kp.refl _ _)
  · have HE1 := hide (dls_out (f := f) (n := n) (y := y) (ws := ws) (rs := rs) (p := fr) (t := to_) (fun h => hf h.1))
    have hf2 : keyB fr = false := by simpa using hf
    clear hf
    go_enter Tryz.func135, Tryz.ntmps135
    go_wp2_with fail
    refine (key11 _ _).mono ?_
    rintro e w' ⟨rfl, rfl⟩
    rw [hf2]
    go_wp2_with fail
    go_ret2
    exact dlEnd_mk [] 1 _ none 0 (unhide HE1) (World.ownsRow_nil _ _ _ _) (unhide HD) (Kp.refl _ _)
end
/- The document's own deed: its memory; In, SameInts and last, by their contracts. -/
section
open Go.RowKit
attribute [local go_sem ↓] Go.wp_at_zero Go.wp_at_succ

def ig (l : List Int) (k : Nat) : Int := l.getD k 0
/-- The numbers lie behind the slice's address. -/
def SlI (w : World) (a : Option Addr) (l : List Int) : Prop := 0 < l.length → ∃ g o, a = some ⟨g, o, none⟩ ∧ ∀ j, j < l.length → w.cell? ⟨g, o + j, none⟩ = some (.int .i64 (ig l j))
theorem SlI.kp0 {w w' : World} {a : Option Addr} {l : List Int} (h : SlI w a l) (hk : Kp [] w w') : SlI w' a l := fun hp => by
  obtain ⟨g, o, e, hs⟩ := h hp
  exact ⟨g, o, e, fun j hj => hk.cell (p := ⟨g, o + j, none⟩) (by simp) (hs j hj)⟩
/-- The document's deed: the box wb holds the mode, the commit, what was read and what was written; H: all blocks that are its own. -/
structure WrkL (B : Nat) (w : World) (wb : Nat) (H : List Nat) (ra : Option Addr) (rc : Nat) (wa : Option Addr) (wc : Nat) (md y : Int) (rs : List Int) (ws : List Ver) : Prop where
  box : w.heap[wb]? = some (.cells #[.int .i64 md, .int .i64 y, .slice ra rs.length rc, .slice wa ws.length wc] 127 (0, 0))
  ro : w.ownsRow B 3 1 (.slice ra rs.length rc) rs.length (icells rs)
  wo : w.ownsRow B 106 3 (.slice wa ws.length wc) ws.length (vcells ws)
  rb : ∀ g, (Value.slice ra rs.length rc).ownBlock = some g → g ≠ wb ∧ g ∈ H
  ab : ∀ g, (Value.slice wa ws.length wc).ownBlock = some g → g ≠ wb ∧ g ∈ H
  rw : ∀ g g', (Value.slice ra rs.length rc).ownBlock = some g → (Value.slice wa ws.length wc).ownBlock = some g' → g ≠ g'
  bH : wb ∈ H
  lo : ∀ x, x ∈ H → B ≤ x ∧ x < w.heap.size
def Wrk (B : Nat) (w : World) (wb : Nat) (H : List Nat) (md y : Int) (rs : List Int) (ws : List Ver) : Prop := ∃ ra rc wa wc, WrkL B w wb H ra rc wa wc md y rs ws

section
variable {B : Nat} {w w' : World} {wb : Nat} {H : List Nat} {ra : Option Addr} {rc : Nat} {wa : Option Addr} {wc : Nat} {md y : Int} {rs : List Int} {ws : List Ver}
theorem WrkL.kp {S : List Nat} (h : WrkL B w wb H ra rc wa wc md y rs ws) (hk : Kp S w w') (hS : ∀ x, x ∈ H → x ∉ S) : WrkL B w' wb H ra rc wa wc md y rs ws :=
  ⟨by rw [hk.block wb (lt_of_block h.box) (hS _ h.bH)]; exact h.box, own_kp h.ro hk (fun g hg => hS g (h.rb g hg).2), own_kp h.wo hk (fun g hg => hS g (h.ab g hg).2), h.rb, h.ab, h.rw, h.bH, fun x hx => ⟨(h.lo x hx).1, Nat.lt_of_lt_of_le (h.lo x hx).2 hk.size⟩⟩
theorem WrkL.kp0 (h : WrkL B w wb H ra rc wa wc md y rs ws) (hk : Kp [] w w') : WrkL B w' wb H ra rc wa wc md y rs ws := h.kp hk (fun _ _ => by simp)
theorem Wrk.kp {S : List Nat} (h : Wrk B w wb H md y rs ws) (hk : Kp S w w') (hS : ∀ x, x ∈ H → x ∉ S) : Wrk B w' wb H md y rs ws := by
  obtain ⟨ra, rc, wa, wc, h⟩ := h
  exact ⟨ra, rc, wa, wc, h.kp hk hS⟩
theorem Wrk.kp0 (h : Wrk B w wb H md y rs ws) (hk : Kp [] w w') : Wrk B w' wb H md y rs ws := h.kp hk (fun _ _ => by simp)
theorem Wrk.lo (h : Wrk B w wb H md y rs ws) : ∀ x, x ∈ H → B ≤ x ∧ x < w.heap.size := by
  obtain ⟨ra, rc, wa, wc, h⟩ := h
  exact h.lo
theorem WrkL.c0 (h : WrkL B w wb H ra rc wa wc md y rs ws) : w.cell? ⟨wb, 0, none⟩ = some (.int .i64 md) := cell_of_block h.box rfl
theorem WrkL.c1 (h : WrkL B w wb H ra rc wa wc md y rs ws) : w.cell? ⟨wb, 1, none⟩ = some (.int .i64 y) := cell_of_block h.box rfl
theorem WrkL.c2 (h : WrkL B w wb H ra rc wa wc md y rs ws) : w.cell? ⟨wb, 2, none⟩ = some (.slice ra rs.length rc) := cell_of_block h.box rfl
theorem WrkL.c3 (h : WrkL B w wb H ra rc wa wc md y rs ws) : w.cell? ⟨wb, 3, none⟩ = some (.slice wa ws.length wc) := cell_of_block h.box rfl
end

end
/- Get and Put of the document's deed, by their contracts. -/
section
open Go.RowKit
attribute [local go_sem ↓] Go.wp_at_zero Go.wp_at_succ

section
variable {B : Nat} {W w2 : World} {wb : Nat} {H : List Nat} {ra : Option Addr} {rc : Nat} {wa : Option Addr} {wc : Nat} {md y : Int} {rs : List Int} {ws : List Ver} {g2 cap2 : Nat}
end

/-- A variable of two cells: a value. -/
def Two (w : World) (p : Nat) (t : Bool) (s : ByteArray) : Prop := w.heap[p]? = some (.cells #[.bool t, .string s] 99 (0, 0))
section
variable {w w' : World} {p : Nat} {t : Bool} {s : ByteArray}
theorem Two.kp {S : List Nat} (h : Two w p t s) (hk : Kp S w w') (hS : p ∉ S) : Two w' p t s := by
  unfold Two at h ⊢
  rw [hk.block p (lt_of_block h) hS]; exact h
theorem Two.kp0 (h : Two w p t s) (hk : Kp [] w w') : Two w' p t s := h.kp hk (by simp)
theorem Two.c0 (h : Two w p t s) : w.cell? ⟨p, 0, none⟩ = some (.bool t) := cell_of_block h rfl
theorem Two.c1 (h : Two w p t s) : w.cell? ⟨p, 1, none⟩ = some (.string s) := cell_of_block h rfl
theorem Two.f0 (h : Two w p t s) : w.frozen? ⟨p, 0, none⟩ = false := frozen_of_block 0 h
theorem Two.f1 (h : Two w p t s) : w.frozen? ⟨p, 1, none⟩ = false := frozen_of_block 1 h
theorem Two.lt (h : Two w p t s) : p < w.heap.size := lt_of_block h
theorem Two.grown {ob : Option Nat} (h : Two w p t s) (hg : w.grownBy w' ob) (hne : some p ≠ ob) : Two w' p t s := by
  unfold Two at h ⊢
  rw [hg.block p (lt_of_block h) hne]; exact h
end
end
/- Put, Reads and Writes of the document's deed, by their contracts. -/
section
open Go.RowKit
attribute [local go_sem ↓] Go.wp_at_zero Go.wp_at_succ

end
/- The things of a vault's world: a vault, a court, a house, a deed with the document's deed; what a call leaves of them. -/
section
open Go.RowKit

/-- What a call that changes a thing leaves of it. -/
def Ch (o' : Thing) (B : Nat) (w : World) (F : List Nat) (w' : World) : Prop := ∃ F', o'.holds B w' F' ∧ Kp F w w' ∧ ∀ x, x ∈ F' → x ∈ F ∨ w.heap.size ≤ x

section
variable {w0 w w' : World} {o o1 o2 o3 : Thing} {r : List Thing}
theorem zoo_at0 (h : Zoo w0 w (o :: r)) : ∃ F, o.holds w0.heap.size w F ∧ ∀ (o' : Thing) (w' : World), Ch o' w0.heap.size w F w' → Zoo w0 w' (o' :: r) := h.head
theorem zoo_at1 (h : Zoo w0 w (o1 :: o :: r)) : ∃ F, o.holds w0.heap.size w F ∧ ∀ (o' : Thing) (w' : World), Ch o' w0.heap.size w F w' → Zoo w0 w' (o1 :: o' :: r) := Zoo.at_ (l1 := [o1]) h
theorem Ch.same {o : Thing} {B : Nat} {F : List Nat} (h : o.holds B w F) (hk : Kp [] w w') : Ch o B w F w' := ⟨F, o.kp h hk (fun _ _ => by simp), hk.mono (fun x hx => by simp at hx), fun x hx => .inl hx⟩
theorem Ch.trans {o' : Thing} {B : Nat} {F F1 : List Nat} {w1 : World} (h2 : Kp F w w1) (h3 : ∀ x, x ∈ F1 → x ∈ F ∨ w.heap.size ≤ x) (k : Ch o' B w1 F1 w') : Ch o' B w F w' := by
  obtain ⟨F2, k1, k2, k3⟩ := k
  refine ⟨F2, k1, h2.trans k2 h3, fun x hx => ?_⟩
  rcases k3 x hx with e | e
  · exact h3 x e
  · exact .inr (Nat.le_trans h2.size e)
theorem Ch.to {o o' : Thing} {B : Nat} {F : List Nat} {w1 : World} (h : Ch o B w F w1) (k : ∀ F1, o.holds B w1 F1 → Ch o' B w1 F1 w') : Ch o' B w F w' := by
  obtain ⟨F1, h1, h2, h3⟩ := h
  exact Ch.trans h2 h3 (k F1 h1)
theorem Ch.kp0 {o' : Thing} {B : Nat} {F : List Nat} {w1 : World} (h : Ch o' B w F w1) (hk : Kp [] w1 w') : Ch o' B w F w' := h.to (fun _ h1 => Ch.same h1 hk)
theorem Ch.after {o' : Thing} {B : Nat} {F : List Nat} {w1 : World} (hk : Kp [] w w1) (h : Ch o' B w1 F w') : Ch o' B w F w' := by
  obtain ⟨F1, h1, h2, h3⟩ := h
  refine ⟨F1, h1, (hk.mono (fun x hx => by simp at hx)).trans h2 (fun x hx => .inl hx), fun x hx => ?_⟩
  rcases h3 x hx with e | e
  · exact .inl e
  · exact .inr (Nat.le_trans hk.size e)
end

/-- A vault's memory: its box holds the table's and the log's. -/
structure Vlt (B : Nat) (w : World) (vb tb gb : Nat) (F Ft Fg : List Nat) (f : Nat → List Ver) (n : Nat) (cs : List (List Ver)) (torn : List UInt8) : Prop where
  box : w.heap[vb]? = some (.cells #[.pointer (some ⟨tb, 0, none⟩), .pointer (some ⟨gb, 0, none⟩)] 77 (0, 0))
  t : Tbl B w tb Ft f n
  g : Lg B w gb Fg cs torn
  vt : vb ∉ Ft
  vg : vb ∉ Fg
  tg : ∀ x, x ∈ Ft → x ∉ Fg
  vF : vb ∈ F
  tF : ∀ x, x ∈ Ft → x ∈ F
  gF : ∀ x, x ∈ Fg → x ∈ F
  lo : ∀ x, x ∈ F → B ≤ x ∧ x < w.heap.size
section
variable {B : Nat} {w w' : World} {vb tb gb : Nat} {F Ft Fg S : List Nat} {f f' : Nat → List Ver} {n n' : Nat} {cs cs' : List (List Ver)} {torn torn' : List UInt8}
theorem Vlt.kp (h : Vlt B w vb tb gb F Ft Fg f n cs torn) (hk : Kp S w w') (hS : ∀ x, x ∈ F → x ∉ S) : Vlt B w' vb tb gb F Ft Fg f n cs torn :=
  ⟨by rw [hk.block vb (h.lo vb h.vF).2 (hS _ h.vF)]; exact h.box, h.t.kp hk (fun x hx => hS x (h.tF x hx)), h.g.kp hk (fun x hx => hS x (h.gF x hx)), h.vt, h.vg, h.tg, h.vF, h.tF, h.gF, fun x hx => ⟨(h.lo x hx).1, Nat.lt_of_lt_of_le (h.lo x hx).2 hk.size⟩⟩
theorem Vlt.kp0 (h : Vlt B w vb tb gb F Ft Fg f n cs torn) (hk : Kp [] w w') : Vlt B w' vb tb gb F Ft Fg f n cs torn := h.kp hk (fun _ _ => by simp)
theorem Vlt.base {C : Nat} (h : Vlt B w vb tb gb F Ft Fg f n cs torn) (hC : C ≤ B) : Vlt C w vb tb gb F Ft Fg f n cs torn :=
  ⟨h.box, h.t.base hC, h.g.base hC, h.vt, h.vg, h.tg, h.vF, h.tF, h.gF, fun x hx => ⟨Nat.le_trans hC (h.lo x hx).1, (h.lo x hx).2⟩⟩
theorem Vlt.c0 (h : Vlt B w vb tb gb F Ft Fg f n cs torn) : w.cell? ⟨vb, 0, none⟩ = some (.pointer (some ⟨tb, 0, none⟩)) := cell_of_block h.box rfl
theorem Vlt.c1 (h : Vlt B w vb tb gb F Ft Fg f n cs torn) : w.cell? ⟨vb, 1, none⟩ = some (.pointer (some ⟨gb, 0, none⟩)) := cell_of_block h.box rfl
theorem Vlt.fz (h : Vlt B w vb tb gb F Ft Fg f n cs torn) (i : Nat) : w.frozen? ⟨vb, i, none⟩ = false := frozen_of_block i h.box
end
def VltT (vb tb gb : Nat) (f : Nat → List Ver) (n : Nat) (cs : List (List Ver)) (torn : List UInt8) : Thing where
  holds B w F := ∃ Ft Fg, Vlt B w vb tb gb F Ft Fg f n cs torn
  kp := fun ⟨Ft, Fg, h⟩ hk hS => ⟨Ft, Fg, h.kp hk hS⟩
  lo := fun ⟨_, _, h⟩ => h.lo
  base := fun ⟨Ft, Fg, h⟩ hC => ⟨Ft, Fg, h.base hC⟩
section
variable {B : Nat} {w w' : World} {vb tb gb : Nat} {F Ft Fg S : List Nat} {f f' : Nat → List Ver} {n n' : Nat} {cs cs' : List (List Ver)} {torn torn' : List UInt8}
/-- Another log of the vault. -/
theorem Vlt.log (h : Vlt B w vb tb gb F Ft Fg f n cs torn) (k : LgTo B w gb Fg cs' torn' w') : Ch (VltT vb tb gb f n cs' torn') B w F w' := by
  obtain ⟨Fg', k1, k2, k3⟩ := k
  have hvb := (h.lo vb h.vF).2
  refine ⟨F ++ Fg', ⟨Ft, Fg', ?_, h.t.kp k2 h.tg, k1, h.vt, fun hm => ?_, fun x hx hm => ?_, by simp [h.vF], fun x hx => by simp [h.tF x hx], fun x hx => by simp [hx], fun x hx => ?_⟩, k2.mono (fun x hx => .inl (h.gF x hx)), fun x hx => ?_⟩
  · rw [k2.block vb hvb h.vg]; exact h.box
  · rcases k3 vb hm with e | e
    · exact h.vg e
    · omega
  · rcases k3 x hm with e | e
    · exact h.tg x hx e
    · have := (h.lo x (h.tF x hx)).2; omega
  · rcases List.mem_append.1 hx with e | e
    · exact ⟨(h.lo x e).1, Nat.lt_of_lt_of_le (h.lo x e).2 k2.size⟩
    · exact k1.lo x e
  · rcases List.mem_append.1 hx with e | e
    · exact .inl e
    · rcases k3 x e with e | e
      · exact .inl (h.gF x e)
      · exact .inr e
/-- Its table changed. -/
theorem Vlt.table (h : Vlt B w vb tb gb F Ft Fg f n cs torn) {Ft' : List Nat} (k1 : Tbl B w' tb Ft' f' n') (k2 : Kp Ft w w') (k3 : ∀ x, x ∈ Ft' → x ∈ Ft ∨ w.heap.size ≤ x) : Ch (VltT vb tb gb f' n' cs torn) B w F w' := by
  have hvb := (h.lo vb h.vF).2
  refine ⟨F ++ Ft', ⟨Ft', Fg, ?_, k1, h.g.kp k2 (fun x hx hm => h.tg x hm hx), fun hm => ?_, h.vg, fun x hx hm => ?_, by simp [h.vF], fun x hx => by simp [hx], fun x hx => by simp [h.gF x hx], fun x hx => ?_⟩, k2.mono (fun x hx => .inl (h.tF x hx)), fun x hx => ?_⟩
  · rw [k2.block vb hvb h.vt]; exact h.box
  · rcases k3 vb hm with e | e
    · exact h.vt e
    · omega
  · rcases k3 x hx with e | e
    · exact h.tg x e hm
    · have := (h.lo x (h.gF x hm)).2; omega
  · rcases List.mem_append.1 hx with e | e
    · exact ⟨(h.lo x e).1, Nat.lt_of_lt_of_le (h.lo x e).2 k2.size⟩
    · exact k1.lo x e
  · rcases List.mem_append.1 hx with e | e
    · exact .inl e
    · rcases k3 x e with e | e
      · exact .inl (h.tF x e)
      · exact .inr e
/-- Another table in its place. -/
theorem Vlt.put (h : Vlt B w vb tb gb F Ft Fg f n cs torn) {W : World} (hW : Kp [] w W) {tb' : Nat} {Ft' : List Nat} (k1 : Tbl w.heap.size W tb' Ft' f' n') : Ch (VltT vb tb' gb f' n' cs torn) B w F (W.setCell ⟨vb, 0, none⟩ (.pointer (some ⟨tb', 0, none⟩))) := by
  have hvb := (h.lo vb h.vF).2
  have hBw : B ≤ w.heap.size := by have := (h.lo vb h.vF).1; omega
  have hk3 : Kp [vb] W (W.setCell ⟨vb, 0, none⟩ (.pointer (some ⟨tb', 0, none⟩))) := (Kp.refl [vb] W).setCell (.inl (by simp)) _
  have hW1 := h.kp0 hW
  have hne : ∀ x, x ∈ Ft' → x ≠ vb := fun x hx e => by have := (k1.lo x hx).1; omega
  refine ⟨vb :: (Fg ++ Ft'), ⟨Ft', Fg, ?_, (k1.base hBw).kp hk3 (fun x hx e => hne x hx (List.mem_singleton.1 e)), hW1.g.kp hk3 (fun x hx e => h.vg (by rw [← List.mem_singleton.1 e]; exact hx)), fun hm => hne vb hm rfl, h.vg, fun x hx hm => ?_, by simp, fun x hx => by simp [hx], fun x hx => by simp [hx], fun x hx => ?_⟩, (hW.mono (fun x hx => by simp at hx)).trans hk3 (fun x hx => .inl (by rw [List.mem_singleton.1 hx]; exact h.vF)), fun x hx => ?_⟩
  · exact heap_setCell_at 0 _ hW1.box
  · have h1 := (k1.lo x hx).1
    have h2 := (h.lo x (h.gF x hm)).2
    omega
  · rcases List.mem_cons.1 hx with e | e
    · subst e; exact ⟨(h.lo _ h.vF).1, Nat.lt_of_lt_of_le (hW1.lo _ h.vF).2 hk3.size⟩
    · rcases List.mem_append.1 e with e | e
      · exact ⟨(h.lo x (h.gF x e)).1, Nat.lt_of_lt_of_le (hW1.lo x (h.gF x e)).2 hk3.size⟩
      · exact ⟨Nat.le_trans hBw (k1.lo x e).1, Nat.lt_of_lt_of_le (k1.lo x e).2 hk3.size⟩
  · rcases List.mem_cons.1 hx with e | e
    · subst e; exact .inl h.vF
    · rcases List.mem_append.1 e with e | e
      · exact .inl (h.gF x e)
      · exact .inr (k1.lo x e).1
end

/-- The document's court: its box holds the sheet's, the roll, and the seats. -/
structure Crt (B : Nat) (w : World) (cb sb : Nat) (G Gr Gs : List Nat) (bx : Array Value) (f : Nat → List Ver) (n : Nat) (cs : List (List Ver)) (torn : List UInt8) (st : Nat → Option Addr) : Prop where
  r : Rx B w cb 1 bx 68 Gr cs torn
  b0 : bx[0]? = some (.pointer (some ⟨sb, 0, none⟩))
  bs : ∀ i, i < 5 → bx[3 + i]? = some (.pointer (st i))
  sz : bx.size = 8
  s : Sht B w sb Gs f n
  rs : ∀ x, x ∈ Gr → x ∉ Gs
  rG : ∀ x, x ∈ Gr → x ∈ G
  sG : ∀ x, x ∈ Gs → x ∈ G
  lo : ∀ x, x ∈ G → B ≤ x ∧ x < w.heap.size
section
variable {B : Nat} {w w' W : World} {cb sb : Nat} {G Gr Gs S : List Nat} {bx : Array Value} {f f' : Nat → List Ver} {n n' : Nat} {cs cs' : List (List Ver)} {torn torn' : List UInt8} {st : Nat → Option Addr}
theorem Crt.kp (h : Crt B w cb sb G Gr Gs bx f n cs torn st) (hk : Kp S w w') (hS : ∀ x, x ∈ G → x ∉ S) : Crt B w' cb sb G Gr Gs bx f n cs torn st :=
  ⟨h.r.kp hk (fun x hx => hS x (h.rG x hx)), h.b0, h.bs, h.sz, h.s.kp hk (fun x hx => hS x (h.sG x hx)), h.rs, h.rG, h.sG, fun x hx => ⟨(h.lo x hx).1, Nat.lt_of_lt_of_le (h.lo x hx).2 hk.size⟩⟩
theorem Crt.kp0 (h : Crt B w cb sb G Gr Gs bx f n cs torn st) (hk : Kp [] w w') : Crt B w' cb sb G Gr Gs bx f n cs torn st := h.kp hk (fun _ _ => by simp)
theorem Crt.base {C : Nat} (h : Crt B w cb sb G Gr Gs bx f n cs torn st) (hC : C ≤ B) : Crt C w cb sb G Gr Gs bx f n cs torn st :=
  ⟨h.r.base hC, h.b0, h.bs, h.sz, h.s.base hC, h.rs, h.rG, h.sG, fun x hx => ⟨Nat.le_trans hC (h.lo x hx).1, (h.lo x hx).2⟩⟩
theorem Rx.box {o : Nat} {T : TypeId} (h : Rx B w cb o bx T Gr cs torn) : w.heap[cb]? = some (.cells bx T (0, 0)) := by
  obtain ⟨aL, capL, xs, aT, cT, h, e⟩ := h
  exact h.box
theorem Rx.rG {o : Nat} {T : TypeId} (h : Rx B w cb o bx T Gr cs torn) : cb ∈ Gr := by
  obtain ⟨aL, capL, xs, aT, cT, h, e⟩ := h
  exact h.rG
theorem Crt.c0 (h : Crt B w cb sb G Gr Gs bx f n cs torn st) : w.cell? ⟨cb, 0, none⟩ = some (.pointer (some ⟨sb, 0, none⟩)) := cell_of_block h.r.box h.b0
theorem Crt.seat (h : Crt B w cb sb G Gr Gs bx f n cs torn st) {i : Nat} (hi : i < 5) : w.cell? ⟨cb, 3 + i, none⟩ = some (.pointer (st i)) := cell_of_block h.r.box (h.bs i hi)
theorem Crt.fz (h : Crt B w cb sb G Gr Gs bx f n cs torn st) (i : Nat) : w.frozen? ⟨cb, i, none⟩ = false := frozen_of_block i h.r.box
theorem Crt.cG (h : Crt B w cb sb G Gr Gs bx f n cs torn st) : cb ∈ G := h.rG _ h.r.rG
/-- Another cell of the box than the roll's. -/
theorem RxL.other {o : Nat} {T : TypeId} {aL : Option Addr} {capL : Nat} {xs : List El} {aT : Option Addr} {cT : Nat} (h : RxL B w cb o bx T Gr aL capL xs aT cT torn) (i : Nat) (v : Value) (h0 : i ≠ o) (h1 : i ≠ o + 1) :
    RxL B (w.setCell ⟨cb, i, none⟩ v) cb o (bx.setIfInBounds i v) T Gr aL capL xs aT cT torn := by
  have hk : Kp [cb] w (w.setCell ⟨cb, i, none⟩ v) := (Kp.refl [cb] w).setCell (.inl (by simp)) _
  refine ⟨heap_setCell_at i _ h.box, set_there h.b0 h0 _, set_there h.b1 h1 _, h.own.kp hk (fun x hx e => h.ne (by rw [← List.mem_singleton.1 e]; exact hx)), fun e he => ⟨(h.els e he).1.kp hk (fun x hx e2 => ((h.els e he).2 x hx).2.1 (List.mem_singleton.1 e2)), (h.els e he).2⟩, h.tb.kpo hk (fun x hx e => (h.tG x hx).2 (List.mem_singleton.1 e)), h.tn, h.tG, h.ne, h.rG, h.aG, fun x hx => ⟨(h.lo x hx).1, Nat.lt_of_lt_of_le (h.lo x hx).2 hk.size⟩, h.inv, h.tl, Nat.le_trans h.hB hk.size⟩
theorem Rx.other {o : Nat} {T : TypeId} (h : Rx B w cb o bx T Gr cs torn) (i : Nat) (v : Value) (h0 : i ≠ o) (h1 : i ≠ o + 1) : Rx B (w.setCell ⟨cb, i, none⟩ v) cb o (bx.setIfInBounds i v) T Gr cs torn := by
  obtain ⟨aL, capL, xs, aT, cT, h, e⟩ := h
  exact ⟨aL, capL, xs, aT, cT, h.other i v h0 h1, e⟩
end
def CrtT (cb sb : Nat) (f : Nat → List Ver) (n : Nat) (cs : List (List Ver)) (torn : List UInt8) (st : Nat → Option Addr) : Thing where
  holds B w G := ∃ Gr Gs bx, Crt B w cb sb G Gr Gs bx f n cs torn st
  kp := fun ⟨Gr, Gs, bx, h⟩ hk hS => ⟨Gr, Gs, bx, h.kp hk hS⟩
  lo := fun ⟨_, _, _, h⟩ => h.lo
  base := fun ⟨Gr, Gs, bx, h⟩ hC => ⟨Gr, Gs, bx, h.base hC⟩
section
variable {B : Nat} {w w' W : World} {cb sb : Nat} {G Gr Gs S : List Nat} {bx : Array Value} {f f' : Nat → List Ver} {n n' : Nat} {cs cs' : List (List Ver)} {torn torn' : List UInt8} {st : Nat → Option Addr}
/-- Another one at a seat. -/
theorem Crt.sit (h : Crt B w cb sb G Gr Gs bx f n cs torn st) {i : Nat} (hi : i < 5) (p : Option Addr) : Ch (CrtT cb sb f n cs torn (upd st i p)) B w G (w.setCell ⟨cb, 3 + i, none⟩ (.pointer p)) := by
  have hk : Kp [cb] w (w.setCell ⟨cb, 3 + i, none⟩ (.pointer p)) := (Kp.refl [cb] w).setCell (.inl (by simp)) _
  refine ⟨G, ⟨Gr, Gs, bx.setIfInBounds (3 + i) (.pointer p), h.r.other _ _ (by omega) (by omega), set_there h.b0 (by omega) _, fun j hj => ?_, by simp [h.sz], h.s.kp hk (fun x hx e => h.rs cb h.r.rG (by rw [← List.mem_singleton.1 e]; exact hx)), h.rs, h.rG, h.sG, fun x hx => ⟨(h.lo x hx).1, Nat.lt_of_lt_of_le (h.lo x hx).2 hk.size⟩⟩, hk.mono (fun x hx => .inl (by rw [List.mem_singleton.1 hx]; exact h.cG)), fun x hx => .inl hx⟩
  by_cases e : j = i
  · subst e
    rw [set_here (h.bs j hj), upd_same]
  · rw [set_there (h.bs j hj) (by omega), upd_other _ _ _ e]
/-- Another roll. -/
theorem Crt.roll (h : Crt B w cb sb G Gr Gs bx f n cs torn st) (k : RxTo B w cb 1 bx 68 Gr cs' torn' w') : Ch (CrtT cb sb f n cs' torn' st) B w G w' := by
  obtain ⟨Gr', bx', k1, kb, k2, k3⟩ := k
  refine ⟨G ++ Gr', ⟨Gr', Gs, bx', k1, by rw [kb.2 0 (by omega) (by omega)]; exact h.b0, fun i hi => by rw [kb.2 (3 + i) (by omega) (by omega)]; exact h.bs i hi, by rw [kb.1]; exact h.sz, h.s.kp k2 (fun x hx hm => h.rs x hm hx), fun x hx hm => ?_, fun x hx => by simp [hx], fun x hx => by simp [h.sG x hx], fun x hx => ?_⟩, k2.mono (fun x hx => .inl (h.rG x hx)), fun x hx => ?_⟩
  · rcases k3 x hx with e | e
    · exact h.rs x e hm
    · have := (h.lo x (h.sG x hm)).2; omega
  · rcases List.mem_append.1 hx with e | e
    · exact ⟨(h.lo x e).1, Nat.lt_of_lt_of_le (h.lo x e).2 k2.size⟩
    · exact k1.lo x e
  · rcases List.mem_append.1 hx with e | e
    · exact .inl e
    · rcases k3 x e with e | e
      · exact .inl (h.rG x e)
      · exact .inr e
/-- Its sheet changed. -/
theorem Crt.sheet (h : Crt B w cb sb G Gr Gs bx f n cs torn st) {Gs' : List Nat} (k1 : Sht B w' sb Gs' f' n') (k2 : Kp Gs w w') (k3 : ∀ x, x ∈ Gs' → x ∈ Gs ∨ w.heap.size ≤ x) : Ch (CrtT cb sb f' n' cs torn st) B w G w' := by
  refine ⟨G ++ Gs', ⟨Gr, Gs', bx, h.r.kp k2 h.rs, h.b0, h.bs, h.sz, k1, fun x hx hm => ?_, fun x hx => by simp [h.rG x hx], fun x hx => by simp [hx], fun x hx => ?_⟩, k2.mono (fun x hx => .inl (h.sG x hx)), fun x hx => ?_⟩
  · rcases k3 x hm with e | e
    · exact h.rs x hx e
    · have := (h.lo x (h.rG x hx)).2; omega
  · rcases List.mem_append.1 hx with e | e
    · exact ⟨(h.lo x e).1, Nat.lt_of_lt_of_le (h.lo x e).2 k2.size⟩
    · exact k1.lo x e
  · rcases List.mem_append.1 hx with e | e
    · exact .inl e
    · rcases k3 x e with e | e
      · exact .inl (h.sG x e)
      · exact .inr e
end

/-- A deed, and the document's deed. -/
structure Pr (B : Nat) (w : World) (db wb : Nat) (F H : List Nat) (md y : Int) (rs rs2 : List Int) (ws ws2 : List Ver) : Prop where
  d : Ded w db md y rs ws
  k : Wrk B w wb H md y rs2 ws2
  ne : db ∉ H
  dF : db ∈ F
  kF : ∀ x, x ∈ H → x ∈ F
  lo : ∀ x, x ∈ F → B ≤ x ∧ x < w.heap.size
theorem Wrk.base {B C : Nat} {w : World} {wb : Nat} {H : List Nat} {md y : Int} {rs : List Int} {ws : List Ver} (h : Wrk B w wb H md y rs ws) (hC : C ≤ B) : Wrk C w wb H md y rs ws := by
  obtain ⟨ra, rc, wa, wc, h⟩ := h
  exact ⟨ra, rc, wa, wc, h.box, own_base h.ro hC, own_base h.wo hC, h.rb, h.ab, h.rw, h.bH, fun x hx => ⟨Nat.le_trans hC (h.lo x hx).1, (h.lo x hx).2⟩⟩
def PrT (db wb : Nat) (md y : Int) (rs rs2 : List Int) (ws ws2 : List Ver) : Thing where
  holds B w F := ∃ H, Pr B w db wb F H md y rs rs2 ws ws2
  kp := fun ⟨H, h⟩ hk hS => ⟨H, h.d.kp hk (hS _ h.dF), h.k.kp hk (fun x hx => hS x (h.kF x hx)), h.ne, h.dF, h.kF, fun x hx => ⟨(h.lo x hx).1, Nat.lt_of_lt_of_le (h.lo x hx).2 hk.size⟩⟩
  lo := fun ⟨_, h⟩ => h.lo
  base := fun ⟨H, h⟩ hC => ⟨H, h.d, h.k.base hC, h.ne, h.dF, h.kF, fun x hx => ⟨Nat.le_trans hC (h.lo x hx).1, (h.lo x hx).2⟩⟩
section
variable {B : Nat} {w w' : World} {db wb : Nat} {F H : List Nat} {md y : Int} {rs rs2 rs' : List Int} {ws ws2 ws' : List Ver}
theorem Pr.deed (h : Pr B w db wb F H md y rs rs2 ws ws2) (hd : Ded w' db md y rs' ws') (hk : Kp [db] w w') : Ch (PrT db wb md y rs' rs2 ws' ws2) B w F w' :=
  ⟨F, ⟨H, hd, h.k.kp hk (fun x hx e => h.ne (by rw [← List.mem_singleton.1 e]; exact hx)), h.ne, h.dF, h.kF, fun x hx => ⟨(h.lo x hx).1, Nat.lt_of_lt_of_le (h.lo x hx).2 hk.size⟩⟩, hk.mono (fun x hx => .inl (by rw [List.mem_singleton.1 hx]; exact h.dF)), fun x hx => .inl hx⟩
end
end
/- May of a deed, by its contract. -/
section
open Go.RowKit
attribute [local go_sem ↓] Go.wp_at_zero Go.wp_at_succ

/-- The code under way: some key of those that were looked at is stale. -/
def mcd (f : Nat → List Ver) (md y : Int) (rs : List Int) (k : Nat) : Int := if md = 2 ∧ stl f y rs k = true then 11 else 0

theorem cls_mono {f : Nat → List Ver} {y : Int} {ws : List Ver} {k : Nat} (h : cls f y ws k = true) : ∀ m, k ≤ m → cls f y ws m = true := by
  intro m
  induction m with
  | zero => intro hm; have : k = 0 := by omega
            subst this; exact h
  | succ m ih =>
    intro hm
    by_cases e : k = m + 1
    · subst e; exact h
    · simp only [cls]
      split
      · rfl
      · exact ih (by omega)
theorem cls_yes {f : Nat → List Ver} {y : Int} {ws : List Ver} {k : Nat} {v : Ver} (h : lwr ws k = some v) (hy : y < snc f k) : cls f y ws (k + 1) = true := by
  simp only [cls]; rw [if_pos ⟨by rw [h]; rfl, hy⟩]
theorem cls_old {f : Nat → List Ver} {y : Int} {ws : List Ver} {k : Nat} (hy : snc f k ≤ y) : cls f y ws (k + 1) = cls f y ws k := by
  simp only [cls]; rw [if_neg (fun h => by have := h.2; omega)]
theorem cls_no {f : Nat → List Ver} {y : Int} {ws : List Ver} {k : Nat} (h : lwr ws k = none) : cls f y ws (k + 1) = cls f y ws k := by
  simp only [cls]; rw [if_neg (fun hc => by have := hc.1; rw [h] at this; simp at this)]
theorem stl_yes {f : Nat → List Ver} {y : Int} {rs : List Int} {k : Nat} (h : (k : Int) ∈ rs) (hy : y < snc f k) : stl f y rs (k + 1) = true := by
  simp only [stl]; rw [if_pos ⟨h, hy⟩]
theorem stl_old {f : Nat → List Ver} {y : Int} {rs : List Int} {k : Nat} (hy : snc f k ≤ y) : stl f y rs (k + 1) = stl f y rs k := by
  simp only [stl]; rw [if_neg (fun h => by have := h.2; omega)]
theorem stl_no {f : Nat → List Ver} {y : Int} {rs : List Int} {k : Nat} (h : ¬ (k : Int) ∈ rs) : stl f y rs (k + 1) = stl f y rs k := by
  simp only [stl]; rw [if_neg (fun hc => h hc.1)]
theorem dm_clash {f : Nat → List Ver} {md y : Int} {rs : List Int} {ws : List Ver} (h : cls f y ws 8 = true) : dm f md y rs ws = 10 := by unfold dm; rw [if_pos h]
theorem dm_end {f : Nat → List Ver} {md y : Int} {rs : List Int} {ws : List Ver} (h : cls f y ws 8 = false) : dm f md y rs ws = mcd f md y rs 8 := by unfold dm mcd; rw [if_neg (by simp [h])]
theorem mcd_not {f : Nat → List Ver} {md y : Int} {rs : List Int} {k : Nat} (h : ¬ md = 2) : mcd f md y rs k = 0 := by unfold mcd; rw [if_neg (fun hc => h hc.1)]
theorem mcd_eq {f : Nat → List Ver} {md y : Int} {rs : List Int} {k m : Nat} (h : stl f y rs m = stl f y rs k) : mcd f md y rs m = mcd f md y rs k := by unfold mcd; rw [h]
theorem mcd_yes {f : Nat → List Ver} {md y : Int} {rs : List Int} {k : Nat} (hm : md = 2) (h : stl f y rs k = true) : mcd f md y rs k = 11 := by unfold mcd; rw [if_pos ⟨hm, h⟩]

/-- Since, as May asks it: what it keeps. -/
theorem may_since {B tb n db : Nat} {F : List Nat} {f : Nat → List Ver} {md y : Int} {rs : List Int} {ws : List Ver} {w W : World} {p : Nat} {b0 b1 : Bool} (k : Int) (h : Tbl B w tb F f n) (hd : Ded w db md y rs ws) (hW : Kp [] w W)
    (c0 : W.cell? ⟨p, 0, none⟩ = some (.bool b0)) (c1 : W.cell? ⟨p, 1, none⟩ = some (.bool b1)) (s : Int) (hs : snc f k = s) :
    Calls Tryz.prog 191 #[.pointer (some ⟨tb, 0, none⟩), .int .i64 k] W fun e w' => e = .returned (.int .i64 s) ∧ w'.cell? ⟨db, 1, none⟩ = some (.int .i64 y) ∧ w'.cell? ⟨db, 0, none⟩ = some (.int .i64 md) ∧ w'.cell? ⟨p, 0, none⟩ = some (.bool b0) ∧ w'.cell? ⟨p, 1, none⟩ = some (.bool b1) ∧ Hid (Kp [] w w') := by
  refine (tsince40 k W (h.kp0 hW)).mono ?_
  rintro e w' ⟨rfl, hk⟩
  have hd' := hd.kp0 (hW.trans0 hk)
  exact ⟨by rw [hs], hd'.ycell, hd'.mcell, hk.cell (p := ⟨p, 0, none⟩) (by simp) c0, hk.cell (p := ⟨p, 1, none⟩) (by simp) c1, hW.trans0 hk⟩

set_option maxHeartbeats 2000000 in
theorem dmay68 {B tb n db : Nat} {F : List Nat} {f : Nat → List Ver} {md y : Int} {rs : List Int} {ws : List Ver} (w : World) (h : Tbl B w tb F f n) (hd : Ded w db md y rs ws) :
    Calls Tryz.prog 186 #[.pointer (some ⟨db, 0, none⟩), .pointer (some ⟨tb, 0, none⟩)] w fun e w' => e = .returned (.int .i64 (dm f md y rs ws)) ∧ Kp [] w w' := by
  have HT := hide h
  have HD := hide hd
  have HR := hide hd.range
  clear h hd
  have HC0 : Hid (cls f y ws 0 = false) := rfl
  go_enter Tryz.func186, Tryz.ntmps186
  go_wp2_with (refine wpList_load_mid rfl 160 _ rfl db 2 rfl _ _ (unhide HR) Tryz.underlying160 rfl Tryz.size160 ?_)
  obtain ⟨A, hA, hAk⟩ := notes_ex rs ws
  rw [hA]
  have HA := hide hAk
  clear hA hAk HR
  go_loopw [5, 12] (fun s i wr => ∃ k : Nat, k ≤ 8 ∧ s = .int .i64 (mcd f md y rs k) ∧ i = .int .i64 k ∧ Hid (cls f y ws k = false) ∧ Hid (Kp [] w wr)) (fun _ i _ => 8 - (intOf i).toNat)
  case atStart => exact ⟨0, by omega, by simp [mcd, stl], rfl, HC0, Kp.refl _ _⟩
  case round =>
    obtain ⟨k, hk, rfl, rfl, HC, HK⟩ := hrel
    by_cases hlt8 : k < 8
    · have i0 : (0 : Int) ≤ (k : Int) := by omega
      have i1 : (k : Int) < 8 := by omega
      have hx := (unhide HA) k hlt8
      have hdr := (unhide HD).kp0 (unhide HK)
      have qy := hdr.ycell
      have hdl := hdr.lt
      have HDR := hide hdr
      have HTR := hide ((unhide HT).kp0 (unhide HK))
      clear hdr
      generalize ((lwr ws k).getD dv).t = b2 at *
      generalize ((lwr ws k).getD dv).s = b3 at *
      generalize hsn : snc f k = sn at *
      have HSN := hide hsn
      clear hsn
      by_cases hle : sn ≤ y
      · have HN1 := hide (cls_old (ws := ws) (by rw [unhide HSN]; exact hle))
        have HN2 := hide (mcd_eq (md := md) (stl_old (rs := rs) (by rw [unhide HSN]; exact hle)))
        generalize decide ((k : Int) ∈ rs) = b0 at *
        generalize (lwr ws k).isSome = b1 at *
        go_wp2_with fail
        go_region_with (go_at_call 191; refine (may_since (p := wr.heap.size) (b0 := b0) (b1 := b1) k (unhide HTR) (unhide HDR) ((Kp.refl [] wr).alloc (.cells #[.bool b0, .bool b1, .bool b2, .string b3] 159)).drew (by simp) (by simp) sn (unhide HSN)).mono ?_; rintro e w3 ⟨rfl, z1, z0, z2, z3, HK3⟩)
        all_goals
          go_wp2_with fail
          exact ⟨⟨k + 1, by omega, by rw [unhide HN2], by go_num, by rw [unhide HN1]; exact HC, (unhide HK).trans0 (unhide HK3)⟩, by simp [intOf]; omega⟩
      · have hgt : y < sn := by omega
        cases hv : lwr ws k with
        | some v =>
          have HN := hide (dm_clash (md := md) (rs := rs) (cls_mono (cls_yes hv (by rw [unhide HSN]; exact hgt)) 8 (by omega)))
          rw [hv] at hx
          simp only [Option.isSome_some] at hx
          clear hv
          generalize decide ((k : Int) ∈ rs) = b0 at *
          go_wp2_with fail
          go_region_with (go_at_call 191; refine (may_since (p := wr.heap.size) (b0 := b0) (b1 := true) k (unhide HTR) (unhide HDR) ((Kp.refl [] wr).alloc (.cells #[.bool b0, .bool true, .bool b2, .string b3] 159)).drew (by simp) (by simp) sn (unhide HSN)).mono ?_; rintro e w3 ⟨rfl, z1, z0, z2, z3, HK3⟩)
          all_goals
            go_wp2_with fail
            go_ret
            exact ⟨ret_int (unhide HN).symm, (unhide HK).trans0 (unhide HK3)⟩
        | none =>
          have HN1 := hide (cls_no (f := f) (y := y) hv)
          rw [hv] at hx
          simp only [Option.isSome_none] at hx
          clear hv
          by_cases hr : (k : Int) ∈ rs
          · have hd : decide ((k : Int) ∈ rs) = true := by simp [hr]
            rw [hd] at hx
            clear hd
            by_cases hm : md = 2
            · have HN2 := hide (mcd_yes hm (stl_yes hr (by rw [unhide HSN]; exact hgt)))
              subst hm
              clear hr
              go_wp2_with fail
              go_region_with (go_at_call 191; refine (may_since (p := wr.heap.size) (b0 := true) (b1 := false) k (unhide HTR) (unhide HDR) ((Kp.refl [] wr).alloc (.cells #[.bool true, .bool false, .bool b2, .string b3] 159)).drew (by simp) (by simp) sn (unhide HSN)).mono ?_; rintro e w3 ⟨rfl, z1, z0, z2, z3, HK3⟩)
              all_goals
                go_wp2_with fail
                exact ⟨⟨k + 1, by omega, by rw [unhide HN2], by go_num, by rw [unhide HN1]; exact HC, (unhide HK).trans0 (unhide HK3)⟩, by simp [intOf]; omega⟩
            · have HN2 : Hid (mcd f md y rs (k + 1) = mcd f md y rs k) := by rw [mcd_not hm, mcd_not hm]; exact rfl
              have em : (md == 2) = false := beq_eq_false_iff_ne.2 hm
              clear hr hm
              go_wp2_with fail
              go_region_with (go_at_call 191; refine (may_since (p := wr.heap.size) (b0 := true) (b1 := false) k (unhide HTR) (unhide HDR) ((Kp.refl [] wr).alloc (.cells #[.bool true, .bool false, .bool b2, .string b3] 159)).drew (by simp) (by simp) sn (unhide HSN)).mono ?_; rintro e w3 ⟨rfl, z1, z0, z2, z3, HK3⟩)
              all_goals
                go_wp2_with fail
                exact ⟨⟨k + 1, by omega, by rw [unhide HN2], by go_num, by rw [unhide HN1]; exact HC, (unhide HK).trans0 (unhide HK3)⟩, by simp [intOf]; omega⟩
          · have hd : decide ((k : Int) ∈ rs) = false := by simp [hr]
            rw [hd] at hx
            have HN2 := hide (mcd_eq (md := md) (stl_no (f := f) (y := y) hr))
            clear hd hr
            go_wp2_with fail
            go_region_with (go_at_call 191; refine (may_since (p := wr.heap.size) (b0 := false) (b1 := false) k (unhide HTR) (unhide HDR) ((Kp.refl [] wr).alloc (.cells #[.bool false, .bool false, .bool b2, .string b3] 159)).drew (by simp) (by simp) sn (unhide HSN)).mono ?_; rintro e w3 ⟨rfl, z1, z0, z2, z3, HK3⟩)
            all_goals
              go_wp2_with fail
              exact ⟨⟨k + 1, by omega, by rw [unhide HN2], by go_num, by rw [unhide HN1]; exact HC, (unhide HK).trans0 (unhide HK3)⟩, by simp [intOf]; omega⟩
    · have e : k = 8 := by omega
      subst e
      have HN := hide (dm_end (md := md) (rs := rs) (unhide HC))
      go_wp2_with fail
      go_ret
      exact ⟨ret_int (unhide HN).symm, unhide HK⟩
end
/- Package vault, by contracts: New, Log, Crash, Begin, writes, Commit, tearLog, Tear. -/
section
open Go.RowKit
attribute [local go_sem ↓] Go.wp_at_zero Go.wp_at_succ

theorem vlt_new {w w1 w2 : World} {tb gb : Nat} {Ft Fg : List Nat} {f : Nat → List Ver} {n : Nat} {cs : List (List Ver)} {torn : List UInt8} (h1 : Tbl w.heap.size w1 tb Ft f n) (k1 : Kp [] w w1) (h2 : Lg w1.heap.size w2 gb Fg cs torn) (k2 : Kp [] w1 w2) :
    Vlt w.heap.size (w2.alloc (.cells #[.pointer (some ⟨tb, 0, none⟩), .pointer (some ⟨gb, 0, none⟩)] 77)) w2.heap.size tb gb (w2.heap.size :: (Ft ++ Fg)) Ft Fg f n cs torn := by
  have ka : Kp [] w2 (w2.alloc (.cells #[.pointer (some ⟨tb, 0, none⟩), .pointer (some ⟨gb, 0, none⟩)] 77)) := (Kp.refl [] w2).alloc _
  have hs1 := k1.size
  have hs2 := k2.size
  have hsa : (w2.alloc (.cells #[.pointer (some ⟨tb, 0, none⟩), .pointer (some ⟨gb, 0, none⟩)] 77)).heap.size = w2.heap.size + 1 := by simp
  refine ⟨heap_alloc_new w2 _, (h1.kp0 k2).kp0 ka, (h2.base hs1).kp0 ka, fun hm => ?_, fun hm => ?_, fun x hx hm => ?_, by simp, fun x hx => by simp [hx], fun x hx => by simp [hx], fun x hx => ?_⟩
  · have := (h1.lo _ hm).2; omega
  · have := (h2.lo _ hm).2; omega
  · have := (h1.lo x hx).2
    have := (h2.lo x hm).1
    omega
  · rw [hsa]
    rcases List.mem_cons.1 hx with e | e
    · omega
    · rcases List.mem_append.1 e with e | e
      · have := h1.lo x e; omega
      · have := h2.lo x e; omega

theorem own_addr1 {B : Nat} {w : World} {e : TypeId} {size n cap : Nat} {a : Option Addr} {xs : List Value} (h : w.ownsRow B e size (.slice a n cap) n xs) : ∀ g o, a = some ⟨g, o, none⟩ → B ≤ g ∧ g < w.heap.size := by
  intro g o ea
  subst ea
  exact h.lt g rfl
set_option maxHeartbeats 400000 in
theorem vnew (w : World) : Calls Tryz.prog 20 #[] w fun e w' => ∃ vb tb gb F, e = .returned (.pointer (some ⟨vb, 0, none⟩)) ∧ (VltT vb tb gb (fun _ => [dv]) 0 [] []).holds w.heap.size w' F ∧ Kp [] w w' := by
  go_enter Tryz.func20, Tryz.ntmps20
  go_wp2_with fail
  refine (tnew47 w).mono ?_
  rintro e w1 ⟨rfl, ⟨Ft, hT⟩, hk1⟩
  have HT := hide hT
  have HK1 := hide hk1
  clear hT hk1
  generalize ht : w.heap.size = tb at HT ⊢
  have HTB := hide ht
  clear ht
  go_wp2_with fail
  refine (lnew w1).mono ?_
  rintro e w2 ⟨rfl, hL, hk2⟩
  have HL := hide hL
  have HK2 := hide hk2
  clear hL hk2
  generalize hg : w1.heap.size = gb at HL ⊢
  have HGB := hide hg
  clear hg
  go_wp2_with fail
  go_ret
  have e1 := (unhide HTB).symm
  subst e1
  have e2 := (unhide HGB).symm
  subst e2
  exact ⟨_, _, _, _, rfl, ⟨_, _, vlt_new (unhide HT) (unhide HK1) (unhide HL) (unhide HK2)⟩, ((unhide HK1).trans0 (unhide HK2)).alloc _⟩

set_option maxHeartbeats 400000 in
theorem vcrash {B vb tb gb n : Nat} {F Ft Fg : List Nat} {f : Nat → List Ver} {cs : List (List Ver)} {torn : List UInt8} (w : World) (h : Vlt B w vb tb gb F Ft Fg f n cs torn) :
    Calls Tryz.prog 88 #[.pointer (some ⟨vb, 0, none⟩)] w fun e w' => e = .returned (.tuple #[]) ∧ ∃ tb', Ch (VltT vb tb' gb (wal0 cs) cs.length cs []) B w F w' := by
  have c1 := h.c1
  have HI := hide h.g.inv
  have HV := hide h
  have HG := hide h.g
  clear h
  go_enter Tryz.func88, Tryz.ntmps88
  go_wp2_with fail
  refine (lmend w (unhide HG)).mono ?_
  rintro e w1 ⟨rfl, hL, hk⟩
  obtain ⟨F1, ⟨Ft1, Fg1, h1⟩, k1, s1⟩ := (unhide HV).log ⟨Fg, hL, hk, fun x hx => .inl hx⟩
  have d1 := h1.c1
  have H1 := hide h1
  have K1 := hide k1
  have S1 := hide s1
  clear h1 k1 s1 c1 HG HV hL hk
  go_wp2_with fail
  refine (lbytes w1 (unhide H1).g).mono ?_
  rintro e w2 ⟨a, nb, cap, rfl, hn, hcap, hbyt, hk2⟩
  have HN := hide hn
  have HB := hide hbyt
  have K2 := hide hk2
  have HC := hide hcap
  clear hn hbyt hk2 hcap
  go_wp2_with fail
  refine (ltable25 a nb cap (lb cs ++ []) w2 (unhide HB) (unhide HN) (unhide HC) (by rw [List.append_nil]; have := (unhide HI).b3000; omega)).mono ?_
  rintro e w3 ⟨tb', Ft', p, rfl, hp, hT, hk3⟩
  have K3 := hide hk3
  have HT := hide hT
  rw [List.append_nil, dcs_all (unhide HI)] at HT
  have h3 := (unhide H1).kp0 ((unhide K2).trans0 hk3)
  have d0 := h3.c0
  have f0 := h3.fz 0
  clear h3 hT hk3 hp d1
  go_wp2_with fail
  go_end0
  exact ⟨rfl, tb', Ch.trans (unhide K1) (unhide S1) ((unhide H1).put ((unhide K2).trans0 (unhide K3)) ((unhide HT).base (unhide K2).size))⟩

set_option maxHeartbeats 400000 in
theorem vwrites {B vb tb gb n db : Nat} {F Ft Fg : List Nat} {f : Nat → List Ver} {cs : List (List Ver)} {torn : List UInt8} {md y : Int} {rs : List Int} {ws : List Ver} (w : World) (h : Vlt B w vb tb gb F Ft Fg f n cs torn) (hd : Ded w db md y rs ws) :
    Calls Tryz.prog 169 #[.pointer (some ⟨vb, 0, none⟩), .pointer (some ⟨db, 0, none⟩)] w fun e w' => LstEnd (if dm f md y rs ws = 0 then wk ws 8 else [], dm f md y rs ws) w e w' := by
  have c0 := h.c0
  have HM := hide (dmay68 w h.t hd)
  have HD := hide hd
  clear h hd
  generalize dm f md y rs ws = z at *
  by_cases hz : z = 0
  · subst hz
    rw [if_pos rfl]
    go_enter Tryz.func169, Tryz.ntmps169
    go_wp2_with fail
    refine (unhide HM).mono ?_
    rintro e w1 ⟨rfl, hk1⟩
    have HK1 := hide hk1
    clear hk1 HM
    go_wp2_with fail
    refine (dwrites66 w1 ((unhide HD).kp0 (unhide HK1))).mono ?_
    rintro e w2 ⟨a, cap, rfl, ho, hk2⟩
    have HO := hide ho
    have HK2 := hide hk2
    clear ho hk2
    go_wp2_with fail
    go_ret2
    exact ⟨a, cap, rfl, own_base (unhide HO) (unhide HK1).size, (unhide HK1).trans0 (unhide HK2)⟩
  · rw [if_neg hz]
    go_enter Tryz.func169, Tryz.ntmps169
    go_wp2_with fail
    refine (unhide HM).mono ?_
    rintro e w1 ⟨rfl, hk1⟩
    have HK1 := hide hk1
    clear hk1 HM
    go_wp2_with fail
    go_ret2
    exact ⟨none, 0, rfl, World.ownsRow_nil _ _ _ _, unhide HK1⟩

/-- What Begin tells, and leaves. -/
def VbEnd (f : Nat → List Ver) (n : Nat) (md at_ : Int) (w : World) (e : Ending) (w' : World) : Prop :=
  (bcode f n md at_ = 0 ∧ ∃ D, e = .returned (.tuple #[.pointer (some ⟨D, 0, none⟩), .int .i64 0]) ∧ w.heap.size ≤ D ∧ Ded w' D md (bat n md at_) [] [] ∧ Kp [] w w') ∨
  (¬ bcode f n md at_ = 0 ∧ e = .returned (.tuple #[.pointer none, .int .i64 (bcode f n md at_)]) ∧ Kp [] w w')

set_option maxHeartbeats 1000000 in
theorem vbegin {B vb tb gb n : Nat} {F Ft Fg : List Nat} {f : Nat → List Ver} {cs : List (List Ver)} {torn : List UInt8} (md at_ : Int) (w : World) (h : Vlt B w vb tb gb F Ft Fg f n cs torn) :
    Calls Tryz.prog 131 #[.pointer (some ⟨vb, 0, none⟩), .int .i64 md, .int .i64 at_] w fun e w' => VbEnd f n md at_ w e w' := by
  have c0 := h.c0
  have HT := hide h.t
  obtain ⟨x0, x1⟩ := fmx_le h.t.inv 8 (Nat.le_refl _)
  have hn40 := h.t.inv.n40
  clear h
  by_cases hm : 1 ≤ md ∧ md ≤ 3
  · by_cases h3 : md = 3
    · subst h3
      by_cases hr : at_ < 0 ∨ (n : Int) < at_
      · have hb : bcode f n 3 at_ = 1 := by unfold bcode; rw [if_pos (by omega), if_pos rfl, if_pos hr]
        unfold VbEnd
        rw [hb]
        clear hb
        rcases hr with hr | hr
        · go_enter Tryz.func131, Tryz.ntmps131
          go_wp2_with fail
          refine (dnew54 3 at_ w).mono ?_
          rintro e w1 (⟨_, _, rfl, hd, hk⟩ | ⟨hc, _, _⟩)
          rotate_left
          · exact (hc ⟨by omega, by omega⟩).elim
          have HD := hide hd
          have HK := hide hk
          have HT1 := hide ((unhide HT).kp0 hk)
          have d0 : w1.cell? ⟨vb, 0, none⟩ = some (.pointer (some ⟨tb, 0, none⟩)) := hk.cell (by simp) c0
          clear hd hk c0 HT
          generalize hD : w.heap.size = D at HD ⊢
          have HE := hide hD
          clear hD
          go_wp2_with fail
          go_ret2
          exact .inr ⟨by omega, rfl, unhide HK⟩
        · have hr0 : ¬ at_ < 0 := by omega
          go_enter Tryz.func131, Tryz.ntmps131
          go_wp2_with fail
          refine (dnew54 3 at_ w).mono ?_
          rintro e w1 (⟨_, _, rfl, hd, hk⟩ | ⟨hc, _, _⟩)
          rotate_left
          · exact (hc ⟨by omega, by omega⟩).elim
          have HD := hide hd
          have HK := hide hk
          have HT1 := hide ((unhide HT).kp0 hk)
          have d0 : w1.cell? ⟨vb, 0, none⟩ = some (.pointer (some ⟨tb, 0, none⟩)) := hk.cell (by simp) c0
          clear hd hk c0 HT
          generalize hD : w.heap.size = D at HD ⊢
          have HE := hide hD
          clear hD
          go_wp2_with fail
          refine (tlast38 w1 (unhide HT1)).mono ?_
          rintro e w2 ⟨rfl, hw⟩
          subst w2
          go_wp2_with fail
          go_ret2
          exact .inr ⟨by omega, rfl, unhide HK⟩
      · by_cases ho : at_ < fmx f 8
        · have hb : bcode f n 3 at_ = 12 := by unfold bcode; rw [if_pos (by omega), if_pos rfl, if_neg hr, if_pos ho]
          unfold VbEnd
          rw [hb]
          clear hb
          have hr0 : ¬ at_ < 0 := by omega
          have hr1 : ¬ (n : Int) < at_ := by omega
          go_enter Tryz.func131, Tryz.ntmps131
          go_wp2_with fail
          refine (dnew54 3 at_ w).mono ?_
          rintro e w1 (⟨_, _, rfl, hd, hk⟩ | ⟨hc, _, _⟩)
          rotate_left
          · exact (hc ⟨by omega, by omega⟩).elim
          have HD := hide hd
          have HK := hide hk
          have HT1 := hide ((unhide HT).kp0 hk)
          have d0 : w1.cell? ⟨vb, 0, none⟩ = some (.pointer (some ⟨tb, 0, none⟩)) := hk.cell (by simp) c0
          clear hd hk c0 HT
          generalize hD : w.heap.size = D at HD ⊢
          have HE := hide hD
          clear hD
          go_wp2_with fail
          refine (tlast38 w1 (unhide HT1)).mono ?_
          rintro e w2 ⟨rfl, hw⟩
          subst w2
          go_wp2_with fail
          refine (tfirst42 w1 (unhide HT1)).mono ?_
          rintro e w2 ⟨rfl, hw⟩
          subst w2
          go_wp2_with fail
          go_ret2
          exact .inr ⟨by omega, rfl, unhide HK⟩
        · have hb : bcode f n 3 at_ = 0 := by unfold bcode; rw [if_pos (by omega), if_pos rfl, if_neg hr, if_neg ho]
          unfold VbEnd
          rw [hb]
          clear hb
          have hr0 : ¬ at_ < 0 := by omega
          have hr1 : ¬ (n : Int) < at_ := by omega
          go_enter Tryz.func131, Tryz.ntmps131
          go_wp2_with fail
          refine (dnew54 3 at_ w).mono ?_
          rintro e w1 (⟨_, _, rfl, hd, hk⟩ | ⟨hc, _, _⟩)
          rotate_left
          · exact (hc ⟨by omega, by omega⟩).elim
          have HD := hide hd
          have HK := hide hk
          have HT1 := hide ((unhide HT).kp0 hk)
          have d0 : w1.cell? ⟨vb, 0, none⟩ = some (.pointer (some ⟨tb, 0, none⟩)) := hk.cell (by simp) c0
          clear hd hk c0 HT
          generalize hD : w.heap.size = D at HD ⊢
          have HE := hide hD
          clear hD
          go_wp2_with fail
          refine (tlast38 w1 (unhide HT1)).mono ?_
          rintro e w2 ⟨rfl, hw⟩
          subst w2
          go_wp2_with fail
          refine (tfirst42 w1 (unhide HT1)).mono ?_
          rintro e w2 ⟨rfl, hw⟩
          subst w2
          go_wp2_with fail
          go_ret2
          exact .inl ⟨by trivial, D, rfl, by have := unhide HE; omega, by rw [show bat n 3 at_ = at_ from if_pos rfl]; exact unhide HD, unhide HK⟩
    · have hb : bcode f n md at_ = 0 := by unfold bcode; rw [if_pos hm, if_neg h3]
      unfold VbEnd
      rw [hb]
      clear hb
      have hr0 : ¬ (n : Int) < 0 := by omega
      have hr1 : ¬ (n : Int) < (n : Int) := by omega
      have hr2 : ¬ (n : Int) < fmx f 8 := by omega
      go_enter Tryz.func131, Tryz.ntmps131
      go_wp2_with fail
      refine (tlast38 w (unhide HT)).mono ?_
      rintro e w0 ⟨rfl, hw⟩
      subst w0
      go_wp2_with fail
      refine (dnew54 md n w).mono ?_
      rintro e w1 (⟨_, _, rfl, hd, hk⟩ | ⟨hc, _, _⟩)
      rotate_left
      · exact (hc ⟨by omega, by omega⟩).elim
      have HD := hide hd
      have HK := hide hk
      have HT1 := hide ((unhide HT).kp0 hk)
      have d0 : w1.cell? ⟨vb, 0, none⟩ = some (.pointer (some ⟨tb, 0, none⟩)) := hk.cell (by simp) c0
      clear hd hk c0 HT
      generalize hD : w.heap.size = D at HD ⊢
      have HE := hide hD
      clear hD
      go_wp2_with fail
      refine (tlast38 w1 (unhide HT1)).mono ?_
      rintro e w2 ⟨rfl, hw⟩
      subst w2
      go_wp2_with fail
      refine (tfirst42 w1 (unhide HT1)).mono ?_
      rintro e w2 ⟨rfl, hw⟩
      subst w2
      go_wp2_with fail
      go_ret2
      exact .inl ⟨by trivial, D, rfl, by have := unhide HE; omega, by rw [show bat n md at_ = n from if_neg h3]; exact unhide HD, unhide HK⟩
  · have hb : bcode f n md at_ = 3 := by unfold bcode; rw [if_neg hm]
    have h3 : ¬ md = 3 := by omega
    unfold VbEnd
    rw [hb]
    clear hb
    go_enter Tryz.func131, Tryz.ntmps131
    go_wp2_with fail
    refine (tlast38 w (unhide HT)).mono ?_
    rintro e w0 ⟨rfl, hw⟩
    subst w0
    go_wp2_with fail
    refine (dnew54 md n w).mono ?_
    rintro e w1 (⟨q1, q2, _⟩ | ⟨_, rfl, hw⟩)
    · exact (hm ⟨q1, q2⟩).elim
    subst w1
    go_wp2_with fail
    go_ret2
    exact .inr ⟨by omega, rfl, Kp.refl _ _⟩

set_option maxHeartbeats 1000000 in
theorem vcommit {B vb tb gb n db : Nat} {F Ft Fg : List Nat} {f : Nat → List Ver} {cs : List (List Ver)} {md y : Int} {rs : List Int} {ws : List Ver} (w : World) (h : Vlt B w vb tb gb F Ft Fg f n cs []) (hv : VI f n cs) (hd : Ded w db md y rs ws) (hw : WOk ws) :
    Calls Tryz.prog 136 #[.pointer (some ⟨vb, 0, none⟩), .pointer (some ⟨db, 0, none⟩)] w fun e w' => e = .returned (.tuple #[.int .i64 (vnum f n cs md y rs ws), .int .i64 (vcode f cs md y rs ws)]) ∧ Ch (VltT vb tb gb (vf f n cs md y rs ws) (vn f n cs md y rs ws) (vcs f cs md y rs ws) []) B w F w' := by
  have HW := hide (vwrites w h hd)
  have HV := hide h
  have hpl := wk_len ws 8
  have HP := hide hw.pf
  have HR := hide hv
  have hn40 := h.t.inv.n40
  clear h hd hw hv
  by_cases hz : dm f md y rs ws = 0
  · rw [if_pos hz, hz] at HW
    by_cases hl : (wk ws 8).length = 0
    · obtain ⟨e1, e2⟩ := v_none (cs := cs) hz hl
      obtain ⟨e3, e4, e5, e6⟩ := v_not (n := n) e2
      rw [e1, e3, e4, e5, e6]
      clear e1 e2 e3 e4 e5 e6 HR HP
      go_enter Tryz.func136, Tryz.ntmps136
      go_wp2_with fail
      refine (unhide HW).mono ?_
      rintro e w1 ⟨a, cap, rfl, _, hk⟩
      rw [hl]
      have HK := hide hk
      clear hk hl
      go_wp2_with fail
      go_ret2
      exact ⟨rfl, Ch.same ⟨Ft, Fg, unhide HV⟩ (unhide HK)⟩
    · have HL := hide hl
      by_cases hc : lcode cs (wk ws 8) = 0
      · obtain ⟨e1, e2⟩ := v_yes hz hl hc
        obtain ⟨e3, e4, e5, e6⟩ := v_did (n := n) e2
        rw [e1, e3, e4, e5, e6]
        clear e1 e2 e3 e4 e5 e6
        obtain ⟨q1, q2, q3⟩ := (unhide HR).room hc
        have hlp : lput cs (wk ws 8) = cs ++ [wk ws 8] := by unfold lput; rw [if_pos hc]
        have HLP := hide hlp
        have HC := hide hc
        have HQ := hide (And.intro q1 (And.intro q2 q3))
        clear q1 q2 q3 hlp hc hz
        generalize wk ws 8 = ps at *
        go_enter Tryz.func136, Tryz.ntmps136
        go_wp2_with fail
        refine (unhide HW).mono ?_
        rintro e w1 ⟨a, cap, rfl, ho, hk⟩
        dsimp only at ho ⊢
        have h1 := (unhide HV).kp0 hk
        have d1 := h1.c1
        have HPR := hide (slo_prs (slo_own ho rfl) (unhide HP))
        have HO := hide ho
        have H1 := hide h1
        have HK := hide hk
        clear ho h1 hk HW
        go_wp2_with fail
        refine (lput31 a cap ps w1 (unhide H1).g (unhide HPR) (by omega)).mono ?_
        rintro e w2 ⟨rfl, hL⟩
        rw [unhide HC]
        rw [unhide HLP] at hL
        obtain ⟨F2, ⟨Ft2, Fg2, h2⟩, k2, s2⟩ := (unhide H1).log hL
        have hfar : ∀ g o, a = some ⟨g, o, none⟩ → g ∉ F := fun g o ea hm => by
          have h3 := (own_addr1 (unhide HO) g o ea).1
          have h4 := ((unhide HV).lo g hm).2
          omega
        have hfar2 : ∀ g o, a = some ⟨g, o, none⟩ → g ∉ Ft2 := fun g o ea hm => by
          rcases s2 g (h2.tF g hm) with e | e
          · exact hfar g o ea e
          · have h3 := (own_addr1 (unhide HO) g o ea).2
            omega
        have HPR2 := hide ((unhide HPR).kp k2 hfar)
        have HFAR := hide hfar2
        have d0 := h2.c0
        have H2 := hide h2
        have K2 := hide k2
        have S2 := hide s2
        clear h2 k2 s2 hL hfar hfar2 d1
        go_wp2_with fail
        refine (twrite45 a cap ps w2 (unhide H2).t (unhide HPR2) (fun _ => unhide HFAR) (by omega)).mono ?_
        rintro e w3 ⟨rfl, Ft3, hT, hk3, hs3⟩
        rw [(unhide HQ).1, (unhide HQ).2.2]
        rw [(unhide HQ).2.1] at hT
        have HZ := hide (Ch.after (unhide HK) (Ch.trans (unhide K2) (unhide S2) ((unhide H2).table hT hk3 hs3)))
        clear hT hk3 hs3
        go_wp2_with fail
        go_ret2
        exact ⟨rfl, unhide HZ⟩
      · obtain ⟨e1, e2⟩ := v_full hz hl hc
        obtain ⟨e3, e4, e5, e6⟩ := v_not (n := n) e2
        rw [e1, e3, e4, e5, e6]
        clear e1 e2 e3 e4 e5 e6
        have hlp : lput cs (wk ws 8) = cs := by unfold lput; rw [if_neg hc]
        have HLP := hide hlp
        clear hlp hz
        generalize hzz : lcode cs (wk ws 8) = z at *
        have HZZ := hide hzz
        clear hzz
        generalize wk ws 8 = ps at *
        go_enter Tryz.func136, Tryz.ntmps136
        go_wp2_with fail
        refine (unhide HW).mono ?_
        rintro e w1 ⟨a, cap, rfl, ho, hk⟩
        dsimp only at ho ⊢
        have h1 := (unhide HV).kp0 hk
        have d1 := h1.c1
        have HPR := hide (slo_prs (slo_own ho rfl) (unhide HP))
        have H1 := hide h1
        have HK := hide hk
        clear ho h1 hk HW
        go_wp2_with fail
        refine (lput31 a cap ps w1 (unhide H1).g (unhide HPR) (by omega)).mono ?_
        rintro e w2 ⟨rfl, hL⟩
        rw [unhide HZZ]
        rw [unhide HLP] at hL
        have HX := hide (Ch.after (unhide HK) ((unhide H1).log hL))
        clear hL d1
        go_wp2_with fail
        go_ret2
        exact ⟨rfl, unhide HX⟩
  · rw [if_neg hz] at HW
    obtain ⟨e1, e2⟩ := v_may (cs := cs) hz
    obtain ⟨e3, e4, e5, e6⟩ := v_not (n := n) e2
    rw [e1, e3, e4, e5, e6]
    clear e1 e2 e3 e4 e5 e6 HR HP
    generalize dm f md y rs ws = z at *
    go_enter Tryz.func136, Tryz.ntmps136
    go_wp2_with fail
    refine (unhide HW).mono ?_
    rintro e w1 ⟨a, cap, rfl, _, hk⟩
    have HK := hide hk
    clear hk HW
    go_wp2_with fail
    go_ret2
    exact ⟨rfl, Ch.same ⟨Ft, Fg, unhide HV⟩ (unhide HK)⟩

set_option maxHeartbeats 1000000 in
theorem vtearLog {B vb tb gb n db : Nat} {F Ft Fg : List Nat} {f : Nat → List Ver} {cs : List (List Ver)} {md y : Int} {rs : List Int} {ws : List Ver} (keep : Int) (w : World) (h : Vlt B w vb tb gb F Ft Fg f n cs []) (hd : Ded w db md y rs ws) (hw : WOk ws) :
    Calls Tryz.prog 171 #[.pointer (some ⟨vb, 0, none⟩), .pointer (some ⟨db, 0, none⟩), .int .i64 keep] w fun e w' => e = .returned (.int .i64 (vcode f cs md y rs ws)) ∧ ∃ torn, Ch (VltT vb tb gb f n (tcs f cs md y rs ws keep) torn) B w F w' := by
  have HW := hide (vwrites w h hd)
  have HV := hide h
  have hpl := wk_len ws 8
  have HP := hide hw.pf
  clear h hd hw
  by_cases hz : dm f md y rs ws = 0
  · rw [if_pos hz, hz] at HW
    by_cases hl : (wk ws 8).length = 0
    · rw [(v_none (cs := cs) hz hl).1, t_none (f := f) (cs := cs) (md := md) (y := y) (rs := rs) (keep := keep) hl]
      clear HP
      go_enter Tryz.func171, Tryz.ntmps171
      go_wp2_with fail
      refine (unhide HW).mono ?_
      rintro e w1 ⟨a, cap, rfl, _, hk⟩
      rw [hl]
      have HK := hide hk
      clear hk hl
      go_wp2_with fail
      go_ret
      exact ⟨rfl, [], Ch.same ⟨Ft, Fg, unhide HV⟩ (unhide HK)⟩
    · have hvc : vcode f cs md y rs ws = lcode cs (wk ws 8) := by unfold vcode; rw [if_pos hz, if_neg hl]
      rw [hvc, t_tear hz hl]
      clear hvc hz
      generalize wk ws 8 = ps at *
      go_enter Tryz.func171, Tryz.ntmps171
      go_wp2_with fail
      refine (unhide HW).mono ?_
      rintro e w1 ⟨a, cap, rfl, ho, hk⟩
      dsimp only at ho ⊢
      have h1 := (unhide HV).kp0 hk
      have d1 := h1.c1
      have HPR := hide (slo_prs (slo_own ho rfl) (unhide HP))
      have H1 := hide h1
      have HK := hide hk
      clear ho h1 hk HW
      go_wp2_with fail
      refine (ltear30 a cap ps keep w1 (unhide H1).g (unhide HPR) (by omega)).mono ?_
      rintro e w2 ⟨rfl, hL⟩
      have HX := hide (Ch.after (unhide HK) ((unhide H1).log hL))
      clear hL d1
      go_wp2_with fail
      go_ret
      exact ⟨rfl, _, unhide HX⟩
  · rw [if_neg hz] at HW
    rw [(v_may (cs := cs) hz).1, t_may hz]
    clear HP
    generalize dm f md y rs ws = z at *
    go_enter Tryz.func171, Tryz.ntmps171
    go_wp2_with fail
    refine (unhide HW).mono ?_
    rintro e w1 ⟨a, cap, rfl, _, hk⟩
    have HK := hide hk
    clear hk HW
    go_wp2_with fail
    go_ret
    exact ⟨rfl, [], Ch.same ⟨Ft, Fg, unhide HV⟩ (unhide HK)⟩

set_option maxHeartbeats 1000000 in
theorem vtear {B vb tb gb n db : Nat} {F Ft Fg : List Nat} {f : Nat → List Ver} {cs : List (List Ver)} {md y : Int} {rs : List Int} {ws : List Ver} (keep : Int) (w : World) (h : Vlt B w vb tb gb F Ft Fg f n cs []) (hv : VI f n cs) (hd : Ded w db md y rs ws) (hw : WOk ws) :
    Calls Tryz.prog 137 #[.pointer (some ⟨vb, 0, none⟩), .pointer (some ⟨db, 0, none⟩), .int .i64 keep] w fun e w' => e = .returned (.tuple #[.int .i64 (tnum f cs md y rs ws keep), .int .i64 (vcode f cs md y rs ws)]) ∧ ∃ tb', Ch (VltT vb tb' gb (wal0 (tcs f cs md y rs ws keep)) (tcs f cs md y rs ws keep).length (tcs f cs md y rs ws keep) []) B w F w' := by
  have HG := hide (vtearLog keep w h hd hw)
  have c0 := h.c0
  have HV := hide h
  have hn40 := h.t.inv.n40
  have hlen := hv.len
  clear h hd hw hv
  rcases tcs_cases (f := f) (cs := cs) (md := md) (y := y) (rs := rs) (ws := ws) (keep := keep) with hcs | ⟨hcs, hc0, _⟩
  · rw [tnum_same hcs]
    have HCS := hide hcs
    rw [hcs]
    clear hcs
    have HLEN := hide hlen
    clear hlen
    generalize hzz : vcode f cs md y rs ws = z at *
    clear hzz
    by_cases hz : z = 0
    · subst hz
      go_enter Tryz.func137, Tryz.ntmps137
      go_wp2_with fail
      refine (tlast38 w (unhide HV).t).mono ?_
      rintro e w0 ⟨rfl, hw0⟩
      subst w0
      go_wp2_with fail
      refine (unhide HG).mono ?_
      rintro e w1 ⟨rfl, torn, F1, ⟨Ft1, Fg1, h1⟩, k1, s1⟩
      have H1 := hide h1
      have K1 := hide k1
      have S1 := hide s1
      clear h1 k1 s1 HG
      rw [unhide HCS] at H1
      go_wp2_with fail
      refine (vcrash w1 (unhide H1)).mono ?_
      rintro e w2 ⟨rfl, tb2, F2, ⟨Ft2, Fg2, h2⟩, k2, s2⟩
      have d0 := h2.c0
      have H2 := hide h2
      have HX := hide (Ch.trans (o' := VltT vb tb2 gb (wal0 cs) cs.length cs []) (unhide K1) (unhide S1) ⟨F2, ⟨Ft2, Fg2, h2⟩, k2, s2⟩)
      clear h2 k2 s2 c0
      go_wp2_with fail
      refine (tlast38 w2 (unhide H2).t).mono ?_
      rintro e w3 ⟨rfl, hw3⟩
      subst w3
      rw [← unhide HLEN]
      go_wp2_with fail
      go_ret2
      exact ⟨rfl, tb2, unhide HX⟩
    · go_enter Tryz.func137, Tryz.ntmps137
      go_wp2_with fail
      refine (tlast38 w (unhide HV).t).mono ?_
      rintro e w0 ⟨rfl, hw0⟩
      subst w0
      go_wp2_with fail
      refine (unhide HG).mono ?_
      rintro e w1 ⟨rfl, torn, F1, ⟨Ft1, Fg1, h1⟩, k1, s1⟩
      have H1 := hide h1
      have K1 := hide k1
      have S1 := hide s1
      clear h1 k1 s1 HG
      rw [unhide HCS] at H1
      go_wp2_with fail
      refine (vcrash w1 (unhide H1)).mono ?_
      rintro e w2 ⟨rfl, tb2, F2, ⟨Ft2, Fg2, h2⟩, k2, s2⟩
      have d0 := h2.c0
      have H2 := hide h2
      have HX := hide (Ch.trans (o' := VltT vb tb2 gb (wal0 cs) cs.length cs []) (unhide K1) (unhide S1) ⟨F2, ⟨Ft2, Fg2, h2⟩, k2, s2⟩)
      clear h2 k2 s2 c0
      go_wp2_with fail
      go_ret2
      exact ⟨rfl, tb2, unhide HX⟩
  · rw [tnum_more hcs, hc0]
    rw [hc0] at HG
    have HCS := hide hcs
    rw [hcs]
    clear hcs hc0
    have HLEN := hide hlen
    have hN : ¬ ((cs ++ [wk ws 8]).length : Int) = (n : Int) := by have : (cs ++ [wk ws 8]).length = cs.length + 1 := (by simp); omega
    have hN2 : ((cs ++ [wk ws 8]).length : Int) = (cs.length : Int) + 1 := by simp
    generalize cs ++ [wk ws 8] = cs2 at *
    have HN2 := hide hN2
    clear hlen hN2
    go_enter Tryz.func137, Tryz.ntmps137
    go_wp2_with fail
    refine (tlast38 w (unhide HV).t).mono ?_
    rintro e w0 ⟨rfl, hw0⟩
    subst w0
    go_wp2_with fail
    refine (unhide HG).mono ?_
    rintro e w1 ⟨rfl, torn, F1, ⟨Ft1, Fg1, h1⟩, k1, s1⟩
    have H1 := hide h1
    have K1 := hide k1
    have S1 := hide s1
    clear h1 k1 s1 HG
    rw [unhide HCS] at H1
    go_wp2_with fail
    refine (vcrash w1 (unhide H1)).mono ?_
    rintro e w2 ⟨rfl, tb2, F2, ⟨Ft2, Fg2, h2⟩, k2, s2⟩
    have d0 := h2.c0
    have H2 := hide h2
    have HX := hide (Ch.trans (o' := VltT vb tb2 gb (wal0 cs2) cs2.length cs2 []) (unhide K1) (unhide S1) ⟨F2, ⟨Ft2, Fg2, h2⟩, k2, s2⟩)
    clear h2 k2 s2 c0
    go_wp2_with fail
    refine (tlast38 w2 (unhide H2).t).mono ?_
    rintro e w3 ⟨rfl, hw3⟩
    subst w3
    go_wp2_with fail
    refine (tlast38 w2 (unhide H2).t).mono ?_
    rintro e w3 ⟨rfl, hw3⟩
    subst w3
    go_wp2_with fail
    go_ret2
    exact ⟨by rw [unhide HN2]; rfl, tb2, unhide HX⟩

end
/- May of the document's deed, by its contract. -/
section
open Go.RowKit
attribute [local go_sem ↓] Go.wp_at_zero Go.wp_at_succ

end
/- The document's court, by contracts: NewCourt, Begin, commit, again. -/
section
open Go.RowKit
attribute [local go_sem ↓] Go.wp_at_zero Go.wp_at_succ

theorem Sht.ncell {B : Nat} {w : World} {sb : Nat} {G : List Nat} {f : Nat → List Ver} {n : Nat} (h : Sht B w sb G f n) : w.cell? ⟨sb, 8, none⟩ = some (.int .i64 n) := by
  obtain ⟨g, o, cap, h⟩ := h
  exact h.ncell
theorem Sht.inv {B : Nat} {w : World} {sb : Nat} {G : List Nat} {f : Nat → List Ver} {n : Nat} (h : Sht B w sb G f n) : Inv f n := by
  obtain ⟨g, o, cap, h⟩ := h
  exact h.inv
theorem Sht.lt {B : Nat} {w : World} {sb : Nat} {G : List Nat} {f : Nat → List Ver} {n : Nat} (h : Sht B w sb G f n) : sb < w.heap.size := by
  obtain ⟨g, o, cap, h⟩ := h
  exact (h.lo sb h.sG).2
end
/- The document's court: again, by its contract. -/
section
open Go.RowKit
attribute [local go_sem ↓] Go.wp_at_zero Go.wp_at_succ

/-- At the head of a round of again: the first i commits are written. -/
structure AgL (B : Nat) (w : World) (G : List Nat) (cb sb : Nat) (bx : Array Value) (st : Nat → Option Addr) (aL : Option Addr) (capL : Nat) (xs : List El) (i : Nat) (wr : World) (Gr Gs : List Nat) : Prop where
  r : ∃ aT cT, RxL B wr cb 1 bx 68 Gr aL capL xs aT cT []
  s : Sht B wr sb Gs (wal0 ((cps xs).take i)) i
  rs : ∀ x, x ∈ Gr → x ∉ Gs
  b0 : bx[0]? = some (.pointer (some ⟨sb, 0, none⟩))
  bs : ∀ j, j < 5 → bx[3 + j]? = some (.pointer (st j))
  sz : bx.size = 8
  kp : Kp G w wr
  rG : ∀ x, x ∈ Gr → x ∈ G ∨ w.heap.size ≤ x
  sG : ∀ x, x ∈ Gs → x ∈ G ∨ w.heap.size ≤ x
def Ag (B : Nat) (w : World) (G : List Nat) (cb sb : Nat) (bx : Array Value) (st : Nat → Option Addr) (aL : Option Addr) (capL : Nat) (xs : List El) (i : Nat) (wr : World) : Prop := ∃ Gr Gs, AgL B w G cb sb bx st aL capL xs i wr Gr Gs
section
variable {B : Nat} {w wr w' : World} {G : List Nat} {cb sb : Nat} {bx : Array Value} {st : Nat → Option Addr} {aL : Option Addr} {capL : Nat} {xs : List El} {i : Nat}
theorem Ag.kp0 (h : Ag B w G cb sb bx st aL capL xs i wr) (hk : Kp [] wr w') : Ag B w G cb sb bx st aL capL xs i w' := by
  obtain ⟨Gr, Gs, h⟩ := h
  obtain ⟨aT, cT, hr⟩ := h.r
  exact ⟨Gr, Gs, ⟨aT, cT, hr.kp hk (fun _ _ => by simp)⟩, h.s.kp0 hk, h.rs, h.b0, h.bs, h.sz, h.kp.trans0 hk, h.rG, h.sG⟩
theorem Ag.c0 (h : Ag B w G cb sb bx st aL capL xs i wr) : wr.cell? ⟨cb, 0, none⟩ = some (.pointer (some ⟨sb, 0, none⟩)) := by
  obtain ⟨Gr, Gs, h⟩ := h
  obtain ⟨aT, cT, hr⟩ := h.r
  exact cell_of_block hr.box h.b0
theorem Ag.c1 (h : Ag B w G cb sb bx st aL capL xs i wr) : wr.cell? ⟨cb, 1, none⟩ = some (.slice aL xs.length capL) := by
  obtain ⟨Gr, Gs, h⟩ := h
  obtain ⟨aT, cT, hr⟩ := h.r
  exact hr.c0
theorem Ag.at_ (h : Ag B w G cb sb bx st aL capL xs i wr) {k : Nat} (hk : k < xs.length) : ∃ g, aL = some ⟨g, 0, none⟩ ∧ wr.cell? ⟨g, k, none⟩ = some (.slice (eat xs k).a (eat xs k).ps.length (eat xs k).c) := by
  obtain ⟨Gr, Gs, h⟩ := h
  obtain ⟨aT, cT, hr⟩ := h.r
  exact hr.own.cell hk
end
end
/- The document's court: Do of SCrash, SCommit and STear, by contracts. -/
section
open Go.RowKit
attribute [local go_sem ↓] Go.wp_at_zero Go.wp_at_succ

def seatB (s : Int) : Bool := decide (0 ≤ s ∧ s < 5)
theorem Ch.far {o' : Thing} {B : Nat} {W w1 : World} {G : List Nat} (h : Ch o' B W G w1) {p : Nat} {o : Obj} (hp : p ∉ G) (hb : W.heap[p]? = some o) : w1.heap[p]? = some o := by
  obtain ⟨F1, h1, h2, h3⟩ := h
  rw [h2.block p (lt_of_block hb) hp]; exact hb

/-- An event in a variable. -/
def EvB (w : World) (p : Nat) : Prop := w.heap[p]? = some (.cells #[.int .i64 0, .int .i64 0, .bool false, .string ⟨#[]⟩, .slice none 0 0] 102 (0, 0))
structure EvC (w : World) (p : Nat) : Prop where
  c0 : w.cell? ⟨p, 0, none⟩ = some (.int .i64 0)
  c1 : w.cell? ⟨p, 1, none⟩ = some (.int .i64 0)
  c2 : w.cell? ⟨p, 2, none⟩ = some (.bool false)
  c3 : w.cell? ⟨p, 3, none⟩ = some (.string ⟨#[]⟩)
  c4 : w.cell? ⟨p, 4, none⟩ = some (.slice none 0 0)
  f0 : w.frozen? ⟨p, 0, none⟩ = false
  f1 : w.frozen? ⟨p, 1, none⟩ = false
  f2 : w.frozen? ⟨p, 2, none⟩ = false
  f3 : w.frozen? ⟨p, 3, none⟩ = false
  f4 : w.frozen? ⟨p, 4, none⟩ = false
theorem EvB.c {w : World} {p : Nat} (h : EvB w p) : EvC w p :=
  ⟨cell_of_block h rfl, cell_of_block h rfl, cell_of_block h rfl, cell_of_block h rfl, cell_of_block h rfl, frozen_of_block _ h, frozen_of_block _ h, frozen_of_block _ h, frozen_of_block _ h, frozen_of_block _ h⟩
/-- The cells of a step in a variable that are looked at. -/
structure StpC (w : World) (q : Nat) (k keep : Int) : Prop where
  c0 : w.cell? ⟨q, 0, none⟩ = some (.int .i64 k)
  c1 : w.cell? ⟨q, 1, none⟩ = some (.int .i64 0)
  c6 : w.cell? ⟨q, 6, none⟩ = some (.int .i64 keep)
def StpB (w : World) (q : Nat) (k keep : Int) : Prop := w.heap[q]? = some (.cells #[.int .i64 k, .int .i64 0, .int .i64 0, .int .i64 0, .int .i64 0, .int .i64 0, .int .i64 keep, .string ⟨#[]⟩] 79 (0, 0))
theorem StpB.c {w : World} {q : Nat} {k keep : Int} (h : StpB w q k keep) : StpC w q k keep := ⟨cell_of_block h rfl, cell_of_block h rfl, cell_of_block h rfl⟩
/-- The world in which Do begins: the step and the event lie in new variables. -/
structure DoW (w W : World) (q p : Nat) (k keep : Int) : Prop where
  kp : Kp [] w W
  s : StpB W q k keep
  e : EvB W p
  hq : q = w.heap.size
  hp : p = w.heap.size + 1
theorem DoW.kp0 {w W W' : World} {q p : Nat} {k keep : Int} (h : DoW w W q p k keep) (hk : Kp [] W W') : DoW w W' q p k keep :=
  ⟨h.kp.trans0 hk, by show W'.heap[q]? = _; rw [hk.block q (lt_of_block h.s) (by simp)]; exact h.s, by show W'.heap[p]? = _; rw [hk.block p (lt_of_block h.e) (by simp)]; exact h.e, h.hq, h.hp⟩
end
/- A house: a vault, a court, and deeds of both; its memory, and what calls leave of it. -/
section
open Go.RowKit

/-- A variable: a block that is known whole. -/
def BoxT (q : Nat) (cs : Array Value) (T : TypeId) : Thing where
  holds B w F := w.heap[q]? = some (.cells cs T (0, 0)) ∧ F = [q] ∧ B ≤ q
  kp := fun ⟨h1, h2, h3⟩ hk hS => ⟨by rw [hk.block q (lt_of_block h1) (hS q (by rw [h2]; simp))]; exact h1, h2, h3⟩
  lo := fun ⟨h1, h2, h3⟩ x hx => by rw [h2] at hx; simp at hx; rw [hx]; exact ⟨h3, lt_of_block h1⟩
  base := fun ⟨h1, h2, h3⟩ hC => ⟨h1, h2, Nat.le_trans hC h3⟩

section
variable {w0 w w' : World} {o o1 o2 o3 : Thing} {r : List Thing}
theorem Zoo.box (h : Zoo w0 w r) (cs : Array Value) (T : TypeId) : Zoo w0 (w.alloc (.cells cs T)) (BoxT w.heap.size cs T :: r) :=
  h.cons (F := [w.heap.size]) ⟨heap_alloc_new w _, rfl, Nat.le_refl _⟩ ((Kp.refl [] w).alloc _)
theorem Zoo.var {q : Nat} {cs : Array Value} {T : TypeId} (h : Zoo w0 w (BoxT q cs T :: r)) : w.heap[q]? = some (.cells cs T (0, 0)) := by
  obtain ⟨F, h1, _⟩ := zoo_at0 h
  exact h1.1
theorem Zoo.base (h : Zoo w0 w r) : w0.heap.size ≤ w.heap.size := h.kp.size
end

section
variable {B : Nat} {w w' W : World} {hb : Nat} {F S : List Nat} {vb cb : Nat} {da a' : Option Addr} {dc c' : Nat} {wa : Option Addr} {wc dn wn : Nat} {dbs wbs l : List Nat}
end
/-- A deed of a house, both. -/
structure Dd where
  db : Nat
  wb : Nat
  md : Int
  y : Int
  rs : List Int
  ws : List Ver
def dOk (i : Nat) (d : Dd) : Prop := WOk d.ws ∧ d.rs.length ≤ i ∧ d.ws.length ≤ i
theorem dOk.mono {i j : Nat} {d : Dd} (h : dOk i d) (hij : i ≤ j) : dOk j d := ⟨h.1, Nat.le_trans h.2.1 hij, Nat.le_trans h.2.2 hij⟩

end
/- Rows of elements of some cells each, of one's own: append onto them; as things. -/
section
open Go.RowKit

/-- n elements of k cells lie from the beginning of a block of one's own on. -/
def KRow (e : TypeId) (k : Nat) (B : Nat) (w : World) (a : Option Addr) (n cap : Nat) (xs : List Value) : Prop :=
  xs.length = n * k ∧ ((a = none ∧ n = 0 ∧ cap = 0) ∨ ∃ g cur, a = some ⟨g, 0, none⟩ ∧ B ≤ g ∧ w.heap[g]? = some (.cells cur e (0, 0)) ∧ n ≤ cap ∧ cap ≤ maxLen ∧ cap * k ≤ cur.size ∧ cur.toList.take (n * k) = xs)

section
variable {e : TypeId} {k B : Nat} {w w' : World} {a : Option Addr} {n cap : Nat} {xs : List Value}
theorem krow_nil (e : TypeId) (k B : Nat) (w : World) : KRow e k B w none 0 0 [] := ⟨by simp, .inl ⟨rfl, rfl, rfl⟩⟩
theorem KRow.le (h : KRow e k B w a n cap xs) : n ≤ cap := by
  rcases h.2 with ⟨_, e1, e2⟩ | ⟨g, cur, _, _, _, h1, _⟩
  · omega
  · exact h1
theorem KRow.lo (h : KRow e k B w a n cap xs) : ∀ x ∈ ob a, B ≤ x ∧ x < w.heap.size := by
  intro x hx
  rcases h.2 with ⟨rfl, _⟩ | ⟨g, cur, rfl, h1, h2, _⟩
  · simp [ob] at hx
  · simp [ob] at hx
    have := lt_of_block h2
    omega
theorem KRow.kp {S : List Nat} (h : KRow e k B w a n cap xs) (hk : Kp S w w') (hS : ∀ x ∈ ob a, x ∉ S) : KRow e k B w' a n cap xs := by
  refine ⟨h.1, ?_⟩
  rcases h.2 with hn | ⟨g, cur, rfl, h1, h2, h3⟩
  · exact .inl hn
  · exact .inr ⟨g, cur, rfl, h1, by rw [hk.block g (lt_of_block h2) (hS g (by simp [ob]))]; exact h2, h3⟩
theorem KRow.kp0 (h : KRow e k B w a n cap xs) (hk : Kp [] w w') : KRow e k B w' a n cap xs := h.kp hk (fun _ _ => by simp)
theorem KRow.base {C : Nat} (h : KRow e k B w a n cap xs) (hC : C ≤ B) : KRow e k C w a n cap xs := by
  refine ⟨h.1, ?_⟩
  rcases h.2 with hn | ⟨g, cur, rfl, h1, h2⟩
  · exact .inl hn
  · exact .inr ⟨g, cur, rfl, by omega, h2⟩
theorem KRow.cell (h : KRow e k B w a n cap xs) {j : Nat} {v : Value} (hj : xs[j]? = some v) : ∃ g, a = some ⟨g, 0, none⟩ ∧ w.cell? ⟨g, j, none⟩ = some v := by
  have hl : j < n * k := by rw [← h.1]; exact (List.getElem?_eq_some_iff.1 hj).1
  rcases h.2 with ⟨_, e1, _⟩ | ⟨g, cur, rfl, h1, h2, h3, h4, h5, h6⟩
  · subst e1; omega
  · refine ⟨g, rfl, cell_of_block h2 ?_⟩
    rw [← h6, List.getElem?_take] at hj
    rw [if_pos hl] at hj
    simpa using hj
theorem krow_app {t : TypeId} {z : Value} {by_ : Nat} (hu : Tryz.prog.underlying t = some (.slice e)) (hi : (Tryz.prog.info? e).map (fun i => (i.zero, i.size, i.bytes)) = some (some z, k, by_)) (hz : z.cells.size = k) (hby : by_ ≤ 1000)
    (h : KRow e k B w a n cap xs) (hB : B ≤ w.heap.size) (ty : TypeId) (x : Value) (news : List Value) (m : Nat) (hs : Src Tryz.prog k t x m news w) (hl : n + m ≤ 100000) :
    ∃ a' cap' w', (Builtin.append_ #[t, t] ty #[.slice a n cap, x]).run Tryz.prog w = .ok (.slice a' (n + m) cap') w' ∧ KRow e k B w' a' (n + m) cap' (xs ++ news) ∧ Kp (ob a) w w' ∧ ∀ y ∈ ob a', y ∈ ob a ∨ w.heap.size ≤ y := by
  obtain ⟨i0, hi0, hz0, hz1, hz2⟩ := info_parts hi
  have hs' : Src Tryz.prog i0.size t x m news w := by rw [hz1]; exact hs
  have hnl : news.length = m * k := hs.newsLen
  have hxl := h.1
  have hle := h.le
  have hall : (xs ++ news).length = (n + m) * k := by rw [List.length_append, hxl, hnl, Nat.add_mul]
  by_cases hp : m = 0
  · subst hp
    have e0 : news = [] := List.eq_nil_of_length_eq_zero (by rw [hnl]; omega)
    subst e0
    have hr := run_append_nothing (P := Tryz.prog) w t t ty e i0 hu hi0 a n cap hle x hs'
    exact ⟨a, cap, w, hr, by rw [List.append_nil]; exact h, Kp.refl _ _, fun y hy => .inl hy⟩
  have hold : (Builtin.firstCells i0.size n (.slice a n cap)).run Tryz.prog w.drew = .ok xs.toArray w.drew := by
    rcases h.2 with ⟨rfl, rfl, rfl⟩ | ⟨g, cur, rfl, h1, h2, h3, h4, h5, h6⟩
    · have : xs = [] := List.eq_nil_of_length_eq_zero (by rw [hxl]; omega)
      subst this
      exact run_firstCells_none w.drew i0.size 0 0 0
    · refine run_firstCells_some (P := Tryz.prog) w.drew i0.size n ⟨g, 0, none⟩ n cap xs (by rw [hz1, hxl]) (fun j u hj => ?_)
      obtain ⟨g', e', hc⟩ := h.cell hj
      simp only [Option.some.injEq, Addr.mk.injEq, and_true] at e'
      subst e'
      rw [addr_add, Nat.zero_add]
      exact hc
  by_cases hroom : n + m ≤ cap
  · rcases h.2 with ⟨_, _, _⟩ | ⟨g, cur, rfl, h1, h2, h3, h4, h5, h6⟩
    · omega
    · have hcm : (n + m) * k ≤ cap * k := Nat.mul_le_mul_right k hroom
      have hst := run_storeCells_at Tryz.prog g (n * k) e news 0 cur w h2 (by rw [hnl]; rw [Nat.add_mul] at hcm; omega) hs.one
      simp only [Nat.add_zero] at hst
      refine ⟨some ⟨g, 0, none⟩, cap, w.setRow g (cur.toList.take (n * k) ++ news ++ cur.toList.drop (n * k + news.length)).toArray, ?_, ⟨hall, .inr ⟨g, _, rfl, h1, setRow_heap w g cur _ e _ h2, hroom, h4, ?_, ?_⟩⟩, ?_, fun y hy => .inl hy⟩
      · rcases hs'.kind with ⟨e', hk⟩ | hk <;> simp [Builtin.append_, run_underlying hu, sizeOf, typeInfo, hi0, hz1, hs.len, hroom, hs.cells, Addr.add_lit, hst]
      · simp only [List.size_toArray, List.length_append, List.length_take, List.length_drop, Array.length_toList]
        rw [Nat.add_mul] at hcm
        omega
      · rw [h6, ← hall]
        exact List.take_left
      · exact ⟨rfl, rfl, rfl, by simp, fun k _ hn => setRow_other w g k _ (by simpa [ob] using hn)⟩
  · have hge := grownCap_ge w (n + m) cap e
    have hfit : Builtin.nextslicecap (n + m) cap * i0.bytes ≤ 281474976710656 := growslice_fits (by omega) (by
      rw [hz2]
      have := Nat.mul_le_mul hl hby
      omega)
    have hr := run_append_grow_src (P := Tryz.prog) w t t ty e i0 _ hu hi0 hz0 a n cap xs hold x m news hs' (by omega) (by omega) hfit
    refine ⟨_, _, _, hr, ⟨hall, .inr ⟨w.heap.size, _, rfl, hB, heap_alloc_new w.drew _, hge, grownCap_le_maxLen w _ _ _ (by unfold maxLen; omega), ?_, ?_⟩⟩, (Kp.refl _ w).drew.alloc _, fun y hy => .inr (by simp [ob] at hy; omega)⟩
    · rw [Array.size_append, size_zeroCells, hz]
      simp only [List.size_toArray, hall]
      rw [← Nat.add_mul]
      exact Nat.mul_le_mul_right k (by omega)
    · simp only [Array.toList_append]
      rw [← hall]
      exact List.take_left
end

theorem wpList_krow {ops : Array Oper} {rest : List Oper} {o : Oper} {ac : Act} {w : World} {Q : Exit → Act → World → Prop} (hw : Region.wanted o (yielded ops ac.tmps) = true) (s x : Operand) (t : TypeId)
    (ho : o.op = .call { callee := .builtin .append, args := #[s, x], argTypes := #[t, t] }) {e : TypeId} {k by_ : Nat} {z : Value} (hu : Tryz.prog.underlying t = some (.slice e)) (hi : (Tryz.prog.info? e).map (fun i => (i.zero, i.size, i.bytes)) = some (some z, k, by_)) (hz : z.cells.size = k) (hby : by_ ≤ 1000)
    {B : Nat} {a : Option Addr} {n cap : Nat} {xs : List Value} (h : KRow e k B w a n cap xs) (hB : B ≤ w.heap.size) (xv : Value) (news : List Value) (m : Nat)
    (hs : ac.eval s = .slice a n cap) (hx : ac.eval x = xv) (hsrc : Src Tryz.prog k t xv m news w) (hm : n + m ≤ 100000) (N : Nat) (hN : n + m = N)
    (kk : ∀ a' cap' w', Hid (KRow e k B w' a' N cap' (xs ++ news)) → Hid (Kp (ob a) w w') → Hid (∀ x ∈ ob a', x ∈ ob a ∨ w.heap.size ≤ x) → wpList Tryz.prog ops Q rest (ac.put o.dst (.slice a' N cap')) w') : wpList Tryz.prog ops Q (o :: rest) ac w := by
  subst hN
  obtain ⟨a', cap', w', hr, h1, h2, h3⟩ := krow_app hu hi hz hby h hB o.type xv news m hsrc hm
  refine wpList_step fun K hK => ?_
  rw [if_pos hw]
  unfold Oper.wp execOp
  simp only [ho, resolve, invoke, builtin, Sem.run_bind, Sem.run_pure, Result.andThen_ok, List.map_toArray, List.map_cons, List.map_nil, hs, hx, hr]
  exact hK _ _ (kk a' cap' w' h1 h2 h3)
/-- One element that was just built. -/
theorem src_built {t e : TypeId} {k : Nat} (hu : Tryz.prog.underlying t = some (.slice e)) {w : World} {g c : Nat} {cs : Array Value} {T : TypeId} {fr : Nat × Nat} (h : w.heap[g]? = some (.cells cs T fr)) (hl : cs.size = k) (h1 : ∀ u ∈ cs.toList, u.oneCell' = true) : Src Tryz.prog k t (.slice (some ⟨g, 0, none⟩) 1 c) 1 cs.toList w := by
  refine Src.ofSlice w hu ⟨g, 0, none⟩ 1 c cs.toList (by simp [hl]) (fun j u hj => ?_) h1
  rw [addr_add, Nat.zero_add, cell_of_row w g j _ _ _ h]
  simpa using hj

/-- A row of one's own as a thing. -/
def KwT (e : TypeId) (k : Nat) (a : Option Addr) (n cap : Nat) (xs : List Value) : Thing where
  holds B w F := KRow e k B w a n cap xs ∧ F = ob a
  kp := fun ⟨h1, h2⟩ hk hS => ⟨h1.kp hk (fun x hx => hS x (by rw [h2]; exact hx)), h2⟩
  lo := fun ⟨h1, h2⟩ x hx => h1.lo x (by rw [← h2]; exact hx)
  base := fun ⟨h1, h2⟩ hC => ⟨h1.base hC, h2⟩
section
variable {w0 w w' : World} {l1 r : List Thing} {e : TypeId} {k : Nat} {a a' : Option Addr} {n cap n' cap' : Nat} {xs ys : List Value}
theorem kw_nil (e : TypeId) (k : Nat) (hz : Zoo w0 w r) : Zoo w0 w (KwT e k none 0 0 [] :: r) := by
  obtain ⟨X, h1, hk⟩ := hz
  exact ⟨X, ⟨[], X, ⟨krow_nil _ _ _ _, rfl⟩, h1, fun _ hx => by simp at hx, rfl⟩, hk⟩
theorem kw_row (hz : Zoo w0 w (l1 ++ KwT e k a n cap xs :: r)) : KRow e k w0.heap.size w a n cap xs := by
  obtain ⟨F, h1, _⟩ := hz.at_
  exact h1.1
theorem kw_app (hz : Zoo w0 w (l1 ++ KwT e k a n cap xs :: r)) (h1 : KRow e k w0.heap.size w' a' n' cap' ys) (h2 : Kp (ob a) w w') (h3 : ∀ x ∈ ob a', x ∈ ob a ∨ w.heap.size ≤ x) : Zoo w0 w' (l1 ++ KwT e k a' n' cap' ys :: r) := by
  obtain ⟨F, ⟨g1, g2⟩, k2⟩ := hz.at_
  subst g2
  exact k2 _ _ ⟨ob a', ⟨h1, rfl⟩, h2, h3⟩
end
end
/- A region that draws its order, walked in an order of the prover's own. -/
section
open Go.RowKit

theorem drop_at {l rest : List Oper} {i : Nat} {o : Oper} (h : l.drop i = o :: rest) : l.toArray[i]? = some o := by
  have := congrArg List.head? h
  rw [List.head?_drop] at this
  simpa using this
theorem wpAnyH_tk {P : Program} {md : Region.Mode} {l rest : List Oper} {Q : Exit → Act → World → Prop} {S : World → Prop} {i : Nat} {oi : Oper} {v : Value} {fuel : Nat} {listed : Array Bool} {a : Act} {w : World} (hi : l.drop i = oi :: rest)
    (hs : Region.noSelect l.toArray = true) (hf : Region.free md l.toArray listed i = true) (hr : (Region.ready md l.toArray listed).contains i = true)
    (hQ : ∀ c a w, Q (.panic c) (a.put oi.dst v) w → Q (.panic c) a w) (hy : YieldsIf P l.toArray S oi v a) (hS : S w)
    (h : wpAnyH P md l.toArray Q S fuel (listed.setIfInBounds i true) (a.put oi.dst v) w) : wpAnyH P md l.toArray Q S (fuel + 1) listed a w := wpAnyH_take (drop_at hi) hs hf hr hQ hy hS h
theorem wpAnyH_only {P : Program} {md : Region.Mode} {l rest : List Oper} {Q : Exit → Act → World → Prop} {S : World → Prop} {i : Nat} {o : Oper} {fuel : Nat} {listed : Array Bool} {a : Act} {w : World} (hi : l.drop i = o :: rest) (hr : Region.ready md l.toArray listed = [i])
    (h : ∀ K' : Act → World → Prop, Shut (∀ a w, S w → (S w → wpAnyH P md l.toArray Q S fuel (listed.setIfInBounds i true) a w) → K' a w) → if Region.wanted o (yielded l.toArray a.tmps) = true then Oper.wp P o a w K' Q else K' (a.put o.dst undef) w) :
    wpAnyH P md l.toArray Q S (fuel + 1) listed a w := wpAnyH_ready hr (by simp) (AllReadyH.cons (drop_at hi) h AllReadyH.nil)
end
/- vaultBegun answers true. -/
section
open Go.RowKit
attribute [local go_sem ↓] Go.wp_at_zero Go.wp_at_succ

section
variable {w0 w : World} {vb tb gb : Nat} {f : Nat → List Ver} {n : Nat} {cs : List (List Ver)} {r : List Thing} {D D2 : Nat} {md y md2 y2 : Int} {rs rs2 : List Int} {ws ws2 : List Ver}
theorem b_begin {md at_ : Int} (hb : bcode f n md at_ = 0) (hz : Zoo w0 w (VltT vb tb gb f n cs [] :: r)) :
    Calls Tryz.prog 131 #[.pointer (some ⟨vb, 0, none⟩), .int .i64 md, .int .i64 at_] w fun e w' => ∃ D, e = .returned (.tuple #[.pointer (some ⟨D, 0, none⟩), .int .i64 0]) ∧ Hid (Zoo w0 w' (VltT vb tb gb f n cs [] :: BoxT D (dcells md (bat n md at_) (ncell [] [])) 162 :: r)) := by
  obtain ⟨F, ⟨Ft, Fg, k⟩, _⟩ := zoo_at0 hz
  refine (vbegin md at_ w k).mono ?_
  rintro e w' (⟨_, D, rfl, hD, hd, hk⟩ | ⟨h, _⟩)
  · exact ⟨D, rfl, Zoo.put_ (l1 := [VltT vb tb gb f n cs []]) hz (F := [D]) ⟨hd, rfl, hD⟩ hk⟩
  · exact absurd hb h
theorem b_none {md at_ z : Int} (hb : bcode f n md at_ = z) (h0 : z ≠ 0) (hz : Zoo w0 w (VltT vb tb gb f n cs [] :: r)) :
    Calls Tryz.prog 131 #[.pointer (some ⟨vb, 0, none⟩), .int .i64 md, .int .i64 at_] w fun e w' => e = .returned (.tuple #[.pointer none, .int .i64 z]) ∧ Hid (Zoo w0 w' (VltT vb tb gb f n cs [] :: r)) := by
  obtain ⟨F, ⟨Ft, Fg, k⟩, _⟩ := zoo_at0 hz
  refine (vbegin md at_ w k).mono ?_
  rintro e w' (⟨h, _⟩ | ⟨_, rfl, hk⟩)
  · exact absurd (hb.symm.trans h) h0
  · exact ⟨by rw [hb], hz.kp0 hk⟩
theorem b_put1 (k : Int) (t : Bool) (s : ByteArray) (hs : s.size ≤ maxLen) (hz : Zoo w0 w (VltT vb tb gb f n cs [] :: BoxT D (dcells md y (ncell rs ws)) 162 :: r)) :
    Calls Tryz.prog 134 #[.pointer (some ⟨D, 0, none⟩), .int .i64 k, .agg #[.bool t, .string s]] w fun e w' => e = .returned (.int .i64 (dpc md k t s)) ∧ Hid (Zoo w0 w' (VltT vb tb gb f n cs [] :: BoxT D (dcells md y (ncell rs (dpw md ws k t s))) 162 :: r)) := by
  obtain ⟨F, ⟨h1, h2, h3⟩, k2⟩ := zoo_at1 hz
  exact (dput57 k t s w h1 hs).mono (fun e w' ⟨he, hd, hk⟩ => ⟨he, k2 _ _ ⟨F, ⟨hd, h2, h3⟩, by rw [h2]; exact hk, fun x hx => .inl hx⟩⟩)
theorem b_commit (hv : VI f n cs) (hd : Ded w D md y rs ws) (hw : WOk ws) (hz : Zoo w0 w (VltT vb tb gb f n cs [] :: r)) :
    Calls Tryz.prog 136 #[.pointer (some ⟨vb, 0, none⟩), .pointer (some ⟨D, 0, none⟩)] w fun e w' => e = .returned (.tuple #[.int .i64 (vnum f n cs md y rs ws), .int .i64 (vcode f cs md y rs ws)]) ∧ Hid (Zoo w0 w' (VltT vb tb gb (vf f n cs md y rs ws) (vn f n cs md y rs ws) (vcs f cs md y rs ws) [] :: r)) := by
  obtain ⟨F, ⟨Ft, Fg, k⟩, k2⟩ := zoo_at0 hz
  exact (vcommit w k hv hd hw).mono (fun e w' ⟨he, hc⟩ => ⟨he, k2 _ _ hc⟩)
theorem b_crash (hz : Zoo w0 w (VltT vb tb gb f n cs [] :: r)) :
    Calls Tryz.prog 88 #[.pointer (some ⟨vb, 0, none⟩)] w fun e w' => e = .returned (.tuple #[]) ∧ ∃ tb', w'.cell? ⟨vb, 0, none⟩ = some (.pointer (some ⟨tb', 0, none⟩)) ∧ Hid (Zoo w0 w' (VltT vb tb' gb (wal0 cs) cs.length cs [] :: r)) := by
  obtain ⟨F, ⟨Ft, Fg, k⟩, k2⟩ := zoo_at0 hz
  refine (vcrash w k).mono ?_
  rintro e w' ⟨rfl, tb', hc⟩
  have hz' := k2 _ _ hc
  obtain ⟨F', ⟨Ft', Fg', k'⟩, _⟩ := zoo_at0 hz'
  exact ⟨rfl, tb', k'.c0, hz'⟩
end

end
/- A vault at the head of a list of things: its contracts, and plain words of deeds that only read. -/
section
open Go.RowKit

theorem zoo_mem {w0 w : World} {o : Thing} {os : List Thing} (h : Zoo w0 w os) (hm : o ∈ os) : ∃ F, o.holds w0.heap.size w F := by
  obtain ⟨l1, l2, rfl⟩ := List.append_of_mem hm
  obtain ⟨F, h1, _⟩ := h.at_
  exact ⟨F, h1⟩
theorem zoo_swap {w0 w : World} {A V : Thing} {r : List Thing} (hz : Zoo w0 w (A :: V :: r)) : Zoo w0 w (V :: A :: r) := hz.perm (List.Perm.swap V A r)
section
variable {w0 w : World} {vb tb gb : Nat} {f : Nat → List Ver} {n : Nat} {cs : List (List Ver)} {r : List Thing} {D : Nat} {md y : Int} {rs : List Int} {ws : List Ver}
theorem l_get (k : Int) (hz : Zoo w0 w (VltT vb tb gb f n cs [] :: BoxT D (dcells md y (ncell rs ws)) 162 :: r)) :
    Calls Tryz.prog 133 #[.pointer (some ⟨D, 0, none⟩), .pointer (some ⟨tb, 0, none⟩), .int .i64 k] w fun e w' => e = .returned (.tuple #[.agg #[.bool (dg f n y ws k).t, .string (dg f n y ws k).s], .int .i64 (dg f n y ws k).a]) ∧
      Hid (Zoo w0 w' (VltT vb tb gb f n cs [] :: BoxT D (dcells md y (ncell (dr f n y rs ws k) ws)) 162 :: r)) := by
  obtain ⟨F1, ⟨Ft, Fg, k1⟩, _⟩ := zoo_at0 hz
  obtain ⟨F, ⟨h1, h2, h3⟩, k2⟩ := zoo_at1 hz
  exact (dget55 k w k1.t h1).mono (fun e w' ⟨he, hd, hk⟩ => ⟨he, k2 _ _ ⟨F, ⟨hd, h2, h3⟩, by rw [h2]; exact hk, fun x hx => .inl hx⟩⟩)
theorem l_last (hz : Zoo w0 w (VltT vb tb gb f n cs [] :: r)) : Calls Tryz.prog 26 #[.pointer (some ⟨tb, 0, none⟩)] w fun e w' => e = .returned (.int .i64 n) ∧ w' = w := by
  obtain ⟨F1, ⟨Ft, Fg, k1⟩, _⟩ := zoo_at0 hz
  exact tlast38 w k1.t
theorem l_first (hz : Zoo w0 w (VltT vb tb gb f n cs [] :: r)) : Calls Tryz.prog 27 #[.pointer (some ⟨tb, 0, none⟩)] w fun e w' => e = .returned (.int .i64 (fmx f 8)) ∧ w' = w := by
  obtain ⟨F1, ⟨Ft, Fg, k1⟩, _⟩ := zoo_at0 hz
  exact tfirst42 w k1.t
end
end
/- What the laws of torn and crashed vaults meet: all keys' values in variables, beside a vault. -/
section
open Go.RowKit

/-- Two operations may come up next. -/
theorem wpAnyH_two {P : Program} {md : Region.Mode} {l r1 r2 : List Oper} {Q : Exit → Act → World → Prop} {S : World → Prop} {i j : Nat} {oi oj : Oper} {fuel : Nat} {listed : Array Bool} {a : Act} {w : World} (hi : l.drop i = oi :: r1) (hj : l.drop j = oj :: r2) (hr : Region.ready md l.toArray listed = [i, j])
    (h1 : ∀ K' : Act → World → Prop, Shut (∀ a w, S w → (S w → wpAnyH P md l.toArray Q S fuel (listed.setIfInBounds i true) a w) → K' a w) → if Region.wanted oi (yielded l.toArray a.tmps) = true then Oper.wp P oi a w K' Q else K' (a.put oi.dst undef) w)
    (h2 : ∀ K' : Act → World → Prop, Shut (∀ a w, S w → (S w → wpAnyH P md l.toArray Q S fuel (listed.setIfInBounds j true) a w) → K' a w) → if Region.wanted oj (yielded l.toArray a.tmps) = true then Oper.wp P oj a w K' Q else K' (a.put oj.dst undef) w) :
    wpAnyH P md l.toArray Q S (fuel + 1) listed a w := wpAnyH_ready hr (by simp) (AllReadyH.cons (drop_at hi) h1 (AllReadyH.cons (drop_at hj) h2 AllReadyH.nil))

section
variable {w0 w : World} {vb tb gb : Nat} {f : Nat → List Ver} {n : Nat} {cs : List (List Ver)} {r : List Thing} {D : Nat} {md y : Int} {rs : List Int} {ws : List Ver} {V X : Thing}
theorem b_tear (keep : Int) (hv : VI f n cs) (hd : Ded w D md y rs ws) (hw : WOk ws) (hz : Zoo w0 w (VltT vb tb gb f n cs [] :: r)) :
    Calls Tryz.prog 137 #[.pointer (some ⟨vb, 0, none⟩), .pointer (some ⟨D, 0, none⟩), .int .i64 keep] w fun e w' => e = .returned (.tuple #[.int .i64 (tnum f cs md y rs ws keep), .int .i64 (vcode f cs md y rs ws)]) ∧ ∃ tb', Hid (Zoo w0 w' (VltT vb tb' gb (wal0 (tcs f cs md y rs ws keep)) (tcs f cs md y rs ws keep).length (tcs f cs md y rs ws keep) [] :: r)) := by
  obtain ⟨F, ⟨Ft, Fg, k⟩, k2⟩ := zoo_at0 hz
  exact (vtear keep w k hv hd hw).mono (fun e w' ⟨he, tb', hc⟩ => ⟨he, tb', k2 _ _ hc⟩)
end
theorem zoo_varm {w0 w : World} {os : List Thing} {p : Nat} {c : Array Value} {T : TypeId} (hz : Zoo w0 w os) (hm : BoxT p c T ∈ os) : w.heap[p]? = some (.cells c T (0, 0)) := by
  obtain ⟨F, h1, _⟩ := zoo_mem hz hm
  exact h1
end
/- Plain words for halls: what a deed sees is of one time; what is refused changes nothing. -/
section
open Go.RowKit

theorem shw_clm {f : Nat → List Ver} {n : Nat} {l y : Int} (hi : Inv f n) (hl : l ≤ y) : shw (clm f l 8) n y 8 = shw f n y 8 := shw_congr (Nat.le_refl _) (fun _ hj => tr_clm hi hl hj)
theorem shw_vf {f : Nat → List Ver} {n : Nat} {cs : List (List Ver)} {md y' y : Int} {rs : List Int} {ws : List Ver} (hi : Inv f n) (hv : VI f n cs) (hy : y ≤ n) : shw (vf f n cs md y' rs ws) (vn f n cs md y' rs ws) y 8 = shw f n y 8 := by
  unfold vf vn
  split
  · rename_i h
    have hl : lcode cs (wk ws 8) = 0 := by unfold vdone at h; simp at h; exact h.2.2
    have e := (hv.room hl).2.1
    exact shw_congr (Nat.le_refl _) (fun j hj => by have := tr_later hi (wk ws 8) hy hj; rw [e] at this; exact this)
  · rfl
/-- The kinds of a step, one by one. -/
inductive HKind (h : HSt) (x : HStep) : HSt → Ev → Prop
  | kind : (x.d < 1 ∨ 10 < x.d) → HKind h x h (evc 3)
  | clear : x.d = 8 → HKind h x { h with f := clm h.f (least h.n h.seat 5) 8 } (evn 0 (cln h.f (least h.n h.seat 5) 8 : Nat))
  | crash : x.d = 9 → HKind h x ⟨wal0 h.cs, h.cs.length, h.cs, fun _ => none⟩ ev0
  | range : (1 ≤ x.d ∧ x.d ≤ 10 ∧ x.d ≠ 8 ∧ x.d ≠ 9) → ¬ (0 ≤ x.s ∧ x.s < 5) → HKind h x h (evc 1)
  | began : x.d = 1 → (0 ≤ x.s ∧ x.s < 5) → h.seat x.s.toNat = none → bcode h.f h.n x.md x.at_ = 0 → HKind h x (sit h x.s (some ⟨x.md, bat h.n x.md x.at_, [], []⟩)) (evc 0)
  | beganNot : x.d = 1 → (0 ≤ x.s ∧ x.s < 5) → h.seat x.s.toNat = none → ¬ bcode h.f h.n x.md x.at_ = 0 → HKind h x h (evc (bcode h.f h.n x.md x.at_))
  | none_ : (2 ≤ x.d ∧ x.d ≤ 10 ∧ x.d ≠ 8 ∧ x.d ≠ 9) → (0 ≤ x.s ∧ x.s < 5) → h.seat x.s.toNat = none → HKind h x h (evc 7)
  | there (d : Dp) : x.d = 1 → (0 ≤ x.s ∧ x.s < 5) → h.seat x.s.toNat = some d → HKind h x h (evc 8)
  | get (d : Dp) : x.d = 2 → (0 ≤ x.s ∧ x.s < 5) → h.seat x.s.toNat = some d → HKind h x (sit h x.s (some { d with rs := dr h.f h.n d.y d.rs d.ws x.key })) ⟨(dg h.f h.n d.y d.ws x.key).a, 0, (dg h.f h.n d.y d.ws x.key).t, (dg h.f h.n d.y d.ws x.key).s, []⟩
  | put (d : Dp) : x.d = 3 → (0 ≤ x.s ∧ x.s < 5) → h.seat x.s.toNat = some d → HKind h x (sit h x.s (some { d with ws := dpw d.md d.ws x.key true x.b })) (evc (dpc d.md x.key true x.b))
  | drop (d : Dp) : x.d = 4 → (0 ≤ x.s ∧ x.s < 5) → h.seat x.s.toNat = some d → HKind h x (sit h x.s (some { d with ws := dpw d.md d.ws x.key false ⟨#[]⟩ })) (evc (dpc d.md x.key false ⟨#[]⟩))
  | list (d : Dp) : x.d = 5 → (0 ≤ x.s ∧ x.s < 5) → h.seat x.s.toNat = some d → HKind h x (sit h x.s (some { d with rs := (dls h.f h.n d.y d.ws d.rs x.key x.to_).2.2 })) ⟨(dls h.f h.n d.y d.ws d.rs x.key x.to_).2.1, 0, false, ⟨#[]⟩, (dls h.f h.n d.y d.ws d.rs x.key x.to_).1⟩
  | commit (d : Dp) : x.d = 6 → (0 ≤ x.s ∧ x.s < 5) → h.seat x.s.toNat = some d → HKind h x ⟨vf h.f h.n h.cs d.md d.y d.rs d.ws, vn h.f h.n h.cs d.md d.y d.rs d.ws, vcs h.f h.cs d.md d.y d.rs d.ws, upd h.seat x.s.toNat none⟩ (evn (vcode h.f h.cs d.md d.y d.rs d.ws) (vnum h.f h.n h.cs d.md d.y d.rs d.ws))
  | tear (d : Dp) : x.d = 10 → (0 ≤ x.s ∧ x.s < 5) → h.seat x.s.toNat = some d → HKind h x ⟨wal0 (tcs h.f h.cs d.md d.y d.rs d.ws x.keep), (tcs h.f h.cs d.md d.y d.rs d.ws x.keep).length, tcs h.f h.cs d.md d.y d.rs d.ws x.keep, fun _ => none⟩ (evn (vcode h.f h.cs d.md d.y d.rs d.ws) (tnum h.f h.cs d.md d.y d.rs d.ws x.keep))
  | abort (d : Dp) : x.d = 7 → (0 ≤ x.s ∧ x.s < 5) → h.seat x.s.toNat = some d → HKind h x (sit h x.s none) ev0
theorem hkind (h : HSt) (x : HStep) : HKind h x (hdo h x) (hev h x) := by
  unfold hdo hev
  by_cases c0 : x.d < 1 ∨ 10 < x.d
  · rw [if_pos c0, if_pos c0]; exact .kind c0
  rw [if_neg c0, if_neg c0]
  by_cases c8 : x.d = 8
  · rw [if_pos c8, if_pos c8]; exact .clear c8
  rw [if_neg c8, if_neg c8]
  by_cases c9 : x.d = 9
  · rw [if_pos c9, if_pos c9]; exact .crash c9
  rw [if_neg c9, if_neg c9]
  by_cases hs : 0 ≤ x.s ∧ x.s < 5
  · have hns : ¬ ¬ (0 ≤ x.s ∧ x.s < 5) := fun q => q hs
    rw [if_neg hns, if_neg hns]
    cases hd : h.seat x.s.toNat with
    | none =>
      dsimp only
      by_cases c1 : x.d = 1
      · rw [if_pos c1]
        by_cases hb : bcode h.f h.n x.md x.at_ = 0
        · rw [if_pos ⟨c1, hb⟩, hb]; exact .began c1 hs hd hb
        · rw [if_neg (fun q => hb q.2)]; exact .beganNot c1 hs hd hb
      · rw [if_neg (fun q => c1 q.1), if_neg c1]; exact .none_ (by omega) hs hd
    | some d =>
      dsimp only
      by_cases c1 : x.d = 1
      · rw [if_pos c1, if_pos c1]; exact .there d c1 hs hd
      rw [if_neg c1, if_neg c1]
      by_cases c2 : x.d = 2
      · rw [if_pos c2, if_pos c2]; exact .get d c2 hs hd
      rw [if_neg c2, if_neg c2]
      by_cases c3 : x.d = 3
      · rw [if_pos c3, if_pos c3]; exact .put d c3 hs hd
      rw [if_neg c3, if_neg c3]
      by_cases c4 : x.d = 4
      · rw [if_pos c4, if_pos c4]; exact .drop d c4 hs hd
      rw [if_neg c4, if_neg c4]
      by_cases c5 : x.d = 5
      · rw [if_pos c5, if_pos c5]; exact .list d c5 hs hd
      rw [if_neg c5, if_neg c5]
      by_cases c6 : x.d = 6
      · rw [if_pos c6, if_pos c6]; exact .commit d c6 hs hd
      rw [if_neg c6, if_neg c6]
      by_cases c10 : x.d = 10
      · rw [if_pos c10, if_pos c10]; exact .tear d c10 hs hd
      rw [if_neg c10, if_neg c10]
      exact .abort d (by omega) hs hd
  · rw [if_pos hs, if_pos hs]; exact .range (by omega) hs

/-- What the seat's deed sees of all keys. -/
def hsee (h : HSt) (d : Dp) : Nat → Ver := lay (shw h.f h.n d.y 8) d.ws
theorem dg_see {h : HSt} (hi : HInv h) {s : Nat} {d : Dp} (hs : h.seat s = some d) {k : Nat} (hk : k < 8) : dg h.f h.n d.y d.ws k = ⟨0, (hsee h d k).t, (hsee h d k).s⟩ := by
  obtain ⟨k1, k2⟩ := hi.known s d hs
  have ha := tr_known hi.inv k1 k2 hk
  have hkb : keyB (k : Int) = true := by simp [keyB]; omega
  unfold dg hsee lay
  rw [if_pos hkb]
  cases lwr d.ws k with
  | some v => rfl
  | none =>
    dsimp only
    unfold shw
    rw [if_pos hk]
    rw [← ha]
theorem sit_at {h : HSt} {x : Int} {e : Option Dp} {s : Nat} {d' : Dp} (h' : (sit h x e).seat s = some d') : (s = x.toNat ∧ e = some d') ∨ (s ≠ x.toNat ∧ h.seat s = some d') := by
  simp only [sit, upd_at] at h'
  split at h'
  · exact .inl ⟨by assumption, h'⟩
  · exact .inr ⟨by assumption, h'⟩
/-- What a deed sees is of one time: whatever is done, what it sees is what it saw, and what it wrote itself. -/
theorem hdo_sees {h : HSt} (hi : HInv h) (x : HStep) {s : Nat} {d d' : Dp} (hs : h.seat s = some d) (hs' : (hdo h x).seat s = some d') :
    d'.y = d.y ∧ d'.md = d.md ∧ shw (hdo h x).f (hdo h x).n d.y 8 = shw h.f h.n d.y 8 ∧
      (d'.ws = d.ws ∨ (x.s = s ∧ x.d = 3 ∧ d'.ws = dpw d.md d.ws x.key true x.b) ∨ (x.s = s ∧ x.d = 4 ∧ d'.ws = dpw d.md d.ws x.key false ⟨#[]⟩)) := by
  obtain ⟨k1, k2⟩ := hi.known s d hs
  have hk := hkind h x
  generalize hdo h x = h2 at *
  generalize hev h x = e at *
  have same : ∀ {d' : Dp}, h.seat s = some d' → d' = d := fun q => by rw [hs] at q; cases q; rfl
  cases hk with
  | kind c => have q := same hs'; subst q; exact ⟨rfl, rfl, rfl, .inl rfl⟩
  | clear c =>
    have q := same hs'
    subst q
    have h5 : s < 5 := by
      rcases Nat.lt_or_ge s 5 with q | q
      · exact q
      · rw [hi.five s q] at hs; cases hs
    exact ⟨rfl, rfl, shw_clm hi.inv ((least_le h.n h.seat 5).2 s _ h5 hs), .inl rfl⟩
  | crash c => cases hs'
  | range c1 c2 => have q := same hs'; subst q; exact ⟨rfl, rfl, rfl, .inl rfl⟩
  | began c1 c2 c3 c4 =>
    rcases sit_at hs' with ⟨q1, q2⟩ | ⟨q1, q2⟩
    · rw [← q1, hs] at c3; cases c3
    · have q := same q2; subst q; exact ⟨rfl, rfl, rfl, .inl rfl⟩
  | beganNot c1 c2 c3 c4 => have q := same hs'; subst q; exact ⟨rfl, rfl, rfl, .inl rfl⟩
  | none_ c1 c2 c3 => have q := same hs'; subst q; exact ⟨rfl, rfl, rfl, .inl rfl⟩
  | there d0 c1 c2 c3 => have q := same hs'; subst q; exact ⟨rfl, rfl, rfl, .inl rfl⟩
  | get d0 c1 c2 c3 =>
    rcases sit_at hs' with ⟨q1, q2⟩ | ⟨q1, q2⟩
    · rw [← q1] at c3; have q := same c3; subst q; cases q2; exact ⟨rfl, rfl, rfl, .inl rfl⟩
    · have q := same q2; subst q; exact ⟨rfl, rfl, rfl, .inl rfl⟩
  | put d0 c1 c2 c3 =>
    rcases sit_at hs' with ⟨q1, q2⟩ | ⟨q1, q2⟩
    · rw [← q1] at c3; have q := same c3; subst q; cases q2; exact ⟨rfl, rfl, rfl, .inr (.inl ⟨by omega, c1, rfl⟩)⟩
    · have q := same q2; subst q; exact ⟨rfl, rfl, rfl, .inl rfl⟩
  | drop d0 c1 c2 c3 =>
    rcases sit_at hs' with ⟨q1, q2⟩ | ⟨q1, q2⟩
    · rw [← q1] at c3; have q := same c3; subst q; cases q2; exact ⟨rfl, rfl, rfl, .inr (.inr ⟨by omega, c1, rfl⟩)⟩
    · have q := same q2; subst q; exact ⟨rfl, rfl, rfl, .inl rfl⟩
  | list d0 c1 c2 c3 =>
    rcases sit_at hs' with ⟨q1, q2⟩ | ⟨q1, q2⟩
    · rw [← q1] at c3; have q := same c3; subst q; cases q2; exact ⟨rfl, rfl, rfl, .inl rfl⟩
    · have q := same q2; subst q; exact ⟨rfl, rfl, rfl, .inl rfl⟩
  | commit d0 c1 c2 c3 =>
    simp only [upd_at] at hs'
    split at hs'
    · cases hs'
    · have q := same hs'; subst q; exact ⟨rfl, rfl, shw_vf hi.inv hi.vi k2, .inl rfl⟩
  | tear d0 c1 c2 c3 => cases hs'
  | abort d0 c1 c2 c3 =>
    rcases sit_at hs' with ⟨q1, q2⟩ | ⟨q1, q2⟩
    · cases q2
    · have q := same q2; subst q; exact ⟨rfl, rfl, rfl, .inl rfl⟩
end
/- A hall's memory as one thing: its box, its vault, its seats' deeds. -/
section
open Go.RowKit

/-- Things as one thing. -/
def ManyT (os : List Thing) : Thing where
  holds B w F := ZooF B w os F
  kp := fun h hk hS => ZooF.kp hk h hS
  lo := fun h => h.lo
  base := fun h hC => ZooF.base hC h
theorem zoof_app {B : Nat} {w : World} : ∀ {us vs : List Thing} {X : List Nat}, ZooF B w (us ++ vs) X → ∃ F Y, ZooF B w us F ∧ ZooF B w vs Y ∧ (∀ x, x ∈ F → x ∉ Y) ∧ X = F ++ Y
  | [], vs, X, h => ⟨[], X, rfl, h, fun _ hx => by simp at hx, rfl⟩
  | o :: us, vs, X, ⟨F, Y, h1, h2, h3, e⟩ => by
    obtain ⟨F1, Y1, k1, k2, k3, rfl⟩ := zoof_app h2
    refine ⟨F ++ F1, Y1, ⟨F, F1, h1, k1, fun x hx hy => h3 x hx (by simp [hy]), rfl⟩, k2, fun x hx hy => ?_, by rw [e, List.append_assoc]⟩
    rcases List.mem_append.1 hx with q | q
    · exact h3 x q (by simp [hy])
    · exact k3 x q hy
theorem zoof_join {B : Nat} {w : World} : ∀ {us vs : List Thing} {F Y : List Nat}, ZooF B w us F → ZooF B w vs Y → (∀ x, x ∈ F → x ∉ Y) → ZooF B w (us ++ vs) (F ++ Y)
  | [], vs, F, Y, h1, h2, _ => by rw [show F = [] from h1]; exact h2
  | o :: us, vs, F, Y, ⟨F1, F2, h1, h2, h3, e⟩, k, hd => by
    subst e
    refine ⟨F1, F2 ++ Y, h1, zoof_join h2 k (fun x hx => hd x (by simp [hx])), fun x hx hy => ?_, by rw [List.append_assoc]⟩
    rcases List.mem_append.1 hy with q | q
    · exact h3 x hx q
    · exact hd x (by simp [hx]) q
section
variable {w0 w w' : World} {os us r : List Thing}
theorem many_open (h : Zoo w0 w (ManyT os :: r)) : Zoo w0 w (os ++ r) := by
  obtain ⟨X, ⟨F, Y, h1, h2, h3, rfl⟩, hk⟩ := h
  exact ⟨F ++ Y, zoof_join h1 h2 h3, hk⟩
theorem many_close (h : Zoo w0 w (os ++ r)) : Zoo w0 w (ManyT os :: r) := by
  obtain ⟨X, h1, hk⟩ := h
  obtain ⟨F, Y, k1, k2, k3, rfl⟩ := zoof_app h1
  exact ⟨F ++ Y, ⟨F, Y, k1, k2, k3, rfl⟩, hk⟩
end

/-- A seat's deed in memory: its block, and what it is; none. -/
abbrev Sd := Option (Nat × Dp)
def OptT : Sd → Thing
  | none => ManyT []
  | some x => BoxT x.1 (dcells x.2.md x.2.y (ncell x.2.rs x.2.ws)) 162
def sp (o : Sd) : Value := .pointer (o.map fun x => ⟨x.1, 0, none⟩)
def hcells (vb : Nat) (st : Nat → Sd) : Array Value := #[.pointer (some ⟨vb, 0, none⟩), sp (st 0), sp (st 1), sp (st 2), sp (st 3), sp (st 4)]
def seats (st : Nat → Sd) : List Thing := [OptT (st 0), OptT (st 1), OptT (st 2), OptT (st 3), OptT (st 4)]
def Sts (st : Nat → Sd) (seat : Nat → Option Dp) : Prop := ∀ s, (st s).map Prod.snd = seat s
/-- The things of a hall. -/
def hth (hb vb tb gb : Nat) (h : HSt) (st : Nat → Sd) : List Thing := BoxT hb (hcells vb st) 59 :: VltT vb tb gb h.f h.n h.cs [] :: seats st
def HalT (hb : Nat) (h : HSt) : Thing where
  holds B w F := ∃ vb tb gb st, Sts st h.seat ∧ HInv h ∧ ZooF B w (hth hb vb tb gb h st) F
  kp := fun ⟨vb, tb, gb, st, h1, h2, h3⟩ hk hS => ⟨vb, tb, gb, st, h1, h2, ZooF.kp hk h3 hS⟩
  lo := fun ⟨_, _, _, _, _, _, h⟩ => h.lo
  base := fun ⟨vb, tb, gb, st, h1, h2, h3⟩ hC => ⟨vb, tb, gb, st, h1, h2, ZooF.base hC h3⟩
/-- A hall among things, its parts known. -/
def Hall (w0 w : World) (hb vb tb gb : Nat) (h : HSt) (st : Nat → Sd) (r : List Thing) : Prop := Zoo w0 w (BoxT hb (hcells vb st) 59 :: VltT vb tb gb h.f h.n h.cs [] :: (seats st ++ r))

section
variable {w0 w w' : World} {hb vb tb gb : Nat} {h h' : HSt} {st : Nat → Sd} {r : List Thing}
theorem hal_open (hz : Zoo w0 w (HalT hb h :: r)) : ∃ vb tb gb st, Sts st h.seat ∧ HInv h ∧ Hall w0 w hb vb tb gb h st r := by
  obtain ⟨X, ⟨F, Y, ⟨vb, tb, gb, st, h1, h2, k⟩, h4, h5, rfl⟩, hk⟩ := hz
  exact ⟨vb, tb, gb, st, h1, h2, F ++ Y, zoof_join k h4 h5, hk⟩
theorem hal_close (hs : Sts st h.seat) (hi : HInv h) (hz : Hall w0 w hb vb tb gb h st r) : Zoo w0 w (HalT hb h :: r) := by
  obtain ⟨X, h1, hk⟩ := hz
  obtain ⟨F, Y, k1, k2, k3, rfl⟩ := zoof_app (us := hth hb vb tb gb h st) (vs := r) h1
  exact ⟨F ++ Y, ⟨F, Y, ⟨vb, tb, gb, st, hs, hi, k1⟩, k2, k3, rfl⟩, hk⟩
theorem Hall.kp0 (hz : Hall w0 w hb vb tb gb h st r) (hk : Kp [] w w') : Hall w0 w' hb vb tb gb h st r := Zoo.kp0 hz hk
theorem Hall.vlt (hz : Hall w0 w hb vb tb gb h st r) : Zoo w0 w (VltT vb tb gb h.f h.n h.cs [] :: BoxT hb (hcells vb st) 59 :: (seats st ++ r)) := zoo_swap hz
theorem Hall.of_vlt {vb : Nat} {f : Nat → List Ver} {n : Nat} {cs : List (List Ver)} {seat : Nat → Option Dp} (hz : Zoo w0 w (VltT vb tb gb f n cs [] :: BoxT hb (hcells vb st) 59 :: (seats st ++ r))) : Hall w0 w hb vb tb gb ⟨f, n, cs, seat⟩ st r := zoo_swap hz
theorem Hall.box (hz : Hall w0 w hb vb tb gb h st r) : w.heap[hb]? = some (.cells (hcells vb st) 59 (0, 0)) := Zoo.var hz
theorem Hall.c0 (hz : Hall w0 w hb vb tb gb h st r) : w.cell? ⟨hb, 0, none⟩ = some (.pointer (some ⟨vb, 0, none⟩)) := cell_of_block hz.box rfl
theorem hcells_at (vb : Nat) (st : Nat → Sd) {s : Nat} (hs : s < 5) : (hcells vb st)[1 + s]? = some (sp (st s)) := by
  rcases (show s = 0 ∨ s = 1 ∨ s = 2 ∨ s = 3 ∨ s = 4 by omega) with e | e | e | e | e <;> subst e <;> rfl
theorem Hall.cs_ (hz : Hall w0 w hb vb tb gb h st r) {s : Nat} (hs : s < 5) : w.cell? ⟨hb, 1 + s, none⟩ = some (sp (st s)) := cell_of_block hz.box (hcells_at vb st hs)
theorem Hall.fz (hz : Hall w0 w hb vb tb gb h st r) (i : Nat) : w.frozen? ⟨hb, i, none⟩ = false := frozen_of_block i hz.box
theorem Hall.lt (hz : Hall w0 w hb vb tb gb h st r) : hb < w.heap.size := lt_of_block hz.box
theorem Hall.v0 (hz : Hall w0 w hb vb tb gb h st r) : w.cell? ⟨vb, 0, none⟩ = some (.pointer (some ⟨tb, 0, none⟩)) := by
  obtain ⟨F, ⟨Ft, Fg, k⟩, _⟩ := zoo_at1 hz
  exact k.c0
theorem Hall.vlt_ (hz : Hall w0 w hb vb tb gb h st r) : vb < w.heap.size := by
  obtain ⟨F, ⟨Ft, Fg, k⟩, _⟩ := zoo_at1 hz
  exact (k.lo vb k.vF).2
theorem Hall.base (hz : Hall w0 w hb vb tb gb h st r) : w0.heap.size ≤ w.heap.size := Zoo.base hz
/-- The seats' things, one of them at its place. -/
theorem seats_at (st : Nat → Sd) {s : Nat} (hs : s < 5) : ∃ l1 l2, seats st = l1 ++ OptT (st s) :: l2 ∧ ∀ d, seats (upd st s d) = l1 ++ OptT d :: l2 := by
  rcases (show s = 0 ∨ s = 1 ∨ s = 2 ∨ s = 3 ∨ s = 4 by omega) with e | e | e | e | e <;> subst e
  · exact ⟨[], [OptT (st 1), OptT (st 2), OptT (st 3), OptT (st 4)], rfl, fun d => by simp [seats, upd]⟩
  · exact ⟨[OptT (st 0)], [OptT (st 2), OptT (st 3), OptT (st 4)], rfl, fun d => by simp [seats, upd]⟩
  · exact ⟨[OptT (st 0), OptT (st 1)], [OptT (st 3), OptT (st 4)], rfl, fun d => by simp [seats, upd]⟩
  · exact ⟨[OptT (st 0), OptT (st 1), OptT (st 2)], [OptT (st 4)], rfl, fun d => by simp [seats, upd]⟩
  · exact ⟨[OptT (st 0), OptT (st 1), OptT (st 2), OptT (st 3)], [], rfl, fun d => by simp [seats, upd]⟩
/-- A seat's deed, moved to the head: behind the vault; and back, another one in its place, the box as it was. -/
theorem Hall.out (hz : Hall w0 w hb vb tb gb h st r) {s : Nat} (hs : s < 5) : ∃ rest, Zoo w0 w (VltT vb tb gb h.f h.n h.cs [] :: OptT (st s) :: rest) ∧
    ∀ (w' : World) (tb' : Nat) (f : Nat → List Ver) (n : Nat) (cs : List (List Ver)) (d : Sd) (seat : Nat → Option Dp), sp d = sp (st s) → Zoo w0 w' (VltT vb tb' gb f n cs [] :: OptT d :: rest) → Hall w0 w' hb vb tb' gb ⟨f, n, cs, seat⟩ (upd st s d) r := by
  obtain ⟨l1, l2, e1, e2⟩ := seats_at st hs
  have hc : ∀ d, sp d = sp (st s) → hcells vb (upd st s d) = hcells vb st := fun d hd => by
    rcases (show s = 0 ∨ s = 1 ∨ s = 2 ∨ s = 3 ∨ s = 4 by omega) with e | e | e | e | e <;> subst e <;> simp [hcells, upd, hd]
  refine ⟨BoxT hb (hcells vb st) 59 :: (l1 ++ (l2 ++ r)), ?_, fun w' tb' f n cs d seat hd hz' => ?_⟩
  · have h1 := Hall.vlt hz
    rw [e1, List.append_assoc] at h1
    refine h1.perm (List.Perm.cons _ ?_)
    exact (List.perm_middle (l₁ := BoxT hb (hcells vb st) 59 :: l1))
  · refine Hall.of_vlt ?_
    rw [e2, hc d hd, List.append_assoc]
    refine hz'.perm (List.Perm.cons _ ?_)
    exact (List.perm_middle (l₁ := BoxT hb (hcells vb st) 59 :: l1)).symm
theorem Hall.out2 (hz : Hall w0 w hb vb tb gb h st r) {s : Nat} (hs : s < 5) : ∃ rest, Zoo w0 w (VltT vb tb gb h.f h.n h.cs [] :: OptT (st s) :: rest) ∧
    ∀ (w' : World) (tb' : Nat) (f : Nat → List Ver) (n : Nat) (cs : List (List Ver)) (d : Sd) (P : Thing) (seat : Nat → Option Dp), sp d = sp (st s) → Zoo w0 w' (VltT vb tb' gb f n cs [] :: OptT d :: P :: rest) → Hall w0 w' hb vb tb' gb ⟨f, n, cs, seat⟩ (upd st s d) (P :: r) := by
  obtain ⟨l1, l2, e1, e2⟩ := seats_at st hs
  have hc : ∀ d, sp d = sp (st s) → hcells vb (upd st s d) = hcells vb st := fun d hd => by
    rcases (show s = 0 ∨ s = 1 ∨ s = 2 ∨ s = 3 ∨ s = 4 by omega) with e | e | e | e | e <;> subst e <;> simp [hcells, upd, hd]
  refine ⟨BoxT hb (hcells vb st) 59 :: (l1 ++ (l2 ++ r)), ?_, fun w' tb' f n cs d P seat hd hz' => ?_⟩
  · have h1 := Hall.vlt hz
    rw [e1, List.append_assoc] at h1
    refine h1.perm (List.Perm.cons _ ?_)
    exact (List.perm_middle (l₁ := BoxT hb (hcells vb st) 59 :: l1))
  · refine Hall.of_vlt ?_
    rw [e2, hc d hd, List.append_assoc]
    refine hz'.perm (List.Perm.cons _ ?_)
    have p1 := (List.perm_middle (l₁ := BoxT hb (hcells vb st) 59 :: l1) (a := OptT d) (l₂ := l2 ++ (P :: r))).symm
    refine List.Perm.trans (List.Perm.cons _ ?_) p1
    have p2 := (List.perm_middle (l₁ := BoxT hb (hcells vb st) 59 :: (l1 ++ l2)) (a := P) (l₂ := r)).symm
    have e3 : ∀ q : List Thing, BoxT hb (hcells vb st) 59 :: (l1 ++ (l2 ++ q)) = (BoxT hb (hcells vb st) 59 :: (l1 ++ l2)) ++ q := fun q => by simp
    show (P :: BoxT hb (hcells vb st) 59 :: (l1 ++ (l2 ++ r))).Perm (BoxT hb (hcells vb st) 59 :: (l1 ++ (l2 ++ (P :: r))))
    rw [e3, e3]
    exact p2
/-- A seat's cell is set, the deed that it had is let go. -/
theorem hcells_set (vb : Nat) (st : Nat → Sd) {s : Nat} (hs : s < 5) (d : Sd) : (hcells vb st).setIfInBounds (1 + s) (sp d) = hcells vb (upd st s d) := by
  rcases (show s = 0 ∨ s = 1 ∨ s = 2 ∨ s = 3 ∨ s = 4 by omega) with e | e | e | e | e <;> subst e <;> simp [hcells, upd]
theorem Hall.sit {s : Nat} (hs : s < 5) (d : Sd) (k : Zoo w0 w (BoxT hb (hcells vb st) 59 :: VltT vb tb gb h.f h.n h.cs [] :: (seats (upd st s d) ++ r))) :
    Hall w0 (w.setCell ⟨hb, 1 + s, none⟩ (sp d)) hb vb tb gb h (upd st s d) r := by
  obtain ⟨F, ⟨hbx, h2, h3⟩, k2⟩ := zoo_at0 k
  refine k2 _ _ ⟨F, ⟨?_, h2, h3⟩, ?_, fun x hx => .inl hx⟩
  · rw [heap_setCell_at _ _ hbx, hcells_set vb st hs d]
  · rw [h2]
    exact (Kp.refl [hb] w).setCell (.inl (by simp)) _
theorem opt_none (hz : Zoo w0 w r) : Zoo w0 w (OptT none :: r) := many_close (os := []) hz
theorem Hall.leave (hz : Hall w0 w hb vb tb gb h st r) {s : Nat} (hs : s < 5) : Hall w0 (w.setCell ⟨hb, 1 + s, none⟩ (.pointer none)) hb vb tb gb h (upd st s none) (OptT (st s) :: r) := by
  obtain ⟨l1, l2, e1, e2⟩ := seats_at st hs
  generalize hA : BoxT hb (hcells vb st) 59 :: VltT vb tb gb h.f h.n h.cs [] :: l1 = A
  have h1 : Zoo w0 w (A ++ OptT (st s) :: (l2 ++ r)) := by
    have := hz
    unfold Hall at this
    rw [e1, List.append_assoc] at this
    rw [← hA]
    exact this
  have h2 := (opt_none h1).perm ((List.Perm.cons _ List.perm_middle).trans (List.Perm.swap _ _ _))
  have h3 := h2.perm (List.Perm.cons _ (List.perm_middle (l₁ := A)).symm)
  have h4 : Zoo w0 w (OptT (st s) :: ((A ++ OptT none :: l2) ++ r)) := by rw [List.append_assoc]; exact h3
  have h5 := h4.perm (List.perm_middle (l₁ := A ++ OptT none :: l2)).symm
  have h6 : Zoo w0 w (BoxT hb (hcells vb st) 59 :: VltT vb tb gb h.f h.n h.cs [] :: (seats (upd st s none) ++ (OptT (st s) :: r))) := by
    rw [e2]
    rw [← hA] at h5
    exact h5
  exact Hall.sit hs none h6
/-- A new deed at an empty seat: it lies at the head of the others. -/
theorem Hall.join {d : Sd} (hz : Zoo w0 w (VltT vb tb gb h.f h.n h.cs [] :: OptT d :: BoxT hb (hcells vb st) 59 :: (seats st ++ r))) {s : Nat} (hs : s < 5) (hn : st s = none) : Hall w0 (w.setCell ⟨hb, 1 + s, none⟩ (sp d)) hb vb tb gb h (upd st s d) r := by
  obtain ⟨l1, l2, e1, e2⟩ := seats_at st hs
  refine Hall.sit (h := h) (st := st) hs d ?_
  rw [e1, hn, List.append_assoc] at hz
  have h1 : Zoo w0 w ((VltT vb tb gb h.f h.n h.cs [] :: OptT d :: BoxT hb (hcells vb st) 59 :: l1) ++ OptT none :: (l2 ++ r)) := hz
  have h2 := h1.drop_
  rw [e2, List.append_assoc]
  refine h2.perm ?_
  have p1 : (VltT vb tb gb h.f h.n h.cs [] :: OptT d :: BoxT hb (hcells vb st) 59 :: (l1 ++ (l2 ++ r))).Perm (BoxT hb (hcells vb st) 59 :: VltT vb tb gb h.f h.n h.cs [] :: OptT d :: (l1 ++ (l2 ++ r))) := List.perm_middle (l₁ := [VltT vb tb gb h.f h.n h.cs [], OptT d])
  exact p1.trans (List.Perm.cons _ (List.Perm.cons _ List.perm_middle.symm))
/-- All deeds are let go. -/
theorem Hall.leaveAll (hz : Hall w0 w hb vb tb gb h st r) (hb' : w'.heap[hb]? = some (.cells (hcells vb (fun _ => none)) 59 (0, 0))) (hk : Kp [hb] w w') : Hall w0 w' hb vb tb gb ⟨h.f, h.n, h.cs, fun _ => none⟩ (fun _ => none) r := by
  have h1 : Zoo w0 w ((BoxT hb (hcells vb st) 59 :: VltT vb tb gb h.f h.n h.cs [] :: seats st) ++ r) := hz
  have h2 : Zoo w0 w (BoxT hb (hcells vb st) 59 :: VltT vb tb gb h.f h.n h.cs [] :: r) := by
    have h5 : Zoo w0 w (seats st ++ (BoxT hb (hcells vb st) 59 :: VltT vb tb gb h.f h.n h.cs [] :: r)) := by
      refine h1.perm ?_
      have p : ((BoxT hb (hcells vb st) 59 :: VltT vb tb gb h.f h.n h.cs [] :: seats st) ++ r).Perm ((seats st ++ [BoxT hb (hcells vb st) 59, VltT vb tb gb h.f h.n h.cs []]) ++ r) := (List.perm_append_comm (l₁ := [BoxT hb (hcells vb st) 59, VltT vb tb gb h.f h.n h.cs []]) (l₂ := seats st)).append_right r
      rw [List.append_assoc] at p
      exact p
    exact (many_close h5).tail
  obtain ⟨F, ⟨hbx, e2, e3⟩, k2⟩ := zoo_at0 h2
  have h4 : Zoo w0 w' (BoxT hb (hcells vb (fun _ => none)) 59 :: VltT vb tb gb h.f h.n h.cs [] :: r) := k2 _ _ ⟨F, ⟨hb', e2, e3⟩, by rw [e2]; exact hk, fun x hx => .inl hx⟩
  have h6 := opt_none (opt_none (opt_none (opt_none (opt_none h4))))
  exact h6.perm ((List.perm_append_comm (l₁ := seats (fun _ => none)) (l₂ := [BoxT hb (hcells vb (fun _ => none)) 59, VltT vb tb gb h.f h.n h.cs []])).append_right r)
/-- A seat's deed. -/
theorem Hall.ded (hz : Hall w0 w hb vb tb gb h st r) {s D : Nat} {d : Dp} (hs : s < 5) (hd : st s = some (D, d)) : Ded w D d.md d.y d.rs d.ws := by
  obtain ⟨rest, h1, _⟩ := hz.out hs
  rw [hd] at h1
  obtain ⟨F, h2, _⟩ := zoo_at1 h1
  exact h2.1
/-- Variables beside a hall. -/
theorem Hall.new (hz : Hall w0 w hb vb tb gb h st r) (c : Array Value) (T : TypeId) : Hall w0 (w.alloc (.cells c T)) hb vb tb gb h st (BoxT w.heap.size c T :: r) := by
  have h1 := Zoo.box hz c T
  exact h1.perm (List.perm_middle (l₁ := BoxT hb (hcells vb st) 59 :: VltT vb tb gb h.f h.n h.cs [] :: seats st)).symm
theorem Hall.two (hz : Hall w0 w hb vb tb gb h st r) (c : Array Value) (T : TypeId) (c2 : Array Value) (T2 : TypeId) : Hall w0 ((w.alloc (.cells c T)).alloc (.cells c2 T2)) hb vb tb gb h st (BoxT (w.heap.size + 1) c2 T2 :: BoxT w.heap.size c T :: r) := by
  have h1 := (hz.new c T).new c2 T2
  rw [show (w.alloc (.cells c T)).heap.size = w.heap.size + 1 by simp] at h1
  exact h1
theorem Hall.perm {r' : List Thing} (hz : Hall w0 w hb vb tb gb h st r) (hp : r.Perm r') : Hall w0 w hb vb tb gb h st r' := Zoo.perm hz (List.Perm.cons _ (List.Perm.cons _ (List.Perm.append_left _ hp)))
theorem Hall.var {p : Nat} {c : Array Value} {T : TypeId} (hz : Hall w0 w hb vb tb gb h st r) (hm : BoxT p c T ∈ r) : w.heap[p]? = some (.cells c T (0, 0)) := zoo_varm hz (by simp [hm])
/-- A thing beside a hall, and what a call on it may do. -/
theorem Hall.at_ {l1 l2 : List Thing} {o : Thing} (hz : Hall w0 w hb vb tb gb h st (l1 ++ o :: l2)) : ∃ F, o.holds w0.heap.size w F ∧ ∀ (o' : Thing) (w' : World), Ch o' w0.heap.size w F w' → Hall w0 w' hb vb tb gb h st (l1 ++ o' :: l2) := by
  have hz' : Zoo w0 w ((BoxT hb (hcells vb st) 59 :: VltT vb tb gb h.f h.n h.cs [] :: (seats st ++ l1)) ++ o :: l2) := by
    have := hz
    unfold Hall at this
    rw [← List.append_assoc] at this
    exact this
  obtain ⟨F, h1, h2⟩ := hz'.at_
  refine ⟨F, h1, fun o' w' hc => ?_⟩
  have := h2 o' w' hc
  unfold Hall
  rw [← List.append_assoc]
  exact this
theorem Hall.drop {l1 l2 : List Thing} {o : Thing} (hz : Hall w0 w hb vb tb gb h st (l1 ++ o :: l2)) : Hall w0 w hb vb tb gb h st (l1 ++ l2) := by
  have h1 : Hall w0 w hb vb tb gb h st (o :: (l1 ++ l2)) := hz.perm List.perm_middle
  exact Zoo.drop_ (l1 := BoxT hb (hcells vb st) 59 :: VltT vb tb gb h.f h.n h.cs [] :: seats st) h1
theorem Hall.tail {o : Thing} (hz : Hall w0 w hb vb tb gb h st (o :: r)) : Hall w0 w hb vb tb gb h st r := Hall.drop (l1 := []) hz
theorem Hall.setAt {l1 l2 : List Thing} {p : Nat} {c : Array Value} {T : TypeId} (hz : Hall w0 w hb vb tb gb h st (l1 ++ BoxT p c T :: l2)) (i : Nat) (v : Value) : Hall w0 (w.setCell ⟨p, i, none⟩ v) hb vb tb gb h st (l1 ++ BoxT p (c.setIfInBounds i v) T :: l2) := by
  obtain ⟨F, ⟨hbx, h2, h3⟩, k2⟩ := hz.at_
  exact k2 _ _ ⟨F, ⟨heap_setCell_at _ _ hbx, h2, h3⟩, by rw [h2]; exact (Kp.refl [p] w).setCell (.inl (by simp)) _, fun x hx => .inl hx⟩
theorem Hall.set0 {p : Nat} {c : Array Value} {T : TypeId} (hz : Hall w0 w hb vb tb gb h st (BoxT p c T :: r)) (i : Nat) (v : Value) : Hall w0 (w.setCell ⟨p, i, none⟩ v) hb vb tb gb h st (BoxT p (c.setIfInBounds i v) T :: r) := Hall.setAt (l1 := []) hz i v
/-- Two variables beside a hall are two. -/
theorem Hall.ne2 {p p2 : Nat} {c c2 : Array Value} {T T2 : TypeId} (hz : Hall w0 w hb vb tb gb h st (BoxT p c T :: BoxT p2 c2 T2 :: r)) : p ≠ p2 := by
  obtain ⟨X, ⟨F0, Y0, _, ⟨F1, Y1, _, k, _, _⟩, _, _⟩, _⟩ := hz
  obtain ⟨F, Y, k1, ⟨F2, Y2, h2, ⟨F3, Y3, h3, k3, _, e3⟩, hd, e2⟩, _, _⟩ := zoof_app k
  intro e
  subst e
  exact hd p (by rw [h2.2.1]; simp) (by rw [e3, h3.2.1]; simp)
end
end
/- A hall's small functions, by their contracts: Seat, Deed, Busy, find, leaveAll, Least, New. -/
section
open Go.RowKit
attribute [local go_sem ↓] Go.wp_at_zero Go.wp_at_succ

set_option maxHeartbeats 400000 in
theorem hseat (k : Int) (w : World) : Calls Tryz.prog 129 #[.int .i64 k] w fun e w' => e = .returned (.bool (seatB k)) ∧ w' = w := by
  go_enter Tryz.func129, Tryz.ntmps129
  go_wp2
  all_goals
    go_ret
    exact ⟨ret_bool (by simp [seatB]; omega), rfl⟩

/-- A seat's deed; none where there is no such seat. -/
def dat (st : Nat → Sd) (s : Int) : Sd := if 0 ≤ s ∧ s < 5 then st s.toNat else none
theorem dat_in {st : Nat → Sd} {j : Nat} (hj : j < 5) : dat st (j : Int) = st j := by unfold dat; rw [if_pos (by omega), Int.toNat_natCast]
theorem dat_out {st : Nat → Sd} {s : Int} (hs : ¬ (0 ≤ s ∧ s < 5)) : dat st s = none := if_neg hs
theorem seat_in {s : Int} (hs : 0 ≤ s ∧ s < 5) : ∃ j : Nat, s = (j : Int) ∧ j < 5 := ⟨s.toNat, by omega, by omega⟩

section
variable {w0 w : World} {hb vb tb gb : Nat} {h : HSt} {st : Nat → Sd} {r : List Thing}
set_option maxHeartbeats 400000 in
theorem h_deed (s : Int) (hz : Hall w0 w hb vb tb gb h st r) : Calls Tryz.prog 164 #[.pointer (some ⟨hb, 0, none⟩), .int .i64 s] w fun e w' => e = .returned (sp (dat st s)) ∧ w' = w := by
  by_cases hs : 0 ≤ s ∧ s < 5
  · obtain ⟨j, rfl, hj⟩ := seat_in hs
    have hsb : seatB (j : Int) = true := decide_eq_true hs
    have i0 : (0 : Int) ≤ (j : Int) := by omega
    have i5 : (j : Int) < 5 := by omega
    have c1 := hz.cs_ hj
    rw [dat_in hj]
    clear hz
    generalize sp (st j) = o at *
    go_enter Tryz.func164, Tryz.ntmps164
    go_wp2_with fail
    refine (hseat (j : Int) _).mono ?_
    rintro e w' ⟨rfl, hw'⟩
    subst w'
    rw [hsb]
    go_wp2_with fail
    go_ret
    exact ⟨rfl, rfl⟩
  · have hsb : seatB s = false := decide_eq_false hs
    rw [dat_out hs]
    clear hz
    go_enter Tryz.func164, Tryz.ntmps164
    go_wp2_with fail
    refine (hseat s _).mono ?_
    rintro e w' ⟨rfl, hw'⟩
    subst w'
    rw [hsb]
    go_wp2_with fail
    go_ret
    exact ⟨rfl, rfl⟩
set_option maxHeartbeats 400000 in
theorem h_busy (s : Int) (hz : Hall w0 w hb vb tb gb h st r) : Calls Tryz.prog 130 #[.pointer (some ⟨hb, 0, none⟩), .int .i64 s] w fun e w' => e = .returned (.bool (dat st s).isSome) ∧ w' = w := by
  have HD := hide (h_deed s hz)
  clear hz
  cases ho : dat st s with
  | none =>
    rw [ho] at HD
    go_enter Tryz.func130, Tryz.ntmps130
    go_wp2_with fail
    refine (unhide HD).mono ?_
    rintro e w' ⟨rfl, hw'⟩
    subst w'
    rw [show sp none = .pointer none from rfl]
    go_wp2_with fail
    go_ret
    exact ⟨rfl, rfl⟩
  | some x =>
    rw [ho] at HD
    go_enter Tryz.func130, Tryz.ntmps130
    go_wp2_with fail
    refine (unhide HD).mono ?_
    rintro e w' ⟨rfl, hw'⟩
    subst w'
    rw [show sp (some x) = .pointer (some ⟨x.1, 0, none⟩) from rfl]
    go_wp2_with fail
    go_ret
    exact ⟨rfl, rfl⟩
/-- find: the seat's deed, or why there is none. -/
def fcode (st : Nat → Sd) (s : Int) : Int := if 0 ≤ s ∧ s < 5 then (if (st s.toNat).isSome = true then 0 else 7) else 1
set_option maxHeartbeats 400000 in
theorem h_find (s : Int) (hz : Hall w0 w hb vb tb gb h st r) : Calls Tryz.prog 132 #[.pointer (some ⟨hb, 0, none⟩), .int .i64 s] w fun e w' => e = .returned (.tuple #[sp (dat st s), .int .i64 (fcode st s)]) ∧ w' = w := by
  have HB := hide (h_busy s hz)
  by_cases hs : 0 ≤ s ∧ s < 5
  · obtain ⟨j, rfl, hj⟩ := seat_in hs
    have hsb : seatB (j : Int) = true := decide_eq_true hs
    have i0 : (0 : Int) ≤ (j : Int) := by omega
    have i5 : (j : Int) < 5 := by omega
    have c1 := hz.cs_ hj
    rw [dat_in hj] at HB ⊢
    have hf : fcode st (j : Int) = if (st j).isSome = true then 0 else 7 := by unfold fcode; rw [if_pos hs, Int.toNat_natCast]
    rw [hf]
    clear hz hf
    generalize st j = o at *
    cases o with
    | none =>
      go_enter Tryz.func132, Tryz.ntmps132
      go_wp2_with fail
      refine (hseat (j : Int) _).mono ?_
      rintro e w' ⟨rfl, hw'⟩
      subst w'
      rw [hsb]
      go_wp2_with fail
      refine (unhide HB).mono ?_
      rintro e w' ⟨rfl, hw'⟩
      subst w'
      rw [show Option.isSome (none : Sd) = false from rfl]
      go_wp2_with fail
      go_ret2
      exact ⟨rfl, rfl⟩
    | some x =>
      go_enter Tryz.func132, Tryz.ntmps132
      go_wp2_with fail
      refine (hseat (j : Int) _).mono ?_
      rintro e w' ⟨rfl, hw'⟩
      subst w'
      rw [hsb]
      go_wp2_with fail
      refine (unhide HB).mono ?_
      rintro e w' ⟨rfl, hw'⟩
      subst w'
      rw [show Option.isSome (some x) = true from rfl]
      go_wp2_with fail
      go_ret2
      exact ⟨rfl, rfl⟩
  · have hsb : seatB s = false := decide_eq_false hs
    have hf : fcode st s = 1 := by unfold fcode; rw [if_neg hs]
    rw [dat_out hs, hf]
    clear hz HB hf
    go_enter Tryz.func132, Tryz.ntmps132
    go_wp2_with fail
    refine (hseat s _).mono ?_
    rintro e w' ⟨rfl, hw'⟩
    subst w'
    rw [hsb]
    go_wp2_with fail
    go_ret2
    exact ⟨rfl, rfl⟩
set_option maxHeartbeats 400000 in
theorem h_leaveAll (hz : Hall w0 w hb vb tb gb h st r) : Calls Tryz.prog 89 #[.pointer (some ⟨hb, 0, none⟩)] w fun e w' => e = .returned (.tuple #[]) ∧ Hid (Hall w0 w' hb vb tb gb ⟨h.f, h.n, h.cs, fun _ => none⟩ (fun _ => none) r) := by
  have hbx := hz.box
  have c1 := hz.cs_ (s := 0) (by omega)
  have c2 := hz.cs_ (s := 1) (by omega)
  have c3 := hz.cs_ (s := 2) (by omega)
  have c4 := hz.cs_ (s := 3) (by omega)
  have c5 := hz.cs_ (s := 4) (by omega)
  have f1 := hz.fz 1
  have f2 := hz.fz 2
  have f3 := hz.fz 3
  have f4 := hz.fz 4
  have f5 := hz.fz 5
  have HZ := hide hz
  clear hz
  go_enter Tryz.func89, Tryz.ntmps89
  go_wp2_with fail
  go_end0
  refine ⟨rfl, (unhide HZ).leaveAll ?_ ?_⟩
  · rw [heap_setCell_at _ _ (heap_setCell_at _ _ (heap_setCell_at _ _ (heap_setCell_at _ _ (heap_setCell_at _ _ hbx))))]
    rfl
  · exact (((((Kp.refl [hb] w).setCell (.inl (by simp)) _).setCell (.inl (by simp)) _).setCell (.inl (by simp)) _).setCell (.inl (by simp)) _).setCell (.inl (by simp)) _
theorem run_index5 (w : World) (cs : Array Value) (k : Nat) (v : Value) (hk : k < 5) (hv : cs[k]? = some v) :
    (Instr.index 57 (.agg cs) (.int .i64 (k : Int))).run Tryz.prog w = .ok v w := by
  have hn : (k : Int) < 5 := by omega
  simp [Instr.index, run_underlying Tryz.underlying57, asIntOf, hk, hv, go_sem]
theorem parr5 (st : Nat → Sd) : ∃ A : Array Value, #[sp (st 0), sp (st 1), sp (st 2), sp (st 3), sp (st 4)] = A ∧ ∀ k, k < 5 → A[k]? = some (sp (st k)) := by
  refine ⟨_, rfl, fun k hk => ?_⟩
  rcases (show k = 0 ∨ k = 1 ∨ k = 2 ∨ k = 3 ∨ k = 4 by omega) with e | e | e | e | e <;> subst e <;> rfl
set_option maxHeartbeats 1000000 in
theorem h_least (hs : Sts st h.seat) (hz : Hall w0 w hb vb tb gb h st r) : Calls Tryz.prog 28 #[.pointer (some ⟨hb, 0, none⟩)] w fun e w' => e = .returned (.int .i64 (least h.n h.seat 5)) ∧ w' = w := by
  have c0 := hz.c0
  have v0 := hz.v0
  have c1 := hz.cs_ (s := 0) (by omega)
  have c2 := hz.cs_ (s := 1) (by omega)
  have c3 := hz.cs_ (s := 2) (by omega)
  have c4 := hz.cs_ (s := 3) (by omega)
  have c5 := hz.cs_ (s := 4) (by omega)
  have HZ := hide hz
  clear hz
  go_enter Tryz.func28, Tryz.ntmps28
  go_wp2_with fail
  refine (l_last (unhide HZ).vlt).mono ?_
  rintro e w' ⟨rfl, hw'⟩
  subst w'
  go_wp2_with fail
  obtain ⟨A, hA, hAk⟩ := parr5 st
  rw [hA]
  clear hA c0 v0 c1 c2 c3 c4 c5
  go_loop [3, 18] (fun x i => ∃ k : Nat, k ≤ 5 ∧ x = .int .i64 (least h.n h.seat k) ∧ i = .int .i64 k) (fun _ i => 5 - (intOf i).toNat)
  case atStart => exact ⟨0, by omega, rfl, rfl⟩
  case round =>
    obtain ⟨k, hk, rfl, rfl⟩ := hrel
    by_cases hlt : k < 5
    · have i0 : (0 : Int) ≤ (k : Int) := by omega
      have i1 : (k : Int) < 5 := by omega
      have hk1 := hs k
      have HD := hide (fun D d (hd : st k = some (D, d)) => (unhide HZ).ded hlt hd)
      have hx0 := hAk k hlt
      have hls : least h.n h.seat (k + 1) = match h.seat k with | some d => if d.y < least h.n h.seat k then d.y else least h.n h.seat k | none => least h.n h.seat k := rfl
      have HLS := hide hls
      clear hls
      cases ho : st k with
      | none =>
        rw [ho] at hx0 hk1
        have hx := fun w => run_index5 w A k _ hlt hx0
        rw [show sp none = .pointer none from rfl] at hx
        have e1 : least h.n h.seat (k + 1) = least h.n h.seat k := by rw [unhide HLS, ← hk1]; rfl
        have E1 := hide e1
        clear e1 HLS hk1
        go_wp2_with fail
        exact ⟨⟨k + 1, by omega, by rw [unhide E1], by go_num⟩, by simp [intOf]; omega⟩
      | some xx =>
        obtain ⟨D, d⟩ := xx
        rw [ho] at hx0 hk1
        have hx := fun w => run_index5 w A k _ hlt hx0
        rw [show sp (some (D, d)) = .pointer (some ⟨D, 0, none⟩) from rfl] at hx
        have e1 : least h.n h.seat (k + 1) = if d.y < least h.n h.seat k then d.y else least h.n h.seat k := by rw [unhide HLS, ← hk1]; rfl
        have E1 := hide e1
        have HD1 := hide (unhide HD D d ho)
        clear e1 HLS hk1 HD
        generalize least h.n h.seat k = z at *
        go_wp2_with fail
        refine (dat71 _ (unhide HD1)).mono ?_
        rintro e w' ⟨rfl, hw'⟩
        subst w'
        by_cases hlt2 : d.y < z
        · rw [if_pos hlt2] at E1
          go_wp2_with fail
          exact ⟨⟨k + 1, by omega, by rw [unhide E1], by go_num⟩, by simp [intOf]; omega⟩
        · rw [if_neg hlt2] at E1
          go_wp2_with fail
          exact ⟨⟨k + 1, by omega, by rw [unhide E1], by go_num⟩, by simp [intOf]; omega⟩
    · have e : k = 5 := by omega
      subst e
      go_wp2
      go_ret
      exact ⟨rfl, rfl⟩
end
set_option maxHeartbeats 1000000 in
theorem h_new (w : World) : Calls Tryz.prog 12 #[] w fun e w' => ∃ hb, e = .returned (.pointer (some ⟨hb, 0, none⟩)) ∧ ∃ F, (HalT hb ⟨fun _ => [dv], 0, [], fun _ => none⟩).holds w.heap.size w' F ∧ Kp [] w w' := by
  go_enter Tryz.func12, Tryz.ntmps12
  go_wp2_with fail
  refine (vnew w).mono ?_
  rintro e w1 ⟨vb, tb, gb, F, rfl, h1, k1⟩
  go_wp2_with fail
  go_ret
  have hz0 : Zoo w w1 [VltT vb tb gb (fun _ => [dv]) 0 [] []] := (zoo_nil (Kp.refl [] w)).cons h1 k1
  have hz1 := opt_none (opt_none (opt_none (opt_none (opt_none (hz0.box (hcells vb (fun _ => none)) 59)))))
  have hz2 : Hall w _ w1.heap.size vb tb gb ⟨fun _ => [dv], 0, [], fun _ => none⟩ (fun _ => none) [] := hz1.perm ((List.perm_append_comm (l₁ := seats (fun _ => none)) (l₂ := [BoxT w1.heap.size (hcells vb (fun _ => none)) 59, VltT vb tb gb (fun _ => [dv]) 0 [] []])).append_right [])
  have hz3 := hal_close (fun _ => rfl) hinv_new hz2
  obtain ⟨F', h5, _⟩ := zoo_at0 hz3
  exact ⟨_, rfl, F', h5, hz3.kp⟩
end
/- A row of pairs as a thing; the calls of a seat's deed, in a hall. -/
section
open Go.RowKit

/-- A row of pairs of one's own. -/
def PsT (a : Option Addr) (cap : Nat) (L : List Ver) : Thing where
  holds B w F := w.ownsRow B 106 3 (.slice a L.length cap) L.length (vcells L) ∧ F = ob a
  kp := fun ⟨h1, h2⟩ hk hS => ⟨own_kp h1 hk (fun g hg => hS g (by
    rw [h2]
    cases a with
    | none => simp [Value.ownBlock] at hg
    | some ad => simp [Value.ownBlock] at hg; simp [ob, hg])), h2⟩
  lo := fun ⟨h1, h2⟩ x hx => by
    rw [h2] at hx
    rcases h1.2 with ⟨hn, _⟩ | ⟨g, cap', cur, hv, h3, h4, h5⟩
    · simp only [Value.slice.injEq] at hn
      rw [hn.1] at hx
      simp [ob] at hx
    · simp only [Value.slice.injEq] at hv
      rw [hv.1] at hx
      simp [ob] at hx
      subst hx
      exact ⟨h3, lt_of_block h4⟩
  base := fun ⟨h1, h2⟩ hC => ⟨own_base h1 hC, h2⟩
theorem ps_nil {w0 w : World} {r : List Thing} (hz : Zoo w0 w r) : Zoo w0 w (PsT none 0 [] :: r) := by
  obtain ⟨X, h1, hk⟩ := hz
  exact ⟨X, ⟨[], X, ⟨World.ownsRow_nil _ _ _ _, rfl⟩, h1, fun _ hx => by simp at hx, rfl⟩, hk⟩

section
variable {w0 w : World} {vb tb gb : Nat} {f : Nat → List Ver} {n : Nat} {cs : List (List Ver)} {r : List Thing} {D : Nat} {md y : Int} {rs : List Int} {ws : List Ver}
theorem l_list (fr to_ : Int) (hz : Zoo w0 w (VltT vb tb gb f n cs [] :: BoxT D (dcells md y (ncell rs ws)) 162 :: r)) :
    Calls Tryz.prog 135 #[.pointer (some ⟨D, 0, none⟩), .pointer (some ⟨tb, 0, none⟩), .int .i64 fr, .int .i64 to_] w fun e w' => ∃ a cap, e = .returned (.tuple #[.slice a (dls f n y ws rs fr to_).1.length cap, .int .i64 (dls f n y ws rs fr to_).2.1]) ∧ Hid (Zoo w0 w' (VltT vb tb gb f n cs [] :: BoxT D (dcells md y (ncell (dls f n y ws rs fr to_).2.2 ws)) 162 :: PsT a cap (dls f n y ws rs fr to_).1 :: r)) := by
  have hz' := hz
  obtain ⟨X, ⟨Fv, Y, ⟨Ft, Fg, k1⟩, ⟨F, Z, ⟨h1, h2, h3⟩, _, _, e2⟩, hd, _⟩, _⟩ := hz'
  have hF : D ∉ Ft := fun hm => hd D (k1.tF D hm) (by rw [e2, h2]; simp)
  obtain ⟨F, ⟨h1, h2, h3⟩, k2⟩ := zoo_at1 hz
  refine (dlist59 fr to_ w k1.t h1 hF).mono ?_
  rintro e w' ⟨a, cap, rfl, ho, hd2, hk⟩
  refine ⟨a, cap, rfl, ?_⟩
  have hB : w0.heap.size ≤ w.heap.size := hz.kp.size
  have hlo : ∀ x ∈ ob a, w.heap.size ≤ x := fun x hx => by
    cases a with
    | none => simp [ob] at hx
    | some ad =>
      simp only [ob, List.mem_singleton] at hx
      subst hx
      exact own_ge ho rfl
  have h5 := k2 (ManyT [BoxT D (dcells md y (ncell (dls f n y ws rs fr to_).2.2 ws)) 162, PsT a cap (dls f n y ws rs fr to_).1]) w' ⟨F ++ (ob a ++ []), ⟨F, ob a ++ [], ⟨hd2, h2, h3⟩, ⟨ob a, [], ⟨own_base ho hB, rfl⟩, rfl, fun _ _ hy => by simp at hy, rfl⟩, fun x hx hy => ?_, rfl⟩, by rw [h2]; exact hk, fun x hx => ?_⟩
  · have h6 := h5.perm (List.Perm.swap _ _ _)
    have h7 := many_open h6
    exact h7.perm (List.perm_middle (l₁ := [BoxT D (dcells md y (ncell (dls f n y ws rs fr to_).2.2 ws)) 162, PsT a cap (dls f n y ws rs fr to_).1]))
  · rw [List.append_nil] at hy
    have := hlo x hy
    rw [h2] at hx
    rw [List.mem_singleton.1 hx] at this
    have := lt_of_block h1
    omega
  · rcases List.mem_append.1 hx with q | q
    · exact .inl q
    · rw [List.append_nil] at q
      exact .inr (hlo x q)
end

section
variable {w0 w : World} {hb vb tb gb : Nat} {h : HSt} {st : Nat → Sd} {r : List Thing} {s D : Nat} {d : Dp}
theorem h_get (k : Int) (hs : s < 5) (hd : st s = some (D, d)) (hz : Hall w0 w hb vb tb gb h st r) :
    Calls Tryz.prog 133 #[.pointer (some ⟨D, 0, none⟩), .pointer (some ⟨tb, 0, none⟩), .int .i64 k] w fun e w' => e = .returned (.tuple #[.agg #[.bool (dg h.f h.n d.y d.ws k).t, .string (dg h.f h.n d.y d.ws k).s], .int .i64 (dg h.f h.n d.y d.ws k).a]) ∧ Hid (Hall w0 w' hb vb tb gb h (upd st s (some (D, { d with rs := dr h.f h.n d.y d.rs d.ws k }))) r) := by
  obtain ⟨rest, h1, h2⟩ := hz.out hs
  rw [hd] at h1 h2
  refine (l_get k h1).mono ?_
  rintro e w' ⟨rfl, HZ⟩
  exact ⟨rfl, h2 w' tb h.f h.n h.cs (some (D, { d with rs := dr h.f h.n d.y d.rs d.ws k })) h.seat rfl (unhide HZ)⟩
theorem h_put (k : Int) (t : Bool) (b : ByteArray) (hsz : b.size ≤ maxLen) (hs : s < 5) (hd : st s = some (D, d)) (hz : Hall w0 w hb vb tb gb h st r) :
    Calls Tryz.prog 134 #[.pointer (some ⟨D, 0, none⟩), .int .i64 k, .agg #[.bool t, .string b]] w fun e w' => e = .returned (.int .i64 (dpc d.md k t b)) ∧ Hid (Hall w0 w' hb vb tb gb h (upd st s (some (D, { d with ws := dpw d.md d.ws k t b }))) r) := by
  obtain ⟨rest, h1, h2⟩ := hz.out hs
  rw [hd] at h1 h2
  refine (b_put1 k t b hsz h1).mono ?_
  rintro e w' ⟨rfl, HZ⟩
  exact ⟨rfl, h2 w' tb h.f h.n h.cs (some (D, { d with ws := dpw d.md d.ws k t b })) h.seat rfl (unhide HZ)⟩
theorem h_list (fr to_ : Int) (hs : s < 5) (hd : st s = some (D, d)) (hz : Hall w0 w hb vb tb gb h st r) :
    Calls Tryz.prog 135 #[.pointer (some ⟨D, 0, none⟩), .pointer (some ⟨tb, 0, none⟩), .int .i64 fr, .int .i64 to_] w fun e w' => ∃ a cap, e = .returned (.tuple #[.slice a (dls h.f h.n d.y d.ws d.rs fr to_).1.length cap, .int .i64 (dls h.f h.n d.y d.ws d.rs fr to_).2.1]) ∧ Hid (Hall w0 w' hb vb tb gb h (upd st s (some (D, { d with rs := (dls h.f h.n d.y d.ws d.rs fr to_).2.2 }))) (PsT a cap (dls h.f h.n d.y d.ws d.rs fr to_).1 :: r)) := by
  obtain ⟨rest, h1, h2⟩ := hz.out2 hs
  rw [hd] at h1 h2
  refine (l_list fr to_ h1).mono ?_
  rintro e w' ⟨a, cap, rfl, HZ⟩
  exact ⟨a, cap, rfl, h2 w' tb h.f h.n h.cs (some (D, { d with rs := (dls h.f h.n d.y d.ws d.rs fr to_).2.2 })) (PsT a cap (dls h.f h.n d.y d.ws d.rs fr to_).1) h.seat rfl (unhide HZ)⟩
theorem Hall.dedr (hz : Hall w0 w hb vb tb gb h st r) (hm : OptT (some (D, d)) ∈ r) : Ded w D d.md d.y d.rs d.ws := zoo_varm (p := D) hz (List.Mem.tail _ (List.Mem.tail _ (List.mem_append_right _ hm)))
theorem h_commit (hi : HInv h) (hw : WOk d.ws) (hm : OptT (some (D, d)) ∈ r) (hz : Hall w0 w hb vb tb gb h st r) :
    Calls Tryz.prog 136 #[.pointer (some ⟨vb, 0, none⟩), .pointer (some ⟨D, 0, none⟩)] w fun e w' => e = .returned (.tuple #[.int .i64 (vnum h.f h.n h.cs d.md d.y d.rs d.ws), .int .i64 (vcode h.f h.cs d.md d.y d.rs d.ws)]) ∧ Hid (Hall w0 w' hb vb tb gb ⟨vf h.f h.n h.cs d.md d.y d.rs d.ws, vn h.f h.n h.cs d.md d.y d.rs d.ws, vcs h.f h.cs d.md d.y d.rs d.ws, h.seat⟩ st r) := by
  refine (b_commit hi.vi (hz.dedr hm) hw hz.vlt).mono ?_
  rintro e w' ⟨rfl, HZ⟩
  exact ⟨rfl, Hall.of_vlt (unhide HZ)⟩
theorem h_tear (keep : Int) (hi : HInv h) (hw : WOk d.ws) (hm : OptT (some (D, d)) ∈ r) (hz : Hall w0 w hb vb tb gb h st r) :
    Calls Tryz.prog 137 #[.pointer (some ⟨vb, 0, none⟩), .pointer (some ⟨D, 0, none⟩), .int .i64 keep] w fun e w' => e = .returned (.tuple #[.int .i64 (tnum h.f h.cs d.md d.y d.rs d.ws keep), .int .i64 (vcode h.f h.cs d.md d.y d.rs d.ws)]) ∧ ∃ tb', Hid (Hall w0 w' hb vb tb' gb ⟨wal0 (tcs h.f h.cs d.md d.y d.rs d.ws keep), (tcs h.f h.cs d.md d.y d.rs d.ws keep).length, tcs h.f h.cs d.md d.y d.rs d.ws keep, h.seat⟩ st r) := by
  refine (b_tear keep hi.vi (hz.dedr hm) hw hz.vlt).mono ?_
  rintro e w' ⟨rfl, tb', HZ⟩
  exact ⟨rfl, tb', Hall.of_vlt (unhide HZ)⟩
theorem h_crash (hz : Hall w0 w hb vb tb gb h st r) :
    Calls Tryz.prog 88 #[.pointer (some ⟨vb, 0, none⟩)] w fun e w' => e = .returned (.tuple #[]) ∧ ∃ tb', Hid (Hall w0 w' hb vb tb' gb ⟨wal0 h.cs, h.cs.length, h.cs, h.seat⟩ st r) := by
  refine (b_crash hz.vlt).mono ?_
  rintro e w' ⟨rfl, tb', _, HZ⟩
  exact ⟨rfl, tb', Hall.of_vlt (unhide HZ)⟩
theorem h_clear (y : Int) (hz : Hall w0 w hb vb tb gb h st r) :
    Calls Tryz.prog 87 #[.pointer (some ⟨tb, 0, none⟩), .int .i64 y] w fun e w' => e = .returned (.int .i64 (cln h.f y 8 : Nat)) ∧ Hid (Hall w0 w' hb vb tb gb ⟨clm h.f y 8, h.n, h.cs, h.seat⟩ st r) := by
  obtain ⟨F, ⟨Ft, Fg, k⟩, k2⟩ := zoo_at0 hz.vlt
  refine (tclear46 y w k.t).mono ?_
  rintro e w' ⟨rfl, F', h1, h2, h3⟩
  exact ⟨rfl, Hall.of_vlt (k2 _ _ (k.table h1 h2 h3))⟩
theorem h_last (hz : Hall w0 w hb vb tb gb h st r) : Calls Tryz.prog 26 #[.pointer (some ⟨tb, 0, none⟩)] w fun e w' => e = .returned (.int .i64 h.n) ∧ w' = w := l_last hz.vlt
theorem h_first (hz : Hall w0 w hb vb tb gb h st r) : Calls Tryz.prog 27 #[.pointer (some ⟨tb, 0, none⟩)] w fun e w' => e = .returned (.int .i64 (fmx h.f 8)) ∧ w' = w := l_first hz.vlt
end
end
/- Plain words for halls: first come. -/
section
open Go.RowKit

theorem snc_sfx {f g : Nat → List Ver} (h : Sfx f g) {k : Nat} (hk : k < 8) : snc f k = snc g k := by
  obtain ⟨d, h1, h2⟩ := h k hk
  unfold snc
  rw [Int.toNat_natCast, h2, va_last_drop h1]
end
/- Plain words for halls: to forget changes nothing that is seen. -/
section
open Go.RowKit

section
variable {f g : Nat → List Ver} {n : Nat} {y : Int} {ws : List Ver}
theorem sfx_fmx (h : Sfx f g) (hg : Inv g n) : fmx g 8 ≤ fmx f 8 := by
  have hf0 : (0 : Int) ≤ fmx f 8 := by
    have : ∀ m, (0 : Int) ≤ fmx f m := by
      intro m
      induction m with
      | zero => exact Int.le_refl _
      | succ m ih => simp only [fmx]; split <;> omega
    exact this 8
  refine fmx_bound hf0 8 (fun k hk => ?_)
  obtain ⟨d, h1, h2⟩ := h k hk
  have h3 := fmx_ge f 8 k hk
  rw [h2, va_drop, Nat.add_zero] at h3
  have h4 := (hg.rise k hk).le (Nat.zero_le d) h1
  omega
theorem dg_sfx (h : Sfx f g) (hg : Inv g n) (hy : fmx f 8 ≤ y) (k : Int) : dg f n y ws k = dg g n y ws k := by
  unfold dg
  rw [h.read hg k y hy]
theorem dr_sfx (h : Sfx f g) (hg : Inv g n) (hy : fmx f 8 ≤ y) (rs : List Int) (k : Int) : dr f n y rs ws k = dr g n y rs ws k := by
  unfold dr
  rw [h.read hg k y hy]
theorem dgo_sfx (h : Sfx f g) (hg : Inv g n) (hy : fmx f 8 ≤ y) : ∀ (m k : Nat) (acc : List Ver) (rs : List Int), dgo f n y ws k m acc rs = dgo g n y ws k m acc rs := by
  intro m
  induction m with
  | zero => intro k acc rs; rfl
  | succ m ih =>
    intro k acc rs
    simp only [dgo]
    rw [dg_sfx h hg hy, dr_sfx h hg hy, ih, ih]
theorem dls_sfx (h : Sfx f g) (hg : Inv g n) (hy : fmx f 8 ≤ y) (rs : List Int) (a b : Int) : dls f n y ws rs a b = dls g n y ws rs a b := by
  unfold dls
  rw [dgo_sfx h hg hy]
theorem cls_sfx (h : Sfx f g) : ∀ m, m ≤ 8 → cls f y ws m = cls g y ws m := by
  intro m
  induction m with
  | zero => intro _; rfl
  | succ m ih => intro hm; simp only [cls]; rw [snc_sfx h (by omega), ih (by omega)]
theorem stl_sfx (h : Sfx f g) (rs : List Int) : ∀ m, m ≤ 8 → stl f y rs m = stl g y rs m := by
  intro m
  induction m with
  | zero => intro _; rfl
  | succ m ih => intro hm; simp only [stl]; rw [snc_sfx h (by omega), ih (by omega)]
theorem dm_sfx (h : Sfx f g) (md : Int) (rs : List Int) : dm f md y rs ws = dm g md y rs ws := by
  unfold dm
  rw [cls_sfx h 8 (Nat.le_refl _), stl_sfx h rs 8 (Nat.le_refl _)]
theorem v_sfx (h : Sfx f g) (cs : List (List Ver)) (md : Int) (rs : List Int) : vcode f cs md y rs ws = vcode g cs md y rs ws ∧ vdone f cs md y rs ws = vdone g cs md y rs ws := by
  unfold vcode vdone
  rw [dm_sfx h]
  exact ⟨rfl, rfl⟩
theorem vs_sfx (h : Sfx f g) (cs : List (List Ver)) (md : Int) (rs : List Int) : vnum f n cs md y rs ws = vnum g n cs md y rs ws ∧ vn f n cs md y rs ws = vn g n cs md y rs ws ∧ vcs f cs md y rs ws = vcs g cs md y rs ws ∧ Sfx (vf f n cs md y rs ws) (vf g n cs md y rs ws) := by
  unfold vnum vn vcs vf
  rw [(v_sfx h cs md rs).2]
  refine ⟨rfl, rfl, rfl, ?_⟩
  split
  · exact h.write n _
  · exact h
theorem t_sfx (h : Sfx f g) (cs : List (List Ver)) (md : Int) (rs : List Int) (keep : Int) : tcs f cs md y rs ws keep = tcs g cs md y rs ws keep ∧ tnum f cs md y rs ws keep = tnum g cs md y rs ws keep := by
  unfold tnum tcs
  rw [dm_sfx h]
  exact ⟨rfl, rfl⟩
end

/-- Two halls, of which one forgot more. -/
structure HRel (h g : HSt) : Prop where
  hi : HInv h
  gi : HInv g
  sfx : Sfx h.f g.f
  n : h.n = g.n
  cs : h.cs = g.cs
  seat : h.seat = g.seat
theorem HRel.clear {h g : HSt} (r : HRel h g) {x : HStep} (hx : x.d = 8) : HRel (hdo h x) g := by
  have hi := r.hi.step x
  have e : hdo h x = { h with f := clm h.f (least h.n h.seat 5) 8 } := by
    have n0 : ¬ (x.d < 1 ∨ 10 < x.d) := by omega
    unfold hdo
    rw [if_neg n0, if_pos hx]
  rw [e] at hi ⊢
  exact ⟨hi, r.gi, r.sfx.clear _ r.hi.inv, r.n, r.cs, r.seat⟩
theorem HKind.eq {h : HSt} {x : HStep} {h' : HSt} {e : Ev} (k : HKind h x h' e) : hdo h x = h' ∧ hev h x = e := by
  unfold hdo hev
  cases k with
  | kind c => rw [if_pos c, if_pos c]; exact ⟨rfl, rfl⟩
  | clear c =>
    have n0 : ¬ (x.d < 1 ∨ 10 < x.d) := by omega
    rw [if_neg n0, if_neg n0, if_pos c, if_pos c]; exact ⟨rfl, rfl⟩
  | crash c =>
    have n0 : ¬ (x.d < 1 ∨ 10 < x.d) := by omega
    have n8 : ¬ x.d = 8 := by omega
    rw [if_neg n0, if_neg n0, if_neg n8, if_neg n8, if_pos c, if_pos c]; exact ⟨rfl, rfl⟩
  | range c1 c2 =>
    have n0 : ¬ (x.d < 1 ∨ 10 < x.d) := by omega
    have n8 : ¬ x.d = 8 := by omega
    have n9 : ¬ x.d = 9 := by omega
    rw [if_neg n0, if_neg n0, if_neg n8, if_neg n8, if_neg n9, if_neg n9, if_pos c2, if_pos c2]; exact ⟨rfl, rfl⟩
  | began c1 c2 c3 c4 =>
    have n0 : ¬ (x.d < 1 ∨ 10 < x.d) := by omega
    have n8 : ¬ x.d = 8 := by omega
    have n9 : ¬ x.d = 9 := by omega
    have hns : ¬ ¬ (0 ≤ x.s ∧ x.s < 5) := fun q => q c2
    rw [if_neg n0, if_neg n0, if_neg n8, if_neg n8, if_neg n9, if_neg n9, if_neg hns, if_neg hns, c3]
    dsimp only
    rw [if_pos ⟨c1, c4⟩, if_pos c1, c4]; exact ⟨rfl, rfl⟩
  | beganNot c1 c2 c3 c4 =>
    have n0 : ¬ (x.d < 1 ∨ 10 < x.d) := by omega
    have n8 : ¬ x.d = 8 := by omega
    have n9 : ¬ x.d = 9 := by omega
    have hns : ¬ ¬ (0 ≤ x.s ∧ x.s < 5) := fun q => q c2
    rw [if_neg n0, if_neg n0, if_neg n8, if_neg n8, if_neg n9, if_neg n9, if_neg hns, if_neg hns, c3]
    dsimp only
    have hq : ¬ (x.d = 1 ∧ bcode h.f h.n x.md x.at_ = 0) := fun q => c4 q.2
    rw [if_neg hq, if_pos c1]; exact ⟨rfl, rfl⟩
  | none_ c1 c2 c3 =>
    have n0 : ¬ (x.d < 1 ∨ 10 < x.d) := by omega
    have n8 : ¬ x.d = 8 := by omega
    have n9 : ¬ x.d = 9 := by omega
    have hns : ¬ ¬ (0 ≤ x.s ∧ x.s < 5) := fun q => q c2
    have hn1 : ¬ x.d = 1 := by omega
    rw [if_neg n0, if_neg n0, if_neg n8, if_neg n8, if_neg n9, if_neg n9, if_neg hns, if_neg hns, c3]
    dsimp only
    have hq : ¬ (x.d = 1 ∧ bcode h.f h.n x.md x.at_ = 0) := fun q => hn1 q.1
    rw [if_neg hq, if_neg hn1]; exact ⟨rfl, rfl⟩
  | there d c1 c2 c3 =>
    have n0 : ¬ (x.d < 1 ∨ 10 < x.d) := by omega
    have n8 : ¬ x.d = 8 := by omega
    have n9 : ¬ x.d = 9 := by omega
    have hns : ¬ ¬ (0 ≤ x.s ∧ x.s < 5) := fun q => q c2
    rw [if_neg n0, if_neg n0, if_neg n8, if_neg n8, if_neg n9, if_neg n9, if_neg hns, if_neg hns, c3]
    dsimp only
    rw [if_pos c1, if_pos c1]; exact ⟨rfl, rfl⟩
  | get d c1 c2 c3 =>
    have n0 : ¬ (x.d < 1 ∨ 10 < x.d) := by omega
    have n8 : ¬ x.d = 8 := by omega
    have n9 : ¬ x.d = 9 := by omega
    have hns : ¬ ¬ (0 ≤ x.s ∧ x.s < 5) := fun q => q c2
    have m1 : ¬ x.d = 1 := by omega
    rw [if_neg n0, if_neg n0, if_neg n8, if_neg n8, if_neg n9, if_neg n9, if_neg hns, if_neg hns, c3]
    dsimp only
    rw [if_neg m1, if_neg m1, if_pos c1, if_pos c1]; exact ⟨rfl, rfl⟩
  | put d c1 c2 c3 =>
    have n0 : ¬ (x.d < 1 ∨ 10 < x.d) := by omega
    have n8 : ¬ x.d = 8 := by omega
    have n9 : ¬ x.d = 9 := by omega
    have hns : ¬ ¬ (0 ≤ x.s ∧ x.s < 5) := fun q => q c2
    have m1 : ¬ x.d = 1 := by omega
    have m2 : ¬ x.d = 2 := by omega
    rw [if_neg n0, if_neg n0, if_neg n8, if_neg n8, if_neg n9, if_neg n9, if_neg hns, if_neg hns, c3]
    dsimp only
    rw [if_neg m1, if_neg m1, if_neg m2, if_neg m2, if_pos c1, if_pos c1]; exact ⟨rfl, rfl⟩
  | drop d c1 c2 c3 =>
    have n0 : ¬ (x.d < 1 ∨ 10 < x.d) := by omega
    have n8 : ¬ x.d = 8 := by omega
    have n9 : ¬ x.d = 9 := by omega
    have hns : ¬ ¬ (0 ≤ x.s ∧ x.s < 5) := fun q => q c2
    have m1 : ¬ x.d = 1 := by omega
    have m2 : ¬ x.d = 2 := by omega
    have m3 : ¬ x.d = 3 := by omega
    rw [if_neg n0, if_neg n0, if_neg n8, if_neg n8, if_neg n9, if_neg n9, if_neg hns, if_neg hns, c3]
    dsimp only
    rw [if_neg m1, if_neg m1, if_neg m2, if_neg m2, if_neg m3, if_neg m3, if_pos c1, if_pos c1]; exact ⟨rfl, rfl⟩
  | list d c1 c2 c3 =>
    have n0 : ¬ (x.d < 1 ∨ 10 < x.d) := by omega
    have n8 : ¬ x.d = 8 := by omega
    have n9 : ¬ x.d = 9 := by omega
    have hns : ¬ ¬ (0 ≤ x.s ∧ x.s < 5) := fun q => q c2
    have m1 : ¬ x.d = 1 := by omega
    have m2 : ¬ x.d = 2 := by omega
    have m3 : ¬ x.d = 3 := by omega
    have m4 : ¬ x.d = 4 := by omega
    rw [if_neg n0, if_neg n0, if_neg n8, if_neg n8, if_neg n9, if_neg n9, if_neg hns, if_neg hns, c3]
    dsimp only
    rw [if_neg m1, if_neg m1, if_neg m2, if_neg m2, if_neg m3, if_neg m3, if_neg m4, if_neg m4, if_pos c1, if_pos c1]; exact ⟨rfl, rfl⟩
  | commit d c1 c2 c3 =>
    have n0 : ¬ (x.d < 1 ∨ 10 < x.d) := by omega
    have n8 : ¬ x.d = 8 := by omega
    have n9 : ¬ x.d = 9 := by omega
    have hns : ¬ ¬ (0 ≤ x.s ∧ x.s < 5) := fun q => q c2
    have m1 : ¬ x.d = 1 := by omega
    have m2 : ¬ x.d = 2 := by omega
    have m3 : ¬ x.d = 3 := by omega
    have m4 : ¬ x.d = 4 := by omega
    have m5 : ¬ x.d = 5 := by omega
    rw [if_neg n0, if_neg n0, if_neg n8, if_neg n8, if_neg n9, if_neg n9, if_neg hns, if_neg hns, c3]
    dsimp only
    rw [if_neg m1, if_neg m1, if_neg m2, if_neg m2, if_neg m3, if_neg m3, if_neg m4, if_neg m4, if_neg m5, if_neg m5, if_pos c1, if_pos c1]; exact ⟨rfl, rfl⟩
  | tear d c1 c2 c3 =>
    have n0 : ¬ (x.d < 1 ∨ 10 < x.d) := by omega
    have n8 : ¬ x.d = 8 := by omega
    have n9 : ¬ x.d = 9 := by omega
    have hns : ¬ ¬ (0 ≤ x.s ∧ x.s < 5) := fun q => q c2
    have m1 : ¬ x.d = 1 := by omega
    have m2 : ¬ x.d = 2 := by omega
    have m3 : ¬ x.d = 3 := by omega
    have m4 : ¬ x.d = 4 := by omega
    have m5 : ¬ x.d = 5 := by omega
    have m6 : ¬ x.d = 6 := by omega
    rw [if_neg n0, if_neg n0, if_neg n8, if_neg n8, if_neg n9, if_neg n9, if_neg hns, if_neg hns, c3]
    dsimp only
    rw [if_neg m1, if_neg m1, if_neg m2, if_neg m2, if_neg m3, if_neg m3, if_neg m4, if_neg m4, if_neg m5, if_neg m5, if_neg m6, if_neg m6, if_pos c1, if_pos c1]; exact ⟨rfl, rfl⟩
  | abort d c1 c2 c3 =>
    have n0 : ¬ (x.d < 1 ∨ 10 < x.d) := by omega
    have n8 : ¬ x.d = 8 := by omega
    have n9 : ¬ x.d = 9 := by omega
    have hns : ¬ ¬ (0 ≤ x.s ∧ x.s < 5) := fun q => q c2
    have m1 : ¬ x.d = 1 := by omega
    have m2 : ¬ x.d = 2 := by omega
    have m3 : ¬ x.d = 3 := by omega
    have m4 : ¬ x.d = 4 := by omega
    have m5 : ¬ x.d = 5 := by omega
    have m6 : ¬ x.d = 6 := by omega
    have m10 : ¬ x.d = 10 := by omega
    rw [if_neg n0, if_neg n0, if_neg n8, if_neg n8, if_neg n9, if_neg n9, if_neg hns, if_neg hns, c3]
    dsimp only
    rw [if_neg m1, if_neg m1, if_neg m2, if_neg m2, if_neg m3, if_neg m3, if_neg m4, if_neg m4, if_neg m5, if_neg m5, if_neg m6, if_neg m6, if_neg m10, if_neg m10]; exact ⟨rfl, rfl⟩
/-- The same step: the same is told, but of what is forgotten. -/
theorem HRel.step {h g : HSt} (r : HRel h g) (x : HStep) (hx : x.d ≠ 8) (ho : (hev h x).c ≠ 12) : hev h x = hev g x ∧ HRel (hdo h x) (hdo g x) := by
  have hi' := r.hi.step x
  have gi' := r.gi.step x
  obtain ⟨f, n, cs, seat⟩ := h
  obtain ⟨f2, n2, cs2, seat2⟩ := g
  obtain ⟨hi, gi, sfx, e1, e2, e3⟩ := r
  dsimp only at e1 e2 e3 sfx
  subst e1 e2 e3
  have known := hi.known
  have ginv := gi.inv
  dsimp only at known ginv
  have hk := hkind ⟨f, n, cs, seat⟩ x
  generalize hdo ⟨f, n, cs, seat⟩ x = h2 at *
  generalize hev ⟨f, n, cs, seat⟩ x = e at *
  cases hk with
  | kind c =>
    obtain ⟨q1, q2⟩ := (HKind.kind (h := ⟨f2, n, cs, seat⟩) (x := x) c).eq
    rw [q1, q2]; exact ⟨rfl, hi, gi, sfx, rfl, rfl, rfl⟩
  | clear c => exact absurd c hx
  | crash c =>
    obtain ⟨q1, q2⟩ := (HKind.crash (h := ⟨f2, n, cs, seat⟩) (x := x) c).eq
    rw [q1] at gi'
    rw [q1, q2]; exact ⟨rfl, hi', gi', sfx_refl hi'.inv, rfl, rfl, rfl⟩
  | range c1 c2 =>
    obtain ⟨q1, q2⟩ := (HKind.range (h := ⟨f2, n, cs, seat⟩) (x := x) c1 c2).eq
    rw [q1, q2]; exact ⟨rfl, hi, gi, sfx, rfl, rfl, rfl⟩
  | began c1 c2 c3 c4 =>
    have hm := sfx_fmx sfx ginv
    have c4' : bcode f2 n x.md x.at_ = 0 := by
      dsimp only at c4
      unfold bcode at c4 ⊢
      split
      · rename_i p1
        rw [if_pos p1] at c4
        split
        · rename_i p2
          rw [if_pos p2] at c4
          by_cases p3 : x.at_ < 0 ∨ (n : Int) < x.at_
          · rw [if_pos p3] at c4; simp at c4
          · rw [if_neg p3] at c4 ⊢
            by_cases p4 : x.at_ < fmx f 8
            · rw [if_pos p4] at c4; simp at c4
            · rw [if_neg (by omega)]
        · rfl
      · rename_i p1
        rw [if_neg p1] at c4; exact c4
    obtain ⟨q1, q2⟩ := (HKind.began (h := ⟨f2, n, cs, seat⟩) (x := x) c1 c2 c3 c4').eq
    rw [q1] at gi'
    rw [q1, q2]; exact ⟨rfl, hi', gi', sfx, rfl, rfl, rfl⟩
  | beganNot c1 c2 c3 c4 =>
    have hb : bcode f n x.md x.at_ = bcode f2 n x.md x.at_ := by
      dsimp only [evc] at ho
      unfold bcode at ho ⊢
      split
      · rename_i p1
        rw [if_pos p1] at ho
        split
        · rename_i p2
          rw [if_pos p2] at ho
          by_cases p3 : x.at_ < 0 ∨ (n : Int) < x.at_
          · rw [if_pos p3, if_pos p3]
          · rw [if_neg p3] at ho
            rw [if_neg p3, if_neg p3]
            by_cases p4 : x.at_ < fmx f 8
            · rw [if_pos p4] at ho; exact absurd rfl ho
            · have hm := sfx_fmx sfx ginv
              rw [if_neg p4, if_neg (by omega)]
        · rfl
      · rfl
    have c4' : ¬ bcode f2 n x.md x.at_ = 0 := fun q => c4 (hb.trans q)
    obtain ⟨q1, q2⟩ := (HKind.beganNot (h := ⟨f2, n, cs, seat⟩) (x := x) c1 c2 c3 c4').eq
    rw [q1, q2]; exact ⟨congrArg evc hb, hi, gi, sfx, rfl, rfl, rfl⟩
  | none_ c1 c2 c3 =>
    obtain ⟨q1, q2⟩ := (HKind.none_ (h := ⟨f2, n, cs, seat⟩) (x := x) c1 c2 c3).eq
    rw [q1, q2]; exact ⟨rfl, hi, gi, sfx, rfl, rfl, rfl⟩
  | there d c1 c2 c3 =>
    obtain ⟨q1, q2⟩ := (HKind.there (h := ⟨f2, n, cs, seat⟩) (x := x) d c1 c2 c3).eq
    rw [q1, q2]; exact ⟨rfl, hi, gi, sfx, rfl, rfl, rfl⟩
  | get d c1 c2 c3 =>
    obtain ⟨q1, q2⟩ := (HKind.get (h := ⟨f2, n, cs, seat⟩) (x := x) d c1 c2 c3).eq
    have hy := (known _ d c3).1
    rw [q1] at gi'
    rw [q1, q2]
    dsimp only
    rw [dg_sfx sfx ginv hy]
    refine ⟨rfl, hi', gi', sfx, rfl, rfl, ?_⟩
    dsimp only [sit]
    rw [dr_sfx sfx ginv hy]
  | put d c1 c2 c3 =>
    obtain ⟨q1, q2⟩ := (HKind.put (h := ⟨f2, n, cs, seat⟩) (x := x) d c1 c2 c3).eq
    rw [q1] at gi'
    rw [q1, q2]; exact ⟨rfl, hi', gi', sfx, rfl, rfl, rfl⟩
  | drop d c1 c2 c3 =>
    obtain ⟨q1, q2⟩ := (HKind.drop (h := ⟨f2, n, cs, seat⟩) (x := x) d c1 c2 c3).eq
    rw [q1] at gi'
    rw [q1, q2]; exact ⟨rfl, hi', gi', sfx, rfl, rfl, rfl⟩
  | list d c1 c2 c3 =>
    obtain ⟨q1, q2⟩ := (HKind.list (h := ⟨f2, n, cs, seat⟩) (x := x) d c1 c2 c3).eq
    have hy := (known _ d c3).1
    rw [q1] at gi'
    rw [q1, q2]
    dsimp only
    rw [dls_sfx sfx ginv hy]
    refine ⟨rfl, ?_, gi', sfx, rfl, rfl, rfl⟩
    dsimp only at hi'
    rw [dls_sfx sfx ginv hy] at hi'
    exact hi'
  | commit d c1 c2 c3 =>
    obtain ⟨q1, q2⟩ := (HKind.commit (h := ⟨f2, n, cs, seat⟩) (x := x) d c1 c2 c3).eq
    obtain ⟨v1, v2, v3, v4⟩ := vs_sfx (n := n) (y := d.y) (ws := d.ws) sfx cs d.md d.rs
    rw [q1] at gi'
    rw [q1, q2]
    dsimp only
    rw [(v_sfx sfx cs d.md d.rs).1, v1]
    exact ⟨rfl, hi', gi', v4, v2, v3, rfl⟩
  | tear d c1 c2 c3 =>
    obtain ⟨q1, q2⟩ := (HKind.tear (h := ⟨f2, n, cs, seat⟩) (x := x) d c1 c2 c3).eq
    obtain ⟨t1, t2⟩ := t_sfx (y := d.y) (ws := d.ws) sfx cs d.md d.rs x.keep
    rw [q1] at gi'
    rw [q1, q2]
    dsimp only at hi' ⊢
    rw [(v_sfx sfx cs d.md d.rs).1, t2]
    rw [t1] at hi' ⊢
    exact ⟨rfl, hi', gi', sfx_refl gi'.inv, rfl, rfl, rfl⟩
  | abort d c1 c2 c3 =>
    obtain ⟨q1, q2⟩ := (HKind.abort (h := ⟨f2, n, cs, seat⟩) (x := x) d c1 c2 c3).eq
    rw [q1] at gi'
    rw [q1, q2]; exact ⟨rfl, hi', gi', sfx, rfl, rfl, rfl⟩
end
/- A hall's begin, by its contract. -/
section
open Go.RowKit
attribute [local go_sem ↓] Go.wp_at_zero Go.wp_at_succ

def xcs (x : HStep) : Array Value := #[.int .i64 x.d, .int .i64 x.s, .int .i64 x.md, .int .i64 x.at_, .int .i64 x.key, .int .i64 x.to_, .int .i64 x.keep, .string x.b]
theorem Sts.put {st : Nat → Sd} {seat : Nat → Option Dp} (h : Sts st seat) (s : Nat) (d : Sd) : Sts (upd st s d) (upd seat s (d.map Prod.snd)) := fun j => by
  simp only [upd]
  split
  · rfl
  · exact h j
theorem upd_id {α : Type} {g : Nat → α} {k : Nat} {v : α} (h : g k = v) : upd g k v = g := by
  funext j
  unfold upd
  split
  · rename_i e; rw [e, h]
  · rfl
section
variable {w0 w : World} {hb vb tb gb : Nat} {h : HSt} {st : Nat → Sd} {r : List Thing}
theorem Hall.as {h' : HSt} (hz : Hall w0 w hb vb tb gb h st r) (e1 : h'.f = h.f) (e2 : h'.n = h.n) (e3 : h'.cs = h.cs) : Hall w0 w hb vb tb gb h' st r := by
  unfold Hall at hz ⊢
  rw [e1, e2, e3]
  exact hz
theorem h_vbegin {md at_ : Int} (hb0 : bcode h.f h.n md at_ = 0) (hz : Hall w0 w hb vb tb gb h st r) :
    Calls Tryz.prog 131 #[.pointer (some ⟨vb, 0, none⟩), .int .i64 md, .int .i64 at_] w fun e w' => ∃ D, e = .returned (.tuple #[.pointer (some ⟨D, 0, none⟩), .int .i64 0]) ∧ Hid (Hall w0 w' hb vb tb gb h st (OptT (some (D, ⟨md, bat h.n md at_, [], []⟩)) :: r)) := by
  refine (b_begin hb0 hz.vlt).mono ?_
  rintro e w' ⟨D, rfl, HZ⟩
  refine ⟨D, rfl, ?_⟩
  have h1 := unhide HZ
  have p1 : Zoo w0 w' (OptT (some (D, ⟨md, bat h.n md at_, [], []⟩)) :: BoxT hb (hcells vb st) 59 :: VltT vb tb gb h.f h.n h.cs [] :: (seats st ++ r)) := h1.perm ((List.Perm.swap _ _ _).trans (List.Perm.cons _ (List.Perm.swap _ _ _)))
  exact p1.perm (List.perm_middle (l₁ := BoxT hb (hcells vb st) 59 :: VltT vb tb gb h.f h.n h.cs [] :: seats st)).symm
theorem h_vnone {md at_ z : Int} (hb0 : bcode h.f h.n md at_ = z) (h0 : z ≠ 0) (hz : Hall w0 w hb vb tb gb h st r) :
    Calls Tryz.prog 131 #[.pointer (some ⟨vb, 0, none⟩), .int .i64 md, .int .i64 at_] w fun e w' => e = .returned (.tuple #[.pointer none, .int .i64 z]) ∧ Hid (Hall w0 w' hb vb tb gb h st r) := by
  refine (b_none hb0 h0 hz.vlt).mono ?_
  rintro e w' ⟨rfl, HZ⟩
  exact ⟨rfl, zoo_swap (unhide HZ)⟩
/-- A new deed sits down at an empty seat. -/
theorem Hall.sitNew {D : Nat} {d : Dp} {l1 l2 : List Thing} (hz : Hall w0 w hb vb tb gb h st (l1 ++ OptT (some (D, d)) :: l2)) {s : Nat} (hs : s < 5) (hn : st s = none) : Hall w0 (w.setCell ⟨hb, 1 + s, none⟩ (.pointer (some ⟨D, 0, none⟩))) hb vb tb gb h (upd st s (some (D, d))) (l1 ++ l2) := by
  have h1 := hz.perm (List.perm_middle (l₁ := l1))
  have h2 : Zoo w0 w (VltT vb tb gb h.f h.n h.cs [] :: OptT (some (D, d)) :: BoxT hb (hcells vb st) 59 :: (seats st ++ (l1 ++ l2))) := by
    have p := Zoo.perm h1 (List.perm_middle (l₁ := BoxT hb (hcells vb st) 59 :: VltT vb tb gb h.f h.n h.cs [] :: seats st))
    exact p.perm ((List.Perm.cons _ (List.Perm.swap _ _ _)).trans (List.Perm.swap _ _ _))
  exact Hall.join h2 hs hn

/-- What begin leaves. -/
def BgEnd (w0 : World) (hb vb tb gb : Nat) (r : List Thing) (h' : HSt) (v : Ev) (e : Ending) (w' : World) : Prop := ∃ st', e = .returned (.int .i64 v.c) ∧ v = evc v.c ∧ Sts st' h'.seat ∧ Hid (Hall w0 w' hb vb tb gb h' st' r)
set_option maxHeartbeats 1000000 in
theorem h_begin (x : HStep) (hx : x.d = 1) (hs : Sts st h.seat) (hz : Hall w0 w hb vb tb gb h st r) :
    Calls Tryz.prog 90 #[.pointer (some ⟨hb, 0, none⟩), .agg #[.int .i64 x.d, .int .i64 x.s, .int .i64 x.md, .int .i64 x.at_, .int .i64 x.key, .int .i64 x.to_, .int .i64 x.keep, .string x.b]] w fun e w' => BgEnd w0 hb vb tb gb r (hdo h x) (hev h x) e w' := by
  have HS := hide hs
  have HX := hide (hz.new (xcs x) 79)
  by_cases hsx : 0 ≤ x.s ∧ x.s < 5
  · obtain ⟨j, hj, h5⟩ := seat_in hsx
    have hjs : x.s.toNat = j := by omega
    have hsb : seatB (j : Int) = true := decide_eq_true (by omega)
    have i0 : (0 : Int) ≤ (j : Int) := by omega
    have i5 : (j : Int) < 5 := by omega
    cases hsd : st j with
    | some xx =>
      have hsj : h.seat j = some xx.2 := by rw [← hs j, hsd]; rfl
      have heq := (HKind.there (h := h) (x := x) xx.2 hx hsx (by rw [hjs]; exact hsj)).eq
      rw [heq.1, heq.2]
      clear heq hz hs
      have hda : dat st (j : Int) = some xx := by rw [dat_in h5, hsd]
      obtain ⟨xd, xs, xm, xa, xk, xt, xp, xb⟩ := x
      dsimp only [xcs] at *
      subst hx hj
      go_enter Tryz.func90, Tryz.ntmps90
      go_wp2_with fail
      generalize w.alloc (.cells #[.int .i64 1, .int .i64 (j : Int), .int .i64 xm, .int .i64 xa, .int .i64 xk, .int .i64 xt, .int .i64 xp, .string xb] 79) = W at HX ⊢
      generalize w.heap.size = q at HX ⊢
      have hq := (unhide HX).var (List.Mem.head _)
      have x1 : W.cell? ⟨q, 1, none⟩ = some (.int .i64 (j : Int)) := cell_of_block hq rfl
      clear hq
      refine (hseat (j : Int) _).mono ?_
      rintro e w' ⟨rfl, hw'⟩
      subst w'
      rw [hsb]
      go_wp2_with fail
      refine (h_busy (j : Int) (unhide HX)).mono ?_
      rintro e w' ⟨rfl, hw'⟩
      subst w'
      rw [hda, show Option.isSome (some xx) = true from rfl]
      go_wp2_with fail
      go_ret
      exact ⟨st, rfl, rfl, unhide HS, (unhide HX).tail⟩
    | none =>
      have hsj : h.seat j = none := by rw [← hs j, hsd]; rfl
      have hda : dat st (j : Int) = none := by rw [dat_in h5, hsd]
      by_cases hb0 : bcode h.f h.n x.md x.at_ = 0
      · have heq := (HKind.began (h := h) (x := x) hx hsx (by rw [hjs]; exact hsj) hb0).eq
        rw [heq.1, heq.2]
        clear heq hz hs
        have HB0 := hide hb0
        clear hb0
        obtain ⟨xd, xs, xm, xa, xk, xt, xp, xb⟩ := x
        dsimp only [xcs] at *
        subst hx hj
        go_enter Tryz.func90, Tryz.ntmps90
        go_wp2_with fail
        generalize w.alloc (.cells #[.int .i64 1, .int .i64 (j : Int), .int .i64 xm, .int .i64 xa, .int .i64 xk, .int .i64 xt, .int .i64 xp, .string xb] 79) = W at HX ⊢
        generalize w.heap.size = q at HX ⊢
        have hq := (unhide HX).var (List.Mem.head _)
        have x1 : W.cell? ⟨q, 1, none⟩ = some (.int .i64 (j : Int)) := cell_of_block hq rfl
        have x2 : W.cell? ⟨q, 2, none⟩ = some (.int .i64 xm) := cell_of_block hq rfl
        have x3 : W.cell? ⟨q, 3, none⟩ = some (.int .i64 xa) := cell_of_block hq rfl
        clear hq
        refine (hseat (j : Int) _).mono ?_
        rintro e w' ⟨rfl, hw'⟩
        subst w'
        rw [hsb]
        go_wp2_with fail
        refine (h_busy (j : Int) (unhide HX)).mono ?_
        rintro e w' ⟨rfl, hw'⟩
        subst w'
        rw [hda, show Option.isSome (none : Sd) = false from rfl]
        have c0 := (unhide HX).c0
        have HV := hide (fun W' (hk : Kp [] W W') => h_vbegin (unhide HB0) ((unhide HX).kp0 hk))
        go_wp2_with fail
        go_region_with (go_at_call 131; refine (unhide HV _ ((Kp.refl [] W).drewN _)).mono ?_; rintro e w' ⟨D, rfl, HY⟩)
        all_goals
          have hq2 := (unhide HY).var (List.Mem.tail _ (List.Mem.head _))
          have y1 : w'.cell? ⟨q, 1, none⟩ = some (.int .i64 (j : Int)) := cell_of_block hq2 rfl
          have c2 := (unhide HY).cs_ h5
          have f2 := (unhide HY).fz (1 + j)
          rw [hsd] at c2
          clear hq2 x1 x2 x3 c0 HV
          go_wp2_with fail
          go_region
        all_goals
          go_wp2_with fail
          go_ret
          exact ⟨upd st j (some (D, _)), rfl, rfl, by show Sts _ (upd h.seat ((j : Int).toNat) _); rw [hjs]; exact (unhide HS).put j _, ((((unhide HY).sitNew (l1 := []) h5 hsd).tail).kp0 (Kp.refl [] _).drew).as rfl rfl rfl⟩
      · have heq := (HKind.beganNot (h := h) (x := x) hx hsx (by rw [hjs]; exact hsj) hb0).eq
        rw [heq.1, heq.2]
        clear heq hz hs
        have HB0 := hide hb0
        clear hb0
        generalize hzz : bcode h.f h.n x.md x.at_ = z at HB0 ⊢
        have HZ0 := hide hzz
        clear hzz
        obtain ⟨xd, xs, xm, xa, xk, xt, xp, xb⟩ := x
        dsimp only [xcs] at *
        subst hx hj
        go_enter Tryz.func90, Tryz.ntmps90
        go_wp2_with fail
        generalize w.alloc (.cells #[.int .i64 1, .int .i64 (j : Int), .int .i64 xm, .int .i64 xa, .int .i64 xk, .int .i64 xt, .int .i64 xp, .string xb] 79) = W at HX ⊢
        generalize w.heap.size = q at HX ⊢
        have hq := (unhide HX).var (List.Mem.head _)
        have x1 : W.cell? ⟨q, 1, none⟩ = some (.int .i64 (j : Int)) := cell_of_block hq rfl
        have x2 : W.cell? ⟨q, 2, none⟩ = some (.int .i64 xm) := cell_of_block hq rfl
        have x3 : W.cell? ⟨q, 3, none⟩ = some (.int .i64 xa) := cell_of_block hq rfl
        clear hq
        refine (hseat (j : Int) _).mono ?_
        rintro e w' ⟨rfl, hw'⟩
        subst w'
        rw [hsb]
        go_wp2_with fail
        refine (h_busy (j : Int) (unhide HX)).mono ?_
        rintro e w' ⟨rfl, hw'⟩
        subst w'
        rw [hda, show Option.isSome (none : Sd) = false from rfl]
        have c0 := (unhide HX).c0
        have HV := hide (fun W' (hk : Kp [] W W') => h_vnone (unhide HZ0) (unhide HB0) ((unhide HX).kp0 hk))
        go_wp2_with fail
        go_region_with (go_at_call 131; refine (unhide HV _ ((Kp.refl [] W).drewN _)).mono ?_; rintro e w' ⟨rfl, HY⟩)
        all_goals
          have hq2 := (unhide HY).var (List.Mem.head _)
          have y1 : w'.cell? ⟨q, 1, none⟩ = some (.int .i64 (j : Int)) := cell_of_block hq2 rfl
          have c2 := (unhide HY).cs_ h5
          have f2 := (unhide HY).fz (1 + j)
          rw [hsd] at c2
          clear hq2 x1 x2 x3 c0 HV
          go_wp2_with fail
          go_region
        all_goals
          go_wp2_with fail
          go_ret
          exact ⟨st, rfl, rfl, unhide HS, by have h9 := (unhide HY).leave h5; rw [upd_id hsd] at h9; exact (h9.tail.tail).kp0 (Kp.refl [] _).drew⟩
  · have heq := (HKind.range (h := h) (x := x) (by omega) hsx).eq
    rw [heq.1, heq.2]
    clear heq hz hs
    have hsb : seatB x.s = false := decide_eq_false hsx
    obtain ⟨xd, xs, xm, xa, xk, xt, xp, xb⟩ := x
    dsimp only [xcs] at *
    subst hx
    go_enter Tryz.func90, Tryz.ntmps90
    go_wp2_with fail
    refine (hseat xs _).mono ?_
    rintro e w' ⟨rfl, hw'⟩
    subst w'
    rw [hsb]
    go_wp2_with fail
    go_ret
    exact ⟨st, rfl, rfl, unhide HS, (unhide HX).tail⟩
end
end
/- A hall's goOn: where there is no deed; Put. -/
section
open Go.RowKit
attribute [local go_sem ↓] Go.wp_at_zero Go.wp_at_succ

/-- What goOn, end and Do leave. -/
def GoEnd (w0 : World) (hb vb gb : Nat) (r : List Thing) (h' : HSt) (v : Ev) (e : Ending) (w' : World) : Prop := ∃ tb' st' a cap, e = .returned (.agg #[.int .i64 v.c, .int .i64 v.n, .bool v.t, .string v.s, .slice a v.l.length cap]) ∧ Sts st' h'.seat ∧ Hid (Hall w0 w' hb vb tb' gb h' st' (PsT a cap v.l :: r))
/-- An event in a variable. -/
structure EvF (w : World) (p : Nat) (a b c d e : Value) : Prop where
  c0 : w.cell? ⟨p, 0, none⟩ = some a
  c1 : w.cell? ⟨p, 1, none⟩ = some b
  c2 : w.cell? ⟨p, 2, none⟩ = some c
  c3 : w.cell? ⟨p, 3, none⟩ = some d
  c4 : w.cell? ⟨p, 4, none⟩ = some e
  f0 : w.frozen? ⟨p, 0, none⟩ = false
  f1 : w.frozen? ⟨p, 1, none⟩ = false
  f2 : w.frozen? ⟨p, 2, none⟩ = false
  f3 : w.frozen? ⟨p, 3, none⟩ = false
  f4 : w.frozen? ⟨p, 4, none⟩ = false
theorem evF {w : World} {p : Nat} {a b c d e : Value} {T : TypeId} (h : w.heap[p]? = some (.cells #[a, b, c, d, e] T (0, 0))) : EvF w p a b c d e :=
  ⟨cell_of_block h rfl, cell_of_block h rfl, cell_of_block h rfl, cell_of_block h rfl, cell_of_block h rfl, frozen_of_block _ h, frozen_of_block _ h, frozen_of_block _ h, frozen_of_block _ h, frozen_of_block _ h⟩
section
variable {w0 w : World} {hb vb tb gb : Nat} {h : HSt} {st : Nat → Sd} {r : List Thing}
theorem Hall.ps {tb' : Nat} {h' : HSt} {st' : Nat → Sd} {w' : World} (hz : Hall w0 w' hb vb tb' gb h' st' r) : Hall w0 w' hb vb tb' gb h' st' (PsT none 0 [] :: r) := Zoo.perm (ps_nil hz) (List.perm_middle (l₁ := BoxT hb (hcells vb st') 59 :: VltT vb tb' gb h'.f h'.n h'.cs [] :: seats st')).symm
/-- Behind an event's five cells, written; the variables are let go. -/
theorem Hall.fin {W : World} {p q : Nat} {c xc : Array Value} {T U : TypeId} (hz : Hall w0 W hb vb tb gb h st (BoxT p c T :: BoxT q xc U :: r)) (a b c' d e : Value) : Hall w0 (((((W.setCell ⟨p, 0, none⟩ a).setCell ⟨p, 1, none⟩ b).setCell ⟨p, 2, none⟩ c').setCell ⟨p, 3, none⟩ d).setCell ⟨p, 4, none⟩ e) hb vb tb gb h st r := (((((hz.set0 0 a).set0 1 b).set0 2 c').set0 3 d).set0 4 e).tail.tail
theorem f_not (hs : Sts st h.seat) {x : HStep} (hx : 2 ≤ x.d ∧ x.d ≤ 10 ∧ x.d ≠ 8 ∧ x.d ≠ 9) (hf : ¬ fcode st x.s = 0) : hdo h x = h ∧ hev h x = evc (fcode st x.s) := by
  unfold fcode at hf ⊢
  by_cases hsx : 0 ≤ x.s ∧ x.s < 5
  · rw [if_pos hsx] at hf ⊢
    cases hd : st x.s.toNat with
    | none =>
      have : h.seat x.s.toNat = none := by rw [← hs, hd]; rfl
      exact (HKind.none_ (h := h) (x := x) hx hsx this).eq
    | some y => rw [hd] at hf; exact absurd rfl hf
  · rw [if_neg hsx]
    exact (HKind.range (h := h) (x := x) (by omega) hsx).eq
theorem f_yes {s : Int} (hf : fcode st s = 0) : ∃ (j D : Nat) (d : Dp), s = (j : Int) ∧ j < 5 ∧ st j = some (D, d) := by
  unfold fcode at hf
  split at hf
  · rename_i hsx
    obtain ⟨j, rfl, h5⟩ := seat_in hsx
    rw [Int.toNat_natCast] at hf
    cases hd : st j with
    | none => rw [hd] at hf; exact absurd hf (by simp)
    | some y => exact ⟨j, y.1, y.2, rfl, h5, hd⟩
  · exact absurd hf (by simp)
set_option maxHeartbeats 1000000 in
theorem go_none (x : HStep) (hx : 2 ≤ x.d ∧ x.d ≤ 5) (hf : ¬ fcode st x.s = 0) (hs : Sts st h.seat) (hz : Hall w0 w hb vb tb gb h st r) :
    Calls Tryz.prog 91 #[.pointer (some ⟨hb, 0, none⟩), .agg #[.int .i64 x.d, .int .i64 x.s, .int .i64 x.md, .int .i64 x.at_, .int .i64 x.key, .int .i64 x.to_, .int .i64 x.keep, .string x.b]] w fun e w' => GoEnd w0 hb vb gb r (hdo h x) (hev h x) e w' := by
  have heq := f_not hs (x := x) (by omega) hf
  rw [heq.1, heq.2]
  clear heq
  have HS := hide hs
  have HX := hide (hz.two (xcs x) 79 #[.int .i64 0, .int .i64 0, .bool false, .string ⟨#[]⟩, .slice none 0 0] 102)
  clear hz hs
  generalize hzz : fcode st x.s = z at hf ⊢
  have HZ0 := hide hzz
  have hzb : (z != 0) = true := by simpa using hf
  clear hzz hf
  obtain ⟨xd, xs, xm, xa, xk, xt, xp, xb⟩ := x
  dsimp only [xcs] at *
  go_enter Tryz.func91, Tryz.ntmps91
  go_wp2_with fail
  generalize (w.alloc (.cells #[.int .i64 xd, .int .i64 xs, .int .i64 xm, .int .i64 xa, .int .i64 xk, .int .i64 xt, .int .i64 xp, .string xb] 79)).alloc (.cells #[.int .i64 0, .int .i64 0, .bool false, .string ⟨#[]⟩, .slice none 0 0] 102) = W at HX ⊢
  generalize w.heap.size = q at HX ⊢
  generalize q + 1 = p at HX ⊢
  have hq := (unhide HX).var (List.Mem.tail _ (List.Mem.head _))
  have x1 : W.cell? ⟨q, 1, none⟩ = some (.int .i64 xs) := cell_of_block hq rfl
  clear hq
  refine (h_find xs (unhide HX)).mono ?_
  rintro e w' ⟨rfl, hw'⟩
  subst w'
  rw [unhide HZ0]
  generalize sp (dat st xs) = o
  have HE := hide ((unhide HX).new #[.int .i64 z, .int .i64 0, .bool false, .string ⟨#[]⟩, .slice none 0 0] 102)
  have pl := lt_of_block ((unhide HX).var (List.Mem.head _))
  obtain ⟨e0, e1, e2, e3, e4, g0, g1, g2, g3, g4⟩ := evF ((unhide HX).var (List.Mem.head _))
  go_wp2_with fail
  refine bodyPost_ret (v := .agg #[.int .i64 z, .int .i64 0, .bool false, .string ⟨#[]⟩, .slice none 0 0]) (by simp [results, Tryz.results91, go_sem, e0, e1, e2, e3, e4, pl]) rfl ?_
  exact ⟨tb, st, none, 0, rfl, unhide HS, (((unhide HX).fin _ _ _ _ _).new _ _).tail.ps⟩
end
end
/- A hall's goOn: Put and Drop. -/
section
open Go.RowKit
attribute [local go_sem ↓] Go.wp_at_zero Go.wp_at_succ

section
variable {w0 w : World} {hb vb tb gb : Nat} {h : HSt} {st : Nat → Sd} {r : List Thing}
set_option maxHeartbeats 1000000 in
theorem go_put (x : HStep) (hx : x.d = 3) {j D : Nat} {d : Dp} (hj : x.s = (j : Int)) (h5 : j < 5) (hsd : st j = some (D, d)) (hs : Sts st h.seat) (hz : Hall w0 w hb vb tb gb h st r) (hsz : x.b.size ≤ maxLen) :
    Calls Tryz.prog 91 #[.pointer (some ⟨hb, 0, none⟩), .agg #[.int .i64 x.d, .int .i64 x.s, .int .i64 x.md, .int .i64 x.at_, .int .i64 x.key, .int .i64 x.to_, .int .i64 x.keep, .string x.b]] w fun e w' => GoEnd w0 hb vb gb r (hdo h x) (hev h x) e w' := by
  have HS := hide hs
  have HX := hide (hz.two (xcs x) 79 #[.int .i64 0, .int .i64 0, .bool false, .string ⟨#[]⟩, .slice none 0 0] 102)
  have hjs : x.s.toNat = j := by omega
  have i0 : (0 : Int) ≤ (j : Int) := by omega
  have i5 : (j : Int) < 5 := by omega
  have hsj : h.seat j = some d := by rw [← hs j, hsd]; rfl
  have heq := (HKind.put (h := h) (x := x) d hx ⟨by omega, by omega⟩ (by rw [hjs]; exact hsj)).eq
  rw [heq.1, heq.2]
  clear heq hz hs hsj
  have hda : dat st (j : Int) = some (D, d) := by rw [dat_in h5, hsd]
  have hfc : fcode st (j : Int) = 0 := by unfold fcode; rw [if_pos ⟨i0, i5⟩, Int.toNat_natCast, hsd]; rfl
  obtain ⟨xd, xs, xm, xa, xk, xt, xp, xb⟩ := x
  dsimp only [xcs] at *
  subst hx hj
  go_enter Tryz.func91, Tryz.ntmps91
  go_wp2_with fail
  generalize (w.alloc (.cells #[.int .i64 3, .int .i64 (j : Int), .int .i64 xm, .int .i64 xa, .int .i64 xk, .int .i64 xt, .int .i64 xp, .string xb] 79)).alloc (.cells #[.int .i64 0, .int .i64 0, .bool false, .string ⟨#[]⟩, .slice none 0 0] 102) = W at HX ⊢
  generalize w.heap.size = q at HX ⊢
  generalize q + 1 = p at HX ⊢
  have hq := (unhide HX).var (List.Mem.tail _ (List.Mem.head _))
  have x0 : W.cell? ⟨q, 0, none⟩ = some (.int .i64 3) := cell_of_block hq rfl
  have x1 : W.cell? ⟨q, 1, none⟩ = some (.int .i64 (j : Int)) := cell_of_block hq rfl
  have x4 : W.cell? ⟨q, 4, none⟩ = some (.int .i64 xk) := cell_of_block hq rfl
  have x5 : W.cell? ⟨q, 5, none⟩ = some (.int .i64 xt) := cell_of_block hq rfl
  have x6 : W.cell? ⟨q, 6, none⟩ = some (.int .i64 xp) := cell_of_block hq rfl
  have x7 : W.cell? ⟨q, 7, none⟩ = some (.string xb) := cell_of_block hq rfl
  have ql := lt_of_block hq
  clear hq
  refine (h_find (j : Int) (unhide HX)).mono ?_
  rintro e w' ⟨rfl, hw'⟩
  subst w'
  rw [hda, hfc]
  rw [show sp (some (D, d)) = .pointer (some ⟨D, 0, none⟩) from rfl]
  have HE := hide ((unhide HX).new #[.int .i64 0, .int .i64 0, .bool false, .string ⟨#[]⟩, .slice none 0 0] 102)
  have pl := lt_of_block ((unhide HX).var (List.Mem.head _))
  have hl := (unhide HX).lt
  have vl := (unhide HX).vlt_
  have c0 := (unhide HX).c0
  have v0 := (unhide HX).v0
  obtain ⟨e0, e1, e2, e3, e4, g0, g1, g2, g3, g4⟩ := evF ((unhide HX).var (List.Mem.head _))
  go_wp2_with fail
  generalize W.alloc (.cells #[.int .i64 0, .int .i64 0, .bool false, .string ⟨#[]⟩, .slice none 0 0] 102) = W2 at HE ⊢
  generalize W.heap.size = pe at HE ⊢
  clear e0 e1 e2 e3 e4 g0 g1 g2 g3 g4 x0 x1 x4 x5 x6 x7 ql pl hl vl c0 v0
  refine (h_put xk true xb hsz h5 hsd (unhide HE)).mono ?_
  rintro e w3 ⟨rfl, HY⟩
  have hep := (unhide HY).var (List.Mem.head _)
  have hpp := (unhide HY).var (List.Mem.tail _ (List.Mem.head _))
  obtain ⟨a0, a1, a2, a3, a4, b0, b1, b2, b3, b4⟩ := evF hep
  obtain ⟨e0, e1, e2, e3, e4, g0, g1, g2, g3, g4⟩ := evF hpp
  have pl := lt_of_block hpp
  have el := lt_of_block hep
  clear hep hpp HE
  have hne := (unhide HY).ne2
  go_wp2_with fail
  refine bodyPost_ret (v := .agg #[.int .i64 (dpc d.md xk true xb), .int .i64 0, .bool false, .string ⟨#[]⟩, .slice none 0 0]) (by simp [results, Tryz.results91, go_sem, e0, e1, e2, e3, e4]) rfl ?_
  exact ⟨tb, _, none, 0, rfl, by show Sts _ (upd h.seat ((j : Int).toNat) _); rw [hjs]; exact (unhide HS).put j (some (D, _)), ((((unhide HY).set0 0 _).tail).fin _ _ _ _ _).ps.as rfl rfl rfl⟩
set_option maxHeartbeats 1000000 in
theorem go_drop (x : HStep) (hx : x.d = 4) {j D : Nat} {d : Dp} (hj : x.s = (j : Int)) (h5 : j < 5) (hsd : st j = some (D, d)) (hs : Sts st h.seat) (hz : Hall w0 w hb vb tb gb h st r) (hsz : x.b.size ≤ maxLen) :
    Calls Tryz.prog 91 #[.pointer (some ⟨hb, 0, none⟩), .agg #[.int .i64 x.d, .int .i64 x.s, .int .i64 x.md, .int .i64 x.at_, .int .i64 x.key, .int .i64 x.to_, .int .i64 x.keep, .string x.b]] w fun e w' => GoEnd w0 hb vb gb r (hdo h x) (hev h x) e w' := by
  have HS := hide hs
  have HX := hide (hz.two (xcs x) 79 #[.int .i64 0, .int .i64 0, .bool false, .string ⟨#[]⟩, .slice none 0 0] 102)
  have hjs : x.s.toNat = j := by omega
  have i0 : (0 : Int) ≤ (j : Int) := by omega
  have i5 : (j : Int) < 5 := by omega
  have hsj : h.seat j = some d := by rw [← hs j, hsd]; rfl
  have heq := (HKind.drop (h := h) (x := x) d hx ⟨by omega, by omega⟩ (by rw [hjs]; exact hsj)).eq
  rw [heq.1, heq.2]
  clear heq hz hs hsj
  have hda : dat st (j : Int) = some (D, d) := by rw [dat_in h5, hsd]
  have hfc : fcode st (j : Int) = 0 := by unfold fcode; rw [if_pos ⟨i0, i5⟩, Int.toNat_natCast, hsd]; rfl
  obtain ⟨xd, xs, xm, xa, xk, xt, xp, xb⟩ := x
  dsimp only [xcs] at *
  subst hx hj
  go_enter Tryz.func91, Tryz.ntmps91
  go_wp2_with fail
  generalize (w.alloc (.cells #[.int .i64 4, .int .i64 (j : Int), .int .i64 xm, .int .i64 xa, .int .i64 xk, .int .i64 xt, .int .i64 xp, .string xb] 79)).alloc (.cells #[.int .i64 0, .int .i64 0, .bool false, .string ⟨#[]⟩, .slice none 0 0] 102) = W at HX ⊢
  generalize w.heap.size = q at HX ⊢
  generalize q + 1 = p at HX ⊢
  have hq := (unhide HX).var (List.Mem.tail _ (List.Mem.head _))
  have x0 : W.cell? ⟨q, 0, none⟩ = some (.int .i64 4) := cell_of_block hq rfl
  have x1 : W.cell? ⟨q, 1, none⟩ = some (.int .i64 (j : Int)) := cell_of_block hq rfl
  have x4 : W.cell? ⟨q, 4, none⟩ = some (.int .i64 xk) := cell_of_block hq rfl
  have x5 : W.cell? ⟨q, 5, none⟩ = some (.int .i64 xt) := cell_of_block hq rfl
  have x6 : W.cell? ⟨q, 6, none⟩ = some (.int .i64 xp) := cell_of_block hq rfl
  have x7 : W.cell? ⟨q, 7, none⟩ = some (.string xb) := cell_of_block hq rfl
  have ql := lt_of_block hq
  clear hq
  refine (h_find (j : Int) (unhide HX)).mono ?_
  rintro e w' ⟨rfl, hw'⟩
  subst w'
  rw [hda, hfc]
  rw [show sp (some (D, d)) = .pointer (some ⟨D, 0, none⟩) from rfl]
  have HE := hide ((unhide HX).new #[.int .i64 0, .int .i64 0, .bool false, .string ⟨#[]⟩, .slice none 0 0] 102)
  have pl := lt_of_block ((unhide HX).var (List.Mem.head _))
  have hl := (unhide HX).lt
  have vl := (unhide HX).vlt_
  have c0 := (unhide HX).c0
  have v0 := (unhide HX).v0
  obtain ⟨e0, e1, e2, e3, e4, g0, g1, g2, g3, g4⟩ := evF ((unhide HX).var (List.Mem.head _))
  go_wp2_with fail
  generalize W.alloc (.cells #[.int .i64 0, .int .i64 0, .bool false, .string ⟨#[]⟩, .slice none 0 0] 102) = W2 at HE ⊢
  generalize W.heap.size = pe at HE ⊢
  clear e0 e1 e2 e3 e4 g0 g1 g2 g3 g4 x0 x1 x4 x5 x6 x7 ql pl hl vl c0 v0
  refine (h_put xk false ⟨#[]⟩ (Nat.zero_le _) h5 hsd (unhide HE)).mono ?_
  rintro e w3 ⟨rfl, HY⟩
  have hep := (unhide HY).var (List.Mem.head _)
  have hpp := (unhide HY).var (List.Mem.tail _ (List.Mem.head _))
  obtain ⟨a0, a1, a2, a3, a4, b0, b1, b2, b3, b4⟩ := evF hep
  obtain ⟨e0, e1, e2, e3, e4, g0, g1, g2, g3, g4⟩ := evF hpp
  have pl := lt_of_block hpp
  have el := lt_of_block hep
  clear hep hpp HE
  have hne := (unhide HY).ne2
  go_wp2_with fail
  refine bodyPost_ret (v := .agg #[.int .i64 (dpc d.md xk false ⟨#[]⟩), .int .i64 0, .bool false, .string ⟨#[]⟩, .slice none 0 0]) (by simp [results, Tryz.results91, go_sem, e0, e1, e2, e3, e4]) rfl ?_
  exact ⟨tb, _, none, 0, rfl, by show Sts _ (upd h.seat ((j : Int).toNat) _); rw [hjs]; exact (unhide HS).put j (some (D, _)), ((((unhide HY).set0 0 _).tail).fin _ _ _ _ _).ps.as rfl rfl rfl⟩
end
end
/- A hall's goOn: Get. -/
section
open Go.RowKit
attribute [local go_sem ↓] Go.wp_at_zero Go.wp_at_succ

section
variable {w0 w : World} {hb vb tb gb : Nat} {h : HSt} {st : Nat → Sd} {r : List Thing}
set_option maxHeartbeats 1000000 in
theorem go_get (x : HStep) (hx : x.d = 2) {j D : Nat} {d : Dp} (hj : x.s = (j : Int)) (h5 : j < 5) (hsd : st j = some (D, d)) (hs : Sts st h.seat) (hz : Hall w0 w hb vb tb gb h st r) :
    Calls Tryz.prog 91 #[.pointer (some ⟨hb, 0, none⟩), .agg #[.int .i64 x.d, .int .i64 x.s, .int .i64 x.md, .int .i64 x.at_, .int .i64 x.key, .int .i64 x.to_, .int .i64 x.keep, .string x.b]] w fun e w' => GoEnd w0 hb vb gb r (hdo h x) (hev h x) e w' := by
  have HS := hide hs
  have HX := hide (hz.two (xcs x) 79 #[.int .i64 0, .int .i64 0, .bool false, .string ⟨#[]⟩, .slice none 0 0] 102)
  have hjs : x.s.toNat = j := by omega
  have i0 : (0 : Int) ≤ (j : Int) := by omega
  have i5 : (j : Int) < 5 := by omega
  have hsj : h.seat j = some d := by rw [← hs j, hsd]; rfl
  have heq := (HKind.get (h := h) (x := x) d hx ⟨by omega, by omega⟩ (by rw [hjs]; exact hsj)).eq
  rw [heq.1, heq.2]
  clear heq hz hs hsj
  have hda : dat st (j : Int) = some (D, d) := by rw [dat_in h5, hsd]
  have hfc : fcode st (j : Int) = 0 := by unfold fcode; rw [if_pos ⟨i0, i5⟩, Int.toNat_natCast, hsd]; rfl
  obtain ⟨xd, xs, xm, xa, xk, xt, xp, xb⟩ := x
  dsimp only [xcs] at *
  subst hx hj
  go_enter Tryz.func91, Tryz.ntmps91
  go_wp2_with fail
  generalize (w.alloc (.cells #[.int .i64 2, .int .i64 (j : Int), .int .i64 xm, .int .i64 xa, .int .i64 xk, .int .i64 xt, .int .i64 xp, .string xb] 79)).alloc (.cells #[.int .i64 0, .int .i64 0, .bool false, .string ⟨#[]⟩, .slice none 0 0] 102) = W at HX ⊢
  generalize w.heap.size = q at HX ⊢
  generalize q + 1 = p at HX ⊢
  have hq := (unhide HX).var (List.Mem.tail _ (List.Mem.head _))
  have x0 : W.cell? ⟨q, 0, none⟩ = some (.int .i64 2) := cell_of_block hq rfl
  have x1 : W.cell? ⟨q, 1, none⟩ = some (.int .i64 (j : Int)) := cell_of_block hq rfl
  have x4 : W.cell? ⟨q, 4, none⟩ = some (.int .i64 xk) := cell_of_block hq rfl
  have x5 : W.cell? ⟨q, 5, none⟩ = some (.int .i64 xt) := cell_of_block hq rfl
  have x6 : W.cell? ⟨q, 6, none⟩ = some (.int .i64 xp) := cell_of_block hq rfl
  have x7 : W.cell? ⟨q, 7, none⟩ = some (.string xb) := cell_of_block hq rfl
  have ql := lt_of_block hq
  clear hq
  refine (h_find (j : Int) (unhide HX)).mono ?_
  rintro e w' ⟨rfl, hw'⟩
  subst w'
  rw [hda, hfc]
  rw [show sp (some (D, d)) = .pointer (some ⟨D, 0, none⟩) from rfl]
  have HE := hide ((unhide HX).new #[.int .i64 0, .int .i64 0, .bool false, .string ⟨#[]⟩, .slice none 0 0] 102)
  have pl := lt_of_block ((unhide HX).var (List.Mem.head _))
  have hl := (unhide HX).lt
  have vl := (unhide HX).vlt_
  have c0 := (unhide HX).c0
  have v0 := (unhide HX).v0
  obtain ⟨e0, e1, e2, e3, e4, g0, g1, g2, g3, g4⟩ := evF ((unhide HX).var (List.Mem.head _))
  go_wp2_with fail
  generalize W.alloc (.cells #[.int .i64 0, .int .i64 0, .bool false, .string ⟨#[]⟩, .slice none 0 0] 102) = W2 at HE ⊢
  generalize W.heap.size = pe at HE ⊢
  clear e0 e1 e2 e3 e4 g0 g1 g2 g3 g4 x0 x1 x4 x5 x6 x7 ql pl hl vl c0 v0
  have c0 := (unhide HE).c0
  have v0 := (unhide HE).v0
  have hq := (unhide HE).var (List.Mem.tail _ (List.Mem.tail _ (List.Mem.head _)))
  have x4 : W2.cell? ⟨q, 4, none⟩ = some (.int .i64 xk) := cell_of_block hq rfl
  clear hq
  have HG := hide (fun W' (hk : Kp [] W2 W') => h_get xk h5 hsd ((unhide HE).kp0 hk))
  go_region_with (go_at_call 133; refine (unhide HG _ (Kp.refl [] W2).drew).mono ?_; rintro e w3 ⟨rfl, HY⟩; (have hep := (unhide HY).var (List.Mem.head _)); (obtain ⟨a0, a1, a2, a3, a4, b0, b1, b2, b3, b4⟩ := evF hep); clear hep)
  all_goals
    have hpp := (unhide HY).var (List.Mem.tail _ (List.Mem.head _))
    obtain ⟨e0, e1, e2, e3, e4, g0, g1, g2, g3, g4⟩ := evF hpp
    have pl := lt_of_block hpp
    clear hpp
    have hne := (unhide HY).ne2
    go_wp2_with fail
    refine bodyPost_ret (v := .agg #[.int .i64 (dg h.f h.n d.y d.ws xk).a, .int .i64 0, .bool (dg h.f h.n d.y d.ws xk).t, .string (dg h.f h.n d.y d.ws xk).s, .slice none 0 0]) (by simp [results, Tryz.results91, go_sem, e0, e1, e2, e3, e4]) rfl ?_
    exact ⟨tb, _, none, 0, rfl, by show Sts _ (upd h.seat ((j : Int).toNat) _); rw [hjs]; exact (unhide HS).put j (some (D, _)), ((((((unhide HY).set0 2 _).set0 3 _).set0 0 _).tail).fin _ _ _ _ _).ps.as rfl rfl rfl⟩
end
end
/- A hall's goOn: List. -/
section
open Go.RowKit
attribute [local go_sem ↓] Go.wp_at_zero Go.wp_at_succ

section
variable {w0 w : World} {hb vb tb gb : Nat} {h : HSt} {st : Nat → Sd} {r : List Thing}
set_option maxHeartbeats 1000000 in
theorem go_list (x : HStep) (hx : x.d = 5) {j D : Nat} {d : Dp} (hj : x.s = (j : Int)) (h5 : j < 5) (hsd : st j = some (D, d)) (hs : Sts st h.seat) (hz : Hall w0 w hb vb tb gb h st r) :
    Calls Tryz.prog 91 #[.pointer (some ⟨hb, 0, none⟩), .agg #[.int .i64 x.d, .int .i64 x.s, .int .i64 x.md, .int .i64 x.at_, .int .i64 x.key, .int .i64 x.to_, .int .i64 x.keep, .string x.b]] w fun e w' => GoEnd w0 hb vb gb r (hdo h x) (hev h x) e w' := by
  have HS := hide hs
  have HX := hide (hz.two (xcs x) 79 #[.int .i64 0, .int .i64 0, .bool false, .string ⟨#[]⟩, .slice none 0 0] 102)
  have hjs : x.s.toNat = j := by omega
  have i0 : (0 : Int) ≤ (j : Int) := by omega
  have i5 : (j : Int) < 5 := by omega
  have hsj : h.seat j = some d := by rw [← hs j, hsd]; rfl
  have heq := (HKind.list (h := h) (x := x) d hx ⟨by omega, by omega⟩ (by rw [hjs]; exact hsj)).eq
  rw [heq.1, heq.2]
  clear heq hz hs hsj
  have hda : dat st (j : Int) = some (D, d) := by rw [dat_in h5, hsd]
  have hfc : fcode st (j : Int) = 0 := by unfold fcode; rw [if_pos ⟨i0, i5⟩, Int.toNat_natCast, hsd]; rfl
  obtain ⟨xd, xs, xm, xa, xk, xt, xp, xb⟩ := x
  dsimp only [xcs] at *
  subst hx hj
  go_enter Tryz.func91, Tryz.ntmps91
  go_wp2_with fail
  generalize (w.alloc (.cells #[.int .i64 5, .int .i64 (j : Int), .int .i64 xm, .int .i64 xa, .int .i64 xk, .int .i64 xt, .int .i64 xp, .string xb] 79)).alloc (.cells #[.int .i64 0, .int .i64 0, .bool false, .string ⟨#[]⟩, .slice none 0 0] 102) = W at HX ⊢
  generalize w.heap.size = q at HX ⊢
  generalize q + 1 = p at HX ⊢
  have hq := (unhide HX).var (List.Mem.tail _ (List.Mem.head _))
  have x0 : W.cell? ⟨q, 0, none⟩ = some (.int .i64 5) := cell_of_block hq rfl
  have x1 : W.cell? ⟨q, 1, none⟩ = some (.int .i64 (j : Int)) := cell_of_block hq rfl
  have x4 : W.cell? ⟨q, 4, none⟩ = some (.int .i64 xk) := cell_of_block hq rfl
  have x5 : W.cell? ⟨q, 5, none⟩ = some (.int .i64 xt) := cell_of_block hq rfl
  have x6 : W.cell? ⟨q, 6, none⟩ = some (.int .i64 xp) := cell_of_block hq rfl
  have x7 : W.cell? ⟨q, 7, none⟩ = some (.string xb) := cell_of_block hq rfl
  have ql := lt_of_block hq
  clear hq
  refine (h_find (j : Int) (unhide HX)).mono ?_
  rintro e w' ⟨rfl, hw'⟩
  subst w'
  rw [hda, hfc]
  rw [show sp (some (D, d)) = .pointer (some ⟨D, 0, none⟩) from rfl]
  have HE := hide ((unhide HX).new #[.int .i64 0, .int .i64 0, .bool false, .string ⟨#[]⟩, .slice none 0 0] 102)
  have pl := lt_of_block ((unhide HX).var (List.Mem.head _))
  have hl := (unhide HX).lt
  have vl := (unhide HX).vlt_
  have c0 := (unhide HX).c0
  have v0 := (unhide HX).v0
  obtain ⟨e0, e1, e2, e3, e4, g0, g1, g2, g3, g4⟩ := evF ((unhide HX).var (List.Mem.head _))
  go_wp2_with fail
  generalize W.alloc (.cells #[.int .i64 0, .int .i64 0, .bool false, .string ⟨#[]⟩, .slice none 0 0] 102) = W2 at HE ⊢
  generalize W.heap.size = pe at HE ⊢
  clear e0 e1 e2 e3 e4 g0 g1 g2 g3 g4 x0 x1 x4 x5 x6 x7 ql pl hl vl c0 v0
  have c0 := (unhide HE).c0
  have v0 := (unhide HE).v0
  have hq := (unhide HE).var (List.Mem.tail _ (List.Mem.tail _ (List.Mem.head _)))
  have x4 : W2.cell? ⟨q, 4, none⟩ = some (.int .i64 xk) := cell_of_block hq rfl
  have x5 : W2.cell? ⟨q, 5, none⟩ = some (.int .i64 xt) := cell_of_block hq rfl
  clear hq
  have HG := hide (fun W' (hk : Kp [] W2 W') => h_list xk xt h5 hsd ((unhide HE).kp0 hk))
  go_region_with (go_at_call 135; refine (unhide HG _ (Kp.refl [] W2).drew).mono ?_; rintro e w3 ⟨a, cap, rfl, HY0⟩; (have HY := hide ((unhide HY0).perm (List.perm_middle (l₁ := [_, _, _])).symm)); clear HY0; (have hep := (unhide HY).var (List.Mem.head _)); (obtain ⟨a0, a1, a2, a3, a4, b0, b1, b2, b3, b4⟩ := evF hep); clear hep)
  all_goals
    have hpp := (unhide HY).var (List.Mem.tail _ (List.Mem.head _))
    obtain ⟨e0, e1, e2, e3, e4, g0, g1, g2, g3, g4⟩ := evF hpp
    have pl := lt_of_block hpp
    clear hpp
    have hne := (unhide HY).ne2
    go_wp2_with fail
    refine bodyPost_ret (v := .agg #[.int .i64 (dls h.f h.n d.y d.ws d.rs xk xt).2.1, .int .i64 0, .bool false, .string ⟨#[]⟩, .slice a (dls h.f h.n d.y d.ws d.rs xk xt).1.length cap]) (by simp [results, Tryz.results91, go_sem, e0, e1, e2, e3, e4]) rfl ?_
    exact ⟨tb, _, a, cap, rfl, by show Sts _ (upd h.seat ((j : Int).toNat) _); rw [hjs]; exact (unhide HS).put j (some (D, _)), (((((unhide HY).set0 4 _).set0 0 _).tail).fin _ _ _ _ _).as rfl rfl rfl⟩
end
end
/- A hall's end: where there is no deed; Commit, Abort, Tear. -/
section
open Go.RowKit
attribute [local go_sem ↓] Go.wp_at_zero Go.wp_at_succ

section
variable {w0 w : World} {hb vb tb gb : Nat} {h : HSt} {st : Nat → Sd} {r : List Thing}
set_option maxHeartbeats 1000000 in
theorem end_none (x : HStep) (hx : x.d = 6 ∨ x.d = 7 ∨ x.d = 10) (hf : ¬ fcode st x.s = 0) (hs : Sts st h.seat) (hz : Hall w0 w hb vb tb gb h st r) :
    Calls Tryz.prog 92 #[.pointer (some ⟨hb, 0, none⟩), .agg #[.int .i64 x.d, .int .i64 x.s, .int .i64 x.md, .int .i64 x.at_, .int .i64 x.key, .int .i64 x.to_, .int .i64 x.keep, .string x.b]] w fun e w' => GoEnd w0 hb vb gb r (hdo h x) (hev h x) e w' := by
  have heq := f_not hs (x := x) (by omega) hf
  rw [heq.1, heq.2]
  clear heq
  have HS := hide hs
  have HX := hide (hz.two (xcs x) 79 #[.int .i64 0, .int .i64 0, .bool false, .string ⟨#[]⟩, .slice none 0 0] 102)
  clear hz hs
  generalize hzz : fcode st x.s = z at hf ⊢
  have HZ0 := hide hzz
  have hzb : (z != 0) = true := by simpa using hf
  clear hzz hf
  obtain ⟨xd, xs, xm, xa, xk, xt, xp, xb⟩ := x
  dsimp only [xcs] at *
  go_enter Tryz.func92, Tryz.ntmps92
  go_wp2_with fail
  generalize (w.alloc (.cells #[.int .i64 xd, .int .i64 xs, .int .i64 xm, .int .i64 xa, .int .i64 xk, .int .i64 xt, .int .i64 xp, .string xb] 79)).alloc (.cells #[.int .i64 0, .int .i64 0, .bool false, .string ⟨#[]⟩, .slice none 0 0] 102) = W at HX ⊢
  generalize w.heap.size = q at HX ⊢
  generalize q + 1 = p at HX ⊢
  have hq := (unhide HX).var (List.Mem.tail _ (List.Mem.head _))
  have x1 : W.cell? ⟨q, 1, none⟩ = some (.int .i64 xs) := cell_of_block hq rfl
  clear hq
  refine (h_find xs (unhide HX)).mono ?_
  rintro e w' ⟨rfl, hw'⟩
  subst w'
  rw [unhide HZ0]
  generalize sp (dat st xs) = o
  have HE := hide ((unhide HX).new #[.int .i64 z, .int .i64 0, .bool false, .string ⟨#[]⟩, .slice none 0 0] 102)
  have pl := lt_of_block ((unhide HX).var (List.Mem.head _))
  obtain ⟨e0, e1, e2, e3, e4, g0, g1, g2, g3, g4⟩ := evF ((unhide HX).var (List.Mem.head _))
  go_wp2_with fail
  refine bodyPost_ret (v := .agg #[.int .i64 z, .int .i64 0, .bool false, .string ⟨#[]⟩, .slice none 0 0]) (by simp [results, Tryz.results92, go_sem, e0, e1, e2, e3, e4, pl]) rfl ?_
  exact ⟨tb, st, none, 0, rfl, unhide HS, (((unhide HX).fin _ _ _ _ _).new _ _).tail.ps⟩
set_option maxHeartbeats 1000000 in
theorem end_commit (x : HStep) (hx : x.d = 6) {j D : Nat} {d : Dp} (hj : x.s = (j : Int)) (h5 : j < 5) (hsd : st j = some (D, d)) (hs : Sts st h.seat) (hz : Hall w0 w hb vb tb gb h st r) (hi : HInv h) :
    Calls Tryz.prog 92 #[.pointer (some ⟨hb, 0, none⟩), .agg #[.int .i64 x.d, .int .i64 x.s, .int .i64 x.md, .int .i64 x.at_, .int .i64 x.key, .int .i64 x.to_, .int .i64 x.keep, .string x.b]] w fun e w' => GoEnd w0 hb vb gb r (hdo h x) (hev h x) e w' := by
  have HS := hide hs
  have HX := hide (hz.two (xcs x) 79 #[.int .i64 0, .int .i64 0, .bool false, .string ⟨#[]⟩, .slice none 0 0] 102)
  have hjs : x.s.toNat = j := by omega
  have i0 : (0 : Int) ≤ (j : Int) := by omega
  have i5 : (j : Int) < 5 := by omega
  have hsj : h.seat j = some d := by rw [← hs j, hsd]; rfl
  have heq := (HKind.commit (h := h) (x := x) d hx ⟨by omega, by omega⟩ (by rw [hjs]; exact hsj)).eq
  rw [heq.1, heq.2]
  clear heq hz hs hsj
  have hda : dat st (j : Int) = some (D, d) := by rw [dat_in h5, hsd]
  have hfc : fcode st (j : Int) = 0 := by unfold fcode; rw [if_pos ⟨i0, i5⟩, Int.toNat_natCast, hsd]; rfl
  have HI := hide hi
  have HW := hide (hi.ok j d (by rw [← unhide HS j, hsd]; rfl))
  clear hi
  obtain ⟨xd, xs, xm, xa, xk, xt, xp, xb⟩ := x
  dsimp only [xcs] at *
  subst hx hj
  go_enter Tryz.func92, Tryz.ntmps92
  go_wp2_with fail
  generalize (w.alloc (.cells #[.int .i64 6, .int .i64 (j : Int), .int .i64 xm, .int .i64 xa, .int .i64 xk, .int .i64 xt, .int .i64 xp, .string xb] 79)).alloc (.cells #[.int .i64 0, .int .i64 0, .bool false, .string ⟨#[]⟩, .slice none 0 0] 102) = W at HX ⊢
  generalize w.heap.size = q at HX ⊢
  generalize q + 1 = p at HX ⊢
  have hq := (unhide HX).var (List.Mem.tail _ (List.Mem.head _))
  have x0 : W.cell? ⟨q, 0, none⟩ = some (.int .i64 6) := cell_of_block hq rfl
  have x1 : W.cell? ⟨q, 1, none⟩ = some (.int .i64 (j : Int)) := cell_of_block hq rfl
  have x4 : W.cell? ⟨q, 4, none⟩ = some (.int .i64 xk) := cell_of_block hq rfl
  have x5 : W.cell? ⟨q, 5, none⟩ = some (.int .i64 xt) := cell_of_block hq rfl
  have x6 : W.cell? ⟨q, 6, none⟩ = some (.int .i64 xp) := cell_of_block hq rfl
  have x7 : W.cell? ⟨q, 7, none⟩ = some (.string xb) := cell_of_block hq rfl
  have ql := lt_of_block hq
  clear hq
  refine (h_find (j : Int) (unhide HX)).mono ?_
  rintro e w' ⟨rfl, hw'⟩
  subst w'
  rw [hda, hfc]
  rw [show sp (some (D, d)) = .pointer (some ⟨D, 0, none⟩) from rfl]
  have HE := hide ((unhide HX).new #[.int .i64 0, .int .i64 0, .bool false, .string ⟨#[]⟩, .slice none 0 0] 102)
  have pl := lt_of_block ((unhide HX).var (List.Mem.head _))
  have hl := (unhide HX).lt
  have vl := (unhide HX).vlt_
  have c0 := (unhide HX).c0
  have v0 := (unhide HX).v0
  obtain ⟨e0, e1, e2, e3, e4, g0, g1, g2, g3, g4⟩ := evF ((unhide HX).var (List.Mem.head _))
  go_wp2_with fail
  generalize W.alloc (.cells #[.int .i64 0, .int .i64 0, .bool false, .string ⟨#[]⟩, .slice none 0 0] 102) = W2 at HE ⊢
  generalize W.heap.size = pe at HE ⊢
  clear e0 e1 e2 e3 e4 g0 g1 g2 g3 g4 x0 x1 x4 x5 x6 x7 ql pl hl vl c0 v0
  have c2 := (unhide HE).cs_ h5
  have f2 := (unhide HE).fz (1 + j)
  have hq := (unhide HE).var (List.Mem.tail _ (List.Mem.tail _ (List.Mem.head _)))
  have x1 : W2.cell? ⟨q, 1, none⟩ = some (.int .i64 (j : Int)) := cell_of_block hq rfl
  clear hq
  have HL := hide ((unhide HE).leave h5)
  rw [hsd] at HL
  go_region
  have HL2 := hide (((unhide HL).kp0 (Kp.refl [] _).drew).perm (List.perm_middle (l₁ := [_, _, _])).symm)
  clear HL HE HX c2 f2 x1
  generalize World.drew _ = W3 at HL2 ⊢
  have hq := (unhide HL2).var (List.Mem.tail _ (List.Mem.tail _ (List.Mem.head _)))
  have x0 : W3.cell? ⟨q, 0, none⟩ = some (.int .i64 6) := cell_of_block hq rfl
  have x6 : W3.cell? ⟨q, 6, none⟩ = some (.int .i64 xp) := cell_of_block hq rfl
  clear hq
  have c0 := (unhide HL2).c0
  go_wp2_with fail
  refine (h_commit (unhide HI) (unhide HW) (List.Mem.tail _ (List.Mem.tail _ (List.Mem.tail _ (List.Mem.head _)))) (unhide HL2)).mono ?_
  rintro e w4 ⟨rfl, HY⟩
  clear x0 x6 c0 HL2
  have hep := (unhide HY).var (List.Mem.head _)
  have hpp := (unhide HY).var (List.Mem.tail _ (List.Mem.head _))
  obtain ⟨a0, a1, a2, a3, a4, b0, b1, b2, b3, b4⟩ := evF hep
  obtain ⟨e0, e1, e2, e3, e4, g0, g1, g2, g3, g4⟩ := evF hpp
  clear hep hpp
  have hne := (unhide HY).ne2
  go_wp2_with fail
  refine bodyPost_ret (v := .agg #[.int .i64 (vcode h.f h.cs d.md d.y d.rs d.ws), .int .i64 (vnum h.f h.n h.cs d.md d.y d.rs d.ws), .bool false, .string ⟨#[]⟩, .slice none 0 0]) (by simp [results, Tryz.results92, go_sem, e0, e1, e2, e3, e4]) rfl ?_
  exact ⟨tb, _, none, 0, rfl, by show Sts _ (upd h.seat ((j : Int).toNat) none); rw [hjs]; exact (unhide HS).put j none, (((((unhide HY).set0 1 _).set0 0 _).tail).fin _ _ _ _ _).tail.ps.as rfl rfl rfl⟩
set_option maxHeartbeats 1000000 in
theorem end_abort (x : HStep) (hx : x.d = 7) {j D : Nat} {d : Dp} (hj : x.s = (j : Int)) (h5 : j < 5) (hsd : st j = some (D, d)) (hs : Sts st h.seat) (hz : Hall w0 w hb vb tb gb h st r) (hi : HInv h) :
    Calls Tryz.prog 92 #[.pointer (some ⟨hb, 0, none⟩), .agg #[.int .i64 x.d, .int .i64 x.s, .int .i64 x.md, .int .i64 x.at_, .int .i64 x.key, .int .i64 x.to_, .int .i64 x.keep, .string x.b]] w fun e w' => GoEnd w0 hb vb gb r (hdo h x) (hev h x) e w' := by
  have HS := hide hs
  have HX := hide (hz.two (xcs x) 79 #[.int .i64 0, .int .i64 0, .bool false, .string ⟨#[]⟩, .slice none 0 0] 102)
  have hjs : x.s.toNat = j := by omega
  have i0 : (0 : Int) ≤ (j : Int) := by omega
  have i5 : (j : Int) < 5 := by omega
  have hsj : h.seat j = some d := by rw [← hs j, hsd]; rfl
  have heq := (HKind.abort (h := h) (x := x) d hx ⟨by omega, by omega⟩ (by rw [hjs]; exact hsj)).eq
  rw [heq.1, heq.2]
  clear heq hz hs hsj
  have hda : dat st (j : Int) = some (D, d) := by rw [dat_in h5, hsd]
  have hfc : fcode st (j : Int) = 0 := by unfold fcode; rw [if_pos ⟨i0, i5⟩, Int.toNat_natCast, hsd]; rfl
  have HI := hide hi
  have HW := hide (hi.ok j d (by rw [← unhide HS j, hsd]; rfl))
  clear hi
  obtain ⟨xd, xs, xm, xa, xk, xt, xp, xb⟩ := x
  dsimp only [xcs] at *
  subst hx hj
  go_enter Tryz.func92, Tryz.ntmps92
  go_wp2_with fail
  generalize (w.alloc (.cells #[.int .i64 7, .int .i64 (j : Int), .int .i64 xm, .int .i64 xa, .int .i64 xk, .int .i64 xt, .int .i64 xp, .string xb] 79)).alloc (.cells #[.int .i64 0, .int .i64 0, .bool false, .string ⟨#[]⟩, .slice none 0 0] 102) = W at HX ⊢
  generalize w.heap.size = q at HX ⊢
  generalize q + 1 = p at HX ⊢
  have hq := (unhide HX).var (List.Mem.tail _ (List.Mem.head _))
  have x0 : W.cell? ⟨q, 0, none⟩ = some (.int .i64 7) := cell_of_block hq rfl
  have x1 : W.cell? ⟨q, 1, none⟩ = some (.int .i64 (j : Int)) := cell_of_block hq rfl
  have x4 : W.cell? ⟨q, 4, none⟩ = some (.int .i64 xk) := cell_of_block hq rfl
  have x5 : W.cell? ⟨q, 5, none⟩ = some (.int .i64 xt) := cell_of_block hq rfl
  have x6 : W.cell? ⟨q, 6, none⟩ = some (.int .i64 xp) := cell_of_block hq rfl
  have x7 : W.cell? ⟨q, 7, none⟩ = some (.string xb) := cell_of_block hq rfl
  have ql := lt_of_block hq
  clear hq
  refine (h_find (j : Int) (unhide HX)).mono ?_
  rintro e w' ⟨rfl, hw'⟩
  subst w'
  rw [hda, hfc]
  rw [show sp (some (D, d)) = .pointer (some ⟨D, 0, none⟩) from rfl]
  have HE := hide ((unhide HX).new #[.int .i64 0, .int .i64 0, .bool false, .string ⟨#[]⟩, .slice none 0 0] 102)
  have pl := lt_of_block ((unhide HX).var (List.Mem.head _))
  have hl := (unhide HX).lt
  have vl := (unhide HX).vlt_
  have c0 := (unhide HX).c0
  have v0 := (unhide HX).v0
  obtain ⟨e0, e1, e2, e3, e4, g0, g1, g2, g3, g4⟩ := evF ((unhide HX).var (List.Mem.head _))
  go_wp2_with fail
  generalize W.alloc (.cells #[.int .i64 0, .int .i64 0, .bool false, .string ⟨#[]⟩, .slice none 0 0] 102) = W2 at HE ⊢
  generalize W.heap.size = pe at HE ⊢
  clear e0 e1 e2 e3 e4 g0 g1 g2 g3 g4 x0 x1 x4 x5 x6 x7 ql pl hl vl c0 v0
  have c2 := (unhide HE).cs_ h5
  have f2 := (unhide HE).fz (1 + j)
  have hq := (unhide HE).var (List.Mem.tail _ (List.Mem.tail _ (List.Mem.head _)))
  have x1 : W2.cell? ⟨q, 1, none⟩ = some (.int .i64 (j : Int)) := cell_of_block hq rfl
  clear hq
  have HL := hide ((unhide HE).leave h5)
  rw [hsd] at HL
  go_region
  have HL2 := hide (((unhide HL).kp0 (Kp.refl [] _).drew).perm (List.perm_middle (l₁ := [_, _, _])).symm)
  clear HL HE HX c2 f2 x1
  generalize World.drew _ = W3 at HL2 ⊢
  have hq := (unhide HL2).var (List.Mem.tail _ (List.Mem.tail _ (List.Mem.head _)))
  have x0 : W3.cell? ⟨q, 0, none⟩ = some (.int .i64 7) := cell_of_block hq rfl
  have x6 : W3.cell? ⟨q, 6, none⟩ = some (.int .i64 xp) := cell_of_block hq rfl
  clear hq
  have c0 := (unhide HL2).c0
  have HY := HL2
  have hep := (unhide HY).var (List.Mem.head _)
  have hpp := (unhide HY).var (List.Mem.tail _ (List.Mem.head _))
  obtain ⟨a0, a1, a2, a3, a4, b0, b1, b2, b3, b4⟩ := evF hep
  obtain ⟨e0, e1, e2, e3, e4, g0, g1, g2, g3, g4⟩ := evF hpp
  clear hep hpp
  have hne := (unhide HY).ne2
  go_wp2_with fail
  refine bodyPost_ret (v := .agg #[.int .i64 0, .int .i64 0, .bool false, .string ⟨#[]⟩, .slice none 0 0]) (by simp [results, Tryz.results92, go_sem, e0, e1, e2, e3, e4]) rfl ?_
  exact ⟨tb, _, none, 0, rfl, by show Sts _ (upd h.seat ((j : Int).toNat) none); rw [hjs]; exact (unhide HS).put j none, (((unhide HY).tail).fin _ _ _ _ _).tail.ps.as rfl rfl rfl⟩
end
end
/- A hall's end: Tear. -/
section
open Go.RowKit
attribute [local go_sem ↓] Go.wp_at_zero Go.wp_at_succ

theorem ev_set10 (a b c d e x y : Value) : ((#[a, b, c, d, e] : Array Value).setIfInBounds 1 x).setIfInBounds 0 y = #[y, x, c, d, e] := rfl
section
variable {w0 w : World} {hb vb tb gb : Nat} {h : HSt} {st : Nat → Sd} {r : List Thing}
set_option maxHeartbeats 1000000 in
theorem end_tear (x : HStep) (hx : x.d = 10) {j D : Nat} {d : Dp} (hj : x.s = (j : Int)) (h5 : j < 5) (hsd : st j = some (D, d)) (hs : Sts st h.seat) (hz : Hall w0 w hb vb tb gb h st r) (hi : HInv h) :
    Calls Tryz.prog 92 #[.pointer (some ⟨hb, 0, none⟩), .agg #[.int .i64 x.d, .int .i64 x.s, .int .i64 x.md, .int .i64 x.at_, .int .i64 x.key, .int .i64 x.to_, .int .i64 x.keep, .string x.b]] w fun e w' => GoEnd w0 hb vb gb r (hdo h x) (hev h x) e w' := by
  have HS := hide hs
  have HX := hide (hz.two (xcs x) 79 #[.int .i64 0, .int .i64 0, .bool false, .string ⟨#[]⟩, .slice none 0 0] 102)
  have hjs : x.s.toNat = j := by omega
  have i0 : (0 : Int) ≤ (j : Int) := by omega
  have i5 : (j : Int) < 5 := by omega
  have hsj : h.seat j = some d := by rw [← hs j, hsd]; rfl
  have heq := (HKind.tear (h := h) (x := x) d hx ⟨by omega, by omega⟩ (by rw [hjs]; exact hsj)).eq
  rw [heq.1, heq.2]
  clear heq hz hs hsj
  have hda : dat st (j : Int) = some (D, d) := by rw [dat_in h5, hsd]
  have hfc : fcode st (j : Int) = 0 := by unfold fcode; rw [if_pos ⟨i0, i5⟩, Int.toNat_natCast, hsd]; rfl
  have HI := hide hi
  have HW := hide (hi.ok j d (by rw [← unhide HS j, hsd]; rfl))
  clear hi
  obtain ⟨xd, xs, xm, xa, xk, xt, xp, xb⟩ := x
  dsimp only [xcs] at *
  subst hx hj
  go_enter Tryz.func92, Tryz.ntmps92
  go_wp2_with fail
  generalize (w.alloc (.cells #[.int .i64 10, .int .i64 (j : Int), .int .i64 xm, .int .i64 xa, .int .i64 xk, .int .i64 xt, .int .i64 xp, .string xb] 79)).alloc (.cells #[.int .i64 0, .int .i64 0, .bool false, .string ⟨#[]⟩, .slice none 0 0] 102) = W at HX ⊢
  generalize w.heap.size = q at HX ⊢
  generalize q + 1 = p at HX ⊢
  have hq := (unhide HX).var (List.Mem.tail _ (List.Mem.head _))
  have x0 : W.cell? ⟨q, 0, none⟩ = some (.int .i64 10) := cell_of_block hq rfl
  have x1 : W.cell? ⟨q, 1, none⟩ = some (.int .i64 (j : Int)) := cell_of_block hq rfl
  have x4 : W.cell? ⟨q, 4, none⟩ = some (.int .i64 xk) := cell_of_block hq rfl
  have x5 : W.cell? ⟨q, 5, none⟩ = some (.int .i64 xt) := cell_of_block hq rfl
  have x6 : W.cell? ⟨q, 6, none⟩ = some (.int .i64 xp) := cell_of_block hq rfl
  have x7 : W.cell? ⟨q, 7, none⟩ = some (.string xb) := cell_of_block hq rfl
  have ql := lt_of_block hq
  clear hq
  refine (h_find (j : Int) (unhide HX)).mono ?_
  rintro e w' ⟨rfl, hw'⟩
  subst w'
  rw [hda, hfc]
  rw [show sp (some (D, d)) = .pointer (some ⟨D, 0, none⟩) from rfl]
  have HE := hide ((unhide HX).new #[.int .i64 0, .int .i64 0, .bool false, .string ⟨#[]⟩, .slice none 0 0] 102)
  have pl := lt_of_block ((unhide HX).var (List.Mem.head _))
  have hl := (unhide HX).lt
  have vl := (unhide HX).vlt_
  have c0 := (unhide HX).c0
  have v0 := (unhide HX).v0
  obtain ⟨e0, e1, e2, e3, e4, g0, g1, g2, g3, g4⟩ := evF ((unhide HX).var (List.Mem.head _))
  go_wp2_with fail
  generalize W.alloc (.cells #[.int .i64 0, .int .i64 0, .bool false, .string ⟨#[]⟩, .slice none 0 0] 102) = W2 at HE ⊢
  generalize W.heap.size = pe at HE ⊢
  clear e0 e1 e2 e3 e4 g0 g1 g2 g3 g4 x0 x1 x4 x5 x6 x7 ql pl hl vl c0 v0
  have c2 := (unhide HE).cs_ h5
  have f2 := (unhide HE).fz (1 + j)
  have hq := (unhide HE).var (List.Mem.tail _ (List.Mem.tail _ (List.Mem.head _)))
  have x1 : W2.cell? ⟨q, 1, none⟩ = some (.int .i64 (j : Int)) := cell_of_block hq rfl
  clear hq
  have HL := hide ((unhide HE).leave h5)
  rw [hsd] at HL
  go_region
  have HL2 := hide (((unhide HL).kp0 (Kp.refl [] _).drew).perm (List.perm_middle (l₁ := [_, _, _])).symm)
  clear HL HE HX c2 f2 x1
  generalize World.drew _ = W3 at HL2 ⊢
  have hq := (unhide HL2).var (List.Mem.tail _ (List.Mem.tail _ (List.Mem.head _)))
  have x0 : W3.cell? ⟨q, 0, none⟩ = some (.int .i64 10) := cell_of_block hq rfl
  have x6 : W3.cell? ⟨q, 6, none⟩ = some (.int .i64 xp) := cell_of_block hq rfl
  clear hq
  have c0 := (unhide HL2).c0
  have HG := hide (fun W' (hk : Kp [] W3 W') => h_tear xp (unhide HI) (unhide HW) (List.Mem.tail _ (List.Mem.tail _ (List.Mem.tail _ (List.Mem.head _)))) ((unhide HL2).kp0 hk))
  go_wp2_with fail
  go_region_with (go_at_call 137; refine (unhide HG _ (Kp.refl [] W3).drew).mono ?_; rintro e w4 ⟨rfl, tb', HY⟩; (have hep := (unhide HY).var (List.Mem.head _)); (obtain ⟨a0, a1, a2, a3, a4, b0, b1, b2, b3, b4⟩ := evF hep); clear hep)
  all_goals
    have HY2 := hide (((unhide HY).set0 1 (.int .i64 (tnum h.f h.cs d.md d.y d.rs d.ws xp))).set0 0 (.int .i64 (vcode h.f h.cs d.md d.y d.rs d.ws)))
    clear a0 a1 a2 a3 a4 b0 b1 b2 b3 b4 HY HG x0 x6 c0
    rw [ev_set10] at HY2
    go_wp2_with fail
    refine (h_leaveAll (unhide HY2)).mono ?_
    rintro e w5 ⟨rfl, HY⟩
    clear HY2
    have hep := (unhide HY).var (List.Mem.head _)
    have hpp := (unhide HY).var (List.Mem.tail _ (List.Mem.head _))
    obtain ⟨a0, a1, a2, a3, a4, b0, b1, b2, b3, b4⟩ := evF hep
    obtain ⟨e0, e1, e2, e3, e4, g0, g1, g2, g3, g4⟩ := evF hpp
    clear hep hpp
    have hne := (unhide HY).ne2
    go_wp2_with fail
    refine bodyPost_ret (v := .agg #[.int .i64 (vcode h.f h.cs d.md d.y d.rs d.ws), .int .i64 (tnum h.f h.cs d.md d.y d.rs d.ws xp), .bool false, .string ⟨#[]⟩, .slice none 0 0]) (by simp [results, Tryz.results92, go_sem, e0, e1, e2, e3, e4]) rfl ?_
    exact ⟨tb', _, none, 0, rfl, fun _ => rfl, (((unhide HY).tail).fin _ _ _ _ _).tail.ps.as rfl rfl rfl⟩
end
end
end Go.Proofs.YtldkeaeohceckadGreatDoor
